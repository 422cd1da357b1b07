/- Which values are as they should be: conv.Good and the document's. Written by tools/mkcvq.py. -/
import Derived.Test.YtbkkkpfoaggejaaGreatDoorCvP
namespace Go.Proofs.YtbkkkpfoaggejaaGreatDoor
set_option linter.unusedVariables false
open Go.RowKit Fl

/-- Whether a value is as it should be. -/
def goodV (k : Int) (x : Nat) (s : ByteArray) (r : Int) : Bool :=
  if k = 0 ∨ k = 1 then decide (x = 0) && s.toList.isEmpty && (r == 0)
  else if k = 2 then (decide (x = 4607182418800017408) || decide (x = 0)) && s.toList.isEmpty && (r == 0)
  else if k = 3 then s.toList.isEmpty && (r == 0)
  else if k = 4 then decide (s.size % 2 = 0) && decide (x = 0) && (r == 0)
  else if k = 5 ∨ k = 6 then decide (0 < r) && decide (x = 0) && s.toList.isEmpty
  else false
theorem empty_size {s : ByteArray} (h : s.toList.isEmpty = true) : s = ⟨#[]⟩ := by
  have : s.toList.length = s.size := by rw [ByteArray.toList_eq]; simp
  have h2 : s.toList = [] := List.isEmpty_iff.1 h
  rw [h2] at this
  exact ByteArray.ext (Array.eq_empty_of_size_eq_zero this.symm)
theorem zero_eq (x : Nat) (hx : x < 18446744073709551616) : (FloatKind.f64.format.order x 0 == some Ordering.eq) = decide (x % 9223372036854775808 = 0) := by
  rw [eqf x _ hx (by omega)]
  refine decide_eq_decide.2 ⟨fun h => ?_, fun h => ?_⟩
  · have := h.2.2
    unfold key at this
    rw [if_neg (show ¬ 9223372036854775808 ≤ 0 by omega)] at this
    split at this <;> omega
  · refine ⟨by unfold nan; omega, by unfold nan; omega, ?_⟩
    unfold key
    rw [if_neg (show ¬ 9223372036854775808 ≤ 0 by omega)]
    split <;> omega
theorem same_zero (x : Nat) : sameB x 0 2 = decide (x = 0) := alike_zero x
theorem same_self2 (x : Nat) : sameB x x 2 = true := by unfold sameB alike; simp

end Go.Proofs.YtbkkkpfoaggejaaGreatDoor
