/- Lists of texts in memory. -/
import Derived.Test.YtllglkegdlcgcaaGreatDoorBase
import Derived.Handy
namespace Go.Proofs.YtllglkegdlcgcaaGreatDoor
set_option linter.unusedVariables false
open Go.RowKit

/-- A list of texts in memory. -/
def RdS (w : World) (v : Value) (ts : List ByteArray) : Prop :=
  (∃ a c, v = .slice a 0 c ∧ ts = []) ∨ ∃ g o c, v = .slice (some ⟨g, o, none⟩) ts.length c ∧ ts.length ≤ c ∧ g < w.heap.size ∧ ∀ j (h : j < ts.length), w.cell? ⟨g, o + j, none⟩ = some (.string ts[j])
theorem RdS.below {w w' : World} {v : Value} {ts : List ByteArray} (h : RdS w v ts) (hb : Below w.heap.size w w') : RdS w' v ts := by
  rcases h with h | ⟨g, o, c, rfl, hl, hg, hc⟩
  · exact .inl h
  · exact .inr ⟨g, o, c, rfl, hl, Nat.lt_of_lt_of_le hg hb.size, fun j hj => (hb.cell (p := ⟨g, o + j, none⟩) hg).trans (hc j hj)⟩
theorem RdS.form {w : World} {v : Value} {ts : List ByteArray} (h : RdS w v ts) : ∃ x c, v = .slice x ts.length c := by
  rcases h with ⟨a, c, rfl, rfl⟩ | ⟨g, o, c, rfl, _⟩
  · exact ⟨_, _, rfl⟩
  · exact ⟨_, _, rfl⟩
theorem RdS.new (w : World) (ts : List ByteArray) (t : TypeId) : RdS (w.alloc (.cells (ts.map Value.string).toArray t)) (.slice (some ⟨w.heap.size, 0, none⟩) ts.length ts.length) ts :=
  .inr ⟨w.heap.size, 0, ts.length, rfl, Nat.le_refl _, by simp, fun j hj => by rw [World.cell?_alloc_new]; simp [hj]⟩
theorem text_full {s : ByteArray} (h : 0 < s.size) : s.toList.isEmpty = false := by
  have : s.toList.length = s.size := by rw [ByteArray.toList_eq]; simp
  cases hh : s.toList with
  | nil => rw [hh] at this; simp at this; omega
  | cons a b => rfl
theorem RdS.own {w : World} {B : Nat} {e : TypeId} {v : Value} {ts : List ByteArray} (h : w.ownsRow B e 1 v ts.length (ts.map Value.string)) : RdS w v ts := by
  rcases h.2 with ⟨e, h0⟩ | ⟨g, cap, cur, e, hb, hg, hl, _, hs, ht⟩
  · exact .inl ⟨none, 0, e, List.eq_nil_of_length_eq_zero h0⟩
  · refine .inr ⟨g, 0, cap, e, hl, (Array.getElem?_eq_some_iff.1 hg).1, fun j hj => ?_⟩
    rw [cell_of_row _ g (0 + j) _ _ _ hg]
    have := congrArg (·[j]?) ht
    simp [hj] at this
    rw [Nat.zero_add]
    exact this
end Go.Proofs.YtllglkegdlcgcaaGreatDoor
