/- units.Cut and lintelref01.Cut: pieces of a text. -/
import Derived.Test.YtjnbnejfdleocaaGreatDoorMake
import Derived.Test.YtjnbnejfdleocaaGreatDoorClone
import Derived.Test.YtjnbnejfdleocaaGreatDoorCmp
namespace Go.Proofs.YtjnbnejfdleocaaGreatDoor
set_option linter.unusedVariables false
open Go.RowKit

/-- A piece of a text. -/
def cutS (s : ByteArray) (i j : Int) : ByteArray := if min j ((s.size / 2 : Nat) : Int) ≤ max i 0 then ⟨#[]⟩ else s.extract (2 * (max i 0).toNat) (2 * (min j ((s.size / 2 : Nat) : Int)).toNat)
theorem cutS_no {s : ByteArray} {i j : Int} (h : min j ((s.size / 2 : Nat) : Int) ≤ max i 0) : cutS s i j = ⟨#[]⟩ := by unfold cutS; rw [if_pos h]
theorem cutS_yes {s : ByteArray} {i j : Int} (f t : Nat) (hf : max i 0 = f) (ht : min j ((s.size / 2 : Nat) : Int) = t) (h : f < t) : cutS s i j = s.extract (2 * f) (2 * t) := by
  unfold cutS; rw [hf, ht, if_neg (by omega)]; rfl

set_option maxHeartbeats 400000 in
set_option maxRecDepth 100000 in
theorem cut_no (s : ByteArray) (i j : Int) (w : World) (hs : (s.size : Int) ≤ 140737488351232) (hno : min j ((s.size / 2 : Nat) : Int) ≤ max i 0) :
    Calls Tryz.prog 21 #[.string s, .int .i64 i, .int .i64 j] w fun e w' => e = .returned (.string ⟨#[]⟩) ∧ Below w.heap.size w w' := by
  have hm : s.size ≤ maxLen := by unfold maxLen; omega
  by_cases h1 : i < 0
  all_goals by_cases h2 : (s.size : Int) / 2 < j
  all_goals
    go_enter Tryz.func21, Tryz.ntmps21
    go_wp2_with (first | (go_at_call 19; refine (len_any _ _ hm).mono ?_; rintro e w1 ⟨rfl, hw1⟩; rw [hw1]; clear hw1 w1))
    go_ret
    exact ⟨rfl, Below.refl _ _⟩

set_option maxHeartbeats 400000 in
set_option maxRecDepth 100000 in
theorem cut_yes (s : ByteArray) (i j : Int) (f t : Nat) (w : World) (hs : (s.size : Int) ≤ 140737488351232) (hf : (i < 0 ∧ f = 0) ∨ i = f) (ht : ((s.size : Int) / 2 < j ∧ t = s.size / 2) ∨ ((t : Int) ≤ (s.size : Int) / 2 ∧ j = t)) (hft : f < t) :
    Calls Tryz.prog 21 #[.string s, .int .i64 i, .int .i64 j] w fun e w' => e = .returned (.string (s.extract (2 * f) (2 * t))) ∧ Below w.heap.size w w' := by
  have hm : s.size ≤ maxLen := by unfold maxLen; omega
  have htn : t ≤ s.size / 2 := by omega
  have hx : ((s.extract (2 * f) (2 * t)).size : Int) ≤ 140737488351232 := by
    have : (s.extract (2 * f) (2 * t)).size ≤ s.size := by simp; omega
    omega
  have HP := Hid.mk' (fun W => piece_wide s f t W hs (by omega) htn)
  have HX := Hid.mk' (fun W => clone_wide (s.extract (2 * f) (2 * t)) W hx)
  clear hx
  rcases hf with ⟨h1, rfl⟩ | rfl
  all_goals rcases ht with ⟨h2, rfl⟩ | ⟨h2, rfl⟩
  all_goals
    go_enter Tryz.func21, Tryz.ntmps21
    go_wp2_with (first | (go_at_call 19; refine (len_any _ _ hm).mono ?_; rintro e w1 ⟨rfl, hw1⟩; rw [hw1]; clear hw1 w1) | (go_at_call 51; refine (HP.out _).mono ?_; rintro e w1 ⟨rfl, hw1⟩; rw [hw1]; clear hw1 w1) | (go_at_call 50; refine (HX.out _).mono ?_; rintro e w2 ⟨rfl, b2⟩))
    go_ret
    exact ⟨rfl, b2⟩

theorem cut_wide (s : ByteArray) (i j : Int) (w : World) (hs : (s.size : Int) ≤ 140737488351232) :
    Calls Tryz.prog 21 #[.string s, .int .i64 i, .int .i64 j] w fun e w' => e = .returned (.string (cutS s i j)) ∧ Below w.heap.size w w' := by
  by_cases hno : min j ((s.size / 2 : Nat) : Int) ≤ max i 0
  · rw [cutS_no hno]
    exact cut_no s i j w hs hno
  · obtain ⟨f, hf⟩ : ∃ f : Nat, max i 0 = f := ⟨(max i 0).toNat, by omega⟩
    obtain ⟨t, ht⟩ : ∃ t : Nat, min j ((s.size / 2 : Nat) : Int) = t := ⟨(min j ((s.size / 2 : Nat) : Int)).toNat, by omega⟩
    rw [cutS_yes f t hf ht (by omega)]
    exact cut_yes s i j f t w hs (by omega) (by omega) (by omega)

theorem cut_any (s : ByteArray) (i j : Int) (w : World) (hs : (s.size : Int) ≤ 1048576) :
    Calls Tryz.prog 21 #[.string s, .int .i64 i, .int .i64 j] w fun e w' => e = .returned (.string (cutS s i j)) ∧ Below w.heap.size w w' := cut_wide s i j w (by omega)

end Go.Proofs.YtjnbnejfdleocaaGreatDoor
