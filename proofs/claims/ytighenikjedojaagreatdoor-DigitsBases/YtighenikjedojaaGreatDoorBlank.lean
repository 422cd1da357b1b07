/- lintelref03.Blank, front, Trim: the document's blanks. -/
import Derived.Test.YtighenikjedojaaGreatDoorRUnits
import Derived.Test.YtighenikjedojaaGreatDoorMake
namespace Go.Proofs.YtighenikjedojaaGreatDoor
set_option linter.unusedVariables false
open Go.RowKit

def blanks : List Nat := [32, 160, 5760, 8232, 8233, 8239, 8287, 12288, 65279]
def blankB (u : Nat) : Bool := decide ((9 ≤ u ∧ u ≤ 13) ∨ (8192 ≤ u ∧ u ≤ 8202) ∨ u ∈ blanks)

def blankW (w : World) : World := w.alloc (.cells #[.int .u16 32, .int .u16 160, .int .u16 5760, .int .u16 8232, .int .u16 8233, .int .u16 8239, .int .u16 8287, .int .u16 12288, .int .u16 65279] 39)
theorem blankW_cell (w : World) (k : Nat) (h : k < 9) : (blankW w).cell? ⟨w.heap.size, k, none⟩ = some (.int .u16 (blanks.getD k 0 : Nat)) := by
  have h9 : k = 0 ∨ k = 1 ∨ k = 2 ∨ k = 3 ∨ k = 4 ∨ k = 5 ∨ k = 6 ∨ k = 7 ∨ k = 8 := by omega
  rcases h9 with rfl | rfl | rfl | rfl | rfl | rfl | rfl | rfl | rfl
  all_goals
    unfold blankW
    simp [go_sem, blanks]

set_option maxHeartbeats 1000000 in
set_option maxRecDepth 100000 in
theorem rblank_any (u : Nat) (w : World) (hu : u < 65536) :
    Calls Tryz.prog 66 #[.int .u16 u] w fun e w' => e = .returned (.bool (blankB u)) ∧ Below w.heap.size w w' := by
  obtain ⟨z, hz⟩ : ∃ z : Int, (u : Int) = z := ⟨_, rfl⟩
  rw [hz]
  by_cases h1 : (9 ≤ z ∧ z ≤ 13) ∨ (8192 ≤ z ∧ z ≤ 8202)
  · have HB : Hid (blankB u = true) := decide_eq_true (by omega)
    clear hz
    rcases h1 with ⟨a1, a2⟩ | ⟨a1, a2⟩
    all_goals
      go_enter Tryz.func66, Tryz.ntmps66
      go_wp2
      go_ret
      exact ⟨by rw [HB.out]; rfl, Below.refl _ _⟩
  · have HZ := Hid.mk' hz
    have H1 := Hid.mk' h1
    clear hz
    go_enter Tryz.func66, Tryz.ntmps66
    go_wp2
    all_goals
      rw [show w.alloc (.cells #[.int .u16 32, .int .u16 160, .int .u16 5760, .int .u16 8232, .int .u16 8233, .int .u16 8239, .int .u16 8287, .int .u16 12288, .int .u16 65279] 39) = blankW w from rfl]
      clear h1
      go_loopw [21] (fun v wr => ∃ k : Nat, v = .int .i64 k ∧ k ≤ 9 ∧ Hid (∀ j, j < k → u ≠ blanks.getD j 0) ∧ wr = blankW w) (fun v _ => 9 - (intOf v).toNat)
      case atStart => exact ⟨0, rfl, by omega, fun j hj => by omega, rfl⟩
      case round =>
        obtain ⟨k, rfl, hk, HE, rfl⟩ := hrel
        by_cases hlt : k < 9
        · have hc := blankW_cell w k hlt
          have i1 : (k : Int) < 9 := by omega
          have i2 : (0 : Int) ≤ (k : Int) := by omega
          obtain ⟨q, hq⟩ : ∃ q : Int, ((blanks.getD k 0 : Nat) : Int) = q := ⟨_, rfl⟩
          rw [hq] at hc
          by_cases he : z = q
          · have HB : Hid (blankB u = true) := by
              have h2 := HZ.out
              have h3 : u = blanks.getD k 0 := by omega
              refine decide_eq_true (.inr (.inr ?_))
              rw [h3, List.getD_eq_getElem?_getD, List.getElem?_eq_getElem (show k < blanks.length from hlt)]
              exact List.getElem_mem _
            have he' : (z == q) = true := by simp [he]
            clear he
            go_wp2
            go_ret
            exact ⟨by rw [HB.out]; rfl, (Below.refl _ _).alloc (Nat.le_refl _) _⟩
          · have he' : (z == q) = false := by simp [he]
            have HN : Hid (∀ j, j < k + 1 → u ≠ blanks.getD j 0) := fun j hj => by
              by_cases e : j = k
              · subst e
                have h2 := HZ.out
                omega
              · exact HE.out j (by omega)
            clear he
            go_wp2
            go_roundw
            case rel => exact ⟨k + 1, by go_num, by omega, HN, trivial⟩
            case measure => simp [intOf]; omega
        · obtain rfl : k = 9 := by omega
          have HB : Hid (blankB u = false) := by
            refine decide_eq_false ?_
            have h2 := HZ.out
            have h3 := H1.out
            rintro (h | h | h)
            · omega
            · omega
            · obtain ⟨j, hj, e⟩ := List.mem_iff_getElem.1 h
              refine HE.out j hj ?_
              rw [List.getD_eq_getElem?_getD, List.getElem?_eq_getElem hj]
              exact e.symm
          go_wp2
          go_ret
          exact ⟨by rw [HB.out]; rfl, (Below.refl _ _).alloc (Nat.le_refl _) _⟩
end Go.Proofs.YtighenikjedojaaGreatDoor
