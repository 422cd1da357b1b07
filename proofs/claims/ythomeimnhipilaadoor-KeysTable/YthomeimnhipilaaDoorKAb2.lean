/- keys.Table: About of a key that is no symbol. -/
import Derived.Test.YthomeimnhipilaaDoorKAb
import Derived.Shelf.SlSortCmp.QuietGrown
namespace Go.Proofs.YthomeimnhipilaaDoor
set_option linter.unusedVariables false
open Go.RowKit Go.Maps Go.Sort

theorem below_grow {w W : World} {B : Nat} (h : Below B w W) (hB : B ≤ W.heap.size) (os : Array Obj) : Below B w (grow W os) :=
  h.trans ⟨rfl, rfl, rfl, by simp, fun k hk => heap_grow_old _ _ (Nat.lt_of_lt_of_le hk hB)⟩

set_option maxHeartbeats 4000000 in
set_option maxRecDepth 100000 in
theorem about_text {B g mb : Nat} {vt vs : Value} {ts ss : List ByteArray} {D : DataW Unit} (s : ByteArray) (z : Int) (w : World) (h : Tab B g mb vt vs ts ss D w) (hz : ¬ 0 < z) :
    Calls Tryd.prog 22 #[.pointer (some ⟨g, 0, none⟩), .agg #[.string s, .int .i64 z]] w fun e w' => e = .returned (.tuple #[.string ⟨#[]⟩, .int .i64 41]) ∧ Below w.heap.size w w' := by
  have HM := Hid.mk' (isMade_yes (w.alloc (.cells #[.string s, .int .i64 z] 25)) (h.below ((Below.refl _ _).alloc (Nat.le_refl _) _)))
  have hd : decide (0 < z) = false := by simp; omega
  have HS : Hid (∀ W : World, Calls Tryd.prog 28 #[.agg #[.string s, .int .i64 z]] W fun e w' => e = .returned (.bool false) ∧ ∃ q os', w' = grow (W.drewN q) os') := Hid.mk' (fun W => (isSym_any s z W).mono fun e w' ⟨he, hw⟩ => ⟨by rw [he, hd], 0, #[.cells #[.string s, .int .i64 z] 25], by rw [hw]; rfl⟩)
  have hm : Tryd.prog.follows .mixedOrders = true := by kernel_rfl
  have hlg := h.lt.1
  clear h hd
  go_enter Tryd.func22, Tryd.ntmps22
  go_wp2_with (first | (go_at_call 37; refine (HM.out).mono ?_; rintro e w1 ⟨rfl, hw1⟩; rw [hw1]; clear hw1 w1))
  have hc0 : ∀ n os, (grow ((w.alloc (.cells #[.string s, .int .i64 z] 25)).drewN n) os).cell? ⟨w.heap.size, 0, none⟩ = some (.string s) := cell_grown (by simp) (World.cell?_alloc_new w _ _ _)
  have hc1 : ∀ n os, (grow ((w.alloc (.cells #[.string s, .int .i64 z] 25)).drewN n) os).cell? ⟨w.heap.size, 1, none⟩ = some (.int .i64 z) := cell_grown (by simp) (World.cell?_alloc_new w _ _ _)
  go_quiet_grown (first | (go_at_call 28; refine Calls.grown_of (HS.out _)))
  go_wp2
  go_ret2
  exact ⟨rfl, below_grow (below_drewN ((Below.refl _ _).alloc (Nat.le_refl _) _) _) (by simp) _⟩

end Go.Proofs.YthomeimnhipilaaDoor
