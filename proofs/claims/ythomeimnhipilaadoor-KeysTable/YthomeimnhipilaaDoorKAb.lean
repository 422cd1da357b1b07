/- keys.Table: About. -/
import Derived.Test.YthomeimnhipilaaDoorKSy2
namespace Go.Proofs.YthomeimnhipilaaDoor
set_option linter.unusedVariables false
open Go.RowKit Go.Maps

set_option maxHeartbeats 4000000 in
set_option maxRecDepth 100000 in
theorem about_in {B g mb : Nat} {vt vs : Value} {ts ss : List ByteArray} {D : DataW Unit} (s : ByteArray) (i : Nat) (w : World) (h : Tab B g mb vt vs ts ss D w) (hi : i < ss.length) (hz : ∀ t ∈ ss, (t.size : Int) ≤ 140737488351232) (hn : ss.length < 10000) :
    Calls Tryd.prog 22 #[.pointer (some ⟨g, 0, none⟩), .agg #[.string s, .int .i64 ((i : Int) + 1)]] w fun e w' => e = .returned (.tuple #[.string (evenS ss[i]), .int .i64 0]) ∧ Below w.heap.size w w' := by
  have HM := Hid.mk' (isMade_yes (w.alloc (.cells #[.string s, .int .i64 ((i : Int) + 1)] 25)) (h.below ((Below.refl _ _).alloc (Nat.le_refl _) _)))
  have HOw := Hid.mk' (fun W => own_any ss[i] W (hz _ (List.getElem_mem hi)))
  have hlg := h.lt.1
  obtain ⟨c0, c1, c2, c3⟩ := h.cell
  obtain ⟨xs, cs, rfl⟩ := own_slice' h.s |>.imp fun _ h => h.imp fun _ h => h.1
  obtain ⟨gs, rfl⟩ := own_some h.s (by omega)
  have e1 : w.cell? ⟨gs, i, none⟩ = some (.string ss[i]) := own_cell h.s (by simp [sC, hi])
  have hls : gs < w.heap.size := (h.s.lt gs rfl).2
  obtain ⟨q, hq⟩ : ∃ q, evenS ss[i] = q := ⟨_, rfl⟩
  rw [hq] at HOw ⊢
  generalize ss[i] = r at HOw e1
  have i1 : (0 : Int) < (i : Int) + 1 := by omega
  have i2 : ¬ (ss.length : Int) < (i : Int) + 1 := by omega
  have i3 : (i : Int) < (ss.length : Int) := by omega
  have i4 : (0 : Int) ≤ (i : Int) := by omega
  have x1 : IntKind.i64.wrap (i : Int) = (i : Int) := by rw [IntKind.wrap_i64]; omega
  clear h hq hz c0 c1 c2 hi
  go_enter Tryd.func22, Tryd.ntmps22
  go_wp2_with (first | (go_at_call 37; refine (HM.out).mono ?_; rintro e w1 ⟨rfl, hw1⟩; rw [hw1]; clear hw1 w1))
  go_region_law (first | (refine step_call rfl 28 (.tmp 9) 25 rfl (enters_of Tryd.func28 (by kernel_rfl) rfl) _ rfl (isSym_any s ((i : Int) + 1) _) ?_; rintro e w2 ⟨rfl, hw2⟩; refine ⟨_, rfl, ?_⟩; rw [hw2]; clear hw2 w2))
  all_goals go_wp2
  all_goals go_region_law (first | (refine step_call rfl 29 (.tmp 30) 23 rfl (enters_of Tryd.func29 (by kernel_rfl) rfl) _ rfl (HOw.out _) ?_; rintro e w3 ⟨rfl, b3⟩; refine ⟨_, rfl, ?_⟩))
  all_goals
    go_wp2
    go_ret2
    refine ⟨rfl, Below.trans ?_ (b3.mono (by simp <;> omega))⟩
    repeat' (first | exact Below.refl _ _ | refine Below.drew ?_ | refine Below.alloc ?_ (by simp <;> omega) _)

set_option maxHeartbeats 4000000 in
set_option maxRecDepth 100000 in
theorem about_far {B g mb : Nat} {vt vs : Value} {ts ss : List ByteArray} {D : DataW Unit} (s : ByteArray) (z : Int) (w : World) (h : Tab B g mb vt vs ts ss D w) (hz : 0 < z) (hf : (ss.length : Int) < z) :
    Calls Tryd.prog 22 #[.pointer (some ⟨g, 0, none⟩), .agg #[.string s, .int .i64 z]] w fun e w' => e = .returned (.tuple #[.string ⟨#[]⟩, .int .i64 41]) ∧ Below w.heap.size w w' := by
  have HM := Hid.mk' (isMade_yes (w.alloc (.cells #[.string s, .int .i64 z] 25)) (h.below ((Below.refl _ _).alloc (Nat.le_refl _) _)))
  have hd : decide (0 < z) = true := by simp; omega
  have HS : Hid (∀ W : World, Calls Tryd.prog 28 #[.agg #[.string s, .int .i64 z]] W fun e w' => e = .returned (.bool true) ∧ w' = W.alloc (.cells #[.string s, .int .i64 z] 25)) := Hid.mk' (fun W => by have := isSym_any s z W; rwa [hd] at this)
  have hlg := h.lt.1
  obtain ⟨c0, c1, c2, c3⟩ := h.cell
  obtain ⟨xs, cs, rfl⟩ := own_slice' h.s |>.imp fun _ h => h.imp fun _ h => h.1
  clear h hd c0 c1 c2
  go_enter Tryd.func22, Tryd.ntmps22
  go_wp2_with (first | (go_at_call 37; refine (HM.out).mono ?_; rintro e w1 ⟨rfl, hw1⟩; rw [hw1]; clear hw1 w1))
  go_region_law (first | (refine step_call rfl 28 (.tmp 9) 25 rfl (enters_of Tryd.func28 (by kernel_rfl) rfl) _ rfl (HS.out _) ?_; rintro e w2 ⟨rfl, hw2⟩; refine ⟨_, rfl, ?_⟩; rw [hw2]; clear hw2 w2))
  all_goals
    go_wp2
    go_ret2
    refine ⟨rfl, ?_⟩
    repeat' (first | exact Below.refl _ _ | refine Below.drew ?_ | refine Below.alloc ?_ (by simp <;> omega) _)

end Go.Proofs.YthomeimnhipilaaDoor
