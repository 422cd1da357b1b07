/- keys.Table: Symbol. -/
import Derived.Test.YthomeimnhipilaaDoorKStep
namespace Go.Proofs.YthomeimnhipilaaDoor
set_option linter.unusedVariables false
open Go.RowKit Go.Maps

set_option maxHeartbeats 4000000 in
set_option maxRecDepth 100000 in
theorem symbol_yes {B g mb : Nat} {vt vs : Value} {ts ss : List ByteArray} {D : DataW Unit} (s : ByteArray) (w : World) (h : Tab B g mb vt vs ts ss D w) (hs : (s.size : Int) ≤ 140737488351232) (hn : ss.length < 10000) :
    Calls Tryd.prog 21 #[.pointer (some ⟨g, 0, none⟩), .string s] w fun e w' => e = .returned (.tuple #[.agg #[.string ⟨#[]⟩, .int .i64 (ss.length + 1 : Nat)], .int .i64 0]) ∧ (∃ vs', Tab B g mb vt vs' ts (ss ++ [evenS s]) D w') ∧ Below B w w' := by
  obtain ⟨i0, hi, hz0, hz1, hz2⟩ := info_parts infoS
  have HM := Hid.mk' (isMade_yes (w.alloc (.cells #[.string ⟨#[]⟩, .int .i64 0] 25)) (h.below ((Below.refl _ _).alloc (Nat.le_refl _) _)))
  have HOw := Hid.mk' (fun W => own_any s W hs)
  have hlt := h.lt
  obtain ⟨c0, c1, c2, c3⟩ := h.cell
  have fz := h.frozen 3
  obtain ⟨xs, cs, rfl⟩ := own_slice' h.s |>.imp fun _ h => h.imp fun _ h => h.1
  have HT := Hid.mk' h
  have hgB := h.gB
  have hn' : (ss.length : Int) < 10000 := by omega
  have NR : Hid (some w.heap.size ≠ (Value.slice xs ss.length cs).ownBlock) := Hid.mk' (fun e => by have := (h.s.lt _ e.symm).2; omega)
  have NG : Hid (some g ≠ (Value.slice xs ss.length cs).ownBlock) := Hid.mk' (fun e => row_ne h.s h.row (by decide) g e.symm rfl)
  obtain ⟨q, hq⟩ : ∃ q, evenS s = q := ⟨_, rfl⟩
  rw [hq] at HOw ⊢
  clear h hq c0 c1 c2
  go_enter Tryd.func21, Tryd.ntmps21
  go_wp2_with (first | (go_at_call 37; refine (HM.out).mono ?_; rintro e w1 ⟨rfl, hw1⟩; rw [hw1]; clear hw1 w1))
  have hlg := hlt.1
  have HF1 : Hid (((w.alloc (.cells #[.string ⟨#[]⟩, .int .i64 0] 25)).drew).frozen? ⟨g, 3, none⟩ = false) := Hid.mk' (((((Below.refl w.heap.size w).alloc (Nat.le_refl _) _).drew).frozen (p := ⟨g, 3, none⟩) hlg).trans fz)
  have HC := Hid.mk' c3
  have HF := Hid.mk' fz
  go_region_law (first | (refine step_call rfl 29 (.tmp 22) 23 rfl (enters_of Tryd.func29 (by kernel_rfl) rfl) _ rfl (HOw.out _) ?_; rintro e w2 ⟨rfl, b2⟩; refine ⟨_, rfl, ?_⟩; obtain ⟨S2, B2⟩ := symW_own hlg HC.out HF.out b2; have s2 := S2.s2; have k2 := S2.c3; have gl2 := Nat.lt_of_lt_of_le hlg B2.size; have hBs := Nat.le_succ_of_le (Nat.le_trans hgB (Nat.le_of_lt gl2))) | (refine step_append_own_at rfl (.tmp 21) (.tmp 24) 33 rfl B 23 i0 (.string ⟨#[]⟩) 1 16 Tryd.underlying33 hi hz0 hz1 hz2 rfl (by decide) _ _ _ rfl (World.ownsRow.alloc (own_below HT.out.s B2) _) _ 1 1 _ rfl (by rfl) (cells_new _ _ _) (by simp [Value.oneCell']) (by unfold maxLen; omega) (by omega) (by simpa using hBs) ?_; intro v5 w5 o5 g5 hl5; obtain ⟨y5, c5, hv5, _⟩ := own_slice' o5; subst hv5; have S5 := S2.grow hlg g5 NG.out NR.out; have z5 := S5.f3; have p0 := S5.d0; have p1 := S5.d1; have q0 := S5.f0; have q1 := S5.f1; have k5 := S5.c3))
  all_goals
    have HT5 := Hid.mk' (HT.out.setS (B2.alloc B2.size _) g5 o5 hl5)
    have B5 : Below B w w5 := ((B2.alloc B2.size _).mono (show B ≤ w.heap.size by omega)).trans ((Below.refl _ _).grown g5 (by simpa using hBs) (fun k hk => (HT.out.s.lt k hk).1))
    have hgw : g ≠ w.heap.size := by omega
    have HR := Hid.mk' S5.row
    clear g5 o5 hl5 S2 S5 b2
    go_wp2
    (try simp only [Exit.inBlock, Exit.then])
    refine bodyPost_ret (v := .tuple #[.agg #[.string ⟨#[]⟩, .int .i64 (ss.length + 1 : Nat)], .int .i64 0]) ?_ rfl ⟨rfl, ⟨.slice y5 (ss.length + 1) c5, ?_⟩, ?_⟩
    · rw [results_cell_tmp rfl]
      go_simp
    · exact HT5.out.res HR.out hgw
    · repeat' (first | exact B5 | refine Below.setCell ?_ (show B ≤ _ by simp <;> omega) _)

end Go.Proofs.YthomeimnhipilaaDoor
