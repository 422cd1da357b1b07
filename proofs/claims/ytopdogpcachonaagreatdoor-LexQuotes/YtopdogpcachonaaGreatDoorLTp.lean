/- lex's templates: head and tail. -/
import Derived.Test.YtopdogpcachonaaGreatDoorLVal
namespace Go.Proofs.YtopdogpcachonaaGreatDoor
set_option linter.unusedVariables false
open Go.RowKit Go.Shelf

theorem infoI : (Tryz.prog.info? 3).map (fun i => (i.zero, i.size, i.bytes)) = some (some (.int .i64 0), 1, 8) := by kernel_rfl
theorem own_base {w : World} {B B' : Nat} {e : TypeId} {sz : Nat} {v : Value} {n : Nat} {xs : List Value} (h : w.ownsRow B e sz v n xs) (hB : B' ≤ B) : w.ownsRow B' e sz v n xs :=
  ⟨h.1, h.2.imp id (fun ⟨g, cap, cur, e1, hb, r⟩ => ⟨g, cap, cur, e1, Nat.le_trans hB hb, r⟩)⟩
theorem Rdr.setOpen {B : Nat} {W : World} {rb : Nat} {S : ByteArray} {a f : Int} {ov v : Value} {op op' : List Int} (h : Rdr B W rb S a f ov op) (ho : W.ownsRow B 3 1 v op'.length (op'.map (.int .i64 ·))) : Rdr B (W.setCell ⟨rb, 3, none⟩ v) rb S a f v op' :=
  ⟨(set_block _ h.blk).trans rfl, own_set _ ho (own_ne ho h.blk), h.ge⟩
set_option maxHeartbeats 2000000 in
set_option maxRecDepth 100000 in
theorem template_c {B rb : Nat} {S : ByteArray} {f : Int} {t : ByteArray} (p q : Nat) (w : World) (h : Rdr B w rb S (p : Nat) f (.slice none 0 0) []) (HP : ∀ (W : World), Rdr B W rb S (p : Nat) f (.slice none 0 0) [] → Calls Tryz.prog 88 #[.pointer (some ⟨rb, 0, none⟩)] W fun e w' => e = .returned (.tuple #[.string t, .bool false]) ∧ Rdr B w' rb S (q : Nat) f (.slice none 0 0) [] ∧ TF (RdF rb ((.slice none 0 0))) B W w') :
    Calls Tryz.prog 68 #[.pointer (some ⟨rb, 0, none⟩)] w fun e w' => Gv B rb S f (.slice none 0 0) ⟨7, ⟨#[]⟩, t, 0, 0, 0, false⟩ (q : Nat) [0] w e w' := by
  obtain ⟨i0, hi, hz0, hz1, hz2⟩ := info_parts infoI
  have hst : ∀ (p : Addr) (x : Nat) (md : Mode) (W : World), (store p (.float .f64 x) md).run Tryz.prog W = stored Tryz.prog W p (.float .f64 x) md := fun p x md W => run_store Tryz.prog W p _ md rfl
  obtain ⟨W1, hW1⟩ : ∃ W1, w.alloc (.cells tok0 31) = W1 := ⟨_, rfl⟩
  have b1 : Below w.heap.size w W1 := by rw [← hW1]; exact below_new
  have hbx : W1.heap[w.heap.size]? = some (.cells tok0 31 (0, 0)) := by rw [← hW1]; exact World.alloc_heap_new w _
  have hA := h.away (Nat.le_refl _)
  have hR := h.below b1
  obtain ⟨c0, c1, c2, c3, cf⟩ := hR.cells
  have HA := Hid.mk' hA
  have HB1 := Hid.mk' b1
  have HX := Hid.mk' hbx
  have HRW := Hid.mk' hR
  obtain ⟨bx, hbxn⟩ : ∃ bx, w.heap.size = bx := ⟨_, rfl⟩
  have HPP := Hid.mk' (HP W1 hR)
  have hltb : w.heap.size < W1.heap.size := by rw [← hW1]; simp
  clear h hR b1 hbx hA HP
  go_enter Tryz.func68, Tryz.ntmps68
  go_wp2_with fail
  refine HPP.out.mono ?_
  rintro e w1 ⟨rfl, hR1, hT1⟩
  obtain ⟨d0, d1, d2, d3, df⟩ := hR1.cells
  have hbx1 := hT1.same _ _ (.inl (by rw [hbxn] at HA; exact HA.out)) (show W1.heap[bx]? = some _ by rw [← hbxn]; exact HX.out)
  have hlt1 := hR1.lt
  go_wp2_with (at_builtin; refine wpList_append_own _ rfl _ _ 56 rfl w1.heap.size 3 i0 (.int .i64 0) 1 8 Tryz.underlying56 hi hz0 hz1 hz2 rfl (by decide) _ _ _ rfl (World.ownsRow_nil _ w1.heap.size 3 1) ⟨w1.heap.size, 0, none⟩ 1 1 [.int .i64 0] rfl rfl (cells_new _ _ _) (by intro u hu; simp at hu; subst hu; rfl) (by unfold maxLen; omega) (by omega) (by simp) ?_)
  intro v2 w2 o2 g2 _
  have b2 : Below w1.heap.size w1 w2 := (below_new).trans ((Below.refl _ _).grown g2 (by simp) (by simp [Value.ownBlock]))
  have hR2 := hR1.below b2
  obtain ⟨y0, y1, y2, y3, yf⟩ := hR2.cells
  have hbx2 : w2.heap[bx]? = _ := (b2.block bx (Array.getElem?_eq_some_iff.1 hbx1).1).trans hbx1
  have z0 : w2.cell? ⟨bx, 0, none⟩ = some (.int .i64 0) := by rw [cell_of_row _ bx 0 _ _ _ hbx2]; rfl
  have z1 : w2.cell? ⟨bx, 1, none⟩ = some (.string ⟨#[]⟩) := by rw [cell_of_row _ bx 1 _ _ _ hbx2]; rfl
  have z2 : w2.cell? ⟨bx, 2, none⟩ = some (.string ⟨#[]⟩) := by rw [cell_of_row _ bx 2 _ _ _ hbx2]; rfl
  have z3 : w2.cell? ⟨bx, 3, none⟩ = some (.float .f64 0) := by rw [cell_of_row _ bx 3 _ _ _ hbx2]; rfl
  have z4 : w2.cell? ⟨bx, 4, none⟩ = some (.int .i64 0) := by rw [cell_of_row _ bx 4 _ _ _ hbx2]; rfl
  have z5 : w2.cell? ⟨bx, 5, none⟩ = some (.int .i64 0) := by rw [cell_of_row _ bx 5 _ _ _ hbx2]; rfl
  have z6 : w2.cell? ⟨bx, 6, none⟩ = some (.bool false) := by rw [cell_of_row _ bx 6 _ _ _ hbx2]; rfl
  have zf : ∀ j, w2.frozen? ⟨bx, j, none⟩ = false := fun j => by simp only [World.frozen?, hbx2]; simp
  have hnb : bx ≠ rb := by rw [← hbxn]; exact HA.out.1
  have hB1 : B ≤ w1.heap.size := Nat.le_trans hR1.ge (Nat.le_of_lt hR1.lt)
  have o3 : w2.ownsRow B 3 1 v2 ([0] : List Int).length (([0] : List Int).map (.int .i64 ·)) := own_base o2 hB1
  have HR3 := Hid.mk' (hR2.setOpen o3)
  have HV := Hid.mk' (show ∀ k, v2.ownBlock = some k → w1.heap.size ≤ k from fun k hk => (o2.lt k hk).1)
  have HT3 : Hid (TF (RdF rb (.slice none 0 0)) B w (w2.setCell ⟨rb, 3, none⟩ v2)) := Hid.mk' ((((TF.of_below HB1.out).trans hT1).trans (TF.of_below b2)).trans (RdF.set _ hR1.ge))
  have HSZ := Hid.mk' (show w.heap.size ≤ w1.heap.size from Nat.le_trans (Nat.le_of_lt hltb) hT1.size)
  have HBX : Hid (bx < w1.heap.size) := Hid.mk' (Array.getElem?_eq_some_iff.1 hbx1).1
  have HBN := Hid.mk' hbxn
  obtain ⟨xv, cv, rfl, _⟩ := own_slice' o2
  clear o2 g2 b2 hR2 hbx2 hbx1 o3 hR1 hT1 c0 c1 c2 c3 cf d0 d1 d2 d3 df hW1 hlt1 hltb hbxn
  go_wp2
  refine bodyPost_ret (v := .agg #[.int .i64 7, .string ⟨#[]⟩, .string t, .float .f64 0, .int .i64 0, .int .i64 0, .bool false]) ?_ rfl ⟨rfl, .slice xv 1 cv, ?_, ?_, ?_⟩
  · rw [results_cell rfl]
    go_simp
  · have q2 := fun e => Nat.lt_irrefl _ (Nat.lt_of_lt_of_le HBX.out (HV.out bx e))
    repeat (refine Rdr.setOther ?_ _ hnb q2)
    exact HR3.out
  · repeat (refine TF.setNew ?_ (by rw [HBN.out]; exact Nat.le_refl _) _)
    exact HT3.out
  · exact fun g hg => .inr (Nat.le_trans HSZ.out (HV.out g hg))
set_option maxHeartbeats 2000000 in
set_option maxRecDepth 100000 in
theorem goOn_c {B rb g c : Nat} {S : ByteArray} {f : Int} {t : ByteArray} (p q : Nat) (w : World) (h : Rdr B w rb S (p : Nat) f (.slice (some ⟨g, 0, none⟩) 1 c) [0]) (HP : ∀ (W : World), Rdr B W rb S (p : Nat) f (.slice (some ⟨g, 0, none⟩) 1 c) [0] → Calls Tryz.prog 88 #[.pointer (some ⟨rb, 0, none⟩)] W fun e w' => e = .returned (.tuple #[.string t, .bool true]) ∧ Rdr B w' rb S (q : Nat) f (.slice (some ⟨g, 0, none⟩) 1 c) [0] ∧ TF (RdF rb ((.slice (some ⟨g, 0, none⟩) 1 c))) B W w') :
    Calls Tryz.prog 70 #[.pointer (some ⟨rb, 0, none⟩)] w fun e w' => Gv B rb S f (.slice (some ⟨g, 0, none⟩) 1 c) ⟨9, ⟨#[]⟩, t, 0, 0, 0, false⟩ (q : Nat) [] w e w' := by
  obtain ⟨_, _, e1, hc1, _⟩ := h.one
  cases e1
  have hst : ∀ (p : Addr) (x : Nat) (md : Mode) (W : World), (store p (.float .f64 x) md).run Tryz.prog W = stored Tryz.prog W p (.float .f64 x) md := fun p x md W => run_store Tryz.prog W p _ md rfl
  obtain ⟨W1, hW1⟩ : ∃ W1, w.alloc (.cells tok0 31) = W1 := ⟨_, rfl⟩
  have b1 : Below w.heap.size w W1 := by rw [← hW1]; exact below_new
  have hbx : W1.heap[w.heap.size]? = some (.cells tok0 31 (0, 0)) := by rw [← hW1]; exact World.alloc_heap_new w _
  have hA := h.away (Nat.le_refl _)
  have hR := h.below b1
  obtain ⟨c0, c1, c2, c3, cf⟩ := hR.cells
  have HA := Hid.mk' hA
  have HB1 := Hid.mk' b1
  have HX := Hid.mk' hbx
  have HRW := Hid.mk' hR
  obtain ⟨bx, hbxn⟩ : ∃ bx, w.heap.size = bx := ⟨_, rfl⟩
  have HPP := Hid.mk' (HP W1 hR)
  have hltb : w.heap.size < W1.heap.size := by rw [← hW1]; simp
  clear h hR b1 hbx hA HP
  go_enter Tryz.func70, Tryz.ntmps70
  go_wp2_with fail
  refine HPP.out.mono ?_
  rintro e w1 ⟨rfl, hR1, hT1⟩
  obtain ⟨d0, d1, d2, d3, df⟩ := hR1.cells
  have hbx1 := hT1.same _ _ (.inl (by rw [hbxn] at HA; exact HA.out)) (show W1.heap[bx]? = some _ by rw [← hbxn]; exact HX.out)
  have hnb : bx ≠ rb := by rw [← hbxn]; exact HA.out.1
  have z0 : w1.cell? ⟨bx, 0, none⟩ = some (.int .i64 0) := by rw [cell_of_row _ bx 0 _ _ _ hbx1]; rfl
  have z1 : w1.cell? ⟨bx, 1, none⟩ = some (.string ⟨#[]⟩) := by rw [cell_of_row _ bx 1 _ _ _ hbx1]; rfl
  have z2 : w1.cell? ⟨bx, 2, none⟩ = some (.string ⟨#[]⟩) := by rw [cell_of_row _ bx 2 _ _ _ hbx1]; rfl
  have z3 : w1.cell? ⟨bx, 3, none⟩ = some (.float .f64 0) := by rw [cell_of_row _ bx 3 _ _ _ hbx1]; rfl
  have z4 : w1.cell? ⟨bx, 4, none⟩ = some (.int .i64 0) := by rw [cell_of_row _ bx 4 _ _ _ hbx1]; rfl
  have z5 : w1.cell? ⟨bx, 5, none⟩ = some (.int .i64 0) := by rw [cell_of_row _ bx 5 _ _ _ hbx1]; rfl
  have z6 : w1.cell? ⟨bx, 6, none⟩ = some (.bool false) := by rw [cell_of_row _ bx 6 _ _ _ hbx1]; rfl
  have zf : ∀ j, w1.frozen? ⟨bx, j, none⟩ = false := fun j => by simp only [World.frozen?, hbx1]; simp
  have o3 : w1.ownsRow B 3 1 (.slice (some ⟨g, 0, none⟩) 0 c) ([] : List Int).length (([] : List Int).map (.int .i64 ·)) := by
    rcases hR1.own.2 with ⟨h0, _⟩ | ⟨g', cap, cur, e, hB, hg, hn, hm, hss, ht⟩
    · cases h0
    · cases e
      exact ⟨rfl, .inr ⟨g, c, cur, rfl, hB, hg, Nat.zero_le _, hm, hss, by simp⟩⟩
  have HR3 := Hid.mk' (fun (n : Nat) => (hR1.below (below_draws (Below.refl _ _) n)).setOpen (own_below o3 (below_draws (Below.refl _ _) n)))
  have HT3 := Hid.mk' (fun (n : Nat) => (((TF.of_below HB1.out).trans hT1).trans (TF.of_below (below_draws (Below.refl _ _) n))).trans (RdF.set (o := 3) (.slice (some ⟨g, 0, none⟩) 0 c) hR1.ge))
  have hgb : g ≠ bx := fun q => HA.out.2 (by rw [← q] at hbxn; rw [hbxn]; rfl)
  have HBN := Hid.mk' hbxn
  clear o3 hbx1 hR1 hT1 c0 c1 c2 c3 cf hW1 hltb hbxn
  go_wp2_with fail
  go_region
  all_goals
    go_wp2
    refine bodyPost_ret (v := .agg #[.int .i64 9, .string ⟨#[]⟩, .string t, .float .f64 0, .int .i64 0, .int .i64 0, .bool false]) ?_ rfl ⟨rfl, .slice (some ⟨g, 0, none⟩) 0 c, ?_, ?_, ?_⟩
    · rw [results_cell rfl]
      go_simp
    · have q2 : (Value.slice (some ⟨g, 0, none⟩) 0 c).ownBlock ≠ some bx := fun e => hgb (by simpa [Value.ownBlock] using e)
      refine Rdr.below ?_ (below_draws (Below.refl _ _) 1)
      repeat (refine Rdr.setOther ?_ _ hnb q2)
      exact HR3.out 0
    · refine TF.trans ?_ (TF.of_below (below_draws (Below.refl _ _) 1))
      repeat (refine TF.setNew ?_ (by rw [HBN.out]; exact Nat.le_refl _) _)
      exact HT3.out 0
    · exact fun k hk => .inl hk
end Go.Proofs.YtopdogpcachonaaGreatDoor
