/- lex's signs and numbers as tokens. -/
import Derived.Test.YtopdogpcachonaaGreatDoorLTok2
namespace Go.Proofs.YtopdogpcachonaaGreatDoor
set_option linter.unusedVariables false
open Go.RowKit Go.Shelf

set_option maxHeartbeats 2000000 in
set_option maxRecDepth 100000 in
theorem sign_c {B rb : Nat} {S : ByteArray} {f : Int} {ov : Value} {op : List Int} (k an m : Nat) {R : ByteArray} (w : World) (h : Rdr B w rb S (an : Nat) f ov op) (hs : (S.size : Int) ≤ 262144) (hk : an + k ≤ S.size) (HRR : Hid (S.extract an S.size = R)) (hm : min (4 : Int) (R.size : Int) = m) (hk1 : 1 ≤ k ∧ k ≤ m) (hy : signB (R.extract 0 k) = true) (hn : ∀ j, k < j → j ≤ m → signB (R.extract 0 j) = false) {T : ByteArray} (hT : S.extract an (an + k) = T) (he1 : (T.toList == [123]) = false) (he2 : (T.toList == [125]) = false) :
    Calls Tryz.prog 71 #[.pointer (some ⟨rb, 0, none⟩)] w fun e w' => Gives B rb S f ov op ⟨3, T, ⟨#[]⟩, 0, 0, 0, false⟩ ((an + k : Nat) : Int) w e w' := by
  have HSA := Hid.mk' (fun W => signAhead_yes R k m W hm hk1 hy hn)
  have HT := Hid.mk' (fun (W : World) (hW : Rdr B W rb S (an : Nat) f ov op) => take_any k an W rfl hW hs hk)
  have i1 : (an : Int) ≤ (S.size : Int) := by omega
  rw [hT] at HT
  have he1' : ¬ T.toList = [123] := by simpa using he1
  have he2' : ¬ T.toList = [125] := by simpa using he2
  clear hT hy hn hm hk1
  have hst : ∀ (p : Addr) (x : Nat) (md : Mode) (W : World), (store p (.float .f64 x) md).run Tryz.prog W = stored Tryz.prog W p (.float .f64 x) md := fun p x md W => run_store Tryz.prog W p _ md rfl
  obtain ⟨W1, hW1⟩ : ∃ W1, w.alloc (.cells tok0 31) = W1 := ⟨_, rfl⟩
  have b1 : Below w.heap.size w W1 := by rw [← hW1]; exact below_new
  have hbx : W1.heap[w.heap.size]? = some (.cells tok0 31 (0, 0)) := by rw [← hW1]; exact World.alloc_heap_new w _
  have hA := h.away (Nat.le_refl _)
  have hR := h.below b1
  obtain ⟨c0, c1, c2, c3, cf⟩ := hR.cells
  have HA := Hid.mk' hA
  have HB1 := Hid.mk' b1
  have HX := Hid.mk' hbx
  have HRW := Hid.mk' hR
  obtain ⟨bx, hbxn⟩ : ∃ bx, w.heap.size = bx := ⟨_, rfl⟩
  clear h hR b1 hbx hA
  go_enter Tryz.func71, Tryz.ntmps71
  go_wp2_with fail
  go_region_with (first | (go_at_call 89; rw [HRR.out]; refine (HSA.out _).mono ?_; rintro e w1 ⟨rfl, hw1⟩; rw [hw1]; clear hw1 w1) | (go_at_call 84; refine (HT.out _ (HRW.out.below (below_draws (Below.refl _ _) 1))).mono ?_; rintro e w1 ⟨rfl, hR1, hT1⟩))
  all_goals
    obtain ⟨y1, y2⟩ := hT1.box (k := bx) (by rw [← hbxn]; exact HA.out) (by rw [← hbxn]; exact HX.out)
    have z0 := y1 0 _ rfl
    have z1 := y1 1 _ rfl
    have z2 := y1 2 _ rfl
    have z3 := y1 3 _ rfl
    have z4 := y1 4 _ rfl
    have z5 := y1 5 _ rfl
    have z6 := y1 6 _ rfl
    have HR1 := Hid.mk' hR1
    have HT1 := Hid.mk' hT1
    have HBN := Hid.mk' hbxn
    clear y1 hR1 hT1 c0 c1 c2 c3 cf hbxn hW1
    go_wp2
    refine bodyPost_ret (v := .agg #[.int .i64 3, .string T, .string ⟨#[]⟩, .float .f64 0, .int .i64 0, .int .i64 0, .bool false]) ?_ rfl ⟨rfl, ?_, ?_⟩
    · rw [results_cell rfl]
      go_simp
    · repeat (refine Rdr.setOther ?_ _ (by rw [← HBN.out]; exact HA.out.1) (by rw [← HBN.out]; exact HA.out.2))
      exact HR1.out
    · repeat (refine TF.setNew ?_ (by rw [HBN.out]; exact Nat.le_refl _) _)
      exact ((TF.of_below HB1.out).trans (TF.of_below (below_draws (Below.refl _ _) 1))).trans HT1.out
set_option maxHeartbeats 2000000 in
set_option maxRecDepth 100000 in
theorem sign_open {B rb : Nat} {S : ByteArray} {f : Int} {g c : Nat} {n : Int} (k an m : Nat) {R : ByteArray} (w : World) (h : Rdr B w rb S (an : Nat) f (.slice (some ⟨g, 0, none⟩) 1 c) [n]) (hs : (S.size : Int) ≤ 262144) (hk : an + k ≤ S.size) (HRR : Hid (S.extract an S.size = R)) (hm : min (4 : Int) (R.size : Int) = m) (hk1 : 1 ≤ k ∧ k ≤ m) (hy : signB (R.extract 0 k) = true) (hn : ∀ j, k < j → j ≤ m → signB (R.extract 0 j) = false) (hT : S.extract an (an + k) = ⟨#[123]⟩) (hn0 : -90 ≤ n ∧ n ≤ 90000) :
    Calls Tryz.prog 71 #[.pointer (some ⟨rb, 0, none⟩)] w fun e w' => Gives B rb S f (.slice (some ⟨g, 0, none⟩) 1 c) [n + 1] ⟨3, ⟨#[123]⟩, ⟨#[]⟩, 0, 0, 0, false⟩ ((an + k : Nat) : Int) w e w' := by
  have HSA := Hid.mk' (fun W => signAhead_yes R k m W hm hk1 hy hn)
  have HT := Hid.mk' (fun (W : World) (hW : Rdr B W rb S (an : Nat) f (.slice (some ⟨g, 0, none⟩) 1 c) [n]) => take_any k an W rfl hW hs hk)
  have i1 : (an : Int) ≤ (S.size : Int) := by omega
  rw [hT] at HT
  clear hT hy hn hm hk1
  have hst : ∀ (p : Addr) (x : Nat) (md : Mode) (W : World), (store p (.float .f64 x) md).run Tryz.prog W = stored Tryz.prog W p (.float .f64 x) md := fun p x md W => run_store Tryz.prog W p _ md rfl
  obtain ⟨W1, hW1⟩ : ∃ W1, w.alloc (.cells tok0 31) = W1 := ⟨_, rfl⟩
  have b1 : Below w.heap.size w W1 := by rw [← hW1]; exact below_new
  have hbx : W1.heap[w.heap.size]? = some (.cells tok0 31 (0, 0)) := by rw [← hW1]; exact World.alloc_heap_new w _
  have hA := h.away (Nat.le_refl _)
  have hR := h.below b1
  obtain ⟨c0, c1, c2, c3, cf⟩ := hR.cells
  have HA := Hid.mk' hA
  have HB1 := Hid.mk' b1
  have HX := Hid.mk' hbx
  have HRW := Hid.mk' hR
  obtain ⟨bx, hbxn⟩ : ∃ bx, w.heap.size = bx := ⟨_, rfl⟩
  clear h hR b1 hbx hA
  go_enter Tryz.func71, Tryz.ntmps71
  go_wp2_with fail
  go_region_with (first | (go_at_call 89; rw [HRR.out]; refine (HSA.out _).mono ?_; rintro e w1 ⟨rfl, hw1⟩; rw [hw1]; clear hw1 w1) | (go_at_call 84; refine (HT.out _ (HRW.out.below (below_draws (Below.refl _ _) 1))).mono ?_; rintro e w1 ⟨rfl, hR1, hT1⟩))
  all_goals
    obtain ⟨y1, y2⟩ := hT1.box (k := bx) (by rw [← hbxn]; exact HA.out) (by rw [← hbxn]; exact HX.out)
    have z0 := y1 0 _ rfl
    have z1 := y1 1 _ rfl
    have z2 := y1 2 _ rfl
    have z3 := y1 3 _ rfl
    have z4 := y1 4 _ rfl
    have z5 := y1 5 _ rfl
    have z6 := y1 6 _ rfl
    have hR1' := hR1
    have HR1 := Hid.mk' hR1
    have HT1 := Hid.mk' hT1
    have HBN := Hid.mk' hbxn
    have HBR := Hid.mk' (brace_one 1 w1 hR1' (by omega) (by omega))
    have hgb : g ≠ bx := fun q => HA.out.2 (by rw [← q] at hbxn; rw [hbxn]; rfl)
    clear y1 hR1 hR1' hT1 c0 c1 c2 c3 cf hbxn hW1
    go_wp2_with (go_at_call 90; refine (HBR.out).mono ?_; rintro e w2 ⟨rfl, hw2⟩; rw [hw2]; clear hw2 w2)
    refine bodyPost_ret (v := .agg #[.int .i64 3, .string ⟨#[123]⟩, .string ⟨#[]⟩, .float .f64 0, .int .i64 0, .int .i64 0, .bool false]) ?_ rfl ⟨rfl, ?_, ?_⟩
    · rw [results_cell rfl]
      go_simp
    · repeat (refine Rdr.setOther ?_ _ (by rw [← HBN.out]; exact HA.out.1) (by rw [← HBN.out]; exact HA.out.2))
      exact HR1.out.setOne _
    · repeat (refine TF.setNew ?_ (by rw [HBN.out]; exact Nat.le_refl _) _)
      exact (((TF.of_below HB1.out).trans (TF.of_below (below_draws (Below.refl _ _) 1))).trans HT1.out).trans (TF.set _ (HR1.out.one.elim fun g2 q => q.elim fun c2 q2 => by obtain ⟨e, _, _, _, hB, _⟩ := q2; cases e; exact hB) (fun q => q.2 rfl))
set_option maxHeartbeats 2000000 in
set_option maxRecDepth 100000 in
theorem sign_shut {B rb : Nat} {S : ByteArray} {f : Int} {g c : Nat} {n : Int} (k an m : Nat) {R : ByteArray} (w : World) (h : Rdr B w rb S (an : Nat) f (.slice (some ⟨g, 0, none⟩) 1 c) [n]) (hs : (S.size : Int) ≤ 262144) (hk : an + k ≤ S.size) (HRR : Hid (S.extract an S.size = R)) (hm : min (4 : Int) (R.size : Int) = m) (hk1 : 1 ≤ k ∧ k ≤ m) (hy : signB (R.extract 0 k) = true) (hn : ∀ j, k < j → j ≤ m → signB (R.extract 0 j) = false) (hT : S.extract an (an + k) = ⟨#[125]⟩) (hn0 : -90 ≤ n ∧ n ≤ 90000) :
    Calls Tryz.prog 71 #[.pointer (some ⟨rb, 0, none⟩)] w fun e w' => Gives B rb S f (.slice (some ⟨g, 0, none⟩) 1 c) [n + (-1)] ⟨3, ⟨#[125]⟩, ⟨#[]⟩, 0, 0, 0, false⟩ ((an + k : Nat) : Int) w e w' := by
  have HSA := Hid.mk' (fun W => signAhead_yes R k m W hm hk1 hy hn)
  have HT := Hid.mk' (fun (W : World) (hW : Rdr B W rb S (an : Nat) f (.slice (some ⟨g, 0, none⟩) 1 c) [n]) => take_any k an W rfl hW hs hk)
  have i1 : (an : Int) ≤ (S.size : Int) := by omega
  rw [hT] at HT
  clear hT hy hn hm hk1
  have hst : ∀ (p : Addr) (x : Nat) (md : Mode) (W : World), (store p (.float .f64 x) md).run Tryz.prog W = stored Tryz.prog W p (.float .f64 x) md := fun p x md W => run_store Tryz.prog W p _ md rfl
  obtain ⟨W1, hW1⟩ : ∃ W1, w.alloc (.cells tok0 31) = W1 := ⟨_, rfl⟩
  have b1 : Below w.heap.size w W1 := by rw [← hW1]; exact below_new
  have hbx : W1.heap[w.heap.size]? = some (.cells tok0 31 (0, 0)) := by rw [← hW1]; exact World.alloc_heap_new w _
  have hA := h.away (Nat.le_refl _)
  have hR := h.below b1
  obtain ⟨c0, c1, c2, c3, cf⟩ := hR.cells
  have HA := Hid.mk' hA
  have HB1 := Hid.mk' b1
  have HX := Hid.mk' hbx
  have HRW := Hid.mk' hR
  obtain ⟨bx, hbxn⟩ : ∃ bx, w.heap.size = bx := ⟨_, rfl⟩
  clear h hR b1 hbx hA
  go_enter Tryz.func71, Tryz.ntmps71
  go_wp2_with fail
  go_region_with (first | (go_at_call 89; rw [HRR.out]; refine (HSA.out _).mono ?_; rintro e w1 ⟨rfl, hw1⟩; rw [hw1]; clear hw1 w1) | (go_at_call 84; refine (HT.out _ (HRW.out.below (below_draws (Below.refl _ _) 1))).mono ?_; rintro e w1 ⟨rfl, hR1, hT1⟩))
  all_goals
    obtain ⟨y1, y2⟩ := hT1.box (k := bx) (by rw [← hbxn]; exact HA.out) (by rw [← hbxn]; exact HX.out)
    have z0 := y1 0 _ rfl
    have z1 := y1 1 _ rfl
    have z2 := y1 2 _ rfl
    have z3 := y1 3 _ rfl
    have z4 := y1 4 _ rfl
    have z5 := y1 5 _ rfl
    have z6 := y1 6 _ rfl
    have hR1' := hR1
    have HR1 := Hid.mk' hR1
    have HT1 := Hid.mk' hT1
    have HBN := Hid.mk' hbxn
    have HBR := Hid.mk' (brace_one (-1) w1 hR1' (by omega) (by omega))
    have hgb : g ≠ bx := fun q => HA.out.2 (by rw [← q] at hbxn; rw [hbxn]; rfl)
    clear y1 hR1 hR1' hT1 c0 c1 c2 c3 cf hbxn hW1
    go_wp2_with (go_at_call 90; refine (HBR.out).mono ?_; rintro e w2 ⟨rfl, hw2⟩; rw [hw2]; clear hw2 w2)
    refine bodyPost_ret (v := .agg #[.int .i64 3, .string ⟨#[125]⟩, .string ⟨#[]⟩, .float .f64 0, .int .i64 0, .int .i64 0, .bool false]) ?_ rfl ⟨rfl, ?_, ?_⟩
    · rw [results_cell rfl]
      go_simp
    · repeat (refine Rdr.setOther ?_ _ (by rw [← HBN.out]; exact HA.out.1) (by rw [← HBN.out]; exact HA.out.2))
      exact HR1.out.setOne _
    · repeat (refine TF.setNew ?_ (by rw [HBN.out]; exact Nat.le_refl _) _)
      exact (((TF.of_below HB1.out).trans (TF.of_below (below_draws (Below.refl _ _) 1))).trans HT1.out).trans (TF.set _ (HR1.out.one.elim fun g2 q => q.elim fun c2 q2 => by obtain ⟨e, _, _, _, hB, _⟩ := q2; cases e; exact hB) (fun q => q.2 rfl))
end Go.Proofs.YtopdogpcachonaaGreatDoor
