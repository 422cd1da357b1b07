/- lex's sign that is none, and the number 1.5. -/
import Derived.Test.YtopdogpcachonaaGreatDoorLTok2
namespace Go.Proofs.YtopdogpcachonaaGreatDoor
set_option linter.unusedVariables false
open Go.RowKit Go.Shelf

set_option maxHeartbeats 2000000 in
set_option maxRecDepth 100000 in
theorem sign_throws {B rb : Nat} {S : ByteArray} {f : Int} {ov : Value} {op : List Int} (an m : Nat) {R : ByteArray} (w : World) (h : Rdr B w rb S (an : Nat) f ov op) (ha : (an : Int) ≤ (S.size : Int)) (HRR : Hid (S.extract an S.size = R)) (hm : min (4 : Int) (R.size : Int) = m) (hn : ∀ j, 0 < j → j ≤ m → signB (R.extract 0 j) = false) :
    Calls Tryz.prog 71 #[.pointer (some ⟨rb, 0, none⟩)] w fun e w' => e = .panicked [{ v := .iface 26 (.int .i64 50), recovered := false }] ∧ Rdr B w' rb S (an : Nat) f ov op ∧ TF (RdF rb ov) B w w' := by
  have HSA := Hid.mk' (fun W => signAhead_no R m W hm hn)
  clear hm hn
  have hst : ∀ (p : Addr) (x : Nat) (md : Mode) (W : World), (store p (.float .f64 x) md).run Tryz.prog W = stored Tryz.prog W p (.float .f64 x) md := fun p x md W => run_store Tryz.prog W p _ md rfl
  obtain ⟨W1, hW1⟩ : ∃ W1, w.alloc (.cells tok0 31) = W1 := ⟨_, rfl⟩
  have b1 : Below w.heap.size w W1 := by rw [← hW1]; exact below_new
  have hbx : W1.heap[w.heap.size]? = some (.cells tok0 31 (0, 0)) := by rw [← hW1]; exact World.alloc_heap_new w _
  have hA := h.away (Nat.le_refl _)
  have hR := h.below b1
  obtain ⟨c0, c1, c2, c3, cf⟩ := hR.cells
  have HA := Hid.mk' hA
  have HB1 := Hid.mk' b1
  have HX := Hid.mk' hbx
  have HRW := Hid.mk' hR
  obtain ⟨bx, hbxn⟩ : ∃ bx, w.heap.size = bx := ⟨_, rfl⟩
  clear h hR b1 hbx hA
  go_enter Tryz.func71, Tryz.ntmps71
  go_wp2_with fail
  go_region_with (go_at_call 89; rw [HRR.out]; refine (HSA.out _).mono ?_; rintro e w1 ⟨rfl, hw1⟩; rw [hw1]; refine (show (wpAny Tryz.prog Region.Mode.text #[] (fun _ _ _ => True) 0 #[] { tmps := #[], defers := [] } W1) → _ from fun _ => ⟨rfl, rfl, HRW.out.below (below_draws (Below.refl _ _) 1), TF.of_below (below_draws HB1.out 1)⟩) ?_)
  all_goals trivial
set_option maxHeartbeats 2000000 in
set_option maxRecDepth 100000 in
theorem number_c {B rb : Nat} {S : ByteArray} {f : Int} {ov : Value} {op : List Int} (an : Nat) (w : World) (h : Rdr B w rb S (an : Nat) f ov op) (ha : (an : Int) ≤ (S.size : Int)) (hs : (S.size : Int) ≤ 262144) (hl : Hid (LaidN w)) (HRR : Hid (S.extract an S.size = Sb [49, 46, 53])) :
    Calls Tryz.prog 66 #[.pointer (some ⟨rb, 0, none⟩)] w fun e w' => Gives B rb S f ov op ⟨4, ⟨#[]⟩, ⟨#[]⟩, 4609434218613702656, 0, 0, false⟩ ((an + 3 : Nat) : Int) w e w' := by
  have HLI := Hid.mk' (fun W hW => literal_l W hW)
  have x1 : wrap64 ((an : Int) + 3) = (an : Int) + 3 := by unfold wrap64; omega
  have hst : ∀ (p : Addr) (x : Nat) (md : Mode) (W : World), (store p (.float .f64 x) md).run Tryz.prog W = stored Tryz.prog W p (.float .f64 x) md := fun p x md W => run_store Tryz.prog W p _ md rfl
  obtain ⟨W1, hW1⟩ : ∃ W1, w.alloc (.cells tok0 31) = W1 := ⟨_, rfl⟩
  have b1 : Below w.heap.size w W1 := by rw [← hW1]; exact below_new
  have hbx : W1.heap[w.heap.size]? = some (.cells tok0 31 (0, 0)) := by rw [← hW1]; exact World.alloc_heap_new w _
  have hA := h.away (Nat.le_refl _)
  have hR := h.below b1
  obtain ⟨c0, c1, c2, c3, cf⟩ := hR.cells
  have HA := Hid.mk' hA
  have HB1 := Hid.mk' b1
  have HX := Hid.mk' hbx
  have HRW := Hid.mk' hR
  obtain ⟨bx, hbxn⟩ : ∃ bx, w.heap.size = bx := ⟨_, rfl⟩
  clear h hR b1 hbx hA
  go_enter Tryz.func66, Tryz.ntmps66
  go_wp2_with fail
  go_region_with (go_at_call 86; rw [HRR.out]; refine (HLI.out _ (Hid.mk' (hl.out.below (below_draws HB1.out 1)))).mono ?_; rintro e w1 ⟨rfl, b1⟩)
  all_goals
    have b2 := below_drew b1
    have hT1 : TF (RdF rb ov) B W1 w1 := TF.of_below b2
    have hR1 := HRW.out.below b2
    obtain ⟨d0, d1, d2, d3, df⟩ := hR1.cells
    obtain ⟨y1, y2⟩ := hT1.box (k := bx) (by rw [← hbxn]; exact HA.out) (by rw [← hbxn]; exact HX.out)
    have z0 := y1 0 _ rfl
    have z1 := y1 1 _ rfl
    have z2 := y1 2 _ rfl
    have z3 := y1 3 _ rfl
    have z4 := y1 4 _ rfl
    have z5 := y1 5 _ rfl
    have z6 := y1 6 _ rfl
    have HR1 := Hid.mk' hR1
    have HT1 := Hid.mk' hT1
    have HBN := Hid.mk' hbxn
    have hbr : bx ≠ rb := by rw [← hbxn]; exact HA.out.1
    clear y1 hR1 hT1 c0 c1 c2 c3 cf hbxn hW1 b1 b2
    go_wp2
    refine bodyPost_ret (v := .agg #[.int .i64 4, .string ⟨#[]⟩, .string ⟨#[]⟩, .float .f64 4609434218613702656, .int .i64 0, .int .i64 0, .bool false]) ?_ rfl ⟨rfl, ?_, ?_⟩
    · rw [results_cell rfl]
      go_simp
    · repeat (refine Rdr.setOther ?_ _ (by rw [← HBN.out]; exact HA.out.1) (by rw [← HBN.out]; exact HA.out.2))
      rw [show ((an + 3 : Nat) : Int) = (an : Int) + 3 by omega]; exact HR1.out.setAt _
    · repeat (refine TF.setNew ?_ (by rw [HBN.out]; exact Nat.le_refl _) _)
      exact ((TF.of_below HB1.out).trans HT1.out).trans (RdF.set _ HR1.out.ge)
end Go.Proofs.YtopdogpcachonaaGreatDoor
