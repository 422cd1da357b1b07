/- Package code's reader: constants, tries, captures. -/
import Derived.Test.YtkgjmiadgfcbnaaGreatDoorCdD
import Derived.RangeFuncRecord
namespace Go.Proofs.YtkgjmiadgfcbnaaGreatDoor
set_option linter.unusedVariables false
set_option linter.unusedSimpArgs false
open Go.RowKit

theorem Fr.box {rb k : Nat} {X Y : World} {c : Array Value} {t : TypeId} (h : Fr rb X Y) (hk : k ≠ rb) (hb : X.heap[k]? = some (.cells c t (0, 0))) : (∀ j v, c[j]? = some v → Y.cell? ⟨k, j, none⟩ = some v) ∧ (∀ j, Y.frozen? ⟨k, j, none⟩ = false) := by
  have h' := h.same k _ hk hb
  exact ⟨fun j v hv => by rw [cell_row _ k j _ _ h']; exact hv, fun j => thaw_row _ _ _ _ h' j⟩
theorem box_new {w : World} {c : Array Value} {t : TypeId} : (w.alloc (.cells c t)).heap[w.heap.size]? = some (.cells c t (0, 0)) := World.alloc_heap_new w _
theorem lay_below {w : World} {o : Obj} : Below w.heap.size w (w.alloc o) := (Below.refl _ _).alloc (Nat.le_refl _) _
theorem res_cell {fn : Func} {p : Tmp} {ty : TypeId} (h : fn.results = #[.cell p ty]) (tmps : Array Value) (P : Program) (w : World) :
    (results fn tmps).run P w = ((asAddr (tmps.getD p undef)).run P w).andThen fun a w₁ => (loadVar ty a).run P w₁ := by
  simp only [results, h]
  simp [Sem.run_bind, Result.andThen]
/-- The box of a result, laid ahead of what is read. -/
theorem res_box {rb g : Nat} {L : List UInt8} {w : World} (h : Rc w rb g L) (c : Array Value) (t : TypeId) : ∃ W1 bx, w.alloc (.cells c t) = W1 ∧ w.heap.size = bx ∧ Rc W1 rb g L ∧ Fr rb w W1 ∧ W1.heap[bx]? = some (.cells c t (0, 0)) ∧ bx ≠ rb ∧ bx ≠ g :=
  ⟨_, _, rfl, rfl, h.below lay_below, Fr.of_below lay_below, box_new, by have := h.lt; omega, by have := h.glt; omega⟩
set_option maxHeartbeats 2000000 in
set_option maxRecDepth 100000 in
theorem capture_any {rb g : Nat} {L : List UInt8} (w : World) (h : Rc w rb g L) :
    Calls Tryz.prog 53 #[.pointer (some ⟨rb, 0, none⟩)] w fun e w' => Rds capP rb g (fun _ x v => v = .agg x.cs.toArray) L w e w' := by
  obtain ⟨W1, bx, hW1, hbx, hR1, hF1, hX, n1, n2⟩ := res_box h #[.bool false, .int .i64 0] 89
  have HN := Hid.mk' (flag_any W1 hR1)
  have HF0 := Hid.mk' hF1
  have HX := Hid.mk' hX
  have HM := Hid.mk' (fun L' W (hR : Rc W rb g L') => number_any W hR)
  have HBX := Hid.mk' hbx
  have HNE := Hid.mk' (And.intro n1 n2)
  clear h hR1 hF1 hX n1 n2
  go_enter Tryz.func53, Tryz.ntmps53
  go_wp2_with fail
  refine HN.out.mono ?_
  rintro e w1 (⟨x1, L1, v1, p1, rfl, rfl, hR, hF⟩ | ⟨p1, rfl, hF⟩)
  · have HN1 := Hid.mk' (HM.out L1 w1 hR)
    have HFa := Hid.mk' (HF0.out.trans hF)
    have HFx := Hid.mk' hF
    have HP1 := Hid.mk' p1
    clear hR hF p1
    go_wp2_with fail
    refine HN1.out.mono ?_
    rintro e w2 (⟨x2, L2, v2, p2, rfl, rfl, hR, hF⟩ | ⟨p2, rfl, hF⟩)
    · have HFb := Hid.mk' (HFa.out.trans hF)
      obtain ⟨y1, y2⟩ := (HFx.out.trans hF).box HNE.out.1 HX.out
      have z0 := y1 0 _ rfl
      have z1 := y1 1 _ rfl
      have HP2 := Hid.mk' p2
      have HR := Hid.mk' hR
      clear hR hF p2 y1
      go_wp2
      refine bodyPost_ret (v := .agg #[.bool x1, .int .i64 x2]) ?_ rfl (.inl ⟨⟨x1, x2⟩, L2, _, ?_, rfl, rfl, ?_, ?_⟩)
      · rw [res_cell rfl]
        go_simp
      · unfold capP
        rw [HP1.out]
        simp only [Option.bind_some]
        rw [HP2.out]
        rfl
      · repeat (refine Rc.setNew ?_ _ (Ne.symm HNE.out.1) (Ne.symm HNE.out.2))
        exact HR.out
      · repeat (refine Fr.setNew ?_ (by rw [HBX.out]; exact Nat.le_refl _) _)
        exact HFb.out
    · go_wp2
      refine ⟨rfl, .inr ⟨?_, rfl, HFa.out.trans hF⟩⟩
      unfold capP
      rw [HP1.out]
      simp only [Option.bind_some]
      rw [p2]
      rfl
  · go_wp2
    refine ⟨rfl, .inr ⟨?_, rfl, HF0.out.trans hF⟩⟩
    unfold capP
    rw [p1]
    rfl
set_option maxHeartbeats 2000000 in
set_option maxRecDepth 100000 in
theorem attempt_any {rb g : Nat} {L : List UInt8} (w : World) (h : Rc w rb g L) :
    Calls Tryz.prog 51 #[.pointer (some ⟨rb, 0, none⟩)] w fun e w' => Rds triP rb g (fun _ x v => v = .agg x.cs.toArray) L w e w' := by
  obtain ⟨W1, bx, hW1, hbx, hR1, hF1, hX, n1, n2⟩ := res_box h #[.int .i64 0, .int .i64 0, .int .i64 0, .int .i64 0] 87
  have HN := Hid.mk' (number_any W1 hR1)
  have HF0 := Hid.mk' hF1
  have HX := Hid.mk' hX
  have HM := Hid.mk' (fun L' W (hR : Rc W rb g L') => number_any W hR)
  have HBX := Hid.mk' hbx
  have HNE := Hid.mk' (And.intro n1 n2)
  have HE := Hid.mk' (show triP L = _ from rfl)
  unfold triP at HE
  clear h hR1 hF1 hX n1 n2
  go_enter Tryz.func51, Tryz.ntmps51
  go_wp2_with fail
  refine HN.out.mono ?_
  rintro e w1 (⟨x1, L1, v1, p1, rfl, rfl, hR, hF⟩ | ⟨p1, rfl, hF⟩)
  · have HN1 := Hid.mk' (HM.out L1 w1 hR)
    have HFa := Hid.mk' (HF0.out.trans hF)
    have HFx := Hid.mk' hF
    have HP1 := Hid.mk' p1
    clear hR hF p1
    go_wp2_with fail
    refine HN1.out.mono ?_
    rintro e w2 (⟨x2, L2, v2, p2, rfl, rfl, hR, hF⟩ | ⟨p2, rfl, hF⟩)
    · have HN2 := Hid.mk' (HM.out L2 w2 hR)
      have HFb := Hid.mk' (HFa.out.trans hF)
      have HFy := Hid.mk' (HFx.out.trans hF)
      have HP2 := Hid.mk' p2
      clear hR hF p2
      go_wp2_with fail
      refine HN2.out.mono ?_
      rintro e w3 (⟨x3, L3, v3, p3, rfl, rfl, hR, hF⟩ | ⟨p3, rfl, hF⟩)
      · have HN3 := Hid.mk' (HM.out L3 w3 hR)
        have HFc := Hid.mk' (HFb.out.trans hF)
        have HFz := Hid.mk' (HFy.out.trans hF)
        have HP3 := Hid.mk' p3
        clear hR hF p3
        go_wp2_with fail
        refine HN3.out.mono ?_
        rintro e w4 (⟨x4, L4, v4, p4, rfl, rfl, hR, hF⟩ | ⟨p4, rfl, hF⟩)
        · have HFd := Hid.mk' (HFc.out.trans hF)
          obtain ⟨y1, y2⟩ := (HFz.out.trans hF).box HNE.out.1 HX.out
          have z0 := y1 0 _ rfl
          have z1 := y1 1 _ rfl
          have z2 := y1 2 _ rfl
          have z3 := y1 3 _ rfl
          have HP4 := Hid.mk' p4
          have HR := Hid.mk' hR
          clear hR hF p4 y1
          go_wp2
          refine bodyPost_ret (v := .agg #[.int .i64 x1, .int .i64 x2, .int .i64 x3, .int .i64 x4]) ?_ rfl (.inl ⟨⟨x1, x2, x3, x4⟩, L4, _, ?_, rfl, rfl, ?_, ?_⟩)
          · rw [res_cell rfl]
            go_simp
          · unfold triP
            simp only [HP1.out, HP2.out, HP3.out, HP4.out, Option.bind_some, Option.map_some]
          · repeat (refine Rc.setNew ?_ _ (Ne.symm HNE.out.1) (Ne.symm HNE.out.2))
            exact HR.out
          · repeat (refine Fr.setNew ?_ (by rw [HBX.out]; exact Nat.le_refl _) _)
            exact HFd.out
        · go_wp2
          refine ⟨rfl, .inr ⟨?_, rfl, HFc.out.trans hF⟩⟩
          unfold triP
          simp only [HP1.out, HP2.out, HP3.out, p4, Option.bind_some, Option.map_none, Option.bind_none]
      · go_wp2
        refine ⟨rfl, .inr ⟨?_, rfl, HFb.out.trans hF⟩⟩
        unfold triP
        simp only [HP1.out, HP2.out, p3, Option.bind_some, Option.map_none, Option.bind_none]
    · go_wp2
      refine ⟨rfl, .inr ⟨?_, rfl, HFa.out.trans hF⟩⟩
      unfold triP
      simp only [HP1.out, p2, Option.bind_some, Option.map_none, Option.bind_none]
  · go_wp2
    refine ⟨rfl, .inr ⟨?_, rfl, HF0.out.trans hF⟩⟩
    unfold triP
    simp only [p1, Option.bind_none]
set_option maxHeartbeats 2000000 in
set_option maxRecDepth 100000 in
theorem constant_any {rb g : Nat} {L : List UInt8} (w : World) (h : Rc w rb g L) :
    Calls Tryz.prog 47 #[.pointer (some ⟨rb, 0, none⟩)] w fun e w' => Rds constP rb g (fun _ x v => v = .agg x.cs.toArray) L w e w' := by
  have hst : ∀ (p : Addr) (x : Nat) (md : Mode) (W : World), (store p (.float .f64 x) md).run Tryz.prog W = stored Tryz.prog W p (.float .f64 x) md := fun p x md W => run_store Tryz.prog W p _ md rfl
  obtain ⟨W1, bx, hW1, hbx, hR1, hF1, hX, n1, n2⟩ := res_box h #[.int .i64 0, .float .f64 0, .string ⟨#[]⟩, .int .i64 0] 83
  have HN := Hid.mk' (number_any W1 hR1)
  have HF0 := Hid.mk' hF1
  have HX := Hid.mk' hX
  have HB := Hid.mk' (fun L' W (hR : Rc W rb g L') => bits_any W hR)
  have HT := Hid.mk' (fun L' W (hR : Rc W rb g L') => text_any W hR)
  have HBX := Hid.mk' hbx
  have HNE := Hid.mk' (And.intro n1 n2)
  clear h hR1 hF1 hX n1 n2
  go_enter Tryz.func47, Tryz.ntmps47
  go_wp2_with fail
  refine HN.out.mono ?_
  rintro e w1 (⟨n, L1, v1, p1, rfl, rfl, hR, hF⟩ | ⟨p1, rfl, hF⟩)
  · have HFa := Hid.mk' (HF0.out.trans hF)
    have HFx := Hid.mk' hF
    have HP1 := Hid.mk' p1
    clear hF p1
    by_cases h0 : n = 0
    · subst h0
      have HN1 := Hid.mk' (HB.out L1 w1 hR)
      clear hR
      go_wp2_with fail
      refine HN1.out.mono ?_
      rintro e w2 (⟨x2, L2, v2, p2, rfl, rfl, hR, hF⟩ | ⟨p2, rfl, hF⟩)
      · have HFb := Hid.mk' (HFa.out.trans hF)
        obtain ⟨y1, y2⟩ := (HFx.out.trans hF).box HNE.out.1 HX.out
        have z0 := y1 0 _ rfl
        have z1 := y1 1 _ rfl
        have z2 := y1 2 _ rfl
        have z3 := y1 3 _ rfl
        have HP2 := Hid.mk' p2
        have HR := Hid.mk' hR
        clear hR hF p2 y1
        go_wp2
        refine bodyPost_ret (v := .agg #[.int .i64 3, .float .f64 x2, .string ⟨#[]⟩, .int .i64 0]) ?_ rfl (.inl ⟨⟨3, x2, ⟨#[]⟩, 0⟩, L2, _, ?_, rfl, rfl, ?_, ?_⟩)
        · rw [res_cell rfl]
          go_simp
        · unfold constP
          simp only [HP1.out, HP2.out, Option.bind_some, if_true, Option.map_some]
        · repeat (refine Rc.setNew ?_ _ (Ne.symm HNE.out.1) (Ne.symm HNE.out.2))
          exact HR.out
        · repeat (refine Fr.setNew ?_ (by rw [HBX.out]; exact Nat.le_refl _) _)
          exact HFb.out
      · go_wp2
        refine ⟨rfl, .inr ⟨?_, rfl, HFa.out.trans hF⟩⟩
        unfold constP
        simp only [HP1.out, p2, Option.bind_some, if_true, Option.map_none]
    · by_cases h1 : n = 1
      · subst h1
        have HN1 := Hid.mk' (HT.out L1 w1 hR)
        clear hR
        go_wp2_with fail
        refine HN1.out.mono ?_
        rintro e w2 (⟨x2, L2, v2, p2, rfl, rfl, hR, hF⟩ | ⟨p2, rfl, hF⟩)
        · have HFb := Hid.mk' (HFa.out.trans hF)
          obtain ⟨y1, y2⟩ := (HFx.out.trans hF).box HNE.out.1 HX.out
          have z0 := y1 0 _ rfl
          have z1 := y1 1 _ rfl
          have z2 := y1 2 _ rfl
          have z3 := y1 3 _ rfl
          have HP2 := Hid.mk' p2
          have HR := Hid.mk' hR
          clear hR hF p2 y1
          go_wp2
          refine bodyPost_ret (v := .agg #[.int .i64 4, .float .f64 0, .string x2, .int .i64 0]) ?_ rfl (.inl ⟨⟨4, 0, x2, 0⟩, L2, _, ?_, rfl, rfl, ?_, ?_⟩)
          · rw [res_cell rfl]
            go_simp
          · unfold constP
            simp only [HP1.out, HP2.out, Option.bind_some, if_true, Option.map_some]
            rfl
          · repeat (refine Rc.setNew ?_ _ (Ne.symm HNE.out.1) (Ne.symm HNE.out.2))
            exact HR.out
          · repeat (refine Fr.setNew ?_ (by rw [HBX.out]; exact Nat.le_refl _) _)
            exact HFb.out
        · go_wp2
          refine ⟨rfl, .inr ⟨?_, rfl, HFa.out.trans hF⟩⟩
          unfold constP
          simp only [HP1.out, p2, Option.bind_some, if_true, Option.map_none]
          rfl
      · have HC : Hid (constP L = none) := Hid.mk' (by
          unfold constP
          simp only [HP1.out, Option.bind_some]
          rw [if_neg h0, if_neg h1])
        obtain ⟨z, hz⟩ : ∃ z : Int, (n : Int) = z := ⟨_, rfl⟩
        have hz0 : (z == 0) = false := by simp; omega
        have hz1 : (z == 1) = false := by simp; omega
        simp only [hz]
        clear hz h0 h1
        go_wp2
        exact ⟨rfl, .inr ⟨HC.out, rfl, HFa.out⟩⟩
  · go_wp2
    refine ⟨rfl, .inr ⟨?_, rfl, HF0.out.trans hF⟩⟩
    unfold constP
    simp only [p1, Option.bind_none]
end Go.Proofs.YtkgjmiadgfcbnaaGreatDoor
