/- Package code's reader: a function. -/
import Derived.Test.YtkgjmiadgfcbnaaGreatDoorCdG
namespace Go.Proofs.YtkgjmiadgfcbnaaGreatDoor
set_option linter.unusedVariables false
set_option linter.unusedSimpArgs false
open Go.RowKit

/-- A function's lists in memory. -/
structure Rows (W : World) (B : Nat) (f : Fun) (x y z u : Value) : Prop where
  c : W.ownsRow B 83 4 x f.consts.length (f.consts.flatMap Cst.cs)
  i : W.ownsRow B 35 5 y f.code.length (f.code.flatMap Ins.cs)
  t : W.ownsRow B 87 4 z f.tries.length (f.tries.flatMap Tri.cs)
  p : W.ownsRow B 89 2 u f.caps.length (f.caps.flatMap Cap.cs)
def fcs (f : Fun) (x y z u : Value) : List Value := [.string f.name, .int .i64 f.params, .bool f.rest, .bool f.arrow, .int .i64 f.regs, x, y, z, u]
def isFun (B : Nat) (W : World) (f : Fun) (v : Value) : Prop := ∃ x y z u, v = .agg (fcs f x y z u).toArray ∧ Rows W B f x y z u
theorem own_mono {B B' : Nat} {X : World} {e : TypeId} {sz : Nat} {v : Value} {n : Nat} {xs : List Value} (h : X.ownsRow B e sz v n xs) (hB : B' ≤ B) : X.ownsRow B' e sz v n xs := by
  refine ⟨h.1, ?_⟩
  rcases h.2 with hn | ⟨g, cap, cur, rfl, hB', hg, rest⟩
  · exact .inl hn
  · exact .inr ⟨g, cap, cur, rfl, Nat.le_trans hB hB', hg, rest⟩
theorem own_setNew {B k o : Nat} {X : World} {e : TypeId} {sz : Nat} {v : Value} {n : Nat} {xs : List Value} (h : X.ownsRow B e sz v n xs) (hk : k < B) (u : Value) : (X.setCell ⟨k, o, none⟩ u).ownsRow B e sz v n xs := by
  refine ⟨h.1, ?_⟩
  rcases h.2 with hn | ⟨g, cap, cur, rfl, hB, hg, rest⟩
  · exact .inl hn
  · exact .inr ⟨g, cap, cur, rfl, hB, (Below.heap_setCell _ _ _ _ (show g ≠ k by omega)).trans hg, rest⟩
theorem Rows.setNew {B k o : Nat} {X : World} {f : Fun} {x y z u : Value} (h : Rows X B f x y z u) (hk : k < B) (v : Value) : Rows (X.setCell ⟨k, o, none⟩ v) B f x y z u :=
  ⟨own_setNew h.c hk v, own_setNew h.i hk v, own_setNew h.t hk v, own_setNew h.p hk v⟩
theorem Rows.fr {B rb : Nat} {X Y : World} {f : Fun} {x y z u : Value} (h : Rows X B f x y z u) (hf : Fr rb X Y) (hr : rb < B) : Rows Y B f x y z u :=
  ⟨own_fr h.c hf hr, own_fr h.i hf hr, own_fr h.t hf hr, own_fr h.p hf hr⟩
set_option maxHeartbeats 4000000 in
set_option maxRecDepth 100000 in
theorem function_any {rb g : Nat} {L : List UInt8} (w : World) (h : Rc w rb g L) (hL : L.length ≤ 5000) (hl : LaidL w) (hr : 1 ≠ rb) :
    Calls Tryz.prog 31 #[.pointer (some ⟨rb, 0, none⟩)] w fun e w' => Rds funP rb g (isFun (w.heap.size + 1)) L w e w' := by
  have hmf : ∀ (fn : Fn) (first cap : Array Value) (w : World), (Instr.makeFunc fn first cap).run Tryz.prog w = .ok (.func fn first cap) w := fun _ _ _ _ => rfl
  have HRL := Hid.mk' hr
  have HL0 := Hid.mk' hl
  have HLT := Hid.mk' h.lt
  obtain ⟨W1, bx, hW1, hbx, hR1, hF1, hX, n1, n2⟩ := res_box h #[.string ⟨#[]⟩, .int .i64 0, .bool false, .bool false, .int .i64 0, .slice none 0 0, .slice none 0 0, .slice none 0 0, .slice none 0 0] 42
  have HX := Hid.mk' hX
  have HFa0 := Hid.mk' hF1
  have HFx0 := Hid.mk' (Fr.refl rb W1)
  have HBX := Hid.mk' hbx
  have HNE := Hid.mk' (And.intro n1 n2)
  have HZ1 : Hid (W1.heap.size = bx + 1) := Hid.mk' (by rw [← hW1, ← hbx]; simp)
  rw [hbx] at HLT ⊢
  have HM1 := Hid.mk' (fun L' W (hR : Rc W rb g L') => text_any W hR)
  have HM2 := Hid.mk' (fun L' W (hR : Rc W rb g L') => number_any W hR)
  have HM3 := Hid.mk' (fun L' W (hR : Rc W rb g L') => flag_any W hR)
  have HM4 := Hid.mk' (fun L' W (hR : Rc W rb g L') => flag_any W hR)
  have HM5 := Hid.mk' (fun L' W (hR : Rc W rb g L') => number_any W hR)
  have HM6 := Hid.mk' (fun L' W (hR : Rc W rb g L') (hL : L'.length ≤ 5000) (hl : LaidL W) => listV_any W hR hL hl HRL.out)
  have HM7 := Hid.mk' (fun L' W (hR : Rc W rb g L') (hL : L'.length ≤ 5000) (hl : LaidL W) => listI_any W hR hL hl HRL.out)
  have HM8 := Hid.mk' (fun L' W (hR : Rc W rb g L') (hL : L'.length ≤ 5000) (hl : LaidL W) => listT_any W hR hL hl HRL.out)
  have HM9 := Hid.mk' (fun L' W (hR : Rc W rb g L') (hL : L'.length ≤ 5000) (hl : LaidL W) => listC_any W hR hL hl HRL.out)
  have HN1 := Hid.mk' (HM1.out L W1 hR1)
  have HE0 := Hid.mk' hL
  clear h hR1 hF1 hX n1 n2 hl hr hL
  go_enter Tryz.func31, Tryz.ntmps31
  go_wp2_with fail
  refine HN1.out.mono ?_
  rintro e w1 (⟨x1, L1, v1, p1, rfl, rfl, hR, hF⟩ | ⟨p1, rfl, hF⟩)
  · have HFa1 := Hid.mk' (HFa0.out.trans hF)
    have HFx1 := Hid.mk' (HFx0.out.trans hF)
    have HFy := Hid.mk' hF
    have HE1 : Hid (L1.length ≤ 5000) := Hid.mk' (by have := eats_text _ _ _ p1; have := HE0.out; omega)
    have HP1 := Hid.mk' p1
    have HN2 := Hid.mk' (HM2.out L1 w1 hR)
    clear hR hF p1 HFy
    go_wp2_with fail
    refine HN2.out.mono ?_
    rintro e w2 (⟨x2, L2, v2, p2, rfl, rfl, hR, hF⟩ | ⟨p2, rfl, hF⟩)
    · have HFa2 := Hid.mk' (HFa1.out.trans hF)
      have HFx2 := Hid.mk' (HFx1.out.trans hF)
      have HFy := Hid.mk' hF
      have HE2 : Hid (L2.length ≤ 5000) := Hid.mk' (by have := eats_num _ _ _ p2; have := HE1.out; omega)
      have HP2 := Hid.mk' p2
      have HN3 := Hid.mk' (HM3.out L2 w2 hR)
      clear hR hF p2 HFy
      go_wp2_with fail
      refine HN3.out.mono ?_
      rintro e w3 (⟨x3, L3, v3, p3, rfl, rfl, hR, hF⟩ | ⟨p3, rfl, hF⟩)
      · have HFa3 := Hid.mk' (HFa2.out.trans hF)
        have HFx3 := Hid.mk' (HFx2.out.trans hF)
        have HFy := Hid.mk' hF
        have HE3 : Hid (L3.length ≤ 5000) := Hid.mk' (by have := eats_flag _ _ _ p3; have := HE2.out; omega)
        have HP3 := Hid.mk' p3
        have HN4 := Hid.mk' (HM4.out L3 w3 hR)
        clear hR hF p3 HFy
        go_wp2_with fail
        refine HN4.out.mono ?_
        rintro e w4 (⟨x4, L4, v4, p4, rfl, rfl, hR, hF⟩ | ⟨p4, rfl, hF⟩)
        · have HFa4 := Hid.mk' (HFa3.out.trans hF)
          have HFx4 := Hid.mk' (HFx3.out.trans hF)
          have HFy := Hid.mk' hF
          have HE4 : Hid (L4.length ≤ 5000) := Hid.mk' (by have := eats_flag _ _ _ p4; have := HE3.out; omega)
          have HP4 := Hid.mk' p4
          have HN5 := Hid.mk' (HM5.out L4 w4 hR)
          clear hR hF p4 HFy
          go_wp2_with fail
          refine HN5.out.mono ?_
          rintro e w5 (⟨x5, L5, v5, p5, rfl, rfl, hR, hF⟩ | ⟨p5, rfl, hF⟩)
          · have HFa5 := Hid.mk' (HFa4.out.trans hF)
            have HFx5 := Hid.mk' (HFx4.out.trans hF)
            have HFy := Hid.mk' hF
            have HE5 : Hid (L5.length ≤ 5000) := Hid.mk' (by have := eats_num _ _ _ p5; have := HE4.out; omega)
            have HP5 := Hid.mk' p5
            have HN6 := Hid.mk' (HM6.out L5 w5 hR HE5.out (HL0.out.fr HFa5.out HRL.out))
            clear hR hF p5 HFy
            go_wp2_with fail
            refine HN6.out.mono ?_
            rintro e w6 (⟨x6, L6, v6, p6, rfl, hO, hR, hF⟩ | ⟨p6, rfl, hF⟩)
            · have HFa6 := Hid.mk' (HFa5.out.trans hF)
              have HFx6 := Hid.mk' (HFx5.out.trans hF)
              have HFy := Hid.mk' hF
              have HE6 : Hid (L6.length ≤ 5000) := Hid.mk' (by have := lstP_len eats_const _ _ _ p6; have := HE5.out; omega)
              have HP6 := Hid.mk' p6
              have HO66 := Hid.mk' (own_mono (B' := bx + 1) hO (by have := HFx5.out.size; have := HZ1.out; omega))
              obtain ⟨a6, c6, rfl, _⟩ := own_slice' hO
              have HN7 := Hid.mk' (HM7.out L6 w6 hR HE6.out (HL0.out.fr HFa6.out HRL.out))
              clear hR hF p6 HFy hO
              go_wp2_with fail
              refine HN7.out.mono ?_
              rintro e w7 (⟨x7, L7, v7, p7, rfl, hO, hR, hF⟩ | ⟨p7, rfl, hF⟩)
              · have HFa7 := Hid.mk' (HFa6.out.trans hF)
                have HFx7 := Hid.mk' (HFx6.out.trans hF)
                have HFy := Hid.mk' hF
                have HE7 : Hid (L7.length ≤ 5000) := Hid.mk' (by have := lstP_len eats_ins _ _ _ p7; have := HE6.out; omega)
                have HP7 := Hid.mk' p7
                have HO67 := Hid.mk' (own_fr HO66.out hF (by have := HLT.out; omega))
                have HO77 := Hid.mk' (own_mono (B' := bx + 1) hO (by have := HFx6.out.size; have := HZ1.out; omega))
                obtain ⟨a7, c7, rfl, _⟩ := own_slice' hO
                have HN8 := Hid.mk' (HM8.out L7 w7 hR HE7.out (HL0.out.fr HFa7.out HRL.out))
                clear hR hF p7 HFy hO
                go_wp2_with fail
                refine HN8.out.mono ?_
                rintro e w8 (⟨x8, L8, v8, p8, rfl, hO, hR, hF⟩ | ⟨p8, rfl, hF⟩)
                · have HFa8 := Hid.mk' (HFa7.out.trans hF)
                  have HFx8 := Hid.mk' (HFx7.out.trans hF)
                  have HFy := Hid.mk' hF
                  have HE8 : Hid (L8.length ≤ 5000) := Hid.mk' (by have := lstP_len eats_tri _ _ _ p8; have := HE7.out; omega)
                  have HP8 := Hid.mk' p8
                  have HO68 := Hid.mk' (own_fr HO67.out hF (by have := HLT.out; omega))
                  have HO78 := Hid.mk' (own_fr HO77.out hF (by have := HLT.out; omega))
                  have HO88 := Hid.mk' (own_mono (B' := bx + 1) hO (by have := HFx7.out.size; have := HZ1.out; omega))
                  obtain ⟨a8, c8, rfl, _⟩ := own_slice' hO
                  have HN9 := Hid.mk' (HM9.out L8 w8 hR HE8.out (HL0.out.fr HFa8.out HRL.out))
                  clear hR hF p8 HFy hO
                  go_wp2_with fail
                  refine HN9.out.mono ?_
                  rintro e w9 (⟨x9, L9, v9, p9, rfl, hO, hR, hF⟩ | ⟨p9, rfl, hF⟩)
                  · have HFa9 := Hid.mk' (HFa8.out.trans hF)
                    have HFx9 := Hid.mk' (HFx8.out.trans hF)
                    have HFy := Hid.mk' hF
                    have HE9 : Hid (L9.length ≤ 5000) := Hid.mk' (by have := lstP_len eats_cap _ _ _ p9; have := HE8.out; omega)
                    have HP9 := Hid.mk' p9
                    have HO69 := Hid.mk' (own_fr HO68.out hF (by have := HLT.out; omega))
                    have HO79 := Hid.mk' (own_fr HO78.out hF (by have := HLT.out; omega))
                    have HO89 := Hid.mk' (own_fr HO88.out hF (by have := HLT.out; omega))
                    have HO99 := Hid.mk' (own_mono (B' := bx + 1) hO (by have := HFx8.out.size; have := HZ1.out; omega))
                    obtain ⟨a9, c9, rfl, _⟩ := own_slice' hO
                    have HR := Hid.mk' hR
                    obtain ⟨y1, y2⟩ := HFx9.out.box HNE.out.1 HX.out
                    have z0 := y1 0 _ rfl
                    have z1 := y1 1 _ rfl
                    have z2 := y1 2 _ rfl
                    have z3 := y1 3 _ rfl
                    have z4 := y1 4 _ rfl
                    have z5 := y1 5 _ rfl
                    have z6 := y1 6 _ rfl
                    have z7 := y1 7 _ rfl
                    have z8 := y1 8 _ rfl
                    clear hR hF p9 HFy hO y1
                    go_wp2
                    refine bodyPost_ret (v := .agg (fcs ⟨x1, x2, x3, x4, x5, x6, x7, x8, x9⟩ (.slice a6 x6.length c6) (.slice a7 x7.length c7) (.slice a8 x8.length c8) (.slice a9 x9.length c9)).toArray) ?_ rfl (.inl ⟨⟨x1, x2, x3, x4, x5, x6, x7, x8, x9⟩, L9, _, ?_, rfl, ⟨_, _, _, _, rfl, ?_⟩, ?_, ?_⟩)
                    · rw [res_cell rfl]
                      simp only [fcs]
                      go_simp
                    · unfold funP
                      simp only [HP1.out, HP2.out, HP3.out, HP4.out, HP5.out, HP6.out, HP7.out, HP8.out, HP9.out, Option.bind_some, Option.map_some]
                    · repeat (refine Rows.setNew ?_ (by omega) _)
                      exact ⟨HO69.out, HO79.out, HO89.out, HO99.out⟩
                    · repeat (refine Rc.setNew ?_ _ (Ne.symm HNE.out.1) (Ne.symm HNE.out.2))
                      exact HR.out
                    · repeat (refine Fr.setNew ?_ (by rw [HBX.out]; exact Nat.le_refl _) _)
                      exact HFa9.out
                  · go_wp2
                    refine ⟨rfl, .inr ⟨?_, rfl, HFa8.out.trans hF⟩⟩
                    unfold funP
                    simp only [HP1.out, HP2.out, HP3.out, HP4.out, HP5.out, HP6.out, HP7.out, HP8.out, p9, Option.bind_some, Option.bind_none, Option.map_none]
                · go_wp2
                  refine ⟨rfl, .inr ⟨?_, rfl, HFa7.out.trans hF⟩⟩
                  unfold funP
                  simp only [HP1.out, HP2.out, HP3.out, HP4.out, HP5.out, HP6.out, HP7.out, p8, Option.bind_some, Option.bind_none, Option.map_none]
              · go_wp2
                refine ⟨rfl, .inr ⟨?_, rfl, HFa6.out.trans hF⟩⟩
                unfold funP
                simp only [HP1.out, HP2.out, HP3.out, HP4.out, HP5.out, HP6.out, p7, Option.bind_some, Option.bind_none, Option.map_none]
            · go_wp2
              refine ⟨rfl, .inr ⟨?_, rfl, HFa5.out.trans hF⟩⟩
              unfold funP
              simp only [HP1.out, HP2.out, HP3.out, HP4.out, HP5.out, p6, Option.bind_some, Option.bind_none, Option.map_none]
          · go_wp2
            refine ⟨rfl, .inr ⟨?_, rfl, HFa4.out.trans hF⟩⟩
            unfold funP
            simp only [HP1.out, HP2.out, HP3.out, HP4.out, p5, Option.bind_some, Option.bind_none, Option.map_none]
        · go_wp2
          refine ⟨rfl, .inr ⟨?_, rfl, HFa3.out.trans hF⟩⟩
          unfold funP
          simp only [HP1.out, HP2.out, HP3.out, p4, Option.bind_some, Option.bind_none, Option.map_none]
      · go_wp2
        refine ⟨rfl, .inr ⟨?_, rfl, HFa2.out.trans hF⟩⟩
        unfold funP
        simp only [HP1.out, HP2.out, p3, Option.bind_some, Option.bind_none, Option.map_none]
    · go_wp2
      refine ⟨rfl, .inr ⟨?_, rfl, HFa1.out.trans hF⟩⟩
      unfold funP
      simp only [HP1.out, p2, Option.bind_some, Option.bind_none, Option.map_none]
  · go_wp2
    refine ⟨rfl, .inr ⟨?_, rfl, HFa0.out.trans hF⟩⟩
    unfold funP
    simp only [p1, Option.bind_some, Option.bind_none, Option.map_none]
end Go.Proofs.YtkgjmiadgfcbnaaGreatDoor
