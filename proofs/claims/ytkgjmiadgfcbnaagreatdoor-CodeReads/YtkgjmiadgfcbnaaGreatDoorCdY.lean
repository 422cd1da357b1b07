/- The document's reader of modules: a function. -/
import Derived.Test.YtkgjmiadgfcbnaaGreatDoorCdX2
import Derived.Deep.Cut
import Derived.Deep.CutRange
namespace Go.Proofs.YtkgjmiadgfcbnaaGreatDoor
set_option linter.unusedVariables false
set_option linter.unusedSimpArgs false
open Go.RowKit

set_option maxHeartbeats 8000000 in
set_option maxRecDepth 100000 in
theorem rfn_any {rb g : Nat} {s : Option (List UInt8)} (w : World) (h : St w rb g s) (hs : Few s) :
    Calls Tryz.prog 14 #[.pointer (some ⟨rb, 0, none⟩)] w fun e w' => Rrs funP rb g (isFun (w.heap.size + 1)) s w e w' := by
  obtain ⟨W1, bx, hW1, hbx, hS1, hF1, hX, n1, n2⟩ := res_boxS h #[.string ⟨#[]⟩, .int .i64 0, .bool false, .bool false, .int .i64 0, .slice none 0 0, .slice none 0 0, .slice none 0 0, .slice none 0 0] 42
  have HN := Hid.mk' (rtext_any W1 hS1)
  have HF0 := Hid.mk' hF1
  have HX := Hid.mk' hX
  have HM := Hid.mk' (fun s' W (hR : St W rb g s') => rnum_any W hR)
  have HFL := Hid.mk' (fun s' W (hR : St W rb g s') => rflag_any W hR)
  have HBX := Hid.mk' hbx
  have HNE := Hid.mk' (And.intro n1 n2)
  have HS0 := Hid.mk' hs
  have HLT0 := Hid.mk' (And.intro h.lt h.glt)
  rw [hbx] at HLT0
  clear h hS1 hF1 hX n1 n2 hs
  go_enter Tryz.func14, Tryz.ntmps14
  go_wp2_with fail
  refine HN.out.mono ?_
  rintro e w1 ⟨x1, v1, s1, rfl, rfl, hA, hS, hF⟩
  have hlb : bx < w1.heap.size := (Array.getElem?_eq_some_iff.1 (hF.same bx _ HNE.out.1 HX.out)).1
  have HW1S := Hid.mk' hlb
  obtain ⟨X1, hX1⟩ : ∃ X1, w1.alloc (.cells #[.string x1, .int .i64 0, .bool false, .bool false, .int .i64 0, .slice none 0 0, .slice none 0 0, .slice none 0 0, .slice none 0 0] 42) = X1 := ⟨_, rfl⟩
  have b1 : Below w1.heap.size w1 X1 := by rw [← hX1]; exact lay_below
  have q1 : X1.heap[w1.heap.size]? = some (.cells #[.string x1, .int .i64 0, .bool false, .bool false, .int .i64 0, .slice none 0 0, .slice none 0 0, .slice none 0 0, .slice none 0 0] 42 (0, 0)) := by rw [← hX1]; exact box_new
  have HG1 : Hid (Fs w rb g bx w1.heap.size ⟨x1, 0, false, false, 0, [], [], [], []⟩ (.slice none 0 0) (.slice none 0 0) (.slice none 0 0) (.slice none 0 0) s1 X1) := Hid.mk' ⟨q1, (b1.block bx hlb).trans (hF.same bx _ HNE.out.1 HX.out), ⟨World.ownsRow_nil _ _ _ _, World.ownsRow_nil _ _ _ _, World.ownsRow_nil _ _ _ _, World.ownsRow_nil _ _ _ _⟩, hS.below b1, (HF0.out.trans hF).trans (Fr.of_below b1)⟩
  have HT1 := Hid.mk' ((Tc.start (L0 := s)).step (p := textP) (K' := rest1) fun_rest hA)
  have HW1 := Hid.mk' (HS0.out.step eats_text hA)
  have HN2 := Hid.mk' (HM.out s1 X1 HG1.out.st)
  have hlr : rb < w1.heap.size := hS.lt
  have hlg : g < w1.heap.size := hS.glt
  obtain ⟨bf, hbf⟩ : ∃ bf, w1.heap.size = bf := ⟨_, rfl⟩
  rw [hbf] at HG1 hlr hlg HW1S
  have HLT : Hid (rb < bf ∧ g < bf ∧ bx < bf ∧ w.heap.size ≤ bf) := Hid.mk' ⟨hlr, hlg, HW1S.out, by have := HBX.out; have := HW1S.out; omega⟩
  have HH1 := Hid.mk' hX1
  have HH2 := Hid.mk' hbf
  clear hA hS hF hlb b1 q1 hX1 hbf hlr hlg
  go_wp2_with fail
  simp only [HH1.out, HH2.out]
  refine HN2.out.mono ?_
  rintro e w2 ⟨x2, v2, s2, rfl, rfl, hA, hS, hF⟩
  have hG := HG1.out.read hF hS (by have := HLT.out; omega) HNE.out.1 (by have := HLT.out; omega)
  have HT2 := Hid.mk' (HT1.out.step (p := numP) (K' := rest2 x1) (fun R => rfl) hA)
  have HW2 := Hid.mk' (HW1.out.step eats_num hA)
  obtain ⟨c0, c1, c2, c3, c4, c5, c6, c7, c8, cf⟩ := hG.cells
  have HG2 := Hid.mk' (hG.put (f' := ⟨x1, x2, false, false, 0, [], [], [], []⟩) 1 (.int .i64 x2) rfl ⟨hG.rows.c, hG.rows.i, hG.rows.t, hG.rows.p⟩ HLT.out.1 HLT.out.2.1 HLT.out.2.2.1 HLT.out.2.2.2)
  obtain ⟨Y2, hY⟩ : ∃ Y, w2.setCell ⟨bf, 1, none⟩ (.int .i64 x2) = Y := ⟨_, rfl⟩
  rw [hY] at HG2
  have HN3 := Hid.mk' (HFL.out s2 Y2 HG2.out.st)
  clear hA hS hF hG
  go_wp2_with fail
  refine HN3.out.mono ?_
  rintro e w3 ⟨x3, v3, s3, rfl, rfl, hA, hS, hF⟩
  have hG := HG2.out.read hF hS (by have := HLT.out; omega) HNE.out.1 (by have := HLT.out; omega)
  have HT3 := Hid.mk' (HT2.out.step (p := flagP) (K' := rest3 x1 x2) (fun R => rfl) hA)
  have HW3 := Hid.mk' (HW2.out.step eats_flag hA)
  obtain ⟨c0, c1, c2, c3, c4, c5, c6, c7, c8, cf⟩ := hG.cells
  have HG3 := Hid.mk' (hG.put (f' := ⟨x1, x2, x3, false, 0, [], [], [], []⟩) 2 (.bool x3) rfl ⟨hG.rows.c, hG.rows.i, hG.rows.t, hG.rows.p⟩ HLT.out.1 HLT.out.2.1 HLT.out.2.2.1 HLT.out.2.2.2)
  obtain ⟨Y3, hY⟩ : ∃ Y, w3.setCell ⟨bf, 2, none⟩ (.bool x3) = Y := ⟨_, rfl⟩
  rw [hY] at HG3
  have HN4 := Hid.mk' (HFL.out s3 Y3 HG3.out.st)
  clear hA hS hF hG
  go_wp2_with fail
  refine HN4.out.mono ?_
  rintro e w4 ⟨x4, v4, s4, rfl, rfl, hA, hS, hF⟩
  have hG := HG3.out.read hF hS (by have := HLT.out; omega) HNE.out.1 (by have := HLT.out; omega)
  have HT4 := Hid.mk' (HT3.out.step (p := flagP) (K' := rest4 x1 x2 x3) (fun R => rfl) hA)
  have HW4 := Hid.mk' (HW3.out.step eats_flag hA)
  obtain ⟨c0, c1, c2, c3, c4, c5, c6, c7, c8, cf⟩ := hG.cells
  have HG4 := Hid.mk' (hG.put (f' := ⟨x1, x2, x3, x4, 0, [], [], [], []⟩) 3 (.bool x4) rfl ⟨hG.rows.c, hG.rows.i, hG.rows.t, hG.rows.p⟩ HLT.out.1 HLT.out.2.1 HLT.out.2.2.1 HLT.out.2.2.2)
  obtain ⟨Y4, hY⟩ : ∃ Y, w4.setCell ⟨bf, 3, none⟩ (.bool x4) = Y := ⟨_, rfl⟩
  rw [hY] at HG4
  have HN5 := Hid.mk' (HM.out s4 Y4 HG4.out.st)
  clear hA hS hF hG
  go_wp2_with fail
  refine HN5.out.mono ?_
  rintro e w5 ⟨x5, v5, s5, rfl, rfl, hA, hS, hF⟩
  have hG := HG4.out.read hF hS (by have := HLT.out; omega) HNE.out.1 (by have := HLT.out; omega)
  have HT5 := Hid.mk' (HT4.out.step (p := numP) (K' := (fun e => rest5 ⟨x1, x2, x3, x4, e, [], [], [], []⟩)) (fun R => rfl) hA)
  have HW5 := Hid.mk' (HW4.out.step eats_num hA)
  obtain ⟨c0, c1, c2, c3, c4, c5, c6, c7, c8, cf⟩ := hG.cells
  have HG5 := Hid.mk' (hG.put (f' := ⟨x1, x2, x3, x4, x5, [], [], [], []⟩) 4 (.int .i64 x5) rfl ⟨hG.rows.c, hG.rows.i, hG.rows.t, hG.rows.p⟩ HLT.out.1 HLT.out.2.1 HLT.out.2.2.1 HLT.out.2.2.2)
  obtain ⟨Y5, hY⟩ : ∃ Y, w5.setCell ⟨bf, 4, none⟩ (.int .i64 x5) = Y := ⟨_, rfl⟩
  rw [hY] at HG5
  clear hA hS hF hG
  obtain ⟨iV, hiV, hV0, hV1, hV2⟩ := info_parts infoV
  have HCV : Hid (∀ s' W, St W rb g s' → Calls Tryz.prog 34 #[.pointer (some ⟨rb, 0, none⟩)] W fun e w' => ∃ k1 k2 k3 k4 s'', e = .returned (.agg #[.int .i64 k1, .float .f64 k2, .string k3, .int .i64 k4]) ∧ After constP s' ⟨k1, k2, k3, k4⟩ s'' ∧ St w' rb g s'' ∧ Fr rb W w') := Hid.mk' (fun s' W hR => (rconstant_any W hR).mono (by
    rintro e w' ⟨⟨k1, k2, k3, k4⟩, v, s'', rfl, rfl, h1, h2, h3⟩
    exact ⟨k1, k2, k3, k4, s'', rfl, h1, h2, h3⟩))
  iterate 12 (first | go_values | go_skip | go_guarded | go_step | go_upon | go_back | go_simp)
  go_cut [] from 4 (fun wc => ∃ (cs : List Cst) (x : Value) (s' : Option (List UInt8)), Hid (Fs w rb g bx bf ⟨x1, x2, x3, x4, x5, cs, [], [], []⟩ x (.slice none 0 0) (.slice none 0 0) (.slice none 0 0) s' wc) ∧ Hid (Tc s s' (rest6 ⟨x1, x2, x3, x4, x5, cs, [], [], []⟩)) ∧ Hid (Few s'))
  case first =>
    have HN6 := Hid.mk' (HM.out s5 Y5 HG5.out.st)
    go_wp2_with fail
    refine HN6.out.mono ?_
    rintro e w6 ⟨x6, v6, s6, rfl, rfl, hA, hS, hF⟩
    have HG6 := Hid.mk' (HG5.out.read hF hS (by have := HLT.out; omega) HNE.out.1 (by have := HLT.out; omega))
    have HT6 := Hid.mk' (HT5.out.step (p := numP) (K' := fun n => loopK constP n [] (fun cs => rest6 ⟨x1, x2, x3, x4, x5, cs, [], [], []⟩)) (fun R => loopK_start constP (fun cs => rest6 ⟨x1, x2, x3, x4, x5, cs, [], [], []⟩) R) hA)
    have HW6 := Hid.mk' (HW5.out.step eats_num hA)
    have HB6 := Hid.mk' (Few.num hA)
    clear hA hS hF
    go_wp2
    go_loopw [4] (fun nv wr => ∃ (n : Nat) (cs : List Cst) (x : Value) (s' : Option (List UInt8)), nv = .int .i64 (n : Int) ∧ Hid (Fs w rb g bx bf ⟨x1, x2, x3, x4, x5, cs, [], [], []⟩ x (.slice none 0 0) (.slice none 0 0) (.slice none 0 0) s' wr) ∧ Hid (Tc s s' (loopK constP n cs (fun cs => rest6 ⟨x1, x2, x3, x4, x5, cs, [], [], []⟩))) ∧ Hid (∀ R, s' = some R → cs.length + R.length ≤ 5000 ∧ n < 9223372036854775808)) (fun nv wr => (intOf nv).toNat)
    case atStart => exact ⟨x6, [], .slice none 0 0, s6, rfl, HG6, HT6, Hid.mk' (fun R e => ⟨by have := HW6.out R e; simpa using this, HB6.out R e⟩)⟩
    case round =>
      obtain ⟨n, cs, x, s', rfl, HG, HT, HW⟩ := hrel
      obtain ⟨d1, df⟩ := HG.out.st.flag
      cases s' with
      | none =>
        simp only [Option.isSome_none] at d1
        go_wp2
        go_meet
        case rel => exact ⟨cs, x, none, HG, Hid.mk' HT.out.none, Hid.mk' (fun R e => by cases e)⟩
      | some R =>
        simp only [Option.isSome_some] at d1
        by_cases hn : n = 0
        · subst hn
          go_wp2
          go_meet
          case rel => exact ⟨cs, x, some R, HG, Hid.mk' (HT.out.same (fun R => loopK_zero _ _ _ R)), Hid.mk' (fun R' e => by have := (HW.out R' e).1; omega)⟩
        · obtain ⟨m, hm⟩ : ∃ m, n = m + 1 := ⟨n - 1, by omega⟩
          subst hm
          have hn63 : m + 1 < 9223372036854775808 := (HW.out R rfl).2
          have i0 : (0 : Int) < (m : Int) + 1 := by omega
          obtain ⟨c0, c1, c2, c3, c4, c5, c6, c7, c8, cf⟩ := HG.out.cells
          dsimp only at c0 c1 c2 c3 c4 c5
          have hfew := (HW.out R rfl).1
          obtain ⟨ax, cx, hx, _⟩ := own_slice' HG.out.rows.c
          dsimp only at hx
          subst hx
          have HSD := Hid.mk' (HG.out.st.below ((Below.refl _ _).drew))
          obtain ⟨nc, hnc⟩ : ∃ nc, cs.length = nc := ⟨_, rfl⟩
          have HOW := Hid.mk' HG.out.rows.c
          dsimp only at HOW
          simp only [hnc] at HG HOW c5 hfew
          have HNC := Hid.mk' hnc
          have hbr : bf ≠ rb := by have := HLT.out; omega
          have HNB := Hid.mk' (own_nb HOW.out (show bf < bf + 1 by omega))
          have HSZ := Hid.mk' (show bf + 1 ≤ wr.heap.size from (Array.getElem?_eq_some_iff.1 HG.out.fb).1)
          clear hnc hn
          go_wp2_with fail
          go_region_law (first
            | (refine stepCall rfl 34 (.tmp 39) 48 rfl (enters_of Tryz.func34 (by kernel_rfl) rfl) _ rfl (HCV.out _ _ HSD.out) ?_; rintro e w7 ⟨k1, k2, k3, k4, s7, rfl, hA7, hS7, hF7⟩; refine ⟨_, rfl, ?_⟩; have e5 := (drewFr hF7).cell hbr c5; have l5 : bf < w7.heap.size := World.block_lt_of_cell? w7 _ e5)
            | (refine step_append_own rfl (.tmp 38) (.tmp 41) 38 rfl (bf + 1) 83 iV (.agg #[.int .i64 0, .float .f64 0, .string ⟨#[]⟩, .int .i64 0]) 4 40 Tryz.underlying38 hiV hV0 hV1 hV2 rfl (by decide) _ _ _ rfl (World.ownsRow.alloc (own_fr HOW.out (drewFr hF7) (Nat.lt_succ_of_lt HLT.out.1)) _) _ 1 1 [.int .i64 k1, .float .f64 k2, .string k3, .int .i64 k4] rfl (by rfl) row_cells (by simp [Value.oneCell']) (by unfold maxLen; omega) (by omega) (by simp; have := HSZ.out; have := (drewFr hF7).size; omega) ?_; intro v9 w9 o9 g9; obtain ⟨a9, c9, hv9, _⟩ := own_slice' o9; subst hv9; have B9 := HG.out.stays (drewFr hF7) lay_below g9 HNB.out hbr; have z9 : w9.cell? ⟨bf, 5, none⟩ = some (.slice ax nc cx) := (cell_row _ bf 5 _ _ B9).trans rfl; have y9 := thaw_row _ _ _ _ B9))
          all_goals
            have HG7 := Hid.mk' (HG.out.appC (drewFr hF7) hS7 lay_below ⟨k1, k2, k3, k4⟩ g9 (by rw [show (⟨x1, x2, x3, x4, x5, cs, [], [], []⟩ : Fun).consts.length = nc from HNC.out]; exact o9) HLT.out.1 HLT.out.2.1 HLT.out.2.2.1 HLT.out.2.2.2 HNE.out.1)
            have HT7 := Hid.mk' (HT.out.step (p := constP) (K' := fun c => loopK constP m (cs ++ [c]) (fun cs => rest6 ⟨x1, x2, x3, x4, x5, cs, [], [], []⟩)) (fun R => loopK_step _ _ _ _ R) hA7)
            have HW7 := Hid.mk' (after_few (m := m) hA7 eats_const hfew hn63)
            clear hA7 hS7 hF7 g9 o9 B9 z9 y9 e5 l5 HSD HOW c0 c1 c2 c3 c4 c5 c6 c7 c8 cf d1 df
            obtain ⟨Y9, hY9⟩ : ∃ Y, w9.setCell ⟨bf, 5, none⟩ (.slice a9 (nc + 1) c9) = Y := ⟨_, rfl⟩
            rw [hY9] at HG7 ⊢
            clear hY9
            go_wp2_with fail
            refine ⟨⟨m, cs ++ [⟨k1, k2, k3, k4⟩], .slice a9 (nc + 1) c9, s7, rfl, ?_, ?_, ?_⟩, ?_⟩
            · exact HG7
            · exact HT7
            · rw [List.length_append, List.length_singleton, HNC.out]
              exact HW7
            · exact down_m m
  obtain ⟨cs, vx, s6, HG6, HT6, HW6⟩ := hcut
  obtain ⟨iI, hiI, hI0, hI1, hI2⟩ := info_parts infoI
  have HCI : Hid (∀ s' W, St W rb g s' → Calls Tryz.prog 35 #[.pointer (some ⟨rb, 0, none⟩)] W fun e w' => ∃ k1 k2 k3 k4 k5 s'', e = .returned (.agg #[.int .i64 k1, .int .i64 k2, .int .i64 k3, .int .i64 k4, .int .i64 k5]) ∧ After insP s' ⟨k1, k2, k3, k4, k5⟩ s'' ∧ St w' rb g s'' ∧ Fr rb W w') := Hid.mk' (fun s' W hR => (rins_any W hR).mono (by
    rintro e w' ⟨⟨k1, k2, k3, k4, k5⟩, v, s'', rfl, rfl, h1, h2, h3⟩
    exact ⟨k1, k2, k3, k4, k5, s'', rfl, h1, h2, h3⟩))
  iterate 2 (first | go_values | go_skip | go_guarded | go_step | go_upon | go_back | go_simp)
  go_cut [] from 4 (fun wc => ∃ (is : List Ins) (x : Value) (s' : Option (List UInt8)), Hid (Fs w rb g bx bf ⟨x1, x2, x3, x4, x5, cs, is, [], []⟩ vx x (.slice none 0 0) (.slice none 0 0) s' wc) ∧ Hid (Tc s s' (rest7 ⟨x1, x2, x3, x4, x5, cs, is, [], []⟩)) ∧ Hid (Few s'))
  case first =>
    have HNa := Hid.mk' (HM.out s6 wc HG6.out.st)
    go_wp2_with fail
    refine HNa.out.mono ?_
    rintro e wa ⟨xa, va, sa, rfl, rfl, hA, hS, hF⟩
    have HGa := Hid.mk' (HG6.out.read hF hS (by have := HLT.out; omega) HNE.out.1 (by have := HLT.out; omega))
    have HTa := Hid.mk' (HT6.out.step (p := numP) (K' := fun n => loopK insP n [] (fun is => rest7 ⟨x1, x2, x3, x4, x5, cs, is, [], []⟩)) (fun R => loopK_start insP (fun is => rest7 ⟨x1, x2, x3, x4, x5, cs, is, [], []⟩) R) hA)
    have HWa := Hid.mk' (HW6.out.step eats_num hA)
    have HBa := Hid.mk' (Few.num hA)
    clear hA hS hF
    go_wp2
    go_loopw [5] (fun nv wr => ∃ (n : Nat) (is : List Ins) (x : Value) (s' : Option (List UInt8)), nv = .int .i64 (n : Int) ∧ Hid (Fs w rb g bx bf ⟨x1, x2, x3, x4, x5, cs, is, [], []⟩ vx x (.slice none 0 0) (.slice none 0 0) s' wr) ∧ Hid (Tc s s' (loopK insP n is (fun is => rest7 ⟨x1, x2, x3, x4, x5, cs, is, [], []⟩))) ∧ Hid (∀ R, s' = some R → is.length + R.length ≤ 5000 ∧ n < 9223372036854775808)) (fun nv wr => (intOf nv).toNat)
    case atStart => exact ⟨xa, [], .slice none 0 0, sa, rfl, HGa, HTa, Hid.mk' (fun R e => ⟨by have := HWa.out R e; simpa using this, HBa.out R e⟩)⟩
    case round =>
      obtain ⟨n, is, x, s', rfl, HG, HT, HW⟩ := hrel
      obtain ⟨d1, df⟩ := HG.out.st.flag
      cases s' with
      | none =>
        simp only [Option.isSome_none] at d1
        go_wp2
        go_meet
        case rel => exact ⟨is, x, none, HG, Hid.mk' HT.out.none, Hid.mk' (fun R e => by cases e)⟩
      | some R =>
        simp only [Option.isSome_some] at d1
        by_cases hn : n = 0
        · subst hn
          go_wp2
          go_meet
          case rel => exact ⟨is, x, some R, HG, Hid.mk' (HT.out.same (fun R => loopK_zero _ _ _ R)), Hid.mk' (fun R' e => by have := (HW.out R' e).1; omega)⟩
        · obtain ⟨m, hm⟩ : ∃ m, n = m + 1 := ⟨n - 1, by omega⟩
          subst hm
          have hn63 : m + 1 < 9223372036854775808 := (HW.out R rfl).2
          have i0 : (0 : Int) < (m : Int) + 1 := by omega
          obtain ⟨c0, c1, c2, c3, c4, c5, c6, c7, c8, cf⟩ := HG.out.cells
          dsimp only at c0 c1 c2 c3 c4 c5 c6
          have hfew := (HW.out R rfl).1
          obtain ⟨ax, cx, hx, _⟩ := own_slice' HG.out.rows.i
          dsimp only at hx
          subst hx
          have HSD := Hid.mk' (HG.out.st.below ((Below.refl _ _).drew))
          obtain ⟨nc, hnc⟩ : ∃ nc, is.length = nc := ⟨_, rfl⟩
          have HOW := Hid.mk' HG.out.rows.i
          dsimp only at HOW
          simp only [hnc] at HG HOW c6 hfew
          have HNC := Hid.mk' hnc
          have hbr : bf ≠ rb := by have := HLT.out; omega
          have HNB := Hid.mk' (own_nb HOW.out (show bf < bf + 1 by omega))
          have HSZ := Hid.mk' (show bf + 1 ≤ wr.heap.size from (Array.getElem?_eq_some_iff.1 HG.out.fb).1)
          clear hnc hn
          go_wp2_with fail
          go_region_law (first
            | (refine stepCall rfl 35 (.tmp 58) 48 rfl (enters_of Tryz.func35 (by kernel_rfl) rfl) _ rfl (HCI.out _ _ HSD.out) ?_; rintro e w7 ⟨k1, k2, k3, k4, k5, s7, rfl, hA7, hS7, hF7⟩; refine ⟨_, rfl, ?_⟩; have e5 := (drewFr hF7).cell hbr c6; have l5 : bf < w7.heap.size := World.block_lt_of_cell? w7 _ e5)
            | (refine step_append_own rfl (.tmp 57) (.tmp 60) 36 rfl (bf + 1) 35 iI (.agg #[.int .i64 0, .int .i64 0, .int .i64 0, .int .i64 0, .int .i64 0]) 5 40 Tryz.underlying36 hiI hI0 hI1 hI2 rfl (by decide) _ _ _ rfl (World.ownsRow.alloc (own_fr HOW.out (drewFr hF7) (Nat.lt_succ_of_lt HLT.out.1)) _) _ 1 1 [.int .i64 k1, .int .i64 k2, .int .i64 k3, .int .i64 k4, .int .i64 k5] rfl (by rfl) row_cells (by simp [Value.oneCell']) (by unfold maxLen; omega) (by omega) (by simp; have := HSZ.out; have := (drewFr hF7).size; omega) ?_; intro v9 w9 o9 g9; obtain ⟨a9, c9, hv9, _⟩ := own_slice' o9; subst hv9; have B9 := HG.out.stays (drewFr hF7) lay_below g9 HNB.out hbr; have z9 : w9.cell? ⟨bf, 6, none⟩ = some (.slice ax nc cx) := (cell_row _ bf 6 _ _ B9).trans rfl; have y9 := thaw_row _ _ _ _ B9))
          all_goals
            have HG7 := Hid.mk' (HG.out.appI (drewFr hF7) hS7 lay_below ⟨k1, k2, k3, k4, k5⟩ g9 (by rw [show (⟨x1, x2, x3, x4, x5, cs, is, [], []⟩ : Fun).code.length = nc from HNC.out]; exact o9) HLT.out.1 HLT.out.2.1 HLT.out.2.2.1 HLT.out.2.2.2 HNE.out.1)
            have HT7 := Hid.mk' (HT.out.step (p := insP) (K' := fun c => loopK insP m (is ++ [c]) (fun is => rest7 ⟨x1, x2, x3, x4, x5, cs, is, [], []⟩)) (fun R => loopK_step _ _ _ _ R) hA7)
            have HW7 := Hid.mk' (after_few (m := m) hA7 eats_ins hfew hn63)
            clear hA7 hS7 hF7 g9 o9 B9 z9 y9 e5 l5 HSD HOW c0 c1 c2 c3 c4 c5 c6 c7 c8 cf d1 df
            obtain ⟨Y9, hY9⟩ : ∃ Y, w9.setCell ⟨bf, 6, none⟩ (.slice a9 (nc + 1) c9) = Y := ⟨_, rfl⟩
            rw [hY9] at HG7 ⊢
            clear hY9
            go_wp2_with fail
            refine ⟨⟨m, is ++ [⟨k1, k2, k3, k4, k5⟩], .slice a9 (nc + 1) c9, s7, rfl, ?_, ?_, ?_⟩, ?_⟩
            · exact HG7
            · exact HT7
            · rw [List.length_append, List.length_singleton, HNC.out]
              exact HW7
            · exact down_m m
  obtain ⟨is, vy, s7, HG7, HT7, HW7⟩ := hcut
  obtain ⟨iT, hiT, hT0, hT1, hT2⟩ := info_parts infoT
  iterate 2 (first | go_values | go_skip | go_guarded | go_step | go_upon | go_back | go_simp)
  go_cut [] from 4 (fun wc => ∃ (ts : List Tri) (x : Value) (s' : Option (List UInt8)), Hid (Fs w rb g bx bf ⟨x1, x2, x3, x4, x5, cs, is, ts, []⟩ vx vy x (.slice none 0 0) s' wc) ∧ Hid (Tc s s' (rest8 ⟨x1, x2, x3, x4, x5, cs, is, ts, []⟩)) ∧ Hid (Few s'))
  case first =>
    have HNa := Hid.mk' (HM.out s7 wc HG7.out.st)
    go_wp2_with fail
    refine HNa.out.mono ?_
    rintro e wa ⟨xa, va, sa, rfl, rfl, hA, hS, hF⟩
    have HGa := Hid.mk' (HG7.out.read hF hS (by have := HLT.out; omega) HNE.out.1 (by have := HLT.out; omega))
    have HTa := Hid.mk' (HT7.out.step (p := numP) (K' := fun n => loopK triP n [] (fun ts => rest8 ⟨x1, x2, x3, x4, x5, cs, is, ts, []⟩)) (fun R => loopK_start triP (fun ts => rest8 ⟨x1, x2, x3, x4, x5, cs, is, ts, []⟩) R) hA)
    have HWa := Hid.mk' (HW7.out.step eats_num hA)
    have HBa := Hid.mk' (Few.num hA)
    clear hA hS hF
    go_wp2
    go_loopw [6] (fun nv wr => ∃ (n : Nat) (ts : List Tri) (x : Value) (s' : Option (List UInt8)), nv = .int .i64 (n : Int) ∧ Hid (Fs w rb g bx bf ⟨x1, x2, x3, x4, x5, cs, is, ts, []⟩ vx vy x (.slice none 0 0) s' wr) ∧ Hid (Tc s s' (loopK triP n ts (fun ts => rest8 ⟨x1, x2, x3, x4, x5, cs, is, ts, []⟩))) ∧ Hid (∀ R, s' = some R → ts.length + R.length ≤ 5000 ∧ n < 9223372036854775808)) (fun nv wr => (intOf nv).toNat)
    case atStart => exact ⟨xa, [], .slice none 0 0, sa, rfl, HGa, HTa, Hid.mk' (fun R e => ⟨by have := HWa.out R e; simpa using this, HBa.out R e⟩)⟩
    case round =>
      obtain ⟨n, ts, x, s', rfl, HG, HT, HW⟩ := hrel
      obtain ⟨d1, df⟩ := HG.out.st.flag
      cases s' with
      | none =>
        simp only [Option.isSome_none] at d1
        go_wp2
        go_meet
        case rel => exact ⟨ts, x, none, HG, Hid.mk' HT.out.none, Hid.mk' (fun R e => by cases e)⟩
      | some R =>
        simp only [Option.isSome_some] at d1
        by_cases hn : n = 0
        · subst hn
          go_wp2
          go_meet
          case rel => exact ⟨ts, x, some R, HG, Hid.mk' (HT.out.same (fun R => loopK_zero _ _ _ R)), Hid.mk' (fun R' e => by have := (HW.out R' e).1; omega)⟩
        · obtain ⟨m, hm⟩ : ∃ m, n = m + 1 := ⟨n - 1, by omega⟩
          subst hm
          have hn63 : m + 1 < 9223372036854775808 := (HW.out R rfl).2
          have i0 : (0 : Int) < (m : Int) + 1 := by omega
          have hfew := (HW.out R rfl).1
          obtain ⟨ax, cx, hx, _⟩ := own_slice' HG.out.rows.t
          dsimp only at hx
          subst hx
          obtain ⟨nc, hnc⟩ : ∃ nc, ts.length = nc := ⟨_, rfl⟩
          have HOW := Hid.mk' HG.out.rows.t
          dsimp only at HOW
          simp only [hnc] at HG HOW hfew
          have HNC := Hid.mk' hnc
          have hbr : bf ≠ rb := by have := HLT.out; omega
          have HNB := Hid.mk' (own_nb HOW.out (show bf < bf + 1 by omega))
          have hsz : bf + 1 ≤ wr.heap.size := (Array.getElem?_eq_some_iff.1 HG.out.fb).1
          have HSZ := Hid.mk' hsz
          have HFB := Hid.mk' HG.out.fb
          have HK1 := Hid.mk' (HM.out _ wr HG.out.st)
          clear hnc hn hsz
          go_wp2_with fail
          refine HK1.out.mono ?_
          rintro e wA ⟨kA, vA, sA, rfl, rfl, hAA, hSA, hFA⟩
          have hsA : bf + 1 ≤ wA.heap.size := Nat.le_trans HSZ.out hFA.size
          obtain ⟨XA, hXA⟩ : ∃ XA, wA.alloc (.cells #[.int .i64 kA, .int .i64 0, .int .i64 0, .int .i64 0] 87) = XA := ⟨_, rfl⟩
          have bA : Below wA.heap.size wA XA := by rw [← hXA]; exact lay_below
          have qA : XA.heap[wA.heap.size]? = some (.cells #[.int .i64 kA, .int .i64 0, .int .i64 0, .int .i64 0] 87 (0, 0)) := by rw [← hXA]; exact box_new
          have HFX := Hid.mk' (hFA.trans (Fr.of_below bA))
          have HK2 := Hid.mk' (HM.out _ XA (hSA.below bA))
          have HQA := Hid.mk' qA
          have HAA := Hid.mk' hAA
          have HLB : Hid (bf < wA.heap.size ∧ wr.heap.size ≤ wA.heap.size) := Hid.mk' ⟨hsA, hFA.size⟩
          obtain ⟨bt, hbt⟩ : ∃ bt, wA.heap.size = bt := ⟨_, rfl⟩
          rw [hbt] at HQA HLB
          have HH1 := Hid.mk' hXA
          have HH2 := Hid.mk' hbt
          clear hAA hSA hFA hsA bA qA hXA hbt
          go_wp2_with fail
          simp only [HH1.out, HH2.out]
          refine HK2.out.mono ?_
          rintro e wB ⟨kB, vB, sB, rfl, rfl, hAB, hSB, hFB⟩
          have hQB := hFB.same bt _ (by have := HLB.out; have := HLT.out; omega) HQA.out
          have z1 := (cell_row _ bt 1 _ _ hQB).trans rfl
          have zf := thaw_row _ _ _ _ hQB
          have HQB : Hid ((wB.setCell ⟨bt, 1, none⟩ (.int .i64 kB)).heap[bt]? = some (.cells #[.int .i64 kA, .int .i64 kB, .int .i64 0, .int .i64 0] 87 (0, 0))) := Hid.mk' ((set_blk _ hQB).trans rfl)
          have HFXB := Hid.mk' (Fr.setNew (HFX.out.trans hFB) (k := bt) (o := 1) (by have := HLB.out; omega) (.int .i64 kB))
          have hSB2 := hSB.setNew (k := bt) (j := 1) (.int .i64 kB) (by have := HLB.out; have := HLT.out; omega) (by have := HLB.out; have := HLT.out; omega)
          obtain ⟨YB, hYB⟩ : ∃ Y, wB.setCell ⟨bt, 1, none⟩ (.int .i64 kB) = Y := ⟨_, rfl⟩
          rw [hYB] at HQB HFXB hSB2
          have HK3 := Hid.mk' (HM.out _ YB hSB2)
          have HAB := Hid.mk' hAB
          clear hAB hSB hFB hQB hSB2
          go_wp2_with fail
          refine HK3.out.mono ?_
          rintro e wC ⟨kC, vC, sC, rfl, rfl, hAC, hSC, hFC⟩
          have hQC := hFC.same bt _ (by have := HLB.out; have := HLT.out; omega) HQB.out
          have y1 := (cell_row _ bt 2 _ _ hQC).trans rfl
          have yf := thaw_row _ _ _ _ hQC
          have HQC : Hid ((wC.setCell ⟨bt, 2, none⟩ (.int .i64 kC)).heap[bt]? = some (.cells #[.int .i64 kA, .int .i64 kB, .int .i64 kC, .int .i64 0] 87 (0, 0))) := Hid.mk' ((set_blk _ hQC).trans rfl)
          have HFXC := Hid.mk' (Fr.setNew (HFXB.out.trans hFC) (k := bt) (o := 2) (by have := HLB.out; omega) (.int .i64 kC))
          have hSC2 := hSC.setNew (k := bt) (j := 2) (.int .i64 kC) (by have := HLB.out; have := HLT.out; omega) (by have := HLB.out; have := HLT.out; omega)
          obtain ⟨YC, hYC⟩ : ∃ Y, wC.setCell ⟨bt, 2, none⟩ (.int .i64 kC) = Y := ⟨_, rfl⟩
          rw [hYC] at HQC HFXC hSC2
          have HK4 := Hid.mk' (HM.out _ YC hSC2)
          have HAC := Hid.mk' hAC
          clear hAC hSC hFC hQC hSC2 z1 zf hYB
          go_wp2_with fail
          refine HK4.out.mono ?_
          rintro e wD ⟨kD, vD, sD, rfl, rfl, hAD, hSD, hFD⟩
          have hQD := hFD.same bt _ (by have := HLB.out; have := HLT.out; omega) HQC.out
          have HQD : Hid ((wD.setCell ⟨bt, 3, none⟩ (.int .i64 kD)).heap[bt]? = some (.cells #[.int .i64 kA, .int .i64 kB, .int .i64 kC, .int .i64 kD] 87 (0, 0))) := Hid.mk' ((set_blk _ hQD).trans rfl)
          have u1 := (cell_row _ bt 3 _ _ hQD).trans rfl
          have uf := thaw_row _ _ _ _ hQD
          have HFXD := Hid.mk' (Fr.setNew (HFXC.out.trans hFD) (k := bt) (o := 3) (by have := HLB.out; omega) (.int .i64 kD))
          have HSD := Hid.mk' (hSD.setNew (k := bt) (j := 3) (.int .i64 kD) (by have := HLB.out; have := HLT.out; omega) (by have := HLB.out; have := HLT.out; omega))
          obtain ⟨YD, hYD⟩ : ∃ Y, wD.setCell ⟨bt, 3, none⟩ (.int .i64 kD) = Y := ⟨_, rfl⟩
          rw [hYD] at HQD HFXD HSD
          have HAT := Hid.mk' (tri_after HAA.out HAB.out HAC.out hAD)
          have t0 := (cell_row _ bt 0 _ _ HQD.out).trans rfl
          have t1 := (cell_row _ bt 1 _ _ HQD.out).trans rfl
          have t2 := (cell_row _ bt 2 _ _ HQD.out).trans rfl
          have t3 := (cell_row _ bt 3 _ _ HQD.out).trans rfl
          have f7 : YD.cell? ⟨bf, 7, none⟩ = some (.slice ax nc cx) := (cell_row _ bf 7 _ _ (HFXD.out.same bf _ hbr HFB.out)).trans rfl
          obtain ⟨w8, hw8⟩ : ∃ w8, YD.alloc (.cells #[.int .i64 kA, .int .i64 kB, .int .i64 kC, .int .i64 kD] 87) = w8 := ⟨_, rfl⟩
          have hb8 : Below YD.heap.size YD w8 := by rw [← hw8]; exact lay_below
          have hC8 : ∀ (j : Nat) (u : Value), ([.int .i64 kA, .int .i64 kB, .int .i64 kC, .int .i64 kD] : List Value)[j]? = some u → w8.cell? (Addr.add ⟨YD.heap.size, 0, none⟩ j) = some u := by rw [← hw8]; exact row_cells
          have HC8 := Hid.mk' hC8
          have HB8 := Hid.mk' hb8
          have HO8 := Hid.mk' (own_below (own_fr HOW.out HFXD.out (Nat.lt_succ_of_lt HLT.out.1)) hb8)
          have HZ8 : Hid (bf + 1 ≤ w8.heap.size) := Hid.mk' (Nat.le_trans HSZ.out (Nat.le_trans HFXD.out.size hb8.size))
          obtain ⟨b8, hb8'⟩ : ∃ b8, YD.heap.size = b8 := ⟨_, rfl⟩
          rw [hb8'] at HC8
          clear hAD hSD hFD hQD y1 yf hYC hb8 hC8
          go_wp2_with (at_builtin; refine wpList_append_own_at _ rfl _ _ 39 rfl (bf + 1) 87 iT (.agg #[.int .i64 0, .int .i64 0, .int .i64 0, .int .i64 0]) 4 32 Tryz.underlying39 hiT hT0 hT1 hT2 rfl (by decide) _ _ _ rfl HO8.out ⟨b8, 0, none⟩ 1 1 [.int .i64 kA, .int .i64 kB, .int .i64 kC, .int .i64 kD] rfl rfl HC8.out ?c2 (by unfold maxLen; omega) (by omega) HZ8.out ?_)
          case c2 =>
            intro u hu
            simp only [List.mem_cons, List.not_mem_nil, or_false] at hu
            rcases hu with rfl | rfl | rfl | rfl <;> rfl
          intro v9 w9 o9 g9 _ _
          obtain ⟨a9, c9, hv9, _⟩ := own_slice' o9
          subst hv9
          have B9 := HG.out.stays HFXD.out HB8.out g9 HNB.out hbr
          have z9 : w9.cell? ⟨bf, 7, none⟩ = some (.slice ax nc cx) := (cell_row _ bf 7 _ _ B9).trans rfl
          have y9 := thaw_row _ _ _ _ B9
          have HG9 := Hid.mk' (HG.out.appT HFXD.out HSD.out HB8.out ⟨kA, kB, kC, kD⟩ g9 (by rw [show (⟨x1, x2, x3, x4, x5, cs, is, ts, []⟩ : Fun).tries.length = nc from HNC.out]; exact o9) HLT.out.1 HLT.out.2.1 HLT.out.2.2.1 HLT.out.2.2.2 HNE.out.1)
          have HT9 := Hid.mk' (HT.out.step (p := triP) (K' := fun c => loopK triP m (ts ++ [c]) (fun ts => rest8 ⟨x1, x2, x3, x4, x5, cs, is, ts, []⟩)) (fun R => loopK_step _ _ _ _ R) HAT.out)
          have HW9 := Hid.mk' (after_few (m := m) HAT.out eats_tri hfew hn63)
          clear g9 o9 B9
          go_wp2_with fail
          clear z9 y9 t0 t1 t2 t3 u1 uf f7 hw8 hb8' hYD d1 df
          obtain ⟨Y9, hY9⟩ : ∃ Y, w9.setCell ⟨bf, 7, none⟩ (.slice a9 (nc + 1) c9) = Y := ⟨_, rfl⟩
          rw [hY9] at HG9 ⊢
          clear hY9
          refine ⟨⟨m, ts ++ [⟨kA, kB, kC, kD⟩], .slice a9 (nc + 1) c9, sD, rfl, ?_, ?_, ?_⟩, ?_⟩
          · exact HG9
          · exact HT9
          · rw [List.length_append, List.length_singleton, HNC.out]
            exact HW9
          · exact down_m m
  obtain ⟨ts, vz, s8, HG8, HT8, HW8⟩ := hcut
  obtain ⟨iC, hiC, hC0, hC1, hC2⟩ := info_parts infoC
  iterate 2 (first | go_values | go_skip | go_guarded | go_step | go_upon | go_back | go_simp)
  go_cut [] from 4 (fun wc => ∃ (us : List Cap) (x : Value) (s' : Option (List UInt8)), Hid (Fs w rb g bx bf ⟨x1, x2, x3, x4, x5, cs, is, ts, us⟩ vx vy vz x s' wc) ∧ Hid (Tc s s' (fun R => some (⟨x1, x2, x3, x4, x5, cs, is, ts, us⟩, R))) ∧ Hid (Few s'))
  case first =>
    have HNa := Hid.mk' (HM.out s8 wc HG8.out.st)
    go_wp2_with fail
    refine HNa.out.mono ?_
    rintro e wa ⟨xa, va, sa, rfl, rfl, hA, hS, hF⟩
    have HGa := Hid.mk' (HG8.out.read hF hS (by have := HLT.out; omega) HNE.out.1 (by have := HLT.out; omega))
    have HTa := Hid.mk' (HT8.out.step (p := numP) (K' := fun n => loopK capP n [] (fun us R => some (⟨x1, x2, x3, x4, x5, cs, is, ts, us⟩, R))) (fun R => loopK_start capP (fun us R => some (⟨x1, x2, x3, x4, x5, cs, is, ts, us⟩, R)) R) hA)
    have HWa := Hid.mk' (HW8.out.step eats_num hA)
    have HBa := Hid.mk' (Few.num hA)
    clear hA hS hF
    go_wp2
    go_loopw [8] (fun nv wr => ∃ (n : Nat) (us : List Cap) (x : Value) (s' : Option (List UInt8)), nv = .int .i64 (n : Int) ∧ Hid (Fs w rb g bx bf ⟨x1, x2, x3, x4, x5, cs, is, ts, us⟩ vx vy vz x s' wr) ∧ Hid (Tc s s' (loopK capP n us (fun us R => some (⟨x1, x2, x3, x4, x5, cs, is, ts, us⟩, R)))) ∧ Hid (∀ R, s' = some R → us.length + R.length ≤ 5000 ∧ n < 9223372036854775808)) (fun nv wr => (intOf nv).toNat)
    case atStart => exact ⟨xa, [], .slice none 0 0, sa, rfl, HGa, HTa, Hid.mk' (fun R e => ⟨by have := HWa.out R e; simpa using this, HBa.out R e⟩)⟩
    case round =>
      obtain ⟨n, us, x, s', rfl, HG, HT, HW⟩ := hrel
      obtain ⟨d1, df⟩ := HG.out.st.flag
      cases s' with
      | none =>
        simp only [Option.isSome_none] at d1
        go_wp2
        go_meet
        case rel => exact ⟨us, x, none, HG, Hid.mk' HT.out.none, Hid.mk' (fun R e => by cases e)⟩
      | some R =>
        simp only [Option.isSome_some] at d1
        by_cases hn : n = 0
        · subst hn
          go_wp2
          go_meet
          case rel => exact ⟨us, x, some R, HG, Hid.mk' (HT.out.same (fun R => loopK_zero _ _ _ R)), Hid.mk' (fun R' e => by have := (HW.out R' e).1; omega)⟩
        · obtain ⟨m, hm⟩ : ∃ m, n = m + 1 := ⟨n - 1, by omega⟩
          subst hm
          have hn63 : m + 1 < 9223372036854775808 := (HW.out R rfl).2
          have i0 : (0 : Int) < (m : Int) + 1 := by omega
          have hfew := (HW.out R rfl).1
          obtain ⟨ax, cx, hx, _⟩ := own_slice' HG.out.rows.p
          dsimp only at hx
          subst hx
          obtain ⟨nc, hnc⟩ : ∃ nc, us.length = nc := ⟨_, rfl⟩
          have HOW := Hid.mk' HG.out.rows.p
          dsimp only at HOW
          simp only [hnc] at HG HOW hfew
          have HNC := Hid.mk' hnc
          have hbr : bf ≠ rb := by have := HLT.out; omega
          have HNB := Hid.mk' (own_nb HOW.out (show bf < bf + 1 by omega))
          have hsz : bf + 1 ≤ wr.heap.size := (Array.getElem?_eq_some_iff.1 HG.out.fb).1
          have HSZ := Hid.mk' hsz
          have HFB := Hid.mk' HG.out.fb
          have HK1 := Hid.mk' (HFL.out _ wr HG.out.st)
          clear hnc hn hsz
          go_wp2_with fail
          refine HK1.out.mono ?_
          rintro e wA ⟨kA, vA, sA, rfl, rfl, hAA, hSA, hFA⟩
          have hsA : bf + 1 ≤ wA.heap.size := Nat.le_trans HSZ.out hFA.size
          obtain ⟨XA, hXA⟩ : ∃ XA, wA.alloc (.cells #[.bool kA, .int .i64 0] 89) = XA := ⟨_, rfl⟩
          have bA : Below wA.heap.size wA XA := by rw [← hXA]; exact lay_below
          have qA : XA.heap[wA.heap.size]? = some (.cells #[.bool kA, .int .i64 0] 89 (0, 0)) := by rw [← hXA]; exact box_new
          have HFX := Hid.mk' (hFA.trans (Fr.of_below bA))
          have HK2 := Hid.mk' (HM.out _ XA (hSA.below bA))
          have HQA := Hid.mk' qA
          have HAA := Hid.mk' hAA
          have HLB : Hid (bf < wA.heap.size ∧ wr.heap.size ≤ wA.heap.size) := Hid.mk' ⟨hsA, hFA.size⟩
          obtain ⟨bt, hbt⟩ : ∃ bt, wA.heap.size = bt := ⟨_, rfl⟩
          rw [hbt] at HQA HLB
          have HH1 := Hid.mk' hXA
          have HH2 := Hid.mk' hbt
          clear hAA hSA hFA hsA bA qA hXA hbt
          go_wp2_with fail
          simp only [HH1.out, HH2.out]
          refine HK2.out.mono ?_
          rintro e wD ⟨kD, vD, sD, rfl, rfl, hAD, hSD, hFD⟩
          have hQD := hFD.same bt _ (by have := HLB.out; have := HLT.out; omega) HQA.out
          have HQD : Hid ((wD.setCell ⟨bt, 1, none⟩ (.int .i64 kD)).heap[bt]? = some (.cells #[.bool kA, .int .i64 kD] 89 (0, 0))) := Hid.mk' ((set_blk _ hQD).trans rfl)
          have u1 := (cell_row _ bt 1 _ _ hQD).trans rfl
          have uf := thaw_row _ _ _ _ hQD
          have HFXD := Hid.mk' (Fr.setNew (HFX.out.trans hFD) (k := bt) (o := 1) (by have := HLB.out; omega) (.int .i64 kD))
          have HSD := Hid.mk' (hSD.setNew (k := bt) (j := 1) (.int .i64 kD) (by have := HLB.out; have := HLT.out; omega) (by have := HLB.out; have := HLT.out; omega))
          obtain ⟨YD, hYD⟩ : ∃ Y, wD.setCell ⟨bt, 1, none⟩ (.int .i64 kD) = Y := ⟨_, rfl⟩
          rw [hYD] at HQD HFXD HSD
          have HAT := Hid.mk' (cap_after HAA.out hAD)
          have t0 := (cell_row _ bt 0 _ _ HQD.out).trans rfl
          have t1 := (cell_row _ bt 1 _ _ HQD.out).trans rfl
          have f7 : YD.cell? ⟨bf, 8, none⟩ = some (.slice ax nc cx) := (cell_row _ bf 8 _ _ (HFXD.out.same bf _ hbr HFB.out)).trans rfl
          obtain ⟨w8, hw8⟩ : ∃ w8, YD.alloc (.cells #[.bool kA, .int .i64 kD] 89) = w8 := ⟨_, rfl⟩
          have hb8 : Below YD.heap.size YD w8 := by rw [← hw8]; exact lay_below
          have hC8 : ∀ (j : Nat) (u : Value), ([.bool kA, .int .i64 kD] : List Value)[j]? = some u → w8.cell? (Addr.add ⟨YD.heap.size, 0, none⟩ j) = some u := by rw [← hw8]; exact row_cells
          have HC8 := Hid.mk' hC8
          have HB8 := Hid.mk' hb8
          have HO8 := Hid.mk' (own_below (own_fr HOW.out HFXD.out (Nat.lt_succ_of_lt HLT.out.1)) hb8)
          have HZ8 : Hid (bf + 1 ≤ w8.heap.size) := Hid.mk' (Nat.le_trans HSZ.out (Nat.le_trans HFXD.out.size hb8.size))
          obtain ⟨b8, hb8'⟩ : ∃ b8, YD.heap.size = b8 := ⟨_, rfl⟩
          rw [hb8'] at HC8
          clear hAD hSD hFD hQD hb8 hC8
          go_wp2_with (at_builtin; refine wpList_append_own_at _ rfl _ _ 40 rfl (bf + 1) 89 iC (.agg #[.bool false, .int .i64 0]) 2 16 Tryz.underlying40 hiC hC0 hC1 hC2 rfl (by decide) _ _ _ rfl HO8.out ⟨b8, 0, none⟩ 1 1 [.bool kA, .int .i64 kD] rfl rfl HC8.out ?c2 (by unfold maxLen; omega) (by omega) HZ8.out ?_)
          case c2 =>
            intro u hu
            simp only [List.mem_cons, List.not_mem_nil, or_false] at hu
            rcases hu with rfl | rfl <;> rfl
          intro v9 w9 o9 g9 _ _
          obtain ⟨a9, c9, hv9, _⟩ := own_slice' o9
          subst hv9
          have B9 := HG.out.stays HFXD.out HB8.out g9 HNB.out hbr
          have z9 : w9.cell? ⟨bf, 8, none⟩ = some (.slice ax nc cx) := (cell_row _ bf 8 _ _ B9).trans rfl
          have y9 := thaw_row _ _ _ _ B9
          have HG9 := Hid.mk' (HG.out.appP HFXD.out HSD.out HB8.out ⟨kA, kD⟩ g9 (by rw [show (⟨x1, x2, x3, x4, x5, cs, is, ts, us⟩ : Fun).caps.length = nc from HNC.out]; exact o9) HLT.out.1 HLT.out.2.1 HLT.out.2.2.1 HLT.out.2.2.2 HNE.out.1)
          have HT9 := Hid.mk' (HT.out.step (p := capP) (K' := fun c => loopK capP m (us ++ [c]) (fun us R => some (⟨x1, x2, x3, x4, x5, cs, is, ts, us⟩, R))) (fun R => loopK_step _ _ _ _ R) HAT.out)
          have HW9 := Hid.mk' (after_few (m := m) HAT.out eats_cap hfew hn63)
          clear g9 o9 B9
          go_wp2_with fail
          clear z9 y9 t0 t1 u1 uf f7 hw8 hb8' hYD d1 df
          obtain ⟨Y9, hY9⟩ : ∃ Y, w9.setCell ⟨bf, 8, none⟩ (.slice a9 (nc + 1) c9) = Y := ⟨_, rfl⟩
          rw [hY9] at HG9 ⊢
          clear hY9
          refine ⟨⟨m, us ++ [⟨kA, kD⟩], .slice a9 (nc + 1) c9, sD, rfl, ?_, ?_, ?_⟩, ?_⟩
          · exact HG9
          · exact HT9
          · rw [List.length_append, List.length_singleton, HNC.out]
            exact HW9
          · exact down_m m
  obtain ⟨us, vu, s9, HG9, HT9, HW9⟩ := hcut
  obtain ⟨c0, c1, c2, c3, c4, c5, c6, c7, c8, cf⟩ := HG9.out.cells
  dsimp only at c0 c1 c2 c3 c4
  have x0 := (cell_row _ bx 0 _ _ HG9.out.xb).trans rfl
  have r1 := (cell_row _ bx 1 _ _ HG9.out.xb).trans rfl
  have r2 := (cell_row _ bx 2 _ _ HG9.out.xb).trans rfl
  have r3 := (cell_row _ bx 3 _ _ HG9.out.xb).trans rfl
  have r4 := (cell_row _ bx 4 _ _ HG9.out.xb).trans rfl
  have r5 := (cell_row _ bx 5 _ _ HG9.out.xb).trans rfl
  have r6 := (cell_row _ bx 6 _ _ HG9.out.xb).trans rfl
  have r7 := (cell_row _ bx 7 _ _ HG9.out.xb).trans rfl
  have r8 := (cell_row _ bx 8 _ _ HG9.out.xb).trans rfl
  have rf := thaw_row _ _ _ _ HG9.out.xb
  obtain ⟨a6, d6, h6, _⟩ := own_slice' HG9.out.rows.c
  obtain ⟨a7, d7, h7, _⟩ := own_slice' HG9.out.rows.i
  obtain ⟨a8, d8, h8, _⟩ := own_slice' HG9.out.rows.t
  obtain ⟨a9, d9, h9, _⟩ := own_slice' HG9.out.rows.p
  dsimp only at h6 h7 h8 h9
  subst h6
  subst h7
  subst h8
  subst h9
  obtain ⟨n6, hn6⟩ : ∃ n6, cs.length = n6 := ⟨_, rfl⟩
  obtain ⟨n7, hn7⟩ : ∃ n7, is.length = n7 := ⟨_, rfl⟩
  obtain ⟨n8, hn8⟩ : ∃ n8, ts.length = n8 := ⟨_, rfl⟩
  obtain ⟨n9, hn9⟩ : ∃ n9, us.length = n9 := ⟨_, rfl⟩
  simp only [hn6, hn7, hn8, hn9] at HG9 c5 c6 c7 c8
  have hbne : bx ≠ bf := by have := HLT.out; omega
  clear hn6 hn7 hn8 hn9
  go_wp2
  refine bodyPost_ret (v := .agg (fcs ⟨x1, x2, x3, x4, x5, cs, is, ts, us⟩ (.slice a6 n6 d6) (.slice a7 n7 d7) (.slice a8 n8 d8) (.slice a9 n9 d9)).toArray) ?_ rfl ⟨⟨x1, x2, x3, x4, x5, cs, is, ts, us⟩, _, s9, rfl, ⟨_, _, _, _, rfl, ?_⟩, ?_, ?_, ?_⟩
  · rw [res_cell rfl]
    simp only [fcs]
    go_simp
  · refine Rows.setNew (Rows.setNew (Rows.setNew (Rows.setNew (Rows.setNew (Rows.setNew (Rows.setNew (Rows.setNew (Rows.setNew ?_ (Nat.lt_succ_self bx) _) (Nat.lt_succ_self bx) _) (Nat.lt_succ_self bx) _) (Nat.lt_succ_self bx) _) (Nat.lt_succ_self bx) _) (Nat.lt_succ_self bx) _) (Nat.lt_succ_self bx) _) (Nat.lt_succ_self bx) _) (Nat.lt_succ_self bx) _
    exact Rows.mono HG9.out.rows (by have := HLT.out; omega)
  · rcases HT9.out with ⟨q1, q2⟩ | ⟨R, q1, q2⟩
    · exact .inr ⟨q2, q1⟩
    · exact .inl ⟨R, q2, q1⟩
  · repeat (refine St.setNew ?_ _ (Ne.symm HNE.out.1) (Ne.symm HNE.out.2))
    exact HG9.out.st
  · repeat (refine Fr.setNew ?_ (by rw [HBX.out]; exact Nat.le_refl _) _)
    exact HG9.out.fr
end Go.Proofs.YtkgjmiadgfcbnaaGreatDoor
