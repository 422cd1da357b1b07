/- ShapeShares: the law's walk. -/
import Derived.Test.YtepkdeckmekphaaShU
namespace Go.Proofs.Ytepkdeckmekphaa
set_option linter.unusedVariables false
set_option linter.unusedSimpArgs false
open Go.RowKit Go.Maps Go.ChangeShapes

theorem sh_info64 : (Try.prog.info? 3).map (fun i => (i.zero, i.size, i.bytes)) = some (some (.int .i64 0), 1, 8) := by kernel_rfl
set_option maxHeartbeats 8000000 in
set_option maxRecDepth 100000 in
theorem shares_all (a : Option Addr) (c : Nat) (l : List OpR) (w : World) (hr : RdE OpR.cs 6 w a c l) (hok : ∀ o ∈ l, o.ok) :
    Calls Try.prog 5 #[.slice a l.length c] w fun e w' => e = .returned (.bool true) ∧ Below w.heap.size w w' := by
  obtain ⟨i0, hif, hz0, hz1, hz2⟩ := sh_parts sh_info64
  have hle := hr.le
  have hcl : c * (6 * 8) ≤ 140737488351232 := hr.cle
  have HR : Hid (∀ W, Below w.heap.size w W → RdE OpR.cs 6 W a c l) := Hid.mk' (fun W hW => hr.below hW)
  have HFW : Hid (∀ W, Below w.heap.size w W → Calls Try.prog 8 #[.slice a l.length c] W fun e w' => ∃ b, e = .returned (.bool b) ∧ Below W.heap.size W w') := Hid.mk' (fun W hW => sfew_any a c l W (hr.below hW))
  have HOK := Hid.mk' hok
  obtain ⟨N, hN⟩ : ∃ N, l.length = N := ⟨_, rfl⟩
  have HN := Hid.mk' hN
  rw [hN] at hle HFW ⊢
  have HCW := Hid.mk' (chn_cw l hok)
  have HAW := Hid.mk' (awake14 w)
  have HNN : Hid (N * 48 ≤ 140737488351232) := Hid.mk' (by omega)
  clear hr hok hN hle hcl
  go_enter Try.func5, Try.ntmps5
  go_wp2_with fail
  refine HAW.out.mono ?_
  rintro e w1 ⟨rfl, b1⟩
  have HB1 := Hid.mk' b1
  clear b1
  go_wp2_with fail
  refine (HFW.out _ HB1.out).mono ?_
  rintro e w2 ⟨bb, rfl, b2⟩
  have HB2 := Hid.mk' (HB1.out.trans (b2.mono HB1.out.size))
  clear b2
  cases bb with
  | false =>
    go_wp2
    go_ret
    exact ⟨rfl, HB2.out⟩
  | true =>
  go_wp2_with fail
  refine (ps_new w w2 HB2.out).mono ?_
  rintro e w3 ⟨g, rfl, hP3⟩
  have HP3 := Hid.mk' hP3
  obtain ⟨B, hB⟩ : ∃ B, w2.heap.size = B := ⟨_, rfl⟩
  rw [hB] at HP3
  clear hP3 hB
  go_wp2_with fail
  go_loopw [4, 5] (fun v4 v5 wr => ∃ (T : Nat) (vp : Value), vp = v4 ∧ v5 = .int .i64 (T : Int) ∧ T ≤ 2 ∧ Hid ((T = 0 ∧ PS w B g vp [] [] wr) ∨ (1 ≤ T ∧ PS w B g vp (pth l N) (chn l) wr))) (fun v4 v5 wr => 2 - (intOf v5).toNat)
  case atStart => exact ⟨0, _, rfl, rfl, by omega, Hid.mk' (.inl ⟨rfl, HP3.out⟩)⟩
  case round =>
    obtain ⟨T, vp, rfl, rfl, hT, HPT⟩ := hrel
    obtain rfl | rfl | rfl : T = 0 ∨ T = 1 ∨ T = 2 := by omega
    · -- the first turn
      have HP0 : Hid (PS w B g vp (pth l 0) (chn (l.take 0)) wr) := Hid.mk' (by
        rcases HPT.out with ⟨_, h⟩ | ⟨h, _⟩
        · exact h
        · omega)
      clear HPT hT
      go_wp2_with fail
      go_loopw [4, 6, 30] (fun v4 v6 v30 wr => ∃ (i : Nat) (vp : Value), vp = v4 ∧ v30 = .int .i64 (i : Int) ∧ i ≤ N ∧ v6 = .int .i64 ((chn (l.take i)).length : Int) ∧ Hid (PS w B g vp (pth l i) (chn (l.take i)) wr)) (fun v4 v6 v30 wr => N - (intOf v30).toNat)
      case atStart => exact ⟨0, _, rfl, rfl, Nat.zero_le _, rfl, HP0⟩
      case round =>
        obtain ⟨i, vp, rfl, rfl, hi, rfl, HPI⟩ := hrel
        by_cases hlt : i < N
        · have hlq : i < l.length := by rw [HN.out]; exact hlt
          obtain ⟨gl, ol, rfl, hgl, hc⟩ := (HR.out wr HPI.out.bl).at i hlq
          have i1 : (i : Int) < (N : Int) := by omega
          have i2 : (i : Int) < 140737488351232 := by have := HNN.out; omega
          have HSN := Hid.mk' (pth_snoc l i hlq)
          have HCS := Hid.mk' (chn_snoc l i hlq)
          have hoq := HOK.out _ (List.getElem_mem hlq)
          have HAD := Hid.mk' (fun (W : World) (hW : Below wr.heap.size wr W) => (HPI.out.below hW).add l[i] (chn_cw _ (fun o ho => HOK.out o (List.mem_of_mem_take ho))) hoq (List.prefix_refl _) (.inl ⟨rfl, rfl⟩))
          generalize l[i] = q at hc HSN HCS HAD hoq
          obtain ⟨kd, si, s, z, f, cc⟩ := q
          simp only [OpR.cs] at hc
          dsimp only at HAD
          have d0 := hc 0 (.int .i64 kd) (by omega) rfl
          have d1 := hc 1 (.int .i64 si) (by omega) rfl
          have d2 := hc 2 (.string s) (by omega) rfl
          have d3 := hc 3 (.int .i64 z) (by omega) rfl
          have d4 := hc 4 (.int .i64 f) (by omega) rfl
          have d5 := hc 5 (.int .i64 cc) (by omega) rfl
          simp only [Nat.add_zero] at d0
          have HAD2 := Hid.mk' (HAD.out (wr.alloc (.cells #[.int .i64 kd, .int .i64 si, .string s, .int .i64 z, .int .i64 f, .int .i64 cc] 33)) sh_lay)
          have HLT := Hid.mk' hlt
          obtain ⟨kn, hkn⟩ : ∃ kn, (chn (l.take i)).length = kn := ⟨_, rfl⟩
          obtain ⟨sn, hsn⟩ : ∃ sn, (stp (chn (l.take i)) ⟨kd, si, s, z, f, cc⟩).length = sn := ⟨_, rfl⟩
          rw [hkn, hsn] at HAD2
          rw [hkn]
          rw [hsn] at HSN
          have HSS := Hid.mk' hsn
          clear hc hi hlt hlq hgl hoq HAD hkn hsn
          go_wp2_with fail
          refine HAD2.out.mono ?_
          rintro e w5 ⟨x, er, rfl, hx, hP5⟩
          have HP5 := Hid.mk' hP5
          clear hP5 d0 d1 d2 d3 d4 d5
          have HAP : Hid (∀ v' w', (w5.alloc (.cells #[.int .i64 (sn : Int)] 3)).grownBy w' vp.ownBlock → w'.ownsRow B 3 1 v' (i + 1) (iRow (pth l i) ++ [.int .i64 (sn : Int)]) → (v'.ownBlock = vp.ownBlock ∨ v'.ownBlock = some (w5.heap.size + 1)) → PS w B g v' (pth l (i + 1)) (chn (l.take (i + 1))) w') := Hid.mk' (fun v' w' h1 h2 h3 => by
            rw [HSN.out, HCS.out]
            exact (HP5.out.below sh_lay).app h1 (by rw [pth_len]; exact h2) (by simpa using h3))
          have HRW : Hid ((w5.alloc (.cells #[.int .i64 (sn : Int)] 3)).ownsRow B 3 1 vp i (iRow (pth l i))) := Hid.mk' (by have := (HP5.out.below (wr' := w5.alloc (.cells #[.int .i64 (sn : Int)] 3)) sh_lay).row; rwa [pth_len] at this)
          have HBZ : Hid (B ≤ (w5.alloc (.cells #[.int .i64 (sn : Int)] 3)).heap.size) := Hid.mk' (HP5.out.below sh_lay).base
          rcases hx with ⟨rfl, rfl⟩ | ⟨her0, hks⟩
          · go_wp2_with (at_builtin; refine wpList_append_own_at _ rfl _ _ 48 rfl B 3 i0 (.int .i64 0) 1 8 Try.underlying48 hif hz0 hz1 hz2 rfl (by decide) _ _ _ rfl HRW.out ⟨w5.heap.size, 0, none⟩ 1 1 [.int .i64 (sn : Int)] rfl rfl (cell_one_new _ _ _) (by simp [Value.oneCell']) (by have := HNN.out; have := HLT.out; unfold maxLen; omega) (by have := HNN.out; have := HLT.out; omega) HBZ.out ?_)
            intro v' w6 ho6 hg6 _ hat
            have HP6 := Hid.mk' (HAP.out v' w6 hg6 ho6 hat)
            clear ho6 hg6 hat
            go_wp2
            refine ⟨?_, ?measure⟩
            iterate 39 (apply Exists.intro)
            refine ⟨?rel, rfl⟩
            case rel => exact ⟨i + 1, _, rfl, by go_num, HLT.out, by rw [HCS.out, HSS.out], HP6⟩
            case measure => exact sh_meas N i HLT.out
          · obtain rfl : kn = sn := by omega
            have her : (er != 0) = true := by simpa using her0
            clear hks her0
            go_wp2_with (at_builtin; refine wpList_append_own_at _ rfl _ _ 48 rfl B 3 i0 (.int .i64 0) 1 8 Try.underlying48 hif hz0 hz1 hz2 rfl (by decide) _ _ _ rfl HRW.out ⟨w5.heap.size, 0, none⟩ 1 1 [.int .i64 (kn : Int)] rfl rfl (cell_one_new _ _ _) (by simp [Value.oneCell']) (by have := HNN.out; have := HLT.out; unfold maxLen; omega) (by have := HNN.out; have := HLT.out; omega) HBZ.out ?_)
            intro v' w6 ho6 hg6 _ hat
            have HP6 := Hid.mk' (HAP.out v' w6 hg6 ho6 hat)
            clear ho6 hg6 hat
            go_wp2
            refine ⟨?_, ?measure⟩
            iterate 39 (apply Exists.intro)
            refine ⟨?rel, rfl⟩
            case rel => exact ⟨i + 1, _, rfl, by go_num, HLT.out, by rw [HCS.out, HSS.out], HP6⟩
            case measure => exact sh_meas N i HLT.out
        · have i1 : ¬ (i : Int) < (N : Int) := by omega
          obtain rfl : i = N := by omega
          have HPF : Hid (PS w B g vp (pth l i) (chn l) wr) := Hid.mk' (by have h := HPI.out; rwa [List.take_of_length_le (by rw [HN.out]; exact Nat.le_refl _)] at h)
          clear hlt hi HPI
          go_wp2
          go_roundw
          case rel => exact ⟨1, _, rfl, rfl, by omega, Hid.mk' (.inr ⟨by omega, HPF.out⟩)⟩
          case measure => decide
    · -- the second turn
      have HP0 : Hid (PS w B g vp (pth l N) (chn l) wr) := Hid.mk' (by
        rcases HPT.out with ⟨h, _⟩ | ⟨_, h⟩
        · omega
        · exact h)
      clear HPT hT
      go_wp2_with fail
      go_loopw [4, 6, 30] (fun v4 v6 v30 wr => ∃ i : Nat, vp = v4 ∧ v30 = .int .i64 (i : Int) ∧ i ≤ N ∧ v6 = .int .i64 ((chn (l.take i)).length : Int) ∧ Hid (PS w B g vp (pth l N) (chn l) wr)) (fun v4 v6 v30 wr => N - (intOf v30).toNat)
      case atStart => exact ⟨0, rfl, rfl, Nat.zero_le _, rfl, HP0⟩
      case round =>
        obtain ⟨i, rfl, rfl, hi, rfl, HPI⟩ := hrel
        by_cases hlt : i < N
        · have hlq : i < l.length := by rw [HN.out]; exact hlt
          obtain ⟨gl, ol, rfl, hgl, hc⟩ := (HR.out _ HPI.out.bl).at i hlq
          have i1 : (i : Int) < (N : Int) := by omega
          have i2 : (i : Int) < 140737488351232 := by have := HNN.out; omega
          have HCS := Hid.mk' (chn_snoc l i hlq)
          have hoq := HOK.out _ (List.getElem_mem hlq)
          have hpre : stp (chn (l.take i)) l[i] <+: chn l := by rw [← HCS.out]; exact chn_take l (i + 1)
          have hadd := fun (W : World) (hP : PS w B g vp (pth l N) (chn l) W) => hP.add (K := chn (l.take i)) l[i] HCW.out hoq (chn_take l i) (.inr ⟨hpre, rfl⟩)
          have HAD := Hid.mk' hadd
          have HAT : Hid ((pth l N)[i]? = some (stp (chn (l.take i)) l[i]).length) := Hid.mk' (by rw [← HCS.out]; exact pth_at l N i hlt)
          clear hadd hpre
          generalize l[i] = q at hc HCS HAD hoq HAT
          obtain ⟨kd, si, s, z, f, cc⟩ := q
          simp only [OpR.cs] at hc
          dsimp only at HAD
          have d0 := hc 0 (.int .i64 kd) (by omega) rfl
          have d1 := hc 1 (.int .i64 si) (by omega) rfl
          have d2 := hc 2 (.string s) (by omega) rfl
          have d3 := hc 3 (.int .i64 z) (by omega) rfl
          have d4 := hc 4 (.int .i64 f) (by omega) rfl
          have d5 := hc 5 (.int .i64 cc) (by omega) rfl
          simp only [Nat.add_zero] at d0
          obtain ⟨wr1, hwr1⟩ : ∃ wr1, wr1 = wr := ⟨_, rfl⟩
          have HLT := Hid.mk' hlt
          obtain ⟨kn, hkn⟩ : ∃ kn, (chn (l.take i)).length = kn := ⟨_, rfl⟩
          obtain ⟨sn, hsn⟩ : ∃ sn, (stp (chn (l.take i)) ⟨kd, si, s, z, f, cc⟩).length = sn := ⟨_, rfl⟩
          rw [hkn, hsn] at HAD
          rw [hkn]
          rw [hsn] at HAT
          have HSS := Hid.mk' hsn
          have HIW := Hid.mk' (fun (W : World) (hP : PS w B g vp (pth l N) (chn l) W) => hP.at i sn HAT.out)
          rw [pth_len] at HIW
          have HPB := Hid.mk' (fun (ob : Obj) => HPI.out.below (sh_lay (ob := ob)))
          clear hc hi hlt hlq hgl hoq hkn hsn hwr1 HAT
          go_wp2_with fail
          refine (HAD.out _ (HPB.out _)).mono ?_
          rintro e w5 ⟨x, er, rfl, hx, hP5⟩
          have HP5 := Hid.mk' hP5
          obtain ⟨gb, cv, hv4, hcb⟩ := HIW.out w5 hP5
          subst hv4
          clear hP5 d0 d1 d2 d3 d4 d5
          rcases hx with ⟨rfl, rfl⟩ | ⟨her0, hks⟩
          · go_wp2
            refine ⟨?_, ?measure⟩
            iterate 39 (apply Exists.intro)
            refine ⟨?rel, rfl⟩
            case rel => exact ⟨i + 1, rfl, by go_num, HLT.out, by rw [HCS.out, HSS.out], HP5⟩
            case measure => exact sh_meas N i HLT.out
          · obtain rfl : kn = sn := by omega
            have her : (er != 0) = true := by simpa using her0
            clear hks her0
            go_wp2
            refine ⟨?_, ?measure⟩
            iterate 39 (apply Exists.intro)
            refine ⟨?rel, rfl⟩
            case rel => exact ⟨i + 1, rfl, by go_num, HLT.out, by rw [HCS.out, HSS.out], HP5⟩
            case measure => exact sh_meas N i HLT.out
        · have i1 : ¬ (i : Int) < (N : Int) := by omega
          clear hlt hi
          go_wp2
          go_roundw
          case rel => exact ⟨2, _, rfl, rfl, by omega, Hid.mk' (.inr ⟨by omega, HPI.out⟩)⟩
          case measure => decide
    · -- behind both
      have HP0 : Hid (PS w B g vp (pth l N) (chn l) wr) := Hid.mk' (by
        rcases HPT.out with ⟨h, _⟩ | ⟨_, h⟩
        · omega
        · exact h)
      clear HPT hT
      have HLN := Hid.mk' HP0.out.len
      have HVP : Hid (∃ av cv, vp = .slice av N cv) := Hid.mk' (by
        obtain ⟨av, cv, h, _⟩ := own_slice' HP0.out.row
        rw [pth_len] at h
        exact ⟨av, cv, h⟩)
      obtain ⟨av, cv, hv4⟩ := HVP.out
      subst hv4
      go_wp2_with fail
      refine HLN.out.mono ?_
      rintro e w5 ⟨rfl, rfl⟩
      go_wp2_with fail
      go_loopw [66] (fun v66 wr => ∃ i : Nat, v66 = .int .i64 (i : Int) ∧ i ≤ N ∧ Hid (PS w B g (.slice av N cv) (pth l N) (chn l) wr)) (fun v66 wr => N - (intOf v66).toNat)
      case atStart => exact ⟨0, rfl, Nat.zero_le _, HP0⟩
      case round =>
        obtain ⟨i, rfl, hi, HPI⟩ := hrel
        by_cases hlt : i < N
        · obtain ⟨gb, cv', hv4, hcb⟩ := HPI.out.at i _ (pth_at l N i hlt)
          rw [pth_len] at hv4
          simp only [Value.slice.injEq] at hv4
          obtain ⟨rfl, _, rfl⟩ := hv4
          have hkl := (chn_take l (i + 1)).length_le
          have hml := chn_len (l.take (i + 1))
          rw [List.length_take] at hml
          obtain ⟨sn, hsn⟩ : ∃ sn, (chn (l.take (i + 1))).length = sn := ⟨_, rfl⟩
          rw [hsn] at hcb hkl hml
          have HKY := Hid.mk' (HPI.out.keys HCW.out sn hkl)
          have i1 : (i : Int) < (N : Int) := by omega
          have i2 : (i : Int) < 140737488351232 := by have := HNN.out; omega
          have i3 : decide ((sn : Int) > (i : Int) + 1) = false := decide_eq_false (by omega)
          have HLT := Hid.mk' hlt
          clear hi hlt hkl hml hsn
          go_wp2_with fail
          refine HKY.out.mono ?_
          rintro e w6 ⟨ka, kc, rfl, hP6⟩
          have HP6 := Hid.mk' hP6
          clear hP6 hcb
          go_wp2
          go_roundw
          case rel => exact ⟨i + 1, by go_num, HLT.out, HP6⟩
          case measure => exact sh_meas N i HLT.out
        · have i1 : ¬ (i : Int) < (N : Int) := by omega
          have HL2 := Hid.mk' HPI.out.len
          clear hi hlt
          go_wp2_with fail
          refine HL2.out.mono ?_
          rintro e w7 ⟨rfl, rfl⟩
          go_wp2
          go_ret
          exact ⟨by first | rfl | simp, HPI.out.bl⟩
end Go.Proofs.Ytepkdeckmekphaa
