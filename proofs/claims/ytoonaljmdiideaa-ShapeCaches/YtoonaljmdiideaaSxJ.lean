/- ShapeCaches: the law's walk. -/
import Derived.Test.YtoonaljmdiideaaSxI
import Derived.Deep.CutRange
namespace Go.Proofs.Ytoonaljmdiideaa
set_option linter.unusedVariables false
set_option linter.unusedSimpArgs false
open Go.RowKit Go.Maps Go.ChangeShapes
set_option maxHeartbeats 8000000 in
set_option maxRecDepth 100000 in
theorem caches_all (a : Option Addr) (c : Nat) (l : List OpR) (w : World) (hr : RdE OpR.cs 6 w a c l) (hok : ∀ o ∈ l, o.ok) :
    Calls Try.prog 4 #[.slice a l.length c] w fun e w' => e = .returned (.bool true) ∧ Below w.heap.size w w' := by
  have hcl : c * (6 * 8) ≤ 140737488351232 := hr.cle
  have hle := hr.le
  have HR : Hid (∀ W, Below w.heap.size w W → RdE OpR.cs 6 W a c l) := Hid.mk' (fun W hW => hr.below hW)
  have HFW : Hid (∀ W, Below w.heap.size w W → Calls Try.prog 6 #[.slice a l.length c] W fun e w' => ∃ b, e = .returned (.bool b) ∧ Below W.heap.size W w') := Hid.mk' (fun W hW => sfew_any a c l W (hr.below hW))
  have HOK := Hid.mk' hok
  obtain ⟨N, hN⟩ : ∃ N, l.length = N := ⟨_, rfl⟩
  have HN := Hid.mk' hN
  rw [hN] at hle HFW ⊢
  have HAW := Hid.mk' (awake14 w)
  have HNN : Hid (N * 48 ≤ 140737488351232) := Hid.mk' (by omega)
  clear hr hok hN hle hcl
  go_enter Try.func4, Try.ntmps4
  go_wp2_with fail
  refine HAW.out.mono ?_
  rintro e w1 ⟨rfl, b1⟩
  have HB1 := Hid.mk' b1
  clear b1
  go_wp2_with fail
  refine (HFW.out _ HB1.out).mono ?_
  rintro e w2 ⟨bb, rfl, b2⟩
  have HB2 := Hid.mk' (HB1.out.trans (b2.mono HB1.out.size))
  clear b2
  cases bb with
  | false =>
    go_wp2
    go_ret
    exact ⟨rfl, HB2.out⟩
  | true =>
  go_wp2_with fail
  refine (shnew_any w2).mono ?_
  rintro e w3 ⟨g, mn, mw, lb, vs, rfl, hT3, b3⟩
  have HT3 := Hid.mk' hT3
  have HB3 := Hid.mk' b3
  clear hT3 b3
  go_wp2_with fail
  refine (rnew_any w3).mono ?_
  rintro e w4 ⟨rb, vL, rfl, hR4, b4⟩
  have HT4 : Hid (Two w2.heap.size g rb [[]] [] w4) := Hid.mk' (two_init HT3.out hR4 b4)
  have HB4 : Hid (Below w.heap.size w w4) := Hid.mk' (HB2.out.trans ((HB3.out.trans (b4.mono HB3.out.size)).mono HB2.out.size))
  have HLE : Hid (w.heap.size ≤ w2.heap.size) := Hid.mk' HB2.out.size
  clear hR4 b4
  go_wp2_with fail
  refine (newCache_any w4).mono ?_
  rintro e w5 ⟨rfl, hc5, b5⟩
  have HC5 := Hid.mk' hc5
  have HB5 := Hid.mk' b5
  clear hc5 b5
  go_wp2_with fail
  refine (newCache_any w5).mono ?_
  rintro e w6 ⟨rfl, hc6, b6⟩
  obtain ⟨c0, hc0⟩ : ∃ c0, w4.heap.size = c0 := ⟨_, rfl⟩
  obtain ⟨c1, hc1⟩ : ∃ c1, w5.heap.size = c1 := ⟨_, rfl⟩
  obtain ⟨cr, hcr⟩ : ∃ cr, w6.heap.size = cr := ⟨_, rfl⟩
  have hk0 : w6.heap[c0]? = some (cheO c0 none 0 0) := by
    have := HC5.out
    unfold Che at this
    rw [← hc0]
    exact (b6.block w4.heap.size (Array.getElem?_eq_some_iff.1 this).1).trans this
  have hk1 : w6.heap[c1]? = some (cheO c1 none 0 0) := by
    rw [← hc1]
    exact hc6
  have HK0 := Hid.mk' hk0
  have HK1 := Hid.mk' hk1
  have HB6 : Hid (Below w4.heap.size w4 w6) := Hid.mk' (HB5.out.trans (b6.mono HB5.out.size))
  have HZ : Hid (w4.heap.size = c0 ∧ w5.heap.size = c1 ∧ w6.heap.size = cr ∧ c0 < c1 ∧ c1 < cr) := Hid.mk' ⟨hc0, hc1, hcr, by have := (Array.getElem?_eq_some_iff.1 HC5.out).1; omega, by have := (Array.getElem?_eq_some_iff.1 hc6).1; omega⟩
  clear hc6 b6 hk0 hk1 hc0 hc1 hcr
  go_upto_region 9 with fail
  obtain ⟨W7, hW7⟩ : ∃ W7, w6.alloc (.cells #[.pointer (some ⟨w4.heap.size, 0, none⟩), .pointer (some ⟨w5.heap.size, 0, none⟩), .pointer none] 45) = W7 := ⟨_, rfl⟩
  rw [hW7]
  have HB7 : Hid (Below w4.heap.size w4 W7) := Hid.mk' (by rw [← hW7]; exact HB6.out.trans ((sh_lay).mono HB6.out.size))
  have HKR : Hid (W7.heap[cr]? = some (crO ⟨cr, 0, 0, 0, 0, c0, c1⟩)) := Hid.mk' (by
    obtain ⟨z0, z1, z2, _⟩ := HZ.out
    rw [← hW7, ← z0, ← z1, ← z2]
    exact World.alloc_heap_new _ _)
  have HK2 : Hid (W7.heap[c0]? = some (cheO c0 none 0 0) ∧ W7.heap[c1]? = some (cheO c1 none 0 0)) := Hid.mk' (by
    have hb : Below w6.heap.size w6 W7 := by rw [← hW7]; exact sh_lay
    exact ⟨(hb.block c0 (Array.getElem?_eq_some_iff.1 HK0.out).1).trans HK0.out, (hb.block c1 (Array.getElem?_eq_some_iff.1 HK1.out).1).trans HK1.out⟩)
  have HCR : Hid (cr < W7.heap.size) := Hid.mk' (Array.getElem?_eq_some_iff.1 HKR.out).1
  have hE4 : w6.heap.size = cr := HZ.out.2.2.1
  rw [hE4]
  clear hW7 HB6 HK0 HK1 hE4
  have mk1 : ∀ W : World, (Instr.makeSlice 48 (.int .i64 3) (.int .i64 3)).run Try.prog W = .ok (.slice (some ⟨W.heap.size, 0, none⟩) 3 3) (W.alloc (inO fun _ => 0)) := fun W => by kernel_rfl
  have mk2 : ∀ W : World, (Instr.makeSlice 22 (.int .i64 3) (.int .i64 3)).run Try.prog W = .ok (.slice (some ⟨W.heap.size, 0, none⟩) 3 3) (W.alloc (laO fun _ => opZ)) := fun W => by kernel_rfl
  have mk3 : ∀ W : World, (Instr.makeSlice 49 (.int .i64 3) (.int .i64 3)).run Try.prog W = .ok (.slice (some ⟨W.heap.size, 0, none⟩) 3 3) (W.alloc (hvO fun _ => false)) := fun W => by kernel_rfl
  go_cut [6, 7] from 45 to 46 (fun v6 v7 wc => ∃ hb ms, v6 = .slice (some ⟨hb, 0, none⟩) 3 3 ∧ v7 = .slice (some ⟨ms, 0, none⟩) 3 3 ∧ Hid (hb ≠ ms ∧ W7.heap.size ≤ hb ∧ W7.heap.size ≤ ms ∧ wc.heap[hb]? = some (inO fun _ => 0) ∧ wc.heap[ms]? = some (inO fun _ => 0) ∧ Below W7.heap.size W7 wc))
  case first =>
    go_region
    all_goals
      go_wp2_with fail
      go_meet
      refine ⟨_, _, rfl, rfl, Hid.mk' ⟨?_, ?_, ?_, ?_, ?_, ?_⟩⟩
      · first | omega | simp
      · first | omega | simp
      · first | omega | simp
      · first | (refine sh_new (X := W7.alloc (inO fun _ => 0)) ?_; simp; done) | (refine sh_old (X := W7.alloc (inO fun _ => 0)) ?_ (sh_new rfl); simp; done)
      · first | (refine sh_new (X := W7.alloc (inO fun _ => 0)) ?_; simp; done) | (refine sh_old (X := W7.alloc (inO fun _ => 0)) ?_ (sh_new rfl); simp; done)
      · repeat' (first | exact Below.refl _ _ | exact (Below.refl _ _).drew | refine Below.alloc ?_ (by simp) _ | refine Below.drew ?_)
  case rest =>
  obtain ⟨hb, ms, rfl, rfl, HQ⟩ := hcut
  go_upto_region 12 with fail
  obtain ⟨ls, hls⟩ : ∃ ls, wc.heap.size = ls := ⟨_, rfl⟩
  obtain ⟨W12, hW12⟩ : ∃ W12, (wc.alloc (laO fun _ => opZ)).alloc (hvO fun _ => false) = W12 := ⟨_, rfl⟩
  rw [hls, hW12]
  obtain ⟨B, hB⟩ : ∃ B, w2.heap.size = B := ⟨_, rfl⟩
  have HCJ0 : Hid (CJ w B g rb ⟨cr, hb, ms, ls, ls + 1, c0, c1⟩ none 0 W12) := Hid.mk' (by
    obtain ⟨q1, q2, q3, q4, q5, q6⟩ := HQ.out
    obtain ⟨z1, z2, z3, z4, z5⟩ := HZ.out
    have ba : Below wc.heap.size wc (wc.alloc (laO fun _ => opZ)) := sh_lay
    have bb : Below (wc.alloc (laO fun _ => opZ)).heap.size (wc.alloc (laO fun _ => opZ)) W12 := by rw [← hW12]; exact sh_lay
    have b12 : Below wc.heap.size wc W12 := ba.trans (bb.mono ba.size)
    have b7 : Below W7.heap.size W7 W12 := q6.trans (b12.mono q6.size)
    have old7 : ∀ x ob, W7.heap[x]? = some ob → W12.heap[x]? = some ob := fun x ob hx => (b7.block x (Array.getElem?_eq_some_iff.1 hx).1).trans hx
    have oldc : ∀ x ob, wc.heap[x]? = some ob → W12.heap[x]? = some ob := fun x ob hx => (b12.block x (Array.getElem?_eq_some_iff.1 hx).1).trans hx
    have s7 := q6.size
    have s4 := HB7.out.size
    have e1 : W12.heap[ls]? = some (laO fun _ => opZ) := by
      rw [← hls]
      exact (bb.block wc.heap.size (by simp)).trans (World.alloc_heap_new _ _)
    have e2 : W12.heap[ls + 1]? = some (hvO fun _ => false) := by
      rw [← hls, ← hW12]
      have := World.alloc_heap_new (wc.alloc (laO fun _ => opZ)) (hvO fun _ => false)
      rwa [World.size_alloc] at this
    refine cj_init ⟨cr, hb, ms, ls, ls + 1, c0, c1⟩ (by rw [← hB]; exact HT4.out) HB4.out (by rw [← hB]; exact HLE.out) (HB7.out.trans (b7.mono s4)) (old7 _ _ HK2.out.1) (old7 _ _ HK2.out.2) (old7 _ _ HKR.out) (oldc _ _ q4) (oldc _ _ q5) e1 e2 ?_ ?_ ?_ ?_ ?_ ?_ ?_ ?_ q1
    all_goals dsimp only
    all_goals omega)
  obtain ⟨b, hbk⟩ : ∃ b : Bk, (⟨cr, hb, ms, ls, ls + 1, c0, c1⟩ : Bk) = b := ⟨_, rfl⟩
  have HBK := Hid.mk' hbk
  rw [hbk] at HCJ0
  have k1 : cr = b.cr := by rw [← hbk]
  have k2 : hb = b.hb := by rw [← hbk]
  have k3 : ms = b.ms := by rw [← hbk]
  have k4 : ls = b.ls := by rw [← hbk]
  have k5 : ls + 1 = b.vb := by rw [← hbk]
  rw [k5, k4, k3, k2, k1]
  clear hls hW12 hB hbk k1 k2 k3 k4 k5 HBK HQ HKR HK2 HB7 HZ HCR HC5 HB5 HT4 HB4 HT3 HB3 HLE HB1 HAW HFW mk1 mk2 mk3
  go_wp2_with fail
  go_loopw [51] (fun v51 wr => ∃ i : Nat, v51 = .int .i64 (i : Int) ∧ i ≤ N ∧ Hid (CJ w B g rb b none i wr)) (fun v51 wr => N - (intOf v51).toNat)
  case atStart => exact ⟨0, rfl, Nat.zero_le _, HCJ0⟩
  case round =>
    obtain ⟨i, rfl, hi, HCJ⟩ := hrel
    clear HCJ0
    by_cases hlt : i < N
    · have hlq : i < l.length := by rw [HN.out]; exact hlt
      obtain ⟨gl, ol, rfl, hgl, hc⟩ := (HR.out wr HCJ.out.bl).at i hlq
      have i1 : (i : Int) < (N : Int) := by omega
      have i2 : (i : Int) < 140737488351232 := by have := HNN.out; omega
      have hoq := HOK.out _ (List.getElem_mem hlq)
      generalize l[i] = q at hc hoq
      have HL := Hid.mk' (HCJ.out.box q)
      have HOQ := Hid.mk' hoq
      obtain ⟨kd, si, s, z, f, cc⟩ := q
      simp only [OpR.cs] at hc
      have d0 := hc 0 (.int .i64 kd) (by omega) rfl
      have d1 := hc 1 (.int .i64 si) (by omega) rfl
      have d2 := hc 2 (.string s) (by omega) rfl
      have d3 := hc 3 (.int .i64 z) (by omega) rfl
      have d4 := hc 4 (.int .i64 f) (by omega) rfl
      have d5 := hc 5 (.int .i64 cc) (by omega) rfl
      simp only [Nat.add_zero] at d0
      have HLT := Hid.mk' hlt
      have HI2 := Hid.mk' i2
      clear hc hi hlt hlq hgl hoq HCJ
      obtain ⟨bo, hbo⟩ : ∃ bo, wr.heap.size = bo := ⟨_, rfl⟩
      obtain ⟨W1, hW1⟩ : ∃ W1, wr.alloc (.cells #[.int .i64 kd, .int .i64 si, .string s, .int .i64 z, .int .i64 f, .int .i64 cc] 33) = W1 := ⟨_, rfl⟩
      have HL1 : Hid (CJ w B g rb b (some (bo, ⟨kd, si, s, z, f, cc⟩)) i W1) := Hid.mk' (by rw [← hW1, ← hbo]; exact HL.out)
      clear HL
      go_upto_region 15 with fail
      (try rw [hW1])
      (try rw [hbo])
      clear hW1 d0 d1 d2 d3 d4 d5 i1 i2
      obtain ⟨cn, hcn1, hcn⟩ := wrap_c cc
      have HC1 := Hid.mk' hcn1
      clear hcn1
      obtain ⟨wc, hwc⟩ : ∃ wc, W1 = wc := ⟨_, rfl⟩
      rw [hwc] at HL1 ⊢
      clear hwc
      obtain ⟨o0, o1, o2, o3, o4, o5⟩ := HL1.out.obox
      go_upto_block 2 with fail
      rw [HC1.out]
      clear HC1
      focus
        clear o0 o1 o2 o3 o4 o5
        go_cut [13, 14, 15, 16, 17, 18] from 60 to 189 (fun v13 v14 v15 v16 v17 v18 we => Hid (CJ w B g rb b (some (bo, ⟨kd, si, s, z, f, cc⟩)) (i + 1) we))
        case first =>
          obtain ⟨o0, o1, o2, o3, o4, o5⟩ := HL1.out.obox
          have HCN := Hid.mk' hcn
          by_cases k0 : kd = 0
          · subst k0
            have HA := Hid.mk' (cj_add HL1.out HOQ.out)
            dsimp only at HA
            go_wp2_with fail
            refine HA.out.mono ?_
            rintro e w5 ⟨x, er, rfl, hop, hth⟩
            have HTH := Hid.mk' (hth w5 (Below.refl _ _))
            dsimp only at HTH
            obtain ⟨p0, p1, p2, p3, p4, p5⟩ := op_cells hop
            clear hop hth o0 o1 o2 o3 o4 o5
            go_wp2_with fail
            refine HTH.out.mono ?_
            rintro e w6 ⟨rfl, hJ⟩
            have HJ := Hid.mk' hJ
            clear hJ p0 p1 p2 p3 p4 p5
            go_wp2
            go_meet
            exact HJ
          · by_cases k1 : kd = 1
            · subst k1
              clear k0
              have HA := Hid.mk' (cj_chg HL1.out HOQ.out)
              dsimp only at HA
              go_wp2_with fail
              refine HA.out.mono ?_
              rintro e w5 ⟨x, er, rfl, hop, hth⟩
              have HTH := Hid.mk' (hth w5 (Below.refl _ _))
              dsimp only at HTH
              obtain ⟨p0, p1, p2, p3, p4, p5⟩ := op_cells hop
              clear hop hth o0 o1 o2 o3 o4 o5
              go_wp2_with fail
              refine HTH.out.mono ?_
              rintro e w6 ⟨rfl, hJ⟩
              have HJ := Hid.mk' hJ
              clear hJ p0 p1 p2 p3 p4 p5
              go_wp2
              go_meet
              exact HJ
            · by_cases k3 : kd = 3
              · subst k3
                clear k0 k1
                have q0 := HL1.out.cr cn hcn
                have HA := Hid.mk' (cj_flush cn hcn HL1.out)
                generalize cpV b cn = pv at q0 HA
                have j1 : (cn : Int) < 3 := by omega
                go_wp2_with fail
                refine HA.out.mono ?_
                rintro e w5 ⟨rfl, ⟨vv, q1⟩, q2, hJ⟩
                have HJ := Hid.mk' hJ
                clear hJ o0 o1 o2 o3 o4 o5 q0
                go_wp2
                go_meet
                exact HJ
              · have e0 : (kd == 0) = false := by simpa using k0
                have e1 : (kd == 1) = false := by simpa using k1
                have e3 : (kd == 3) = false := by simpa using k3
                have j1 : (cn : Int) < 3 := by omega
                clear k0 k1 k3
                by_cases hc2 : cn = 2
                · subst hc2
                  obtain ⟨an, hA⟩ := cj_cached2 HL1.out HOQ.out
                  have HPV : Hid (∀ W, CJ w B g rb b (some (bo, ⟨kd, si, s, z, f, cc⟩)) i W → W.cell? ⟨b.cr, ((2 : Nat) : Nat), none⟩ = some (cpV b 2)) := Hid.mk' (fun W hW => hW.cr 2 (by omega))
                  have q0 := HL1.out.cr 2 (by omega)
                  obtain ⟨pv, hpv⟩ : ∃ pv, cpV b 2 = pv := ⟨_, rfl⟩
                  rw [hpv] at hA q0 HPV
                  obtain ⟨ax, af, ab⟩ := an
                  unfold ansV at hA
                  dsimp only at hA
                  have HA := Hid.mk' hA
                  clear hA hpv
                  rw [show (((2 : Nat) : Int)) = (2 : Int) from rfl]
                  go_upto_region 17 with fail
                  go_cut [13, 14, 15] from 62 to 75 (fun v13 v14 v15 wd => v13 = .int .i64 ax ∧ v14 = .int .i64 af ∧ v15 = .bool ab ∧ Hid (CJ w B g rb b (some (bo, ⟨kd, si, s, z, f, cc⟩)) i wd ∧ ∀ W, Below wd.heap.size wd W → Calls Try.prog 18 #[.pointer (some ⟨rb, 0, none⟩), .int .i64 si, .agg #[.string s, .int .i64 z]] W fun e w'' => e = .returned (.tuple #[.int .i64 ax, .int .i64 af, .bool ab]) ∧ CJ w B g rb b (some (bo, ⟨kd, si, s, z, f, cc⟩)) (i + 1) w''))
                  case first =>
                    go_region_held3 (fun w' => w'.cell? ⟨b.cr, 2, none⟩ = some pv ∧ w'.cell? ⟨bo, 1, none⟩ = some (.int .i64 si) ∧ w'.cell? ⟨bo, 2, none⟩ = some (.string s) ∧ w'.cell? ⟨bo, 3, none⟩ = some (.int .i64 z)) (first | exact ⟨HPV.out _ HJ5.out, HJ5.out.obox.2.1, HJ5.out.obox.2.2.1, HJ5.out.obox.2.2.2.1⟩ | go_keep) (first | (go_at_call 17; refine (HA.out _ (by exact (Below.refl _ _).drew)).mono ?_; rintro e w5 ⟨rfl, hJ5, hF5⟩; have HJ5 := Hid.mk' hJ5; have HF5 := Hid.mk' hF5; clear hJ5 hF5))
                    all_goals
                      go_wp2_with fail
                      go_meet
                      exact ⟨rfl, rfl, rfl, Hid.mk' ⟨HJ5.out, HF5.out⟩⟩
                  case rest =>
                    obtain ⟨rfl, rfl, rfl, HZ⟩ := hcut
                    have HF := Hid.mk' (HZ.out.2 _ (Below.refl _ _))
                    obtain ⟨p0, p1, p2, p3, p4, p5⟩ := HZ.out.1.obox
                    clear o0 o1 o2 o3 o4 o5 q0
                    go_wp2_with fail
                    refine HF.out.mono ?_
                    rintro e w6 ⟨rfl, hJ6⟩
                    have HJ6 := Hid.mk' hJ6
                    clear hJ6 p0 p1 p2 p3 p4 p5
                    go_wp2
                    go_meet
                    exact HJ6
                · obtain ⟨S, la, hv, rh, rm, an, han, hA⟩ := cj_cached cn (by omega) (by have := HI2.out; omega) HL1.out HOQ.out
                  have q0 := HL1.out.cr cn hcn
                  have HPV : Hid (∀ W, CK w B g rb b bo ⟨kd, si, s, z, f, cc⟩ i cn S la hv (sameL (la cn) (hv cn) ⟨kd, si, s, z, f, cc⟩) rh rm W → W.cell? ⟨b.cr, cn, none⟩ = some (cpV b cn)) := Hid.mk' (fun W hW => hW.cr HCN.out)
                  obtain ⟨pv, hpv⟩ : ∃ pv, cpV b cn = pv := ⟨_, rfl⟩
                  rw [hpv] at hA q0 HPV
                  obtain ⟨ax, af, ab⟩ := an
                  unfold ansV at hA
                  dsimp only at hA han
                  have HA := Hid.mk' hA
                  have HAN := Hid.mk' han
                  have hc2 : cn < 2 := by omega
                  have HC2 := Hid.mk' hc2
                  have HSL : Hid ((sameL (la cn) (hv cn) ⟨kd, si, s, z, f, cc⟩) = (hv cn && (decide ((la cn).si = si) && sameK ((la cn).s, (la cn).z) (s, z)))) := Hid.mk' rfl
                  obtain ⟨same, hsame⟩ : ∃ same, sameL (la cn) (hv cn) ⟨kd, si, s, z, f, cc⟩ = same := ⟨_, rfl⟩
                  rw [hsame] at HA HPV HSL
                  clear hA hpv han hsame hc2
                  have n2 : ((cn : Int) == 2) = false := by simpa using (show ¬ (cn : Int) = 2 by omega)
                  go_upto_region 17 with fail
                  go_cut [13, 14, 15] from 62 to 75 (fun v13 v14 v15 wd => v13 = .int .i64 ax ∧ v14 = .int .i64 af ∧ v15 = .bool ab ∧ Hid (CK w B g rb b bo ⟨kd, si, s, z, f, cc⟩ i cn S la hv same rh rm wd))
                  case first =>
                    go_region_held3 (fun w' => w'.cell? ⟨b.cr, cn, none⟩ = some pv ∧ w'.cell? ⟨bo, 1, none⟩ = some (.int .i64 si) ∧ w'.cell? ⟨bo, 2, none⟩ = some (.string s) ∧ w'.cell? ⟨bo, 3, none⟩ = some (.int .i64 z)) (first | exact ⟨HPV.out _ HJ5.out, HJ5.out.obox.2.1, HJ5.out.obox.2.2.1, HJ5.out.obox.2.2.2.1⟩ | go_keep) (first | (go_at_call 17; refine (HA.out _ (by exact (Below.refl _ _).drew)).mono ?_; rintro e w5 ⟨rfl, hJ5⟩; have HJ5 := Hid.mk' hJ5; clear hJ5))
                    all_goals
                      go_wp2_with fail
                      go_meet
                      exact ⟨rfl, rfl, rfl, HJ5⟩
                  case rest =>
                    obtain ⟨rfl, rfl, rfl, HZ⟩ := hcut
                    have HF := Hid.mk' (HZ.out.rfind HOQ.out.1)
                    dsimp only at HF
                    rw [HAN.out] at HF
                    unfold ansV at HF
                    dsimp only at HF
                    obtain ⟨p0, p1, p2, p3, p4, p5⟩ := HZ.out.obox
                    clear o0 o1 o2 o3 o4 o5 q0
                    go_wp2_with fail
                    refine HF.out.mono ?_
                    rintro e w6 ⟨rfl, hJ6⟩
                    have HJ6 := Hid.mk' hJ6
                    clear hJ6 p0 p1 p2 p3 p4 p5
                    go_upto_region 22 with fail
                    go_cut [124] from 101 to 124 (fun v124 we => v124 = .bool same ∧ Hid (CK w B g rb b bo ⟨kd, si, s, z, f, cc⟩ i cn S la hv same rh rm we))
                    case first =>
                      obtain ⟨_, _, t3, _, _, _, t7, t8, _, _⟩ := HJ6.out.cells HCN.out
                      obtain ⟨p0, p1, p2, p3, p4, p5⟩ := op_cells t7
                      have l1 := la_cell la cn 1 hcn (by omega) _ t8
                      have l2 := la_cell la cn 2 hcn (by omega) _ t8
                      have l3 := la_cell la cn 3 hcn (by omega) _ t8
                      have hls := HJ6.out.size HC2.out
                      generalize la cn = lo at l1 l2 l3 HSL hls
                      generalize hv cn = hb at t3 HSL
                      obtain ⟨lk, li, ls', lz, lf, lc⟩ := lo
                      simp only [OpR.cs, List.getElem?_cons_succ, List.getElem?_cons_zero] at l1 l2 l3
                      dsimp only at HSL hls
                      clear t7 t8
                      cases hb with
                      | false =>
                        have HS : Hid (same = false) := Hid.mk' (by rw [HSL.out]; rfl)
                        go_quiet (fail)
                        go_wp2_with fail
                        go_meet
                        exact ⟨by rw [HS.out], Hid.mk' (HJ6.out.below (below_drewN (Below.refl _ _) _))⟩
                      | true =>
                        by_cases hl : li = si
                        · obtain rfl := hl.symm
                          have HS : Hid (same = sameK (ls', lz) (s, z)) := Hid.mk' (by rw [HSL.out]; simp)
                          have HSA := Hid.mk' (fun W => same_any ls' s lz z W hls HOQ.out.1)
                          have g1 : b.vb < w6.heap.size := World.block_lt_of_cell? _ _ t3
                          have g2 : b.ls < w6.heap.size := World.block_lt_of_cell? _ _ l1
                          have g3 : bo < w6.heap.size := World.block_lt_of_cell? _ _ p1
                          have HKP : Hid (∀ W, Below w6.heap.size w6 W → W.cell? ⟨b.vb, cn, none⟩ = some (.bool true) ∧ W.cell? ⟨b.ls, cn * 6 + 1, none⟩ = some (.int .i64 si) ∧ W.cell? ⟨b.ls, cn * 6 + 2, none⟩ = some (.string ls') ∧ W.cell? ⟨b.ls, cn * 6 + 3, none⟩ = some (.int .i64 lz) ∧ W.cell? ⟨bo, 1, none⟩ = some (.int .i64 si) ∧ W.cell? ⟨bo, 2, none⟩ = some (.string s) ∧ W.cell? ⟨bo, 3, none⟩ = some (.int .i64 z)) := Hid.mk' (fun W hW => ⟨(hW.cell (p := ⟨b.vb, cn, none⟩) g1).trans t3, (hW.cell (p := ⟨b.ls, cn * 6 + 1, none⟩) g2).trans l1, (hW.cell (p := ⟨b.ls, cn * 6 + 2, none⟩) g2).trans l2, (hW.cell (p := ⟨b.ls, cn * 6 + 3, none⟩) g2).trans l3, (hW.cell (p := ⟨bo, 1, none⟩) g3).trans p1, (hW.cell (p := ⟨bo, 2, none⟩) g3).trans p2, (hW.cell (p := ⟨bo, 3, none⟩) g3).trans p3⟩)
                          clear g1 g2 g3 hls
                          go_region_held3 (fun w' => w'.cell? ⟨b.vb, cn, none⟩ = some (.bool true) ∧ w'.cell? ⟨b.ls, cn * 6 + 1, none⟩ = some (.int .i64 si) ∧ w'.cell? ⟨b.ls, cn * 6 + 2, none⟩ = some (.string ls') ∧ w'.cell? ⟨b.ls, cn * 6 + 3, none⟩ = some (.int .i64 lz) ∧ w'.cell? ⟨bo, 1, none⟩ = some (.int .i64 si) ∧ w'.cell? ⟨bo, 2, none⟩ = some (.string s) ∧ w'.cell? ⟨bo, 3, none⟩ = some (.int .i64 z)) (first | exact HKP.out _ HB7.out | go_keep) (first | (go_at_call 19; refine (HSA.out _).mono ?_; rintro e w7 ⟨rfl, b7⟩; have HB7 := Hid.mk' (below_from_drew b7); clear b7))
                          all_goals
                            go_wp2_with fail
                            go_meet
                            exact ⟨by rw [HS.out], Hid.mk' (HJ6.out.below HB7.out)⟩
                        · have hl2 : (li == si) = false := by simpa using hl
                          have HS : Hid (same = false) := Hid.mk' (by rw [HSL.out]; simp [hl])
                          clear hl
                          go_quiet (fail)
                          go_wp2_with fail
                          go_meet
                          exact ⟨by rw [HS.out], Hid.mk' (HJ6.out.below (below_drewN (Below.refl _ _) _))⟩
                    case rest =>
                      obtain ⟨rfl, HZ2⟩ := hcut
                      obtain ⟨t1, t2, t3, t4, t5, t6, t7, t8, ⟨h0, h1⟩, ⟨m0, m1⟩⟩ := HZ2.out.cells HCN.out
                      cases same with
                      | true =>
                        have r1 : wrap64 (rh + 1) = rh + 1 := by unfold wrap64; have := HI2.out; omega
                        obtain ⟨A1, A2, A3, A4, A5, A6, A7⟩ := HZ2.out.after HCN.out b.hb (.inl rfl) (.int .i64 (rh + 1))
                        obtain ⟨W9, hW9⟩ : ∃ W9, wc.setCell ⟨b.hb, cn, none⟩ (.int .i64 (rh + 1)) = W9 := ⟨_, rfl⟩
                        rw [hW9] at A1 A2 A3 A4
                        have HW9 := Hid.mk' hW9
                        clear hW9 h0 h1 m0 m1
                        go_upto_region 25 with fail
                        (try rw [HW9.out])
                        clear t1 t2 t3 t4 t5 t6 t7 t8 r1
                        obtain ⟨p0, p1, p2, p3, p4, p5⟩ := op_cells A1
                        have l0 := la_cell la cn 0 HCN.out (by omega) _ A2
                        have l1 := la_cell la cn 1 HCN.out (by omega) _ A2
                        have l2 := la_cell la cn 2 HCN.out (by omega) _ A2
                        have l3 := la_cell la cn 3 HCN.out (by omega) _ A2
                        have l4 := la_cell la cn 4 HCN.out (by omega) _ A2
                        have l5 := la_cell la cn 5 HCN.out (by omega) _ A2
                        have lz : ∀ j, W9.frozen? ⟨b.ls, j, none⟩ = false := fun j => by
                          unfold laO at A2
                          simp [World.frozen?, A2]
                        have HX := Hid.mk' (la_store la cn HCN.out ⟨kd, si, s, z, f, cc⟩ b.ls A2 A7)
                        have HY := Hid.mk' (fun v0 v1 v2 v3 v4 v5 => la_sv (w := W9) cn v0 v1 v2 v3 v4 v5 b.ls A7)
                        dsimp only at HX
                        obtain ⟨lk, li, ls', lzz, lf, lc⟩ := la cn
                        simp only [OpR.cs, List.getElem?_cons_succ, List.getElem?_cons_zero, Nat.add_zero] at l0 l1 l2 l3 l4 l5
                        clear A1 A2 A7
                        have A8 : ¬ b.vb = b.ls := A6
                        have A9 : ¬ b.ls = b.vb := fun e => A6 e.symm
                        go_wp2
                        go_meet
                        exact Hid.mk' (HZ2.out.done HC2.out HOQ.out.1 W9 (by rw [if_pos rfl, HW9.out]) _ (HY.out _ _ _ _ _ _).1 (HY.out _ _ _ _ _ _).2 HX.out)
                      | false =>
                        have r1 : wrap64 (rm + 1) = rm + 1 := by unfold wrap64; have := HI2.out; omega
                        obtain ⟨A1, A2, A3, A4, A5, A6, A7⟩ := HZ2.out.after HCN.out b.ms (.inr rfl) (.int .i64 (rm + 1))
                        obtain ⟨W9, hW9⟩ : ∃ W9, wc.setCell ⟨b.ms, cn, none⟩ (.int .i64 (rm + 1)) = W9 := ⟨_, rfl⟩
                        rw [hW9] at A1 A2 A3 A4
                        have HW9 := Hid.mk' hW9
                        clear hW9 h0 h1 m0 m1
                        go_upto_region 25 with fail
                        (try rw [HW9.out])
                        clear t1 t2 t3 t4 t5 t6 t7 t8 r1
                        obtain ⟨p0, p1, p2, p3, p4, p5⟩ := op_cells A1
                        have l0 := la_cell la cn 0 HCN.out (by omega) _ A2
                        have l1 := la_cell la cn 1 HCN.out (by omega) _ A2
                        have l2 := la_cell la cn 2 HCN.out (by omega) _ A2
                        have l3 := la_cell la cn 3 HCN.out (by omega) _ A2
                        have l4 := la_cell la cn 4 HCN.out (by omega) _ A2
                        have l5 := la_cell la cn 5 HCN.out (by omega) _ A2
                        have lz : ∀ j, W9.frozen? ⟨b.ls, j, none⟩ = false := fun j => by
                          unfold laO at A2
                          simp [World.frozen?, A2]
                        have HX := Hid.mk' (la_store la cn HCN.out ⟨kd, si, s, z, f, cc⟩ b.ls A2 A7)
                        have HY := Hid.mk' (fun v0 v1 v2 v3 v4 v5 => la_sv (w := W9) cn v0 v1 v2 v3 v4 v5 b.ls A7)
                        dsimp only at HX
                        obtain ⟨lk, li, ls', lzz, lf, lc⟩ := la cn
                        simp only [OpR.cs, List.getElem?_cons_succ, List.getElem?_cons_zero, Nat.add_zero] at l0 l1 l2 l3 l4 l5
                        clear A1 A2 A7
                        have A8 : ¬ b.vb = b.ls := A6
                        have A9 : ¬ b.ls = b.vb := fun e => A6 e.symm
                        go_wp2
                        go_meet
                        exact Hid.mk' (HZ2.out.done HC2.out HOQ.out.1 W9 (by rw [if_neg (by decide), HW9.out]) _ (HY.out _ _ _ _ _ _).1 (HY.out _ _ _ _ _ _).2 HX.out)
                      
        case rest =>
          obtain ⟨x, y, hA⟩ := cj_asked cn hcn hcut.out
          have q0 := hcut.out.cr cn hcn
          have HA := Hid.mk' hA
          have HCN := Hid.mk' hcn
          have j1 : (cn : Int) < 3 := by omega
          have i2 := HI2.out
          generalize cpV b cn = pv at q0 HA hA
          clear hA hcut
          go_wp2_with fail
          refine HA.out.mono ?_
          rintro e w5 ⟨rfl, q1, q2, hJ⟩
          have HJ := Hid.mk' hJ
          clear hJ q0
          go_wp2
          go_roundw
          case rel => exact ⟨i + 1, by go_num, HLT.out, HJ⟩
          case measure => exact sh_meas N i HLT.out
    · have i1 : ¬ (i : Int) < (N : Int) := by omega
      have HBF := Hid.mk' HCJ.out.bl
      clear hlt hi HCJ
      go_wp2
      go_ret
      exact ⟨rfl, HBF.out⟩
end Go.Proofs.Ytoonaljmdiideaa
