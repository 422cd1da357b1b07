/- KeysOrder: keys stand as an object tells them; and compare. -/
import Derived.Test.YtcjpoabknlpopaaDoorKCm2
namespace Go.Proofs.YtcjpoabknlpopaaDoor
set_option linter.unusedVariables false
open Go.RowKit

theorem cmpK_cases (a b : ByteArray) : cmpK a b 0 = -1 ∨ cmpK a b 0 = 0 ∨ cmpK a b 0 = 1 := by
  unfold cmpK
  exact cb_range _ _
theorem cmpC_cases (a b : ByteArray × Int) : cmpC a b = -1 ∨ cmpC a b = 0 ∨ cmpC a b = 1 := by
  unfold cmpC
  split
  · exact .inl rfl
  · split
    · exact .inr (.inr rfl)
    · exact cmpK_cases _ _
theorem cmpC_swap (a b : ByteArray × Int) : cmpC b a = wrap64 (-cmpC a b) := by
  unfold cmpC
  by_cases h1 : (cls a).2 < (cls b).2
  · have h2 : ¬ (cls b).2 < (cls a).2 := by omega
    rw [if_neg h2, if_pos h1, if_pos h1]; simp [wrap64]
  · by_cases h2 : (cls b).2 < (cls a).2
    · rw [if_pos h2, if_neg h1, if_pos h2]; simp [wrap64]
    · rw [if_neg h2, if_neg h1, if_neg h1, if_neg h2]; exact cmp_swap _ _
theorem cmpC_same (a b : ByteArray × Int) : (cmpC a b == 0) = sameK a b := by
  have h : cmpC a b = 0 ↔ cls a = cls b := by
    unfold cmpC
    by_cases h1 : (cls a).2 < (cls b).2
    · rw [if_pos h1]
      constructor
      · intro h; cases h
      · intro h; rw [h] at h1; omega
    · by_cases h2 : (cls b).2 < (cls a).2
      · rw [if_neg h1, if_pos h2]
        constructor
        · intro h; cases h
        · intro h; rw [h] at h2; omega
      · rw [if_neg h1, if_neg h2, cmp_zero']
        have e : ∀ p : ByteArray × Int, evenS (cls p).1 = (cls p).1 := fun p => by
          unfold cls
          split
          · apply ByteArray.ext
            apply Array.ext'
            rw [evenS_bytes]
            show ebs ⟨#[]⟩ = []
            simp [ebs]
          · exact even_even _
        rw [e, e]
        constructor
        · intro h; exact Prod.ext h (by omega)
        · intro h; rw [h]
  cases hs : sameK a b
  · simp only [beq_eq_false_iff_ne, ne_eq]
    intro e
    rw [(same_cls a b).2 (h.1 e)] at hs
    cases hs
  · simp only [beq_iff_eq]
    exact h.2 ((same_cls a b).1 hs)
theorem rdk_cells {w : World} {g o : Nat} {l : KL} (hc : ∀ (j : Nat) (h : j < l.length), w.cell? ⟨g, o + j * 2, none⟩ = some (.string l[j].1) ∧ w.cell? ⟨g, o + j * 2 + 1, none⟩ = some (.int .i64 l[j].2)) : ∀ j u, (kc l)[j]? = some u → w.cell? ((⟨g, o, none⟩ : Addr).add j) = some u := fun j u h => by
  have hj : j < (kc l).length := (List.getElem?_eq_some_iff.1 h).1
  rw [kc_length] at hj
  have hq : j / 2 < l.length := by omega
  have hk := kc_get l (j / 2) hq
  have hcq := hc (j / 2) hq
  rw [Addr.add_lit]
  rcases Nat.mod_two_eq_zero_or_one j with hm | hm
  · have e : j / 2 * 2 = j := by omega
    rw [e] at hk hcq
    rw [hk.1] at h
    rw [hcq.1]; exact h
  · have e : j / 2 * 2 + 1 = j := by omega
    rw [e] at hk
    rw [hk.2] at h
    have e2 : o + j / 2 * 2 + 1 = o + j := by omega
    rw [e2] at hcq
    rw [hcq.2]; exact h
theorem rdk_two (W : World) (a b : ByteArray × Int) : RdK (W.alloc (.cells #[.string a.1, .int .i64 a.2, .string b.1, .int .i64 b.2] 25)) (.slice (some ⟨W.heap.size, 0, none⟩) 2 2) [a, b] := by
  refine .inr ⟨W.heap.size, 0, 2, rfl, by simp, by simp, fun j hj => ?_⟩
  rw [World.cell?_alloc_new, World.cell?_alloc_new]
  match j, hj with
  | 0, _ => exact ⟨rfl, rfl⟩
  | 1, _ => exact ⟨rfl, rfl⟩

set_option maxHeartbeats 8000000 in
set_option maxRecDepth 100000 in
theorem order_walk (x : Option Addr) (c : Nat) (l : KL) (as' : ByteArray) (az : Int) (bs : ByteArray) (bz : Int) (w : World) (hv : RdK w (.slice x l.length c) l) (hz : ∀ p ∈ l, (p.1.size : Int) ≤ 140737488351232) (hn : (l.length : Int) * 24 ≤ 140737488351232)
    (ha : (as'.size : Int) ≤ 140737488351232) (fa : Lit.wf (.int .i64 az) = true) (hb : (bs.size : Int) ≤ 140737488351232) (fb : Lit.wf (.int .i64 bz) = true) (hP : P10 w) :
    Calls Tryd.prog 3 #[.slice x l.length c, .agg #[.string as', .int .i64 az], .agg #[.string bs, .int .i64 bz]] w fun e w' => e = .returned (.bool true) ∧ Below w.heap.size w w' := by
  obtain ⟨ik, hik, hk0, hk1, hk2⟩ := info_parts infoK
  have HX0 := Hid.mk' (Bx.new w (as', az) (bs, bz))
  have B0 : Below w.heap.size w ((w.alloc (.cells #[.string as', .int .i64 az] 25)).alloc (.cells #[.string bs, .int .i64 bz] 25)) := ((Below.refl _ _).alloc (Nat.le_refl _) _).alloc (by simp) _
  have HA := Hid.mk' (awake_any _ (hP.below B0))
  have HV := Hid.mk' hv
  have HZ := Hid.mk' hz
  have HP := Hid.mk' hP
  clear hv hz hP fa fb
  have hM : (l.length : Nat) < 4611686018427387904 := by omega
  go_enter Tryd.func3, Tryd.ntmps3
  go_wp2_with fail
  refine (HA.out).mono ?_
  rintro e w1 ⟨rfl, b1⟩
  have B1 : Below w.heap.size w w1 := B0.trans (b1.mono B0.size)
  have HX1 := Hid.mk' (HX0.out.grow b1)
  have HF := Hid.mk' (few_any l hn HZ.out _ w1 (HV.out.below B1))
  clear HA b1 B0 HX0
  go_wp2_with fail
  refine (HF.out).mono ?_
  rintro e w2 ⟨⟨fb, rfl⟩, b2⟩
  have B2 : Below w.heap.size w w2 := B1.trans (b2.mono B1.size)
  have HX2 := Hid.mk' (HX1.out.grow b2)
  clear HF HX1 b2 B1
  have a0 := HX2.out.a0; have a1 := HX2.out.a1; have b0 := HX2.out.b0; have b1 := HX2.out.b1
  dsimp only at a0 a1 b0 b1
  have HF2 := Hid.mk' (few_any [(as', az), (bs, bz)] (by simp) (fun p hp => by simp at hp; rcases hp with rfl | rfl; exact ha; exact hb) _ _ (rdk_two w2 (as', az) (bs, bz)))
  cases fb
  · go_wp2_with fail
    go_ret
    exact ⟨rfl, B2⟩
  · go_wp2_with fail
    refine (HF2.out).mono ?_
    rintro e w3 ⟨⟨fb2, rfl⟩, b3⟩
    have b3' : Below w2.heap.size w2 w3 := ((Below.refl _ _).alloc (Nat.le_refl _) _).trans (b3.mono (by simp))
    have B3 : Below w.heap.size w w3 := B2.trans (b3'.mono B2.size)
    have HX3 := Hid.mk' (HX2.out.grow b3')
    clear HF2 HX2 b3 a0 a1 b0 b1 b3'
    cases fb2
    · go_wp2_with fail
      go_ret
      exact ⟨rfl, B3⟩
    · have HV3 := Hid.mk' (HV.out.below B3)
      have hn3 : (0 + l.length) * 24 ≤ 140737488355328 := by omega
      have hn4 : 0 + l.length ≤ maxLen := by unfold maxLen; omega
      have hix : (ixs l).length ≤ l.length := by have := parts_length l; omega
      have HOR : Hid (∀ (w5 : World) (v5 : Value), w5.ownsRow w3.heap.size 25 2 v5 l.length (kc l) → Below w3.heap.size w3 w5 →
          Calls Tryd.prog 6 #[v5] w5 fun e w' => ∃ v', e = .returned v' ∧ w'.ownsRow w5.heap.size 25 2 v' (ordK l).length (kc (ordK l)) ∧ Below w5.heap.size w5 w') := Hid.mk' (fun w5 v5 o5 b5 =>
        order_any l.length (sort_all _ hM) l hix HZ.out hn v5 w5 (RdK.own o5) (HP.out.below (B3.trans (b5.mono B3.size))))
      go_upto_region 5 with fail
      go_cut [7] from 23 (fun v7 wc => Hid (RdK wc v7 (ordK l)) ∧ Hid (Below w3.heap.size w3 wc))
      case first =>
        rcases HV3.out with ⟨a', c', e', h', hnil⟩ | ⟨g, o, c', e', hlc, hg, hc⟩
        · simp only [Value.slice.injEq] at e'
          obtain ⟨rfl, _, rfl⟩ := e'
          subst h'
          cases x with
          | none =>
            obtain rfl := hnil rfl
            clear hnil
            have HB : Hid (Below w3.heap.size w3 w3) := Hid.mk' (Below.refl _ _)
            have HO : Hid (w3.ownsRow w3.heap.size 25 2 (.slice none 0 0) (([] : KL).length) (kc [])) := Hid.mk' (World.ownsRow_nil _ _ _ _)
            go_wp2_with (first | (at_builtin; go_must (refine wpList_append_own_any_at _ rfl _ _ 22 rfl w3.heap.size 25 ik (.agg #[.string ⟨#[]⟩, .int .i64 0]) 2 24 Tryd.underlying22 hik hk0 hk1 hk2 rfl (by decide) _ 0 [] rfl (World.ownsRow_nil _ _ _ _) _ 0 [] rfl w3.heap.size (World.ownsRow_nil _ _ _ _) (fun u h => no_mem h) (by unfold maxLen; omega) (by omega) (Nat.le_refl _) ?_); intro v5 w5 o5 g5 hl5; have HO : Hid (w5.ownsRow w3.heap.size 25 2 v5 (([] : KL).length) (kc [])) := Hid.mk' (by simpa using o5); have HB : Hid (Below w3.heap.size w3 w5) := Hid.mk' ((Below.refl _ _).grown g5 (Nat.le_refl _) (fun _ e => by cases e))) | (go_at_call 6; refine (HOR.out _ _ HO.out HB.out).mono ?_; rintro e w6 ⟨vo, rfl, o6, b6⟩))
            go_meet
            case rel => exact ⟨Hid.mk' (RdK.own o6), Hid.mk' (HB.out.trans (b6.mono HB.out.size))⟩
          | some ad =>
            have HB : Hid (Below w3.heap.size w3 w3) := Hid.mk' (Below.refl _ _)
            have HO : Hid (w3.ownsRow w3.heap.size 25 2 (.slice none 0 0) (([] : KL).length) (kc [])) := Hid.mk' (World.ownsRow_nil _ _ _ _)
            go_wp2_with (first | (go_at_call 6; refine (HOR.out _ _ HO.out HB.out).mono ?_; rintro e w6 ⟨vo, rfl, o6, b6⟩))
            go_meet
            case rel => exact ⟨Hid.mk' (RdK.own o6), Hid.mk' (HB.out.trans (b6.mono HB.out.size))⟩
        · simp only [Value.slice.injEq] at e'
          obtain ⟨rfl, _, rfl⟩ := e'
          have HCC := Hid.mk' (rdk_cells hc)
          clear hc
          go_wp2_with (first | (at_builtin; go_must (refine wpList_append_own_at _ rfl _ _ 22 rfl w3.heap.size 25 ik (.agg #[.string ⟨#[]⟩, .int .i64 0]) 2 24 Tryd.underlying22 hik hk0 hk1 hk2 rfl (by decide) _ 0 [] rfl (World.ownsRow_nil _ _ _ _) ⟨g, o, none⟩ l.length _ (kc l) rfl (kc_length l) HCC.out (kc_one' l) hn4 hn3 (Nat.le_refl _) ?_); intro v5 w5 o5 g5 _ hl5; have HO : Hid (w5.ownsRow w3.heap.size 25 2 v5 l.length (kc l)) := Hid.mk' (by simpa using o5); have HB : Hid (Below w3.heap.size w3 w5) := Hid.mk' ((Below.refl _ _).grown g5 (Nat.le_refl _) (fun _ e => by cases e))) | (go_at_call 6; refine (HOR.out _ _ HO.out HB.out).mono ?_; rintro e w6 ⟨vo, rfl, o6, b6⟩))
          go_meet
          case rel => exact ⟨Hid.mk' (RdK.own o6), Hid.mk' (HB.out.trans (b6.mono HB.out.size))⟩
      obtain ⟨HRo, HB4⟩ := hcut
      obtain ⟨xo, co, hvo⟩ := HRo.out.form
      subst hvo
      have B4 : Below w.heap.size w wc := B3.trans (HB4.out.mono B3.size)
      have HX4 := Hid.mk' (HX3.out.grow HB4.out)
      have HW := Hid.mk' (rorder_any l HZ.out hn _ wc (HV.out.below B4))
      have hol := ord_length l
      clear HOR HV3 HX3 HB4 B3 hn3 hn4 hix
      go_wp2_with fail
      refine (HW.out).mono ?_
      rintro e w5 ⟨vw, rfl, F, hF, hS, o5, b5⟩
      have hcl := doc_ord l F hF hS
      obtain ⟨R, hR⟩ : ∃ R, F ++ rT l ++ rS l = R := ⟨_, rfl⟩
      rw [hR] at hcl o5
      have hRl : R.length = l.length := by rw [← hol, ← hcl, List.length_map]
      have HRw := Hid.mk' (RdK.own o5)
      have HRo5 := Hid.mk' (HRo.out.below b5)
      have B5 : Below w.heap.size w w5 := B4.trans (b5.mono B4.size)
      have HX5 := Hid.mk' (HX4.out.grow b5)
      obtain ⟨xw, cw, hvw⟩ := HRw.out.form
      subst hvw
      have HSM : Hid (∀ i (h1 : i < (ordK l).length) (h2 : i < R.length), sameK (ordK l)[i] R[i] = true) := Hid.mk' (fun i h1 h2 => by
        refine (same_cls _ _).2 ?_
        rw [cls_ord_id l _ (List.getElem_mem h1)]
        have e : (R.map cls)[i]'(by rw [List.length_map]; exact h2) = cls R[i] := by simp
        rw [← e]
        simp only [hcl])
      have HOS := Hid.mk' (ord_small l HZ.out)
      have hRz : ∀ p ∈ R, (p.1.size : Int) ≤ 140737488351232 := fun p hp => by
        rw [← hR, List.mem_append, List.mem_append] at hp
        rcases hp with (hp | hp) | hp
        · exact HZ.out p (List.mem_filter.1 (hF.mem_iff.1 hp)).1
        · exact HZ.out p (List.mem_filter.1 hp).1
        · exact HZ.out p (List.mem_filter.1 hp).1
      have HRZ := Hid.mk' hRz
      obtain ⟨os, hos⟩ : ∃ os, ordK l = os := ⟨_, rfl⟩
      rw [hos] at HRo5 HSM HOS hol ⊢
      have hlo : (os.length : Int) = (l.length : Int) := by omega
      have hlr : (R.length : Int) = (l.length : Int) := by omega
      clear HW HRo HX4 hF hS hcl hR hRz o5 b5 B4 hos
      go_wp2_with fail
      go_loopw [35] (fun vi wr => ∃ i : Nat, vi = .int .i64 i ∧ i ≤ os.length ∧ Hid (Below w5.heap.size w5 wr)) (fun vi _ => os.length - (intOf vi).toNat)
      case atStart => exact ⟨0, rfl, Nat.zero_le _, Hid.mk' (Below.refl _ _)⟩
      case round =>
        obtain ⟨i, rfl, hi, HB⟩ := hrel
        by_cases hlt : i < os.length
        · have zi : (i : Int) < (os.length : Int) := by omega
          have hltR : i < R.length := by omega
          have ziR : (i : Int) < (R.length : Int) := by omega
          have hsm := HSM.out i hlt hltR
          obtain ⟨p, hp⟩ : ∃ p, os[i] = p := ⟨_, rfl⟩
          obtain ⟨q, hq⟩ : ∃ q, R[i] = q := ⟨_, rfl⟩
          have hpz : (p.1.size : Int) ≤ 140737488351232 := by rw [← hp]; exact HOS.out _ (List.getElem_mem hlt)
          have hqz : (q.1.size : Int) ≤ 140737488351232 := by rw [← hq]; exact HRZ.out _ (List.getElem_mem hltR)
          rw [hp, hq] at hsm
          obtain ⟨ps, pz⟩ := p
          obtain ⟨qs, qz⟩ := q
          have HSame := Hid.mk' (fun W => same_any ps qs pz qz W (by simpa using hpz) (by simpa using hqz))
          rw [hsm] at HSame
          rcases HRo5.out.below HB.out with ⟨a', c', e', h', _⟩ | ⟨g, o, c', e', hlc, hg, hc⟩
          · rw [h'] at hlt; simp at hlt
          simp only [Value.slice.injEq] at e'
          obtain ⟨rfl, _, rfl⟩ := e'
          obtain ⟨c0, c1⟩ := hc i hlt
          rw [hp] at c0 c1
          dsimp only at c0 c1
          rcases HRw.out.below HB.out with ⟨a', c', e', h', _⟩ | ⟨g', o', c', e', hlc', hg', hc'⟩
          · rw [h'] at hltR; simp at hltR
          simp only [Value.slice.injEq] at e'
          obtain ⟨rfl, _, rfl⟩ := e'
          obtain ⟨c0', c1'⟩ := hc' i hltR
          rw [hq] at c0' c1'
          dsimp only at c0' c1'
          clear hc hc' hlc hlc' hp hq hsm
          go_wp2_with fail
          go_cut [35, 47] from 35 to 48 (fun s35 s47 wc => s35 = .int .i64 i ∧ s47 = .bool false ∧ Hid (Below w5.heap.size w5 wc))
          case first =>
            go_region_law (first | (refine step_call2' rfl 8 (.tmp 41) (.tmp 45) 25 25 rfl (enters_of Tryd.func8 (by kernel_rfl) rfl) _ _ rfl rfl (HSame.out _) ?_; rintro e w7 ⟨rfl, b7⟩; refine ⟨_, rfl, ?_⟩))
            all_goals
              go_wp2_with fail
              go_meet
              exact ⟨rfl, rfl, Hid.mk' (HB.out.drew.trans (b7.mono HB.out.size))⟩
          obtain ⟨rfl, rfl, HB7⟩ := hcut
          clear c0 c1 c0' c1' HSame hg hg'
          go_wp2_with fail
          go_roundw
          case rel => exact ⟨i + 1, by go_num, by omega, HB7⟩
          case measure => simp [intOf]; omega
        · have zi : ¬ (i : Int) < (os.length : Int) := by omega
          have HX := Hid.mk' (HX5.out.grow HB.out)
          have B6 : Below w.heap.size w wr := B5.trans (HB.out.mono B5.size)
          have a0 := HX.out.a0; have a1 := HX.out.a1; have b0 := HX.out.b0; have b1 := HX.out.b1
          dsimp only at a0 a1 b0 b1
          have HC1 := Hid.mk' (fun W => kcompare_any (as', az) (bs, bz) W ha hb)
          have HC2 := Hid.mk' (fun W => kcompare_any (bs, bz) (as', az) W hb ha)
          have HC3 := Hid.mk' (fun W => rkcompare_any (as', az) (bs, bz) W ha hb)
          have HSA := Hid.mk' (fun W => same_any as' bs az bz W ha hb)
          rw [cmpC_swap] at HC2
          rw [← cmpC_same] at HSA
          obtain ⟨cc, hcc⟩ : ∃ cc, cmpC (as', az) (bs, bz) = cc := ⟨_, rfl⟩
          rw [hcc] at HC1 HC2 HC3 HSA
          clear hcc
          dsimp only at HC1 HC2 HC3
          go_wp2_with fail
          refine (HC1.out _).mono ?_
          rintro e w7 ⟨rfl, b7⟩
          have HX7 := HX.out.grow b7
          have B7 := B6.trans (b7.mono B6.size)
          have a0 := HX7.a0; have a1 := HX7.a1; have b0 := HX7.b0; have b1 := HX7.b1
          dsimp only at a0 a1 b0 b1
          go_wp2_with fail
          refine (HC3.out _).mono ?_
          rintro e w8 ⟨rfl, b8⟩
          have HX8 := HX7.grow b8
          have B8 := B7.trans (b8.mono B7.size)
          have a0 := HX8.a0; have a1 := HX8.a1; have b0 := HX8.b0; have b1 := HX8.b1
          dsimp only at a0 a1 b0 b1
          go_wp2_with fail
          refine (HC2.out _).mono ?_
          rintro e w9 ⟨rfl, b9⟩
          have HX9 := HX8.grow b9
          have B9 := B8.trans (b9.mono B8.size)
          have a0 := HX9.a0; have a1 := HX9.a1; have b0 := HX9.b0; have b1 := HX9.b1
          dsimp only at a0 a1 b0 b1
          go_wp2_with fail
          refine (HSA.out _).mono ?_
          rintro e w10 ⟨rfl, b10⟩
          have B10 := B9.trans (b10.mono B9.size)
          go_wp2_with fail
          go_ret
          exact ⟨by simp, B10⟩
end Go.Proofs.YtcjpoabknlpopaaDoor
