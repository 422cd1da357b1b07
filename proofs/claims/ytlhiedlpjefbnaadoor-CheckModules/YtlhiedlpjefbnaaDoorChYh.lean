/- The document's check: Check. CheckModules: the law. -/
import Derived.Test.YtlhiedlpjefbnaaDoorChYb
import Derived.Test.YtlhiedlpjefbnaaDoorChYc
import Derived.Test.YtlhiedlpjefbnaaDoorChYf
import Derived.Test.YtlhiedlpjefbnaaDoorChYe
import Derived.Test.YtlhiedlpjefbnaaDoorChT
namespace Go.Proofs.YtlhiedlpjefbnaaDoor
set_option linter.unusedVariables false
set_option linter.unusedSimpArgs false
open Go.RowKit Go.Shelf

theorem rins_any {a : Option Addr} {c : Nat} {qs : List FW} (w : World) (hm : Md w a c qs) (q : FW) (hq : q ∈ qs) (hr1 : 1 ≤ q.f.regs) (hr2 : q.f.regs ≤ 4000) (n : Nat) (hn : n < q.f.code.length) :
    Calls Tryd.prog 16 #[.agg #[.slice a qs.length c], .agg q.cs.toArray, .int .i64 (n : Int)] w fun e w' => e = .returned (.bool (insB (qs.map FW.f) q.f n (insAt q.f n))) ∧ Below w.heap.size w w' := by
  by_cases h : (n : Int) = (q.f.code.length : Int) - 1
  · exact rins_last w hm q hq hr1 hr2 n hn h
  · exact rins_mid w hm q hq hr1 hr2 n hn h
theorem fnP_head {fs : List Fun} {N n : Nat} {f : Fun} (hN : N ≤ 20000) (h : hdB N n f = false) : fnP fs n f = some 0 := by
  unfold hdB at h
  rw [decide_eq_true hN, Bool.true_and, Bool.not_eq_false'] at h
  unfold fnP
  rw [if_pos h]
theorem hd_true {N n : Nat} {f : Fun} (h : hdB N n f = true) : N ≤ 20000 ∧ (!headB f || (decide ((n : Int) = 0) && !scrB f)) = false ∧ 1 ≤ f.regs ∧ f.regs ≤ 4000 := by
  have h1 := hd_iff.1 h
  have h2 := head_iff.1 h1.2.1
  unfold hdB at h
  rw [Bool.and_eq_true] at h
  exact ⟨h1.1, by have := h.2; rwa [Bool.not_eq_true'] at this, by omega, by omega⟩
theorem fnP_ins {fs : List Fun} {n k : Nat} {f : Fun} (h : (!headB f || (decide ((n : Int) = 0) && !scrB f)) = false) (hk : k < f.code.length) (hb : ∀ j, j < k → insB fs f j (insAt f j) = true) (hx : insB fs f k (insAt f k) = false) : fnP fs n f = some k := by
  have e := fwI_eq (n := k) (by omega) hb (fun _ => hx)
  unfold fnP
  rw [if_neg (by rw [h]; exact Bool.false_ne_true), e, if_pos hk]
theorem fnP_tri {fs : List Fun} {n : Nat} {f : Fun} (h : (!headB f || (decide ((n : Int) = 0) && !scrB f)) = false) (hb : ∀ j, j < f.code.length → insB fs f j (insAt f j) = true) :
    fnP fs n f = if (trsB f && nesB f.tries) = true then none else some f.code.length := by
  have e := fwI_eq (n := f.code.length) (Nat.le_refl _) hb (fun h => absurd h (Nat.lt_irrefl _))
  unfold fnP
  rw [if_neg (by rw [h]; exact Bool.false_ne_true), e, if_neg (Nat.lt_irrefl _)]
  cases trsB f <;> cases nesB f.tries <;> rfl

set_option maxHeartbeats 4000000 in
set_option maxRecDepth 100000 in
theorem rcheck_any {a : Option Addr} {c : Nat} {qs : List FW} (w : World) (hm : Md w a c qs) :
    Calls Tryd.prog 8 #[.agg #[.slice a qs.length c]] w fun e w' => ∃ V, e = .returned V ∧ ∃ g k z, V = .tuple #[.int .i64 (g : Nat), .int .i64 (k : Nat), .int .i64 z] ∧ Chk (qs.map FW.f) g k z ∧ Below w.heap.size w w' := by
  have hle := hm.r.le
  have hcl : c * (9 * 8) ≤ 140737488351232 := hm.r.cle
  obtain ⟨W1, hW1⟩ : ∃ W1, w.alloc (.cells #[.slice a qs.length c] 24) = W1 := ⟨_, rfl⟩
  have b1 : Below w.heap.size w W1 := by rw [← hW1]; exact lay_below
  have q1 : W1.heap[w.heap.size]? = some (.cells #[.slice a qs.length c] 24 (0, 0)) := by rw [← hW1]; exact box_new
  have HM1 := Hid.mk' (hm.below b1)
  obtain ⟨N, hN⟩ : ∃ N, qs.length = N := ⟨_, rfl⟩
  rw [hN] at hle q1 hW1 ⊢
  have HN := Hid.mk' hN
  have HFL : Hid ((qs.map FW.f).length = N) := Hid.mk' (by rw [List.length_map, hN])
  obtain ⟨b0, hb0⟩ : ∃ b0, w.heap.size = b0 := ⟨_, rfl⟩
  rw [hb0] at q1
  have hb1 : b0 < W1.heap.size := (Array.getElem?_eq_some_iff.1 q1).1
  have HC0 : Hid (∀ W, Below W1.heap.size W1 W → W.cell? ⟨b0, 0, none⟩ = some (.slice a N c)) := Hid.mk' (fun W hW => (hW.cell (p := ⟨b0, 0, none⟩) hb1).trans ((cell_row _ _ 0 _ _ q1).trans rfl))
  have c1 := HC0.out W1 (Below.refl _ _)
  have HB1 := Hid.mk' b1
  have hNb : (N : Int) ≤ 140737488351232 := by omega
  clear hm b1 q1 hN hb1 hle hcl
  by_cases h0 : N = 0
  · have HC : Hid (Chk (qs.map FW.f) 0 0 120) := Hid.mk' (.inl ⟨.inl (by rw [HFL.out]; exact h0), rfl, rfl, rfl⟩)
    subst h0
    go_enter Tryd.func8, Tryd.ntmps8
    go_wp2
    go_ret3
    exact ⟨_, rfl, 0, 0, 120, rfl, HC.out, HB1.out⟩
  have HN0 := Hid.mk' h0
  have h0' : ((N : Int) == 0) = false := by simp; omega
  clear h0
  go_enter Tryd.func8, Tryd.ntmps8
  go_wp2_with fail
  clear c1 h0'
  go_loopw [15] (fun iv wr => ∃ i : Nat, iv = .int .i64 (i : Int) ∧ i ≤ N ∧ Hid (Below W1.heap.size W1 wr) ∧ Hid (i = 0 ∨ N ≤ 20000) ∧ Hid (∀ j, j < i → fnP (qs.map FW.f) j ((qs.map FW.f).getD j noFun) = none)) (fun iv wr => N - (intOf iv).toNat)
  case atStart => exact ⟨0, rfl, Nat.zero_le _, Hid.mk' (Below.refl _ _), Hid.mk' (.inl rfl), Hid.mk' (fun j h => by omega)⟩
  case round =>
    obtain ⟨i, rfl, hi, HBW, HI0, HAL⟩ := hrel
    by_cases hlt : i < N
    · have hlq : i < qs.length := by rw [HN.out]; exact hlt
      have hmw := HM1.out.below HBW.out
      obtain ⟨g, o, rfl, hg, hc⟩ := hmw.r.at i hlq
      have i1 : (i : Int) < (N : Int) := by omega
      have i2 : (i : Int) < 140737488351232 := by omega
      have hrd := hmw.q _ (List.getElem_mem hlq)
      have hge : (qs.map FW.f).getD i noFun = (qs[i]).f := by simp [List.getD_eq_getElem?_getD, List.getElem?_eq_getElem hlq]
      have HHD : Hid (∀ W, Below W1.heap.size W1 W → Calls Tryd.prog 15 #[.agg #[.slice (some ⟨g, o, none⟩) N c], .int .i64 (i : Int)] W fun e w' => e = .returned (.bool (hdB N i (qs[i]).f)) ∧ Below W.heap.size W w') := Hid.mk' (fun W hW => by
        have h := head_any W (HM1.out.below hW) i hlq
        rw [HN.out] at h
        exact h)
      have hmem := List.getElem_mem hlq
      generalize qs[i] = q at hc hrd hge HHD hmem
      have HMEM := Hid.mk' hmem
      have hcl := hrd.i.le
      have hcc : q.yc * (5 * 8) ≤ 140737488351232 := hrd.i.cle
      obtain ⟨f, hf⟩ : ∃ f, q.f = f := ⟨_, rfl⟩
      rw [hf] at hge HHD hcl
      have HGE := Hid.mk' hge
      have HFF := Hid.mk' hf
      clear hrd hmem hmw
      obtain ⟨⟨f1, f2, f3, f4, f5, cs, is, ts, us⟩, xa, xc, ya, yc, za, zc, ua, uc⟩ := q
      simp only [FW.cs] at hc
      dsimp only at hc hf hcc hcl HFF
      obtain ⟨m1, hm1⟩ : ∃ m, cs.length = m := ⟨_, rfl⟩
      obtain ⟨m2, hm2⟩ : ∃ m, is.length = m := ⟨_, rfl⟩
      obtain ⟨m3, hm3⟩ : ∃ m, ts.length = m := ⟨_, rfl⟩
      obtain ⟨m4, hm4⟩ : ∃ m, us.length = m := ⟨_, rfl⟩
      rw [hm1, hm2, hm3, hm4] at hc
      have hn2 : f.code.length = m2 := by rw [← hf]; exact hm2
      rw [hn2] at hcl
      have HN2 := Hid.mk' hn2
      have HIN : Hid (1 ≤ f.regs → f.regs ≤ 4000 → ∀ n, n < m2 → ∀ W, Below W1.heap.size W1 W → Calls Tryd.prog 16 #[.agg #[.slice (some ⟨g, o, none⟩) N c], .agg #[.string f1, .int .i64 f2, .bool f3, .bool f4, .int .i64 f5, .slice xa m1 xc, .slice ya m2 yc, .slice za m3 zc, .slice ua m4 uc], .int .i64 (n : Int)] W fun e w' => e = .returned (.bool (insB (qs.map FW.f) f n (insAt f n))) ∧ Below W.heap.size W w') := Hid.mk' (fun h1 h2 n hn W hW => by
        have h := rins_any W (HM1.out.below hW) _ HMEM.out (by rw [← hf] at h1; exact h1) (by rw [← hf] at h2; exact h2) n (by dsimp only; rw [hm2]; exact hn)
        rw [HN.out] at h
        simp only [FW.cs] at h
        rw [hm1, hm2, hm3, hm4, hf] at h
        exact h)
      have HTR : Hid (∀ W, Below W1.heap.size W1 W → Calls Tryd.prog 17 #[.agg #[.string f1, .int .i64 f2, .bool f3, .bool f4, .int .i64 f5, .slice xa m1 xc, .slice ya m2 yc, .slice za m3 zc, .slice ua m4 uc]] W fun e w' => e = .returned (.bool (trsB f && nesB f.tries)) ∧ Below W.heap.size W w') := Hid.mk' (fun W hW => by
        have h := rtries_any _ W ((HM1.out.below hW).q _ HMEM.out).t
        simp only [FW.cs] at h
        rw [hm1, hm2, hm3, hm4, hf] at h
        have e : f.tries = ts := by rw [← hf]
        rw [e]
        exact h)
      have d0 := hc 0 (.string f1) (by omega) rfl
      have d1 := hc 1 (.int .i64 f2) (by omega) rfl
      have d2 := hc 2 (.bool f3) (by omega) rfl
      have d3 := hc 3 (.bool f4) (by omega) rfl
      have d4 := hc 4 (.int .i64 f5) (by omega) rfl
      have d5 := hc 5 (.slice xa m1 xc) (by omega) rfl
      have d6 := hc 6 (.slice ya m2 yc) (by omega) rfl
      have d7 := hc 7 (.slice za m3 zc) (by omega) rfl
      have d8 := hc 8 (.slice ua m4 uc) (by omega) rfl
      simp only [Nat.add_zero] at d0
      obtain ⟨W6, hW6⟩ : ∃ W6, wr.alloc (.cells #[.string f1, .int .i64 f2, .bool f3, .bool f4, .int .i64 f5, .slice xa m1 xc, .slice ya m2 yc, .slice za m3 zc, .slice ua m4 uc] 38) = W6 := ⟨_, rfl⟩
      have b6 : Below wr.heap.size wr W6 := by rw [← hW6]; exact lay_below
      have q6 : W6.heap[wr.heap.size]? = some (.cells #[.string f1, .int .i64 f2, .bool f3, .bool f4, .int .i64 f5, .slice xa m1 xc, .slice ya m2 yc, .slice za m3 zc, .slice ua m4 uc] 38 (0, 0)) := by rw [← hW6]; exact box_new
      obtain ⟨bf, hbf⟩ : ∃ bf, wr.heap.size = bf := ⟨_, rfl⟩
      rw [hbf] at q6
      have hbl : bf < W6.heap.size := (Array.getElem?_eq_some_iff.1 q6).1
      have HCF : Hid (∀ W, Below W6.heap.size W6 W → ∀ k v, (#[.string f1, .int .i64 f2, .bool f3, .bool f4, .int .i64 f5, .slice xa m1 xc, .slice ya m2 yc, .slice za m3 zc, .slice ua m4 uc] : Array Value)[k]? = some v → W.cell? ⟨bf, k, none⟩ = some v) := Hid.mk' (fun W hW k v hv => (hW.cell (p := ⟨bf, k, none⟩) hbl).trans ((cell_row _ _ k _ _ q6).trans hv))
      have HB6 := Hid.mk' (HBW.out.trans (b6.mono HBW.out.size))
      have HC6 : Hid (∀ W, Below W6.heap.size W6 W → W.cell? ⟨b0, 0, none⟩ = some (.slice (some ⟨g, o, none⟩) N c)) := Hid.mk' (fun W hW => HC0.out W (HB6.out.trans (hW.mono HB6.out.size)))
      have c6 := HC6.out W6 (Below.refl _ _)
      have HHD6 := Hid.mk' (HHD.out W6 HB6.out)
      have hm2b : (m2 : Int) ≤ 140737488351232 := by omega
      have HLT := Hid.mk' hlt
      clear hc hg b6 q6 hbl hf hge hcl hcc hm1 hm2 hm3 hm4 hn2 hlt hi hlq
      obtain ⟨hd, hhd⟩ : ∃ hd, hdB N i f = hd := ⟨_, rfl⟩
      rw [hhd] at HHD6
      cases hd with
      | false =>
        have HCk : Hid (Chk (qs.map FW.f) i 0 120) := Hid.mk' (by
          by_cases hN : 20000 < N
          · exact .inl ⟨.inr (by rw [HFL.out]; exact hN), by have := HI0.out; omega, rfl, rfl⟩
          · exact .inr ⟨by rw [HFL.out]; have := HN0.out; omega, .inr ⟨by rw [HFL.out]; exact HLT.out, rfl, by rw [HGE.out]; exact fnP_head (by omega) hhd, HAL.out⟩⟩)
        clear hhd
        go_wp2_with fail
        refine HHD6.out.mono ?_
        rintro e w7 ⟨rfl, b7⟩
        have HB7 := Hid.mk' (HB6.out.trans (b7.mono HB6.out.size))
        clear b7
        go_wp2
        go_ret3
        exact ⟨_, rfl, i, 0, 120, rfl, HCk.out, by first | exact HB1.out.trans (HB7.out.mono HB1.out.size) | (rw [← hb0]; exact HB1.out.trans (HB7.out.mono HB1.out.size))⟩
      | true =>
        obtain ⟨hN2, hh, hr1, hr2⟩ := hd_true hhd
        have HNB : Hid (¬ ((qs.map FW.f).length = 0 ∨ 20000 < (qs.map FW.f).length)) := Hid.mk' (by rw [HFL.out]; have := HN0.out; omega)
        have HHH := Hid.mk' hh
        have HN20 := Hid.mk' hN2
        have HINS := Hid.mk' (HIN.out hr1 hr2)
        clear hhd hN2 hh hr1 hr2
        go_wp2_with fail
        refine HHD6.out.mono ?_
        rintro e w7 ⟨rfl, b7⟩
        have HB7 := Hid.mk' b7
        have a6 := HCF.out w7 b7 6 _ rfl
        clear b7
        go_wp2_with fail
        clear d0 d1 d2 d3 d4 d5 d6 d7 d8 a6 c6 hW6 hbf
        go_loopw [28] (fun jv wx => ∃ j : Nat, jv = .int .i64 (j : Int) ∧ j ≤ m2 ∧ Hid (Below W6.heap.size W6 wx) ∧ Hid (∀ k, k < j → insB (qs.map FW.f) f k (insAt f k) = true)) (fun jv wx => m2 - (intOf jv).toNat)
        case atStart => exact ⟨0, rfl, Nat.zero_le _, HB7, Hid.mk' (fun k h => by omega)⟩
        case round =>
          obtain ⟨j, rfl, hj, HBX, HAJ⟩ := hrel
          have HBX1 := Hid.mk' (HB6.out.trans (HBX.out.mono HB6.out.size))
          have A0 := HC6.out wr HBX.out
          have a0 := HCF.out wr HBX.out 0 _ rfl
          have a1 := HCF.out wr HBX.out 1 _ rfl
          have a2 := HCF.out wr HBX.out 2 _ rfl
          have a3 := HCF.out wr HBX.out 3 _ rfl
          have a4 := HCF.out wr HBX.out 4 _ rfl
          have a5 := HCF.out wr HBX.out 5 _ rfl
          have a6 := HCF.out wr HBX.out 6 _ rfl
          have a7 := HCF.out wr HBX.out 7 _ rfl
          have a8 := HCF.out wr HBX.out 8 _ rfl
          by_cases hjt : j < m2
          · have j1 : (j : Int) < (m2 : Int) := by omega
            have j2 : (j : Int) < 140737488351232 := by omega
            obtain ⟨rb, hrb⟩ : ∃ rb, insB (qs.map FW.f) f j (insAt f j) = rb := ⟨_, rfl⟩
            have HIJ := Hid.mk' (HINS.out j hjt wr HBX1.out)
            rw [hrb] at HIJ
            have HRB := Hid.mk' hrb
            have HJT := Hid.mk' hjt
            clear hjt hj hrb
            go_wp2_with fail
            refine HIJ.out.mono ?_
            rintro e w8 ⟨rfl, b8⟩
            have HB8 := Hid.mk' b8
            clear b8 A0 a0 a1 a2 a3 a4 a5 a6 a7 a8
            cases rb with
            | true =>
              go_wp2
              exact ⟨⟨j + 1, by go_num, HJT.out, Hid.mk' (HBX.out.trans (HB8.out.mono HBX.out.size)), Hid.mk' (fun k hk => by
                rcases Nat.lt_or_ge k j with h1 | h1
                · exact HAJ.out k h1
                · obtain rfl : k = j := by omega
                  exact HRB.out)⟩, meas_up' m2 j HJT.out⟩
            | false =>
              have HCk : Hid (Chk (qs.map FW.f) i j 120) := Hid.mk' (.inr ⟨HNB.out, .inr ⟨by rw [HFL.out]; exact HLT.out, rfl, by rw [HGE.out]; exact fnP_ins HHH.out (by rw [HN2.out]; exact HJT.out) HAJ.out HRB.out, HAL.out⟩⟩)
              have HB9 := Hid.mk' (HBX1.out.trans (HB8.out.mono HBX1.out.size))
              go_wp2
              go_ret3
              exact ⟨_, rfl, i, j, 120, rfl, HCk.out, by first | exact HB1.out.trans (HB9.out.mono HB1.out.size) | (rw [← hb0]; exact HB1.out.trans (HB9.out.mono HB1.out.size))⟩
          · have j1 : ¬ (j : Int) < (m2 : Int) := by omega
            obtain rfl : j = m2 := by omega
            have hft := @fnP_tri (qs.map FW.f) i f HHH.out (fun k hk => HAJ.out k (by rw [HN2.out] at hk; exact hk))
            have HTT := Hid.mk' (HTR.out wr HBX1.out)
            obtain ⟨tb, htb⟩ : ∃ tb, (trsB f && nesB f.tries) = tb := ⟨_, rfl⟩
            rw [htb] at hft HTT
            have HFT := Hid.mk' hft
            clear hjt hj hft htb
            go_wp2_with fail
            refine HTT.out.mono ?_
            rintro e w8 ⟨rfl, b8⟩
            have HB8 := Hid.mk' b8
            have HB9 := Hid.mk' (HBX1.out.trans (b8.mono HBX1.out.size))
            have e6 := HCF.out w8 (HBX.out.trans (b8.mono HBX.out.size)) 6 _ rfl
            clear b8 A0 a0 a1 a2 a3 a4 a5 a6 a7 a8
            cases tb with
            | true =>
              have HFN : Hid (fnP (qs.map FW.f) i ((qs.map FW.f).getD i noFun) = none) := Hid.mk' (by rw [HGE.out, HFT.out]; rfl)
              clear e6
              go_wp2
              exact ⟨⟨i + 1, by go_num, HLT.out, HB9, Hid.mk' (.inr HN20.out), Hid.mk' (fun k hk => by
                rcases Nat.lt_or_ge k i with h1 | h1
                · exact HAL.out k h1
                · obtain rfl : k = i := by omega
                  exact HFN.out)⟩, meas_up' N i HLT.out⟩
            | false =>
              have HCk : Hid (Chk (qs.map FW.f) i j 120) := Hid.mk' (.inr ⟨HNB.out, .inr ⟨by rw [HFL.out]; exact HLT.out, rfl, by rw [HGE.out, HFT.out, HN2.out]; rfl, HAL.out⟩⟩)
              go_upto_region 15 with fail
              go_quiet (fail)
              go_wp2
              go_ret3
              exact ⟨_, rfl, i, j, 120, rfl, HCk.out, by first | exact (HB1.out.trans (HB9.out.mono HB1.out.size)).trans (kept_drewN _ 0 _ _).1 | (rw [← hb0]; exact HB1.out.trans (HB9.out.mono HB1.out.size))⟩
    · have i1 : ¬ (i : Int) < (N : Int) := by omega
      have HCk : Hid (Chk (qs.map FW.f) 0 0 0) := Hid.mk' (.inr ⟨by rw [HFL.out]; have := HN0.out; have := HI0.out; omega, .inl ⟨rfl, rfl, rfl, fun j hj => HAL.out j (by rw [HFL.out] at hj; omega)⟩⟩)
      go_wp2
      go_ret3
      exact ⟨_, rfl, 0, 0, 0, rfl, HCk.out, by first | exact HB1.out.trans (HBW.out.mono HB1.out.size) | (rw [← hb0]; exact HB1.out.trans (HBW.out.mono HB1.out.size))⟩
end Go.Proofs.YtlhiedlpjefbnaaDoor

namespace Go.Proofs.YtlhiedlpjefbnaaDoor
set_option linter.unusedVariables false
set_option linter.unusedSimpArgs false
open Go.RowKit Go.Shelf

/-- What Check tells is one answer. -/
theorem chk_one {fs : List Fun} {g k g' k' : Nat} {z z' : Int} (h : Chk fs g k z) (h' : Chk fs g' k' z') : g' = g ∧ k' = k ∧ z' = z := by
  rcases h with ⟨hb, rfl, rfl, rfl⟩ | ⟨hb, h⟩
  · rcases h' with ⟨_, rfl, rfl, rfl⟩ | ⟨hb', _⟩
    · exact ⟨rfl, rfl, rfl⟩
    · exact absurd hb hb'
  · rcases h' with ⟨hb', _⟩ | ⟨_, h'⟩
    · exact absurd hb' hb
    · rcases h with ⟨rfl, rfl, rfl, ha⟩ | ⟨hg, rfl, hs, ha⟩ <;> rcases h' with ⟨rfl, rfl, rfl, ha'⟩ | ⟨hg', rfl, hs', ha'⟩
      · exact ⟨rfl, rfl, rfl⟩
      · rw [ha g' hg'] at hs'; cases hs'
      · rw [ha' g hg] at hs; cases hs
      · have e : g' = g := by
          rcases Nat.lt_trichotomy g' g with hl | hl | hl
          · rw [ha g' hl] at hs'; cases hs'
          · exact hl
          · rw [ha' g hl] at hs; cases hs
        subst e
        rw [hs] at hs'
        exact ⟨rfl, (Option.some.inj hs').symm, rfl⟩

set_option maxHeartbeats 4000000 in
set_option maxRecDepth 100000 in
theorem modules_any (a : Option Addr) (c : Nat) (qs : List FW) (w : World) (hm : Md w a c qs) (hl : LaidL w) :
    Calls Tryd.prog 3 #[.agg #[.slice a qs.length c]] w fun e w' => e = .returned (.bool true) ∧ Below w.heap.size w w' := by
  obtain ⟨W1, hW1⟩ : ∃ W1, w.alloc (.cells #[.slice a qs.length c] 24) = W1 := ⟨_, rfl⟩
  have b1 : Below w.heap.size w W1 := by rw [← hW1]; exact lay_below
  have q1 : W1.heap[w.heap.size]? = some (.cells #[.slice a qs.length c] 24 (0, 0)) := by rw [← hW1]; exact box_new
  have HAW := Hid.mk' (awake_any W1 (hl.below' b1))
  have HFE := Hid.mk' (fun W (hW : Below W1.heap.size W1 W) => few_any W ((hm.below b1).below hW))
  have HCH := Hid.mk' (fun W (hW : Below W1.heap.size W1 W) => check_any W ((hm.below b1).below hW) ((hl.below' b1).below' hW))
  have HRC := Hid.mk' (fun W (hW : Below W1.heap.size W1 W) => rcheck_any W ((hm.below b1).below hW))
  obtain ⟨N, hN⟩ : ∃ N, qs.length = N := ⟨_, rfl⟩
  rw [hN] at q1 HFE HCH HRC hW1 ⊢
  obtain ⟨b0, hb0⟩ : ∃ b0, w.heap.size = b0 := ⟨_, rfl⟩
  rw [hb0] at q1
  have hb1 : b0 < W1.heap.size := (Array.getElem?_eq_some_iff.1 q1).1
  have HC0 : Hid (∀ W, Below W1.heap.size W1 W → W.cell? ⟨b0, 0, none⟩ = some (.slice a N c)) := Hid.mk' (fun W hW => (hW.cell (p := ⟨b0, 0, none⟩) hb1).trans ((cell_row _ _ 0 _ _ q1).trans rfl))
  have HB1 := Hid.mk' b1
  clear hm hl b1 q1 hN hb1
  go_enter Tryd.func3, Tryd.ntmps3
  go_wp2_with fail
  refine HAW.out.mono ?_
  rintro e w2 ⟨rfl, b2⟩
  have HB2 := Hid.mk' b2
  have c2 := HC0.out _ b2
  have HF2 := Hid.mk' (HFE.out w2 b2)
  clear b2
  go_wp2_with fail
  refine HF2.out.mono ?_
  rintro e w3 ⟨v, rfl, ⟨b, rfl⟩, b3⟩
  have B3 := HB2.out.trans (b3.mono HB2.out.size)
  have HB3 := Hid.mk' B3
  have c3 := HC0.out _ B3
  have HC3 := Hid.mk' (HCH.out w3 B3)
  clear b3 B3 c2
  cases b with
  | false =>
    go_wp2
    go_ret
    exact ⟨rfl, HB1.out.trans (HB3.out.mono HB1.out.size)⟩
  | true =>
    go_wp2_with fail
    refine HC3.out.mono ?_
    rintro e w4 ⟨V, rfl, gg, kk, z, rfl, hC, b4⟩
    have B4 := HB3.out.trans (b4.mono HB3.out.size)
    have HB4 := Hid.mk' B4
    have c4 := HC0.out _ B4
    have HC4 := Hid.mk' (HRC.out w4 B4)
    have HCk := Hid.mk' hC
    clear b4 B4 c3 hC
    go_wp2_with fail
    refine HC4.out.mono ?_
    rintro e w5 ⟨V, rfl, g2, k2, z2, rfl, hC2, b5⟩
    have HB5 := Hid.mk' (HB4.out.trans (b5.mono HB4.out.size))
    obtain ⟨rfl, rfl, rfl⟩ := chk_one HCk.out hC2
    clear hC2 b5 c4
    go_wp2
    go_ret
    exact ⟨rfl, HB1.out.trans (HB5.out.mono HB1.out.size)⟩
end Go.Proofs.YtlhiedlpjefbnaaDoor
