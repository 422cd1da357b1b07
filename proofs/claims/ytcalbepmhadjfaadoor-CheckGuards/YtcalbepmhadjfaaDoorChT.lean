/- CheckParts: the law. -/
import Derived.Test.YtcalbepmhadjfaaDoorChS
namespace Go.Proofs.YtcalbepmhadjfaaDoor
set_option linter.unusedVariables false
set_option linter.unusedSimpArgs false
open Go.RowKit Go.Shelf

theorem chk_zero {fs : List Fun} {g k : Nat} (h : Chk fs g k 0) : ¬ 20000 < fs.length ∧ ∀ n, n < fs.length → fnP fs n (fs.getD n noFun) = none := by
  rcases h with ⟨_, _, _, h⟩ | ⟨hb, ⟨_, _, _, h⟩ | ⟨_, h, _⟩⟩
  · omega
  · exact ⟨fun h => hb (.inr h), h⟩
  · omega
set_option maxHeartbeats 4000000 in
set_option maxRecDepth 100000 in
theorem parts_any (a : Option Addr) (c : Nat) (qs : List FW) (w : World) (hm : Md w a c qs) (hl : LaidL w) :
    Calls Tryd.prog 6 #[.agg #[.slice a qs.length c]] w fun e w' => e = .returned (.bool true) ∧ Below w.heap.size w w' := by
  have hle := hm.r.le
  have hcl : c * (9 * 8) ≤ 140737488351232 := hm.r.cle
  obtain ⟨W1, hW1⟩ : ∃ W1, w.alloc (.cells #[.slice a qs.length c] 24) = W1 := ⟨_, rfl⟩
  have b1 : Below w.heap.size w W1 := by rw [← hW1]; exact lay_below
  have q1 : W1.heap[w.heap.size]? = some (.cells #[.slice a qs.length c] 24 (0, 0)) := by rw [← hW1]; exact box_new
  have HM1 := Hid.mk' (hm.below b1)
  have HL1 := Hid.mk' (hl.below' b1)
  have HAW := Hid.mk' (awake_any W1 (hl.below' b1))
  have HFE := Hid.mk' (fun W (hW : Below W1.heap.size W1 W) => few_any W ((hm.below b1).below hW))
  have HCH := Hid.mk' (fun W (hW : Below W1.heap.size W1 W) => check_any W ((hm.below b1).below hW) ((hl.below' b1).below' hW))
  obtain ⟨N, hN⟩ : ∃ N, qs.length = N := ⟨_, rfl⟩
  rw [hN] at hle q1 HFE HCH hW1 ⊢
  have HN := Hid.mk' hN
  have HFL : Hid ((qs.map FW.f).length = N) := Hid.mk' (by rw [List.length_map, hN])
  obtain ⟨b0, hb0⟩ : ∃ b0, w.heap.size = b0 := ⟨_, rfl⟩
  rw [hb0] at q1
  have hb1 : b0 < W1.heap.size := (Array.getElem?_eq_some_iff.1 q1).1
  have HC0 : Hid (∀ W, Below W1.heap.size W1 W → W.cell? ⟨b0, 0, none⟩ = some (.slice a N c)) := Hid.mk' (fun W hW => (hW.cell (p := ⟨b0, 0, none⟩) hb1).trans ((cell_row _ _ 0 _ _ q1).trans rfl))
  have HB1 := Hid.mk' b1
  clear hm hl b1 q1 hN hb1
  go_enter Tryd.func6, Tryd.ntmps6
  go_wp2_with fail
  refine HAW.out.mono ?_
  rintro e w2 ⟨rfl, b2⟩
  have HB2 := Hid.mk' b2
  have c2 := HC0.out _ b2
  have HF2 := Hid.mk' (HFE.out w2 b2)
  clear b2
  go_wp2_with fail
  refine HF2.out.mono ?_
  rintro e w3 ⟨v, rfl, ⟨b, rfl⟩, b3⟩
  have B3 := HB2.out.trans (b3.mono HB2.out.size)
  have HB3 := Hid.mk' B3
  have c3 := HC0.out _ B3
  have HC3 := Hid.mk' (HCH.out w3 B3)
  clear b3 B3 c2
  cases b with
  | false =>
    go_wp2
    go_ret
    exact ⟨rfl, HB1.out.trans (HB3.out.mono HB1.out.size)⟩
  | true =>
    by_cases h2 : (N : Int) < 2
    · go_wp2
      go_ret
      exact ⟨rfl, HB1.out.trans (HB3.out.mono HB1.out.size)⟩
    · obtain ⟨m, rfl⟩ : ∃ m, N = m + 1 := ⟨N - 1, by omega⟩
      have h2' : decide ((m : Int) + 1 < 2) = false := by simp; omega
      have HM0 : Hid (1 ≤ m) := Hid.mk' (by omega)
      clear h2
      go_wp2_with fail
      refine HC3.out.mono ?_
      rintro e w4 ⟨V, rfl, gg, kk, z, rfl, hC, b4⟩
      have B4 := HB3.out.trans (b4.mono HB3.out.size)
      have HB4 := Hid.mk' B4
      have c4 := HC0.out _ B4
      clear b4 B4 c3 h2'
      by_cases hz : z = 0
      · subst hz
        obtain ⟨hbd, hok⟩ := chk_zero hC
        have HOK := Hid.mk' (And.intro hbd hok)
        have hmb : (m : Int) < 20000 := by have := HFL.out; omega
        have hmc : (m : Int) ≤ (c : Int) := by omega
        clear hbd hok hC hle hcl
        go_wp2_with fail
        clear c4
        go_loopw [42] (fun iv wr => ∃ i : Nat, iv = .int .i64 (i : Int) ∧ i ≤ m ∧ Hid (Below W1.heap.size W1 wr) ∧ Hid (∀ n, n < i → ∀ x ∈ ((qs.map FW.f).getD n noFun).code, ¬ (x.op = 15 ∧ x.b = (m : Int)))) (fun iv wr => m - (intOf iv).toNat)
        case atStart => exact ⟨0, rfl, Nat.zero_le _, HB4, Hid.mk' (fun n hn => by omega)⟩
        case round =>
          obtain ⟨i, rfl, hi, HBW, HAL⟩ := hrel
          by_cases hlt : i < m
          · have hlq : i < qs.length := by rw [HN.out]; omega
            obtain ⟨g, o, rfl, hg, hc⟩ := ((HM1.out).below HBW.out).r.at i hlq
            have i1 : (i : Int) < (m : Int) := by omega
            have i2 : (i : Int) < 20000 := by omega
            have hrd := ((HM1.out).below HBW.out).q _ (List.getElem_mem hlq)
            have hge : (qs.map FW.f).getD i noFun = (qs[i]).f := by simp [List.getD_eq_getElem?_getD, List.getElem?_eq_getElem hlq]
            have HNX : Hid ((∀ x ∈ (qs[i]).f.code, ¬ (x.op = 15 ∧ x.b = (m : Int))) → ∀ n, n < i + 1 → ∀ x ∈ ((qs.map FW.f).getD n noFun).code, ¬ (x.op = 15 ∧ x.b = (m : Int))) := Hid.mk' (fun h n hn => by
              rcases Nat.lt_or_ge n i with h1 | h1
              · exact HAL.out n h1
              · obtain rfl : n = i := by omega
                rw [hge]; exact h)
            generalize qs[i] = q at hc hrd HNX hge
            have HRI := Hid.mk' hrd.i
            have h2 := hrd.i.le
            have h2' : q.yc * (5 * 8) ≤ 140737488351232 := hrd.i.cle
            obtain ⟨⟨f1, f2, f3, f4, f5, cs, is, ts, us⟩, xa, xc, ya, yc, za, zc, ua, uc⟩ := q
            simp only [FW.cs] at hc
            dsimp only at hc HNX HRI h2 h2'
            obtain ⟨m1, hm1⟩ : ∃ m, cs.length = m := ⟨_, rfl⟩
            obtain ⟨m2, hm2⟩ : ∃ m, is.length = m := ⟨_, rfl⟩
            obtain ⟨m3, hm3⟩ : ∃ m, ts.length = m := ⟨_, rfl⟩
            obtain ⟨m4, hm4⟩ : ∃ m, us.length = m := ⟨_, rfl⟩
            rw [hm1, hm2, hm3, hm4] at hc
            rw [hm2] at h2
            have d0 := hc 0 (.string f1) (by omega) rfl
            have d1 := hc 1 (.int .i64 f2) (by omega) rfl
            have d2 := hc 2 (.bool f3) (by omega) rfl
            have d3 := hc 3 (.bool f4) (by omega) rfl
            have d4 := hc 4 (.int .i64 f5) (by omega) rfl
            have d5 := hc 5 (.slice xa m1 xc) (by omega) rfl
            have d6 := hc 6 (.slice ya m2 yc) (by omega) rfl
            have d7 := hc 7 (.slice za m3 zc) (by omega) rfl
            have d8 := hc 8 (.slice ua m4 uc) (by omega) rfl
            simp only [Nat.add_zero] at d0
            obtain ⟨W6, hW6⟩ : ∃ W6, wr.alloc (.cells #[.string f1, .int .i64 f2, .bool f3, .bool f4, .int .i64 f5, .slice xa m1 xc, .slice ya m2 yc, .slice za m3 zc, .slice ua m4 uc] 38) = W6 := ⟨_, rfl⟩
            have b6 : Below wr.heap.size wr W6 := by rw [← hW6]; exact lay_below
            have q6 : W6.heap[wr.heap.size]? = some (.cells #[.string f1, .int .i64 f2, .bool f3, .bool f4, .int .i64 f5, .slice xa m1 xc, .slice ya m2 yc, .slice za m3 zc, .slice ua m4 uc] 38 (0, 0)) := by rw [← hW6]; exact box_new
            obtain ⟨bf, hbf⟩ : ∃ bf, wr.heap.size = bf := ⟨_, rfl⟩
            rw [hbf] at q6
            have e6 : W6.cell? ⟨bf, 6, none⟩ = some (.slice ya m2 yc) := (cell_row _ _ 6 _ _ q6).trans rfl
            have HB6 := Hid.mk' (HBW.out.trans (b6.mono HBW.out.size))
            have HR6 := Hid.mk' (HRI.out.below b6)
            have HM2 := Hid.mk' hm2
            have hm2b : (m2 : Int) ≤ 140737488351232 := by omega
            have HIL := Hid.mk' hlt
            clear hc hrd hm1 hm2 hm3 hm4 hge h2 h2' b6 q6 hi hg hlt
            go_wp2_with fail
            clear d0 d1 d2 d3 d4 d5 d6 d7 d8 e6 hW6 hbf
            go_loopw [49] (fun jv wx => ∃ j : Nat, jv = .int .i64 (j : Int) ∧ j ≤ m2 ∧ Hid (Below W6.heap.size W6 wx) ∧ Hid (∀ n (h : n < is.length), n < j → ¬ ((is[n]).op = 15 ∧ (is[n]).b = (m : Int)))) (fun jv wx => m2 - (intOf jv).toNat)
            case atStart => exact ⟨0, rfl, Nat.zero_le _, Hid.mk' (Below.refl _ _), Hid.mk' (fun n h hn => by omega)⟩
            case round =>
              obtain ⟨j, rfl, hj, HBX, HAJ⟩ := hrel
              by_cases hjt : j < m2
              · have hjq : j < is.length := by rw [HM2.out]; exact hjt
                obtain ⟨g', o', rfl, _, hc⟩ := (HR6.out.below HBX.out).at j hjq
                have j1 : (j : Int) < (m2 : Int) := by omega
                have j2 : (j : Int) < 140737488351232 := by omega
                have HAN : Hid (¬ ((is[j]).op = 15 ∧ (is[j]).b = (m : Int)) → ∀ n (h : n < is.length), n < j + 1 → ¬ ((is[n]).op = 15 ∧ (is[n]).b = (m : Int))) := Hid.mk' (fun h0 n h hn => by
                  rcases Nat.lt_or_ge n j with h1 | h1
                  · exact HAJ.out n h h1
                  · obtain rfl : n = j := by omega
                    exact h0)
                generalize is[j] = ins at hc HAN
                obtain ⟨op, ia, ib, ic, id⟩ := ins
                dsimp only at HAN
                have x0 := hc 0 (.int .i64 op) (by omega) rfl
                have x1 := hc 1 (.int .i64 ia) (by omega) rfl
                have x2 := hc 2 (.int .i64 ib) (by omega) rfl
                have x3 := hc 3 (.int .i64 ic) (by omega) rfl
                have x4 := hc 4 (.int .i64 id) (by omega) rfl
                simp only [Nat.add_zero] at x0
                have HBn : Hid (Below W6.heap.size W6 (wr.alloc (.cells #[.int .i64 op, .int .i64 ia, .int .i64 ib, .int .i64 ic, .int .i64 id] 50))) := Hid.mk' (HBX.out.trans ((lay_below).mono HBX.out.size))
                have HJL := Hid.mk' hjt
                clear hc hj hjt hm2b
                by_cases h15 : op = 15
                · subst h15
                  by_cases hbm : ib = (m : Int)
                  · have hb' : (ib == (m : Int)) = true := by simp [hbm]
                    clear hbm
                    go_wp2
                    go_ret
                    exact ⟨rfl, by first | exact HB1.out.trans ((HB6.out.trans (HBn.out.mono HB6.out.size)).mono HB1.out.size) | (rw [← hb0]; exact HB1.out.trans ((HB6.out.trans (HBn.out.mono HB6.out.size)).mono HB1.out.size))⟩
                  · have hb' : (ib == (m : Int)) = false := by simp [hbm]
                    have HOKJ := Hid.mk' (HAN.out (fun h => hbm h.2))
                    clear hbm
                    go_wp2
                    exact ⟨⟨j + 1, by go_num, HJL.out, HBn, HOKJ⟩, meas_up' m2 j HJL.out⟩
                · have h15' : (op == 15) = false := by simp [h15]
                  have HOKJ := Hid.mk' (HAN.out (fun h => h15 h.1))
                  clear h15
                  go_wp2
                  exact ⟨⟨j + 1, by go_num, HJL.out, HBn, HOKJ⟩, meas_up' m2 j HJL.out⟩
              · have j1 : ¬ (j : Int) < (m2 : Int) := by omega
                have HALL : Hid (∀ n, n < i + 1 → ∀ x ∈ ((qs.map FW.f).getD n noFun).code, ¬ (x.op = 15 ∧ x.b = (m : Int))) := Hid.mk' (HNX.out (fun x hx => by
                  obtain ⟨n, hn, e⟩ := List.getElem_of_mem hx
                  rw [← e]
                  exact HAJ.out n hn (by have := HM2.out; omega)))
                go_wp2
                exact ⟨⟨i + 1, by go_num, HIL.out, Hid.mk' (HB6.out.trans (HBX.out.mono HB6.out.size)), HALL⟩, meas_up' m i HIL.out⟩
          · have i1 : ¬ (i : Int) < (m : Int) := by omega
            have c5 := HC0.out _ HBW.out
            have hlm : (qs.take m).length = m := by have := HN.out; simp; omega
            have hmd := ((HM1.out).below HBW.out).take m (by have := HN.out; omega)
            have HCH2 := Hid.mk' (check_any wr hmd (HL1.out.below' HBW.out))
            rw [hlm] at HCH2
            have HZZ : Hid (∀ g k z, Chk ((qs.take m).map FW.f) g k z → z = 0) := Hid.mk' (fun g k z hC => parts_plain (fs := qs.map FW.f) (m := m) (by rw [HFL.out]) HM0.out HOK.out.2 HOK.out.1 (fun n hn x hx => HAL.out n (by omega) x hx) (by rw [← List.map_take]; exact hC))
            clear hlm hmd
            go_wp2_with fail
            refine HCH2.out.mono ?_
            rintro e w7 ⟨V, rfl, g7, k7, z7, rfl, hC7, b7⟩
            have hz7 := HZZ.out _ _ _ hC7
            subst hz7
            have HB7 := Hid.mk' b7
            clear b7 hC7
            go_wp2
            go_ret
            exact ⟨rfl, by first | exact HB1.out.trans ((HBW.out.trans (HB7.out.mono HBW.out.size)).mono HB1.out.size) | (rw [← hb0]; exact HB1.out.trans ((HBW.out.trans (HB7.out.mono HBW.out.size)).mono HB1.out.size))⟩
      · have hz' : (z != 0) = true := by simp [hz]
        clear hz hC
        go_wp2
        go_ret
        exact ⟨rfl, HB1.out.trans (HB4.out.mono HB1.out.size)⟩
end Go.Proofs.YtcalbepmhadjfaaDoor
