/- Package check: Reach, by what newWalker tells. -/
import Derived.Test.YtcagfjogfbddeaaDoorCrE
import Derived.Deep.LoopGhost
import Derived.WalkMore
namespace Go.Proofs.YtcagfjogfbddeaaDoor
set_option linter.unusedVariables false
set_option linter.unusedSimpArgs false
open Go.RowKit Go.Shelf

/-- What newWalker tells. -/
def NwC (q : FW) (w : World) : Prop := Calls Tryd.prog 11 #[.agg q.cs.toArray] w fun e w' => ∃ wb, e = .returned (.pointer (some ⟨wb, 0, none⟩)) ∧ ∃ br bt bp V P, Wq w.heap.size w' wb br bt bp q.f.code.length (.slice none 0 0) (fun _ => false) [] (fun i => (tgO (insAt q.f i)).getD (-1)) V P ∧ Lain q.f q.f.code.length P ∧ Below w.heap.size w w'
set_option maxHeartbeats 4000000 in
set_option maxRecDepth 100000 in
theorem reach_all (q : FW) (w : World) (hr : RdE Ins.cs 5 w q.ya q.yc q.f.code) (hnw : ∀ W, Below w.heap.size w W → NwC q W) :
    Calls Tryd.prog 6 #[.agg q.cs.toArray] w fun e w' => ∃ (br : Nat) (R : Nat → Bool), e = .returned (.slice (some ⟨br, 0, none⟩) q.f.code.length q.f.code.length) ∧ RowF w' br 4 q.f.code.length (fun i => .bool (R i)) ∧ (∀ i, i < q.f.code.length → (R i = true ↔ Rch q.f i)) ∧ Below w.heap.size w w' := by
  have HRD := Hid.mk' hr
  have hile := hr.le
  have hicl : q.yc * (5 * 8) ≤ 140737488351232 := hr.cle
  unfold NwC at hnw
  obtain ⟨f, hf⟩ : ∃ f, q.f = f := ⟨_, rfl⟩
  have HF := Hid.mk' hf
  obtain ⟨n, hn⟩ : ∃ n, q.f.code.length = n := ⟨_, rfl⟩
  have HN : Hid (f.code.length = n) := Hid.mk' (by rw [← hf]; exact hn)
  rw [hn] at hile
  rw [hn] at hnw ⊢
  rw [hf] at hnw
  simp only [hf]
  rw [hf] at HRD
  obtain ⟨⟨f1, f2, f3, f4, f5, cs, is, ts, us⟩, xa, xc, ya, yc, za, zc, ua, uc⟩ := q
  simp only [FW.cs] at hnw ⊢
  dsimp only at hnw hile hicl HRD hn hf
  obtain ⟨m1, hm1⟩ : ∃ m, cs.length = m := ⟨_, rfl⟩
  obtain ⟨m3, hm3⟩ : ∃ m, ts.length = m := ⟨_, rfl⟩
  obtain ⟨m4, hm4⟩ : ∃ m, us.length = m := ⟨_, rfl⟩
  rw [hn] at hnw ⊢
  rw [hm1, hm3, hm4] at hnw ⊢
  obtain ⟨W1, hW1⟩ : ∃ W1, w.alloc (.cells #[.string f1, .int .i64 f2, .bool f3, .bool f4, .int .i64 f5, .slice xa m1 xc, .slice ya n yc, .slice za m3 zc, .slice ua m4 uc] 28) = W1 := ⟨_, rfl⟩
  have b1 : Below w.heap.size w W1 := by rw [← hW1]; exact lay_below
  have q1 : W1.heap[w.heap.size]? = some (.cells #[.string f1, .int .i64 f2, .bool f3, .bool f4, .int .i64 f5, .slice xa m1 xc, .slice ya n yc, .slice za m3 zc, .slice ua m4 uc] 28 (0, 0)) := by rw [← hW1]; exact box_new
  have HNW := Hid.mk' (hnw W1 b1)
  have HLV := Hid.mk' (fun W z => leaves_any W z)
  have HR1 := Hid.mk' (HRD.out.below b1)
  obtain ⟨b0, hb0⟩ : ∃ b0, w.heap.size = b0 := ⟨_, rfl⟩
  rw [hb0] at q1
  have hb1 : b0 < W1.heap.size := (Array.getElem?_eq_some_iff.1 q1).1
  have HCF : Hid (∀ W, Below W1.heap.size W1 W → ∀ k v, (#[.string f1, .int .i64 f2, .bool f3, .bool f4, .int .i64 f5, .slice xa m1 xc, .slice ya n yc, .slice za m3 zc, .slice ua m4 uc] : Array Value)[k]? = some v → W.cell? ⟨b0, k, none⟩ = some v) := Hid.mk' (fun W hW k v hv => (hW.cell (p := ⟨b0, k, none⟩) hb1).trans ((cell_row _ _ k _ _ q1).trans hv))
  have HB1 := Hid.mk' b1
  have a0 := HCF.out W1 (Below.refl _ _) 0 _ rfl
  have a1 := HCF.out W1 (Below.refl _ _) 1 _ rfl
  have a2 := HCF.out W1 (Below.refl _ _) 2 _ rfl
  have a3 := HCF.out W1 (Below.refl _ _) 3 _ rfl
  have a4 := HCF.out W1 (Below.refl _ _) 4 _ rfl
  have a5 := HCF.out W1 (Below.refl _ _) 5 _ rfl
  have a6 := HCF.out W1 (Below.refl _ _) 6 _ rfl
  have a7 := HCF.out W1 (Below.refl _ _) 7 _ rfl
  have a8 := HCF.out W1 (Below.refl _ _) 8 _ rfl
  have HNB : Hid ((n : Int) < 140737488351232) := Hid.mk' (by omega)
  clear hr hnw b1 q1 hb1 hm1 hm3 hm4 hile hicl hn hf
  go_enter Tryd.func6, Tryd.ntmps6
  go_wp2_with fail
  refine HNW.out.mono ?_
  rintro e w2 ⟨wb, rfl, br, bt, bp, V0, P0, hwq, hlain, b2⟩
  have HLN := Hid.mk' hlain
  have HRA := Hid.mk' (reach_any hwq 0)
  have HB2 := Hid.mk' b2
  clear hwq hlain b2 a0 a1 a2 a3 a4 a5 a6 a7 a8 hW1
  go_wp2_with fail
  refine HRA.out.mono ?_
  rintro e w3 ⟨⟨v3, rfl⟩, vw3, R3, Q3, hw3, he3, b3⟩
  have HI3 : Hid (Wq W1.heap.size w3 wb br bt bp n vw3 R3 Q3 (fun i => (tgO (insAt f i)).getD (-1)) V0 P0 ∧ Inv f n P0 R3 Q3 P0 ∧ Below W1.heap.size W1 w3) := Hid.mk' ⟨hw3, inv_start HN.out.symm (he3.of (fun i _ => by omega)), HB2.out.trans b3⟩
  clear hw3 he3 b3
  go_wp2_with fail
  go_loopg [] (2 * cnt n R3 + Q3.length) (fun gh wr => ∃ vw R Q V P, gh = 2 * cnt n R + Q.length ∧ Hid (Wq W1.heap.size wr wb br bt bp n vw R Q (fun i => (tgO (insAt f i)).getD (-1)) V P ∧ Inv f n P0 R Q P ∧ Below W1.heap.size W1 wr))
  case atStart => exact ⟨vw3, R3, Q3, V0, P0, rfl, HI3⟩
  case round =>
    obtain ⟨vw, R, Q, V, P, hg, HW⟩ := hrel
    have HG := Hid.mk' hg
    clear hg
    obtain ⟨c0, c1, _, _⟩ := HW.out.1.cells
    rcases List.eq_nil_or_concat Q with rfl | ⟨Q0, x, rfl⟩
    · obtain ⟨va, vc, hv, _⟩ := own_slice' HW.out.1.own
      subst hv
      simp only [List.length_nil] at c1
      have HRW := Hid.mk' HW.out.1.r
      have HE := Hid.mk' (fun i hi => inv_end HN.out.symm HLN.out HW.out.2.1 i hi)
      have HBX := Hid.mk' (HB1.out.trans (HW.out.2.2.mono HB1.out.size))
      go_wp2
      go_ret
      exact ⟨br, R, rfl, HRW.out, HE.out, by first | exact HBX.out | (rw [← hb0]; exact HBX.out)⟩
    · obtain ⟨at', ha, rfl, hra⟩ := HW.out.2.1.q x (by simp)
      have HWQ : Hid (Wq W1.heap.size wr wb br bt bp n vw R (Q0 ++ [(at' : Int)]) (fun i => (tgO (insAt f i)).getD (-1)) V P) := Hid.mk' (by have := HW.out.1; rwa [List.concat_eq_append] at this)
      have HIN : Hid (Inv f n P0 R (Q0 ++ [(at' : Int)]) P) := Hid.mk' (by have := HW.out.2.1; rwa [List.concat_eq_append] at this)
      obtain ⟨va, vc, hv, _⟩ := own_slice' HWQ.out.own
      have hql : (Q0 ++ [(at' : Int)]).length = Q0.length + 1 := by simp
      rw [hql] at hv
      subst hv
      have HNX := Hid.mk' (next_any HWQ.out)
      obtain ⟨ql, hqe⟩ : ∃ ql, Q0.length = ql := ⟨_, rfl⟩
      have HQE := Hid.mk' hqe
      rw [hqe] at c1
      have hg2 := HG.out
      rw [List.concat_eq_append, hql] at hg2
      have HGH := Hid.mk' hg2
      have HBW := Hid.mk' HW.out.2.2
      have HA := Hid.mk' ha
      clear hql hqe ha hra HG HW hg2
      go_wp2_with fail
      refine HNX.out.mono ?_
      rintro e w4 ⟨rfl, vw4, hw4, b4⟩
      have B4 := HBW.out.trans b4
      have HB4 := Hid.mk' B4
      have HW4 := Hid.mk' hw4
      have e6 := HCF.out w4 B4 6 _ rfl
      have hal : at' < f.code.length := by rw [HN.out]; exact HA.out
      have hia : insAt f at' = f.code[at'] := by simp [insAt, List.getD_eq_getElem?_getD, List.getElem?_eq_getElem hal]
      obtain ⟨g, o, rfl, _, hc⟩ := (HR1.out.below B4).at at' hal
      rw [← hia] at hc
      obtain ⟨ii, hii⟩ : ∃ ii, insAt f at' = ii := ⟨_, rfl⟩
      have HII := Hid.mk' hii
      rw [hii] at hc
      obtain ⟨op, ia, ib, ic, id⟩ := ii
      have y0 := hc 0 (.int .i64 op) (by omega) rfl
      simp only [Nat.add_zero] at y0
      have k1 : (at' : Int) < (n : Int) := by have := HA.out; omega
      have k2 : (at' : Int) < 140737488351232 := by have := HNB.out; omega
      have HLO := Hid.mk' (fun W => HLV.out W op)
      obtain ⟨tg, htg⟩ : ∃ tg, (tgO (insAt f at')).getD (-1) = tg := ⟨_, rfl⟩
      have HTG := Hid.mk' htg
      clear hw4 b4 B4 hal hia hii hc c0 c1 htg
      cases hlo : leaB op with
      | true =>
        rw [hlo] at HLO
        have HX1 : Hid (∀ k, k < n → (False ↔ leaB (insAt f at').op = false ∧ k = at' + 1)) := Hid.mk' (fun k _ => by rw [HII.out]; dsimp only; rw [hlo]; simp)
        have ct := HW4.out.t.cell HA.out
        obtain ⟨c0, _, c2, _⟩ := HW4.out.cells
        simp only [HTG.out] at ct
        have HRT := Hid.mk' (reach_any HW4.out tg)
        clear hlo
        go_wp2_with (go_at_call 14; refine (HLO.out _).mono ?_; rintro e w5 ⟨rfl, hw5⟩; rw [hw5]; clear hw5 w5)
        refine HRT.out.mono ?_
        rintro e w6 ⟨⟨v6, rfl⟩, vw6, R6, Q6, hw6, he6, b6⟩
        have HE6 := Hid.mk' he6
        have HB6 := Hid.mk' (HB4.out.trans b6)
        have HEN := Hid.mk' (enter_any hw6 at' HA.out)
        clear hw6 he6 b6 e6 y0 ct c0 c2
        go_wp2_with fail
        refine HEN.out.mono ?_
        rintro e w7 ⟨⟨v7, rfl⟩, vw7, R7, Q7, V7, P7, hw7, he7, hp7, b7⟩
        have HEX := Hid.mk' (HE6.out.trans he7)
        have HIV : Hid (Wq W1.heap.size w7 wb br bt bp n vw7 R7 Q7 (fun i => (tgO (insAt f i)).getD (-1)) V7 P7 ∧ Inv f n P0 R7 Q7 P7 ∧ Below W1.heap.size W1 w7) := Hid.mk' ⟨hw7, inv_round HN.out.symm HLN.out HIN.out HEX.out (fun k hk => by
          have h1 := HX1.out k hk
          rw [← h1, false_or]
          refine or_congr ?_ Iff.rfl
          have h2 := HTG.out
          cases hh : tgO (insAt f at') with
          | none => rw [hh] at h2; simp at h2; simp; omega
          | some z => rw [hh] at h2; simp at h2; simp; omega) hp7, HB6.out.trans b7⟩
        have HM := Hid.mk' HEX.out.m
        clear hw7 he7 hp7 b7
        go_wp2_with fail
        go_roundg (2 * cnt n R7 + Q7.length)
        case measure => have := HM.out; have := HGH.out; omega
        case rel => exact ⟨vw7, R7, Q7, V7, P7, rfl, HIV⟩
      | false =>
        rw [hlo] at HLO
        have HX1 : Hid (∀ k, k < n → (k = at' + 1 ↔ leaB (insAt f at').op = false ∧ k = at' + 1)) := Hid.mk' (fun k _ => by rw [HII.out]; dsimp only; rw [hlo]; simp)
        have HRN := Hid.mk' (reach_any HW4.out ((at' : Int) + 1))
        clear hlo
        go_wp2_with (go_at_call 14; refine (HLO.out _).mono ?_; rintro e w5 ⟨rfl, hw5⟩; rw [hw5]; clear hw5 w5)
        refine HRN.out.mono ?_
        rintro e w5 ⟨⟨v5, rfl⟩, vw5, R5, Q5, hw5, he5, b5⟩
        have HE5 := Hid.mk' he5
        have HB5 := Hid.mk' (HB4.out.trans b5)
        have ct := hw5.t.cell HA.out
        obtain ⟨c0, _, c2, _⟩ := hw5.cells
        simp only [HTG.out] at ct
        have HRT := Hid.mk' (reach_any hw5 tg)
        clear hw5 he5 b5 e6 y0
        go_wp2_with fail
        refine HRT.out.mono ?_
        rintro e w6 ⟨⟨v6, rfl⟩, vw6, R6, Q6, hw6, he6, b6⟩
        have HE6 := Hid.mk' (HE5.out.trans he6)
        have HB6 := Hid.mk' (HB5.out.trans b6)
        have HEN := Hid.mk' (enter_any hw6 at' HA.out)
        clear hw6 he6 b6 ct c0 c2
        go_wp2_with fail
        refine HEN.out.mono ?_
        rintro e w7 ⟨⟨v7, rfl⟩, vw7, R7, Q7, V7, P7, hw7, he7, hp7, b7⟩
        have HEX := Hid.mk' (HE6.out.trans he7)
        have HIV : Hid (Wq W1.heap.size w7 wb br bt bp n vw7 R7 Q7 (fun i => (tgO (insAt f i)).getD (-1)) V7 P7 ∧ Inv f n P0 R7 Q7 P7 ∧ Below W1.heap.size W1 w7) := Hid.mk' ⟨hw7, inv_round HN.out.symm HLN.out HIN.out HEX.out (fun k hk => by
          have h1 := HX1.out k hk
          rw [← h1, or_assoc]
          refine or_congr (by omega) (or_congr ?_ Iff.rfl)
          have h2 := HTG.out
          cases hh : tgO (insAt f at') with
          | none => rw [hh] at h2; simp at h2; simp; omega
          | some z => rw [hh] at h2; simp at h2; simp; omega) hp7, HB6.out.trans b7⟩
        have HM := Hid.mk' HEX.out.m
        clear hw7 he7 hp7 b7
        go_wp2_with fail
        go_roundg (2 * cnt n R7 + Q7.length)
        case measure => have := HM.out; have := HGH.out; omega
        case rel => exact ⟨vw7, R7, Q7, V7, P7, rfl, HIV⟩
end Go.Proofs.YtcagfjogfbddeaaDoor
