/- The document's check: an instruction (the last one). -/
import Derived.Test.YtlhiedlpjefbnaaDoorChYd
namespace Go.Proofs.YtlhiedlpjefbnaaDoor
set_option linter.unusedVariables false
set_option linter.unusedSimpArgs false
open Go.RowKit Go.Shelf

set_option maxHeartbeats 8000000 in
set_option maxRecDepth 100000 in
theorem rins_last {a : Option Addr} {c : Nat} {qs : List FW} (w : World) (hm : Md w a c qs) (q : FW) (hq : q ∈ qs) (hr1 : 1 ≤ q.f.regs) (hr2 : q.f.regs ≤ 4000) (n : Nat) (hn : n < q.f.code.length) (hway : (n : Int) = (q.f.code.length : Int) - 1) :
    Calls Tryd.prog 16 #[.agg #[.slice a qs.length c], .agg q.cs.toArray, .int .i64 (n : Int)] w fun e w' => e = .returned (.bool (insB (qs.map FW.f) q.f n (insAt q.f n))) ∧ Below w.heap.size w w' := by
  have hle := hm.r.le
  have hcl : c * (9 * 8) ≤ 140737488351232 := hm.r.cle
  have hrd := hm.q q hq
  have hfi := hm.n q hq
  have hia : insAt q.f n = q.f.code[n] := by simp [insAt, List.getD_eq_getElem?_getD, List.getElem?_eq_getElem hn]
  have hiw := hfi.i _ (List.getElem_mem hn)
  obtain ⟨R, hR⟩ : ∃ R, insB (qs.map FW.f) q.f n (insAt q.f n) = R := ⟨_, rfl⟩
  have hiff := @ins_iff (qs.map FW.f) q.f n (insAt q.f n) hr1
  rw [hR] at hiff ⊢
  rw [hia] at hiff
  have HM := Hid.mk' hm
  have HLM : Hid ((qs.map FW.f).length = qs.length) := Hid.mk' (by simp)
  have HQ := Hid.mk' hrd
  have hile := hrd.i.le
  have hicl : q.yc * (5 * 8) ≤ 140737488351232 := hrd.i.cle
  have hcle := hrd.c.le
  have hccl : q.xc * (4 * 8) ≤ 140737488351232 := hrd.c.cle
  have hple := hrd.p.le
  have hpcl : q.uc * (2 * 8) ≤ 140737488351232 := hrd.p.cle
  obtain ⟨N, hN⟩ : ∃ N, qs.length = N := ⟨_, rfl⟩
  rw [hN] at hle HLM ⊢
  have HN := Hid.mk' hN
  obtain ⟨F, hF⟩ : ∃ F, q = F := ⟨_, rfl⟩
  have HFQ := Hid.mk' hF
  obtain ⟨⟨f1, f2, f3, f4, f5, cs, is, ts, us⟩, xa, xc, ya, yc, za, zc, ua, uc⟩ := q
  simp only [FW.cs]
  dsimp only at hway hn hr1 hr2 hrd hiff hile hicl hcle hccl hple hpcl hiw hia
  obtain ⟨g, o, rfl, hg, hc⟩ := hrd.i.at n hn
  obtain ⟨m1, hm1⟩ : ∃ m, cs.length = m := ⟨_, rfl⟩
  obtain ⟨m2, hm2⟩ : ∃ m, is.length = m := ⟨_, rfl⟩
  obtain ⟨m3, hm3⟩ : ∃ m, ts.length = m := ⟨_, rfl⟩
  obtain ⟨m4, hm4⟩ : ∃ m, us.length = m := ⟨_, rfl⟩
  generalize is[n] = ii at hc hiff hiw hia
  obtain ⟨op, ia, ib, ic, id⟩ := ii
  dsimp only at hiw
  rw [hm1] at hcle ⊢
  rw [hm2] at hile hn hway ⊢
  rw [hm3]
  rw [hm4] at hple ⊢
  obtain ⟨W1, hW1⟩ : ∃ W1, w.alloc (.cells #[.slice a N c] 24) = W1 := ⟨_, rfl⟩
  obtain ⟨W2, hW2⟩ : ∃ W2, W1.alloc (.cells #[.string f1, .int .i64 f2, .bool f3, .bool f4, .int .i64 f5, .slice xa m1 xc, .slice (some ⟨g, o, none⟩) m2 yc, .slice za m3 zc, .slice ua m4 uc] 38) = W2 := ⟨_, rfl⟩
  obtain ⟨W3, hW3⟩ : ∃ W3, W2.alloc (.cells #[.int .i64 op, .int .i64 ia, .int .i64 ib, .int .i64 ic, .int .i64 id] 49) = W3 := ⟨_, rfl⟩
  have b1 : Below w.heap.size w W1 := by rw [← hW1]; exact lay_below
  have b2 : Below W1.heap.size W1 W2 := by rw [← hW2]; exact lay_below
  have b3 : Below W2.heap.size W2 W3 := by rw [← hW3]; exact lay_below
  have q1 : W1.heap[w.heap.size]? = some (.cells #[.slice a N c] 24 (0, 0)) := by rw [← hW1]; exact box_new
  have q2 : W2.heap[W1.heap.size]? = some (.cells #[.string f1, .int .i64 f2, .bool f3, .bool f4, .int .i64 f5, .slice xa m1 xc, .slice (some ⟨g, o, none⟩) m2 yc, .slice za m3 zc, .slice ua m4 uc] 38 (0, 0)) := by rw [← hW2]; exact box_new
  have q3 : W3.heap[W2.heap.size]? = some (.cells #[.int .i64 op, .int .i64 ia, .int .i64 ib, .int .i64 ic, .int .i64 id] 49 (0, 0)) := by rw [← hW3]; exact box_new
  have B2 : Below w.heap.size w W2 := b1.trans (b2.mono b1.size)
  have B3 : Below w.heap.size w W3 := B2.trans (b3.mono B2.size)
  have d0 := (B2.cell (p := ⟨g, o + n * 5, none⟩) hg).trans (hc 0 (.int .i64 op) (by omega) rfl)
  have d1 := (B2.cell (p := ⟨g, o + n * 5 + 1, none⟩) hg).trans (hc 1 (.int .i64 ia) (by omega) rfl)
  have d2 := (B2.cell (p := ⟨g, o + n * 5 + 2, none⟩) hg).trans (hc 2 (.int .i64 ib) (by omega) rfl)
  have d3 := (B2.cell (p := ⟨g, o + n * 5 + 3, none⟩) hg).trans (hc 3 (.int .i64 ic) (by omega) rfl)
  have d4 := (B2.cell (p := ⟨g, o + n * 5 + 4, none⟩) hg).trans (hc 4 (.int .i64 id) (by omega) rfl)
  have l1 := (Array.getElem?_eq_some_iff.1 q1).1
  have l2 := (Array.getElem?_eq_some_iff.1 q2).1
  have l3 := (Array.getElem?_eq_some_iff.1 q3).1
  have q1' := ((b2.trans (b3.mono b2.size)).block _ l1).trans q1
  have q2' := (b3.block _ l2).trans q2
  have l1' := Nat.lt_of_lt_of_le l1 (b2.trans (b3.mono b2.size)).size
  have l2' := Nat.lt_of_lt_of_le l2 b3.size
  obtain ⟨x1, hx1⟩ : ∃ x, w.heap.size = x := ⟨_, rfl⟩
  obtain ⟨x2, hx2⟩ : ∃ x, W1.heap.size = x := ⟨_, rfl⟩
  obtain ⟨x3, hx3⟩ : ∃ x, W2.heap.size = x := ⟨_, rfl⟩
  have HB := Hid.mk' B3
  rw [hx1] at q1' l1'
  rw [hx2] at q2 q2' l2'
  rw [hx3] at q3 l3
  have HC1 : Hid (∀ W, Below W3.heap.size W3 W → W.cell? ⟨x1, 0, none⟩ = some (.slice a N c)) := Hid.mk' (fun W hW => (hW.cell (p := ⟨x1, 0, none⟩) l1').trans ((cell_row _ _ 0 _ _ q1').trans rfl))
  have HC2 : Hid (∀ W, Below W3.heap.size W3 W → ∀ k v, (#[.string f1, .int .i64 f2, .bool f3, .bool f4, .int .i64 f5, .slice xa m1 xc, .slice (some ⟨g, o, none⟩) m2 yc, .slice za m3 zc, .slice ua m4 uc] : Array Value)[k]? = some v → W.cell? ⟨x2, k, none⟩ = some v) := Hid.mk' (fun W hW k v hv => (hW.cell (p := ⟨x2, k, none⟩) l2').trans ((cell_row _ _ k _ _ q2').trans hv))
  have HC3 : Hid (∀ W, Below W3.heap.size W3 W → ∀ k v, (#[.int .i64 op, .int .i64 ia, .int .i64 ib, .int .i64 ic, .int .i64 id] : Array Value)[k]? = some v → W.cell? ⟨x3, k, none⟩ = some v) := Hid.mk' (fun W hW k v hv => (hW.cell (p := ⟨x3, k, none⟩) l3).trans ((cell_row _ _ k _ _ q3).trans hv))
  have A6 : W2.cell? ⟨x2, 6, none⟩ = some (.slice (some ⟨g, o, none⟩) m2 yc) := (cell_row _ _ 6 _ _ q2).trans rfl
  have A6' := HC2.out W3 (Below.refl _ _) 6 _ rfl
  have E0 := HC3.out W3 (Below.refl _ _) 0 _ rfl
  have E1 := HC3.out W3 (Below.refl _ _) 1 _ rfl
  have E2 := HC3.out W3 (Below.refl _ _) 2 _ rfl
  have E3 := HC3.out W3 (Below.refl _ _) 3 _ rfl
  have E4 := HC3.out W3 (Below.refl _ _) 4 _ rfl
  have HM3 := Hid.mk' (HM.out.below B3)
  have HI := Hid.mk' hiff
  have HI3 := Hid.mk' (And.intro hm2 hm4)
  have HM13 := Hid.mk' (And.intro hm1 hm3)
  have HRG := Hid.mk' (And.intro hr1 hr2)
  have n1 : (n : Int) < (m2 : Int) := by omega
  have n2 : (n : Int) < 140737488351232 := by omega
  have hm2b : (m2 : Int) ≤ 140737488351232 := by omega
  have HQ3 := Hid.mk' (HQ.out.below B3)

  obtain ⟨p, rfl⟩ : ∃ p, m2 = p + 1 := ⟨m2 - 1, by omega⟩
  have HLN := Hid.mk' hn
  have HWY := Hid.mk' hway
  clear hway
  clear hrd hfi hc hiff hm hq b1 b2 b3 q1 q2 q3 q1' q2' B2 B3 l1 l2 l3 l1' l2' hm1 hm3 hg hile hicl hcle hccl hple hpcl hle hcl hia HQ hN hn hr1 hr2 hF HFQ HM
  cases t0 : decide (op < 0) with
  | true =>
    have e : R = false := by
      cases hh : R with
      | false => rfl
      | true => have h1 := (HI.out.1 hh).1; have h2 := of_decide_eq_true t0; dsimp only at h1; omega
    subst e
    go_enter Tryd.func16, Tryd.ntmps16
    go_wp2
    all_goals
      go_ret
      exact ⟨rfl, by first | exact HB.out | (rw [← hx1]; exact HB.out)⟩
  | false =>
    cases t1 : decide (70 < op) with
    | true =>
      have e : R = false := by
        cases hh : R with
        | false => rfl
        | true => have h1 := (HI.out.1 hh).1; have h2 := of_decide_eq_true t1; dsimp only at h1; omega
      subst e
      go_enter Tryd.func16, Tryd.ntmps16
      go_wp2
      all_goals
        go_ret
        exact ⟨rfl, by first | exact HB.out | (rw [← hx1]; exact HB.out)⟩
    | false =>
      obtain ⟨on, rfl⟩ : ∃ on : Nat, op = (on : Int) := ⟨op.toNat, by have := of_decide_eq_false t0; omega⟩
      have hon : on ≤ 70 := by have := of_decide_eq_false t1; omega
      have HEN := Hid.mk' (fun W => ends_any W (on : Int))
      have HRO := Hid.mk' (fun W => rOperands_any on hon W)
      obtain ⟨L, hL⟩ : ∃ L, letsOf on = L := ⟨_, rfl⟩
      have HLZ : Hid (letz (on : Int) = L) := Hid.mk' (by unfold letz; rw [if_pos (by omega), Int.toNat_natCast, hL])
      rw [hL] at HRO
      have s0 : ((n : Int) == (p : Int)) = true := by have := HWY.out; simp; omega
      cases hlea : leaB (on : Int) with
      | false =>
        have e : R = false := by
          cases hh : R with
          | false => rfl
          | true => exact absurd ⟨by have := of_decide_eq_true s0; have := HI3.out.1; dsimp only; omega, hlea⟩ (HI.out.1 hh).2.1
        subst e
        rw [hlea] at HEN
        go_enter Tryd.func16, Tryd.ntmps16
        go_wp2_with fail
        refine (HEN.out _).mono ?_
        rintro e w5 ⟨rfl, hw5⟩
        rw [hw5]
        clear hw5 w5
        go_wp2
        go_ret
        exact ⟨rfl, by first | exact HB.out | (rw [← hx1]; exact HB.out)⟩
      | true =>
        have HSL : Hid (¬ ((n : Int) = ((is.length : Int) - 1) ∧ leaB (on : Int) = false)) := Hid.mk' (by rw [hlea]; simp)
        rw [hlea] at HEN
        clear hlea
        go_enter Tryd.func16, Tryd.ntmps16
        go_wp2_with fail
        refine (HEN.out _).mono ?_
        rintro e w5 ⟨rfl, hw5⟩
        rw [hw5]
        clear hw5 w5
        go_wp2_with fail
        refine (HRO.out _).mono ?_
        rintro e w4 ⟨rfl, b4⟩
        have HB4 := Hid.mk' b4
        have HA5 := Hid.mk' (rargs_any w4 (on : Int) ia ib ic id)
        have E0 := HC3.out w4 b4 0 _ rfl
        have E1 := HC3.out w4 b4 1 _ rfl
        have E2 := HC3.out w4 b4 2 _ rfl
        have E3 := HC3.out w4 b4 3 _ rfl
        have E4 := HC3.out w4 b4 4 _ rfl
        clear b4 d0 d1 d2 d3 d4 A6 A6' hW1 hW2 hW3 t0 t1 s0
        obtain ⟨S, hS⟩ : ∃ S, Sb L = S := ⟨_, rfl⟩
        rw [hS]
        have hsz : S.size = L.length := by rw [← hS, Sb_size]
        have hbt := bt_Sb L
        rw [hS] at hbt
        have HS := Hid.mk' hsz
        have HBT := Hid.mk' hbt
        clear hS hsz hbt
        go_wp2_with fail
        refine HA5.out.mono ?_
        rintro e w5 ⟨nb, rfl, q5, b5⟩
        have B5 := HB4.out.trans (b5.mono HB4.out.size)
        have HB5 := Hid.mk' B5
        have hnb : nb < w5.heap.size := (Array.getElem?_eq_some_iff.1 q5).1
        have HCA : Hid (∀ W, Below w5.heap.size w5 W → ∀ k, k < 4 → W.cell? ⟨nb, k, none⟩ = some (.int .i64 (opx ⟨(on : Int), ia, ib, ic, id⟩ k))) := Hid.mk' (fun W hW k hk => (hW.cell (p := ⟨nb, k, none⟩) hnb).trans ((cell_row _ _ k _ _ q5).trans (by
          have : k = 0 ∨ k = 1 ∨ k = 2 ∨ k = 3 := by omega
          rcases this with rfl | rfl | rfl | rfl <;> rfl)))
        clear b5 B5 hnb q5 E0 E1 E2 E3 E4
        go_wp2_with fail
        go_loopw [46] (fun kv wx => ∃ k : Nat, kv = .int .i64 (k : Int) ∧ k ≤ 4 ∧ Hid (Below w5.heap.size w5 wx) ∧ Hid (∀ j, j < k → opkR N ⟨f1, f2, f3, f4, f5, cs, is, ts, us⟩ ⟨(on : Int), ia, ib, ic, id⟩ j = true)) (fun kv wx => 4 - (intOf kv).toNat)
        case atStart => exact ⟨0, rfl, Nat.zero_le _, Hid.mk' (Below.refl _ _), Hid.mk' (fun j h => by omega)⟩
        case round =>
          obtain ⟨k, rfl, hk, HBK, HAK⟩ := hrel
          have B3K : Below W3.heap.size W3 wr := HB5.out.trans (HBK.out.mono HB5.out.size)
          have HB3K := Hid.mk' B3K
          clear B3K
          by_cases hk4 : k < 4
          · have k1 : (k : Int) < 4 := by omega
            have y := HCA.out wr HBK.out k hk4
            have HNX : Hid (opkR N ⟨f1, f2, f3, f4, f5, cs, is, ts, us⟩ ⟨(on : Int), ia, ib, ic, id⟩ k = true → ∀ j, j < k + 1 → opkR N ⟨f1, f2, f3, f4, f5, cs, is, ts, us⟩ ⟨(on : Int), ia, ib, ic, id⟩ j = true) := Hid.mk' (fun h j hj => by
              rcases Nat.lt_or_ge j k with h1 | h1
              · exact HAK.out j h1
              · obtain rfl : j = k := by omega
                exact h)
            have HNO : Hid (opkR N ⟨f1, f2, f3, f4, f5, cs, is, ts, us⟩ ⟨(on : Int), ia, ib, ic, id⟩ k = false → R = false) := Hid.mk' (fun h => by
              cases hh : R with
              | false => rfl
              | true => have := (HI.out.1 hh).2.2.1 k hk4; rw [HLM.out, h] at this; cases this)
            have HRB : Hid (Below w.heap.size w wr) := Hid.mk' (HB.out.trans (HB3K.out.mono HB.out.size))
            have HK4 := Hid.mk' hk4
            by_cases hkl : k < L.length
            · have eO : opkR N ⟨f1, f2, f3, f4, f5, cs, is, ts, us⟩ ⟨(on : Int), ia, ib, ic, id⟩ k = opdB N ⟨f1, f2, f3, f4, f5, cs, is, ts, us⟩ (on : Int) (L.getD k 0) (opx ⟨(on : Int), ia, ib, ic, id⟩ k) := by
                unfold opkR
                dsimp only
                rw [HLZ.out, if_pos hkl]
              rw [eO] at HNX HNO
              have hbk := HBT.out k hkl
              have hil : isL (L.getD k 0) := letz_isL (on : Int) _ (by rw [HLZ.out, List.getD_eq_getElem?_getD, List.getElem?_eq_getElem hkl]; exact List.getElem_mem hkl)
              obtain ⟨lt, hlt⟩ : ∃ lt, L.getD k 0 = lt := ⟨_, rfl⟩
              obtain ⟨z, hz⟩ : ∃ z, opx ⟨(on : Int), ia, ib, ic, id⟩ k = z := ⟨_, rfl⟩
              rw [hlt, hz] at HNX HNO
              rw [hlt] at hbk hil
              rw [hz] at y
              obtain ⟨rb, hrb⟩ : ∃ rb, opdB N ⟨f1, f2, f3, f4, f5, cs, is, ts, us⟩ (on : Int) lt z = rb := ⟨_, rfl⟩
              have HOD : Hid (∀ W, W.heap = wr.heap → Calls Tryd.prog 39 #[.agg #[.slice a N c], .agg #[.string f1, .int .i64 f2, .bool f3, .bool f4, .int .i64 f5, .slice xa m1 xc, .slice (some ⟨g, o, none⟩) (p + 1) yc, .slice za m3 zc, .slice ua m4 uc], .agg #[.int .i64 (on : Int), .int .i64 ia, .int .i64 ib, .int .i64 ic, .int .i64 id], .int .u8 (lt.toNat : Int), .int .i64 z] W fun e w' => e = .returned (.bool rb) ∧ Below W.heap.size W w') := Hid.mk' (fun W hW => by
                have h := operand_any ⟨⟨f1, f2, f3, f4, f5, cs, is, ts, us⟩, xa, xc, some ⟨g, o, none⟩, yc, za, zc, ua, uc⟩ W ((HQ3.out.below HB3K.out).c.heap hW) a N c (on : Int) ia ib ic id lt hil z
                dsimp only at h
                rw [hrb] at h
                simp only [FW.cs] at h
                rw [HM13.out.1, HI3.out.1, HM13.out.2, HI3.out.2] at h
                exact h)
              obtain ⟨lz, hlz⟩ : ∃ lz : Int, (lt.toNat : Int) = lz := ⟨_, rfl⟩
              rw [hlz] at HOD hbk
              rw [hrb] at HNX HNO
              have A0 := HC1.out wr HB3K.out
              have a0 := HC2.out wr HB3K.out 0 _ rfl
              have a1 := HC2.out wr HB3K.out 1 _ rfl
              have a2 := HC2.out wr HB3K.out 2 _ rfl
              have a3 := HC2.out wr HB3K.out 3 _ rfl
              have a4 := HC2.out wr HB3K.out 4 _ rfl
              have a5 := HC2.out wr HB3K.out 5 _ rfl
              have a6 := HC2.out wr HB3K.out 6 _ rfl
              have a7 := HC2.out wr HB3K.out 7 _ rfl
              have a8 := HC2.out wr HB3K.out 8 _ rfl
              have E0 := HC3.out wr HB3K.out 0 _ rfl
              have E1 := HC3.out wr HB3K.out 1 _ rfl
              have E2 := HC3.out wr HB3K.out 2 _ rfl
              have E3 := HC3.out wr HB3K.out 3 _ rfl
              have E4 := HC3.out wr HB3K.out 4 _ rfl
              have hks : (k : Int) < (S.size : Int) := by have := HS.out; omega
              have hkn : k < S.size := by omega
              have hgb := PlainAid.get_bt S
              have hkl' : decide ((S.size : Int) ≤ (k : Int)) = false := decide_eq_false (by omega)
              clear eO hlt hz hrb hil hlz hk hk4 hkl hkn n1 n2 hm2b hiw hon
              go_upto_region 11 with fail
              go_region_with (go_at_call 39; refine (HOD.out (wr.drewN _) (by simp)).mono ?_; rintro e w6 ⟨rfl, b6⟩)
              all_goals
                have HB6 := Hid.mk' (drewC b6)
                clear b6
                cases rb with
                | true =>
                  go_wp2
                  exact ⟨⟨k + 1, by go_num, HK4.out, Hid.mk' (HBK.out.trans (HB6.out.mono HBK.out.size)), Hid.mk' (HNX.out rfl)⟩, meas_up' 4 k HK4.out⟩
                | false =>
                  have e := HNO.out rfl
                  subst e
                  go_wp2
                  go_ret
                  exact ⟨rfl, by first | exact HRB.out.trans (HB6.out.mono HRB.out.size) | (rw [← hx1]; exact HRB.out.trans (HB6.out.mono HRB.out.size))⟩
            · have eO : opkR N ⟨f1, f2, f3, f4, f5, cs, is, ts, us⟩ ⟨(on : Int), ia, ib, ic, id⟩ k = decide (opx ⟨(on : Int), ia, ib, ic, id⟩ k = 0) := by
                unfold opkR
                dsimp only
                rw [HLZ.out, if_neg hkl]
              rw [eO] at HNX HNO
              obtain ⟨z, hz⟩ : ∃ z, opx ⟨(on : Int), ia, ib, ic, id⟩ k = z := ⟨_, rfl⟩
              rw [hz] at HNX HNO y
              have hks : (S.size : Int) ≤ (k : Int) := by have := HS.out; omega
              have hks2 : S.size ≤ k := by omega
              clear eO hz hk hk4 hkl n1 n2 hm2b hiw hon
              by_cases h0 : z = 0
              · have h0' : (z != 0) = false := by simp [h0]
                have HG := Hid.mk' (HNX.out (by simp [h0]))
                clear h0
                go_wp2
                exact ⟨⟨k + 1, by go_num, HK4.out, HBK, HG⟩, meas_up' 4 k HK4.out⟩
              · have h0' : (z != 0) = true := by simp [h0]
                have e := HNO.out (by simp [h0])
                subst e
                clear h0
                go_wp2
                go_ret
                exact ⟨rfl, by first | exact HRB.out | (rw [← hx1]; exact HRB.out)⟩
          · have k1 : ¬ (k : Int) < 4 := by omega
            obtain rfl : k = 4 := by omega
            have HALL : Hid (∀ j, j < 4 → opkR N ⟨f1, f2, f3, f4, f5, cs, is, ts, us⟩ ⟨(on : Int), ia, ib, ic, id⟩ j = true) := HAK
            have HRB : Hid (Below w.heap.size w wr) := Hid.mk' (HB.out.trans (HB3K.out.mono HB.out.size))
            have HOK : Hid (¬ ((on : Int) = 38 ∧ f5 ≤ ia + 1) → ¬ ((on : Int) = 39 ∧ f5 ≤ ib + 1) → ((on : Int) = 15 → ∀ c ∈ ((qs.map FW.f).getD ib.toNat noFun).caps, capOk ⟨f1, f2, f3, f4, f5, cs, is, ts, us⟩ c = true) → R = true) := Hid.mk' (fun h1 h2 h3 => HI.out.2 ⟨⟨by dsimp only; omega, by dsimp only; omega⟩, HSL.out, fun k hk => by rw [HLM.out]; exact HALL.out k hk, h1, h2, h3⟩)
            have E0 := HC3.out wr HB3K.out 0 _ rfl
            have E1 := HC3.out wr HB3K.out 1 _ rfl
            have E2 := HC3.out wr HB3K.out 2 _ rfl
            have a4 := HC2.out wr HB3K.out 4 _ rfl
            clear hk n1 n2 hm2b
            cases t38 : ((on : Int) == 38) with
            | true =>
              have h38 : on = 38 := by have := eq_of_beq t38; omega
              have hia0 : 0 ≤ ia ∧ ia < f5 := by
                have h := HALL.out 0 (by omega)
                rw [h38] at h
                have e : letz ((38 : Nat) : Int) = [114, 114] := rfl
                unfold opkR at h
                dsimp only at h
                rw [e] at h
                simp [opdB, opx] at h
                exact h
              have hwr : wrap64 (ia + 1) = ia + 1 := by have := HRG.out; unfold wrap64; omega
              have t39 : ((on : Int) == 39) = false := by rw [h38]; rfl
              have t15 : ((on : Int) == 15) = false := by rw [h38]; rfl
              have HF := Hid.mk' h38
              cases u0 : decide (f5 ≤ ia + 1) with
              | true =>
                have e : R = false := by
                  cases hh : R with
                  | false => rfl
                  | true => exact absurd ⟨by dsimp only; omega, by dsimp only; exact of_decide_eq_true u0⟩ (HI.out.1 hh).2.2.2.1
                subst e
                clear h38 hon hia0 hiw
                go_wp2
                go_ret
                exact ⟨rfl, by first | exact HRB.out | (rw [← hx1]; exact HRB.out)⟩
              | false =>
                have e : R = true := HOK.out (fun h => absurd h.2 (of_decide_eq_false u0)) (fun h => by omega) (fun h => by omega)
                subst e
                clear h38 hon hia0 hiw
                go_wp2
                go_ret
                exact ⟨rfl, by first | exact HRB.out | (rw [← hx1]; exact HRB.out)⟩
            | false =>
              cases t39 : ((on : Int) == 39) with
              | true =>
                have h39 : on = 39 := by have := eq_of_beq t39; omega
                have hib0 : 0 ≤ ib ∧ ib < f5 := by
                  have h := HALL.out 1 (by omega)
                  rw [h39] at h
                  have e : letz ((39 : Nat) : Int) = [114, 114, 116] := rfl
                  unfold opkR at h
                  dsimp only at h
                  rw [e] at h
                  simp [opdB, opx] at h
                  exact h
                have hwr : wrap64 (ib + 1) = ib + 1 := by have := HRG.out; unfold wrap64; omega
                have t15 : ((on : Int) == 15) = false := by rw [h39]; rfl
                cases u0 : decide (f5 ≤ ib + 1) with
                | true =>
                  have e : R = false := by
                    cases hh : R with
                    | false => rfl
                    | true => exact absurd ⟨by dsimp only; omega, by dsimp only; exact of_decide_eq_true u0⟩ (HI.out.1 hh).2.2.2.2.1
                  subst e
                  clear h39 hon hib0 hiw
                  go_wp2
                  go_ret
                  exact ⟨rfl, by first | exact HRB.out | (rw [← hx1]; exact HRB.out)⟩
                | false =>
                  have e : R = true := HOK.out (fun h => by omega) (fun h => absurd h.2 (of_decide_eq_false u0)) (fun h => by omega)
                  subst e
                  clear h39 hon hib0 hiw
                  go_wp2
                  go_ret
                  exact ⟨rfl, by first | exact HRB.out | (rw [← hx1]; exact HRB.out)⟩
              | false =>
                have n38 : ¬ (on : Int) = 38 := by simpa using t38
                have n39 : ¬ (on : Int) = 39 := by simpa using t39
                cases t15 : ((on : Int) == 15) with
                | false =>
                  have n15 : ¬ (on : Int) = 15 := by simpa using t15
                  have e : R = true := HOK.out (fun h => n38 h.1) (fun h => n39 h.1) (fun h => absurd h n15)
                  subst e
                  clear n38 n39 n15 hon hiw
                  go_wp2
                  go_ret
                  exact ⟨rfl, by first | exact HRB.out | (rw [← hx1]; exact HRB.out)⟩
                | true =>
                  have h15 : on = 15 := by have := eq_of_beq t15; omega
                  have hib0 : 0 < ib ∧ ib < (N : Int) := by
                    have h := HALL.out 1 (by omega)
                    rw [h15] at h
                    have e : letz ((15 : Nat) : Int) = [114, 102] := rfl
                    unfold opkR at h
                    dsimp only at h
                    rw [e] at h
                    simp [opdB, opx] at h
                    omega
                  obtain ⟨ibn, rfl⟩ : ∃ ibn : Nat, ib = (ibn : Int) := ⟨ib.toNat, by omega⟩
                  have hbq : ibn < qs.length := by rw [HN.out]; omega
                  have hmw := HM3.out
                  obtain ⟨g2, o2, rfl, hg2, hc2⟩ := hmw.r.at ibn hbq
                  have hge : (qs.map FW.f).getD ibn noFun = (qs[ibn]).f := by simp [List.getD_eq_getElem?_getD, List.getElem?_eq_getElem hbq]
                  have hrp := (hmw.q _ (List.getElem_mem hbq)).p
                  have x8 := (HB3K.out.cell (p := ⟨g2, o2 + ibn * 9 + 8, none⟩) hg2).trans (hc2 8 (.slice (qs[ibn]).ua (qs[ibn]).f.caps.length (qs[ibn]).uc) (by omega) rfl)
                  have HOC : Hid ((∀ c ∈ (qs[ibn]).f.caps, capOk ⟨f1, f2, f3, f4, f5, cs, is, ts, us⟩ c = true) → R = true) := Hid.mk' (fun h => HOK.out (fun h => n38 h.1) (fun h => n39 h.1) (fun _ => by rw [Int.toNat_natCast, hge]; exact h))
                  have HNC : Hid (∀ c ∈ (qs[ibn]).f.caps, capOk ⟨f1, f2, f3, f4, f5, cs, is, ts, us⟩ c = false → R = false) := Hid.mk' (fun c hc hf => by
                    cases hh : R with
                    | false => rfl
                    | true =>
                      have := (HI.out.1 hh).2.2.2.2.2 (by dsimp only; omega) c (by dsimp only; rw [Int.toNat_natCast, hge]; exact hc)
                      rw [hf] at this
                      cases this)
                  generalize (qs[ibn]).f.caps = caps at x8 HOC HNC hrp
                  generalize (qs[ibn]).ua = pa at x8 hrp
                  generalize (qs[ibn]).uc = pc at x8 hrp
                  have hple := hrp.le
                  have hpcl : pc * (2 * 8) ≤ 140737488351232 := hrp.cle
                  obtain ⟨np, hnp⟩ : ∃ np, caps.length = np := ⟨_, rfl⟩
                  rw [hnp] at x8 hple
                  have HNP := Hid.mk' hnp
                  have HRP := Hid.mk' hrp
                  have i1 : (ibn : Int) < (N : Int) := by omega
                  have hcN := hmw.r.le
                  have hcN2 : c * (9 * 8) ≤ 140737488351232 := hmw.r.cle
                  rw [HN.out] at hcN
                  have i2 : (ibn : Int) < 140737488351232 := by omega
                  have hnpb : (np : Int) ≤ 140737488351232 := by omega
                  have A0 := HC1.out wr HB3K.out
                  clear h15 hib0 hbq hmw hg2 hc2 hge hrp n38 n39 hon hiw hple hpcl hcN hcN2 hnp
                  go_wp2_with fail
                  clear x8 A0 E0 E1 E2 a4 t38 t39 t15 i1 i2
                  go_loopw [102] (fun jv wx => ∃ j : Nat, jv = .int .i64 (j : Int) ∧ j ≤ np ∧ Hid (Below W3.heap.size W3 wx) ∧ Hid (∀ (i : Nat) (hi : i < caps.length), i < j → capOk ⟨f1, f2, f3, f4, f5, cs, is, ts, us⟩ caps[i] = true)) (fun jv wx => np - (intOf jv).toNat)
                  case atStart => exact ⟨0, rfl, Nat.zero_le _, HB3K, Hid.mk' (fun i hi h => by omega)⟩
                  case round =>
                    obtain ⟨j, rfl, hj, HBJ, HAJ⟩ := hrel
                    by_cases hjt : j < np
                    · have hjl : j < caps.length := by rw [HNP.out]; exact hjt
                      obtain ⟨g3, o3, rfl, hg3, hc3⟩ := (HRP.out.below HBJ.out).at j hjl
                      have y0 := hc3 0 (.bool (caps[j]).up) (by omega) rfl
                      have y1 := hc3 1 (.int .i64 (caps[j]).n) (by omega) rfl
                      simp only [Nat.add_zero] at y0
                      have HNJ : Hid (capOk ⟨f1, f2, f3, f4, f5, cs, is, ts, us⟩ caps[j] = true → ∀ (i : Nat) (hi : i < caps.length), i < j + 1 → capOk ⟨f1, f2, f3, f4, f5, cs, is, ts, us⟩ caps[i] = true) := Hid.mk' (fun h i hi hij => by
                        rcases Nat.lt_or_ge i j with h1 | h1
                        · exact HAJ.out i hi h1
                        · obtain rfl : i = j := by omega
                          exact h)
                      have HNF : Hid (capOk ⟨f1, f2, f3, f4, f5, cs, is, ts, us⟩ caps[j] = false → R = false) := Hid.mk' (HNC.out _ (List.getElem_mem hjl))
                      obtain ⟨cc, hcc⟩ : ∃ cc, caps[j] = cc := ⟨_, rfl⟩
                      rw [hcc] at y0 y1 HNJ HNF
                      obtain ⟨up, cn⟩ := cc
                      have eC : capOk ⟨f1, f2, f3, f4, f5, cs, is, ts, us⟩ ⟨up, cn⟩ = !(decide (cn < 0) || (up && decide ((m4 : Int) ≤ cn)) || (!up && decide (f5 ≤ cn))) := by unfold capOk; dsimp only; rw [HI3.out.2]
                      rw [eC] at HNJ HNF
                      dsimp only at y0 y1
                      obtain ⟨Wc, hWc⟩ : ∃ Wc, wr.alloc (.cells #[.bool up, .int .i64 cn] 91) = Wc := ⟨_, rfl⟩
                      have bc : Below wr.heap.size wr Wc := by rw [← hWc]; exact lay_below
                      have qc : Wc.heap[wr.heap.size]? = some (.cells #[.bool up, .int .i64 cn] 91 (0, 0)) := by rw [← hWc]; exact box_new
                      obtain ⟨bq, hbq⟩ : ∃ x, wr.heap.size = x := ⟨_, rfl⟩
                      rw [hbq] at qc
                      have z0 : Wc.cell? ⟨bq, 0, none⟩ = some (.bool up) := (cell_row _ _ 0 _ _ qc).trans rfl
                      have z1 : Wc.cell? ⟨bq, 1, none⟩ = some (.int .i64 cn) := (cell_row _ _ 1 _ _ qc).trans rfl
                      have BC := HBJ.out.trans (bc.mono HBJ.out.size)
                      have a4 := HC2.out Wc BC 4 _ rfl
                      have a8 := HC2.out Wc BC 8 _ rfl
                      have HBC := Hid.mk' BC
                      have HJT := Hid.mk' hjt
                      have j1 : (j : Int) < (np : Int) := by omega
                      have j2 : (j : Int) < 140737488351232 := by omega
                      clear BC bc qc hc3 hg3 hjl hcc eC hj hjt
                      cases v0 : decide (cn < 0) with
                      | true =>
                        have e := HNF.out (by rw [v0]; first | rfl | simp)
                        subst e
                        go_wp2
                        go_ret
                        exact ⟨rfl, by first | exact HB.out.trans (HBC.out.mono HB.out.size) | (rw [← hx1]; exact HB.out.trans (HBC.out.mono HB.out.size))⟩
                      | false =>
                        cases up with
                        | true =>
                          cases v1 : decide ((m4 : Int) ≤ cn) with
                          | true =>
                            have e := HNF.out (by rw [v0, v1]; first | rfl | simp)
                            subst e
                            go_wp2
                            go_ret
                            exact ⟨rfl, by first | exact HB.out.trans (HBC.out.mono HB.out.size) | (rw [← hx1]; exact HB.out.trans (HBC.out.mono HB.out.size))⟩
                          | false =>
                            have HG := Hid.mk' (HNJ.out (by rw [v0, v1]; first | rfl | simp))
                            go_wp2
                            exact ⟨⟨j + 1, by go_num, HJT.out, HBC, HG⟩, meas_up' np j HJT.out⟩
                        | false =>
                          cases v1 : decide (f5 ≤ cn) with
                          | true =>
                            have e := HNF.out (by rw [v0, v1]; first | rfl | simp)
                            subst e
                            go_wp2
                            go_ret
                            exact ⟨rfl, by first | exact HB.out.trans (HBC.out.mono HB.out.size) | (rw [← hx1]; exact HB.out.trans (HBC.out.mono HB.out.size))⟩
                          | false =>
                            have HG := Hid.mk' (HNJ.out (by rw [v0, v1]; first | rfl | simp))
                            go_wp2
                            exact ⟨⟨j + 1, by go_num, HJT.out, HBC, HG⟩, meas_up' np j HJT.out⟩
                    · have e : R = true := HOC.out (fun c hc => by
                        obtain ⟨i, hi, rfl⟩ := List.getElem_of_mem hc
                        exact HAJ.out i hi (by have := HNP.out; omega))
                      subst e
                      have j1 : ¬ (j : Int) < (np : Int) := by omega
                      clear hjt hj
                      go_wp2
                      go_ret
                      exact ⟨rfl, by first | exact HB.out.trans (HBJ.out.mono HB.out.size) | (rw [← hx1]; exact HB.out.trans (HBJ.out.mono HB.out.size))⟩
end Go.Proofs.YtlhiedlpjefbnaaDoor
