/- CheckGuards: the law. -/
import Derived.Test.YtcalbepmhadjfaaDoorChT
import Derived.Test.YtcalbepmhadjfaaDoorChV
namespace Go.Proofs.YtcalbepmhadjfaaDoor
set_option linter.unusedVariables false
set_option linter.unusedSimpArgs false
open Go.RowKit Go.Shelf

set_option maxHeartbeats 4000000 in
set_option maxRecDepth 100000 in
theorem guards_any (a : Option Addr) (c : Nat) (qs : List FW) (w : World) (hm : Md w a c qs) (hl : LaidL w) :
    Calls Tryd.prog 5 #[.agg #[.slice a qs.length c]] w fun e w' => e = .returned (.bool true) ∧ Below w.heap.size w w' := by
  have hle := hm.r.le
  have hcl : c * (9 * 8) ≤ 140737488351232 := hm.r.cle
  obtain ⟨W1, hW1⟩ : ∃ W1, w.alloc (.cells #[.slice a qs.length c] 24) = W1 := ⟨_, rfl⟩
  have b1 : Below w.heap.size w W1 := by rw [← hW1]; exact lay_below
  have q1 : W1.heap[w.heap.size]? = some (.cells #[.slice a qs.length c] 24 (0, 0)) := by rw [← hW1]; exact box_new
  have HM1 := Hid.mk' (hm.below b1)
  have HAW := Hid.mk' (awake_any W1 (hl.below' b1))
  have HFE := Hid.mk' (fun W (hW : Below W1.heap.size W1 W) => few_any W ((hm.below b1).below hW))
  have HCH := Hid.mk' (fun W (hW : Below W1.heap.size W1 W) => check_any W ((hm.below b1).below hW) ((hl.below' b1).below' hW))
  obtain ⟨N, hN⟩ : ∃ N, qs.length = N := ⟨_, rfl⟩
  rw [hN] at hle q1 HFE HCH hW1 ⊢
  have HN := Hid.mk' hN
  have HFL : Hid ((qs.map FW.f).length = N) := Hid.mk' (by rw [List.length_map, hN])
  obtain ⟨b0, hb0⟩ : ∃ b0, w.heap.size = b0 := ⟨_, rfl⟩
  rw [hb0] at q1
  have hb1 : b0 < W1.heap.size := (Array.getElem?_eq_some_iff.1 q1).1
  have HC0 : Hid (∀ W, Below W1.heap.size W1 W → W.cell? ⟨b0, 0, none⟩ = some (.slice a N c)) := Hid.mk' (fun W hW => (hW.cell (p := ⟨b0, 0, none⟩) hb1).trans ((cell_row _ _ 0 _ _ q1).trans rfl))
  have HB1 := Hid.mk' b1
  clear hm hl b1 q1 hN hb1
  go_enter Tryd.func5, Tryd.ntmps5
  go_wp2_with fail
  refine HAW.out.mono ?_
  rintro e w2 ⟨rfl, b2⟩
  have HB2 := Hid.mk' b2
  have c2 := HC0.out _ b2
  have HF2 := Hid.mk' (HFE.out w2 b2)
  clear b2
  go_wp2_with fail
  refine HF2.out.mono ?_
  rintro e w3 ⟨v, rfl, ⟨b, rfl⟩, b3⟩
  have B3 := HB2.out.trans (b3.mono HB2.out.size)
  have HB3 := Hid.mk' B3
  have c3 := HC0.out _ B3
  have HC3 := Hid.mk' (HCH.out w3 B3)
  clear b3 B3 c2
  cases b with
  | false =>
    go_wp2
    go_ret
    exact ⟨rfl, HB1.out.trans (HB3.out.mono HB1.out.size)⟩
  | true =>
    go_wp2_with fail
    refine HC3.out.mono ?_
    rintro e w4 ⟨V, rfl, gg, kk, z, rfl, hC, b4⟩
    have B4 := HB3.out.trans (b4.mono HB3.out.size)
    have HB4 := Hid.mk' B4
    have c4 := HC0.out _ B4
    clear b4 B4 c3
    by_cases hz : z = 0
    · subst hz
      obtain ⟨hbd, hok⟩ := chk_zero hC
      have HOK : Hid (∀ i, i < N → Grd N ((qs.map FW.f).getD i noFun)) := Hid.mk' (fun i hi => by
        have := grd_of (hok i (by rw [HFL.out]; exact hi))
        rwa [HFL.out] at this)
      have hmb : (N : Int) ≤ 20000 := by have := HFL.out; omega
      clear hbd hok hC hle hcl
      go_wp2_with fail
      clear c4
      go_loopw [30] (fun iv wr => ∃ i : Nat, iv = .int .i64 (i : Int) ∧ i ≤ N ∧ Hid (Below W1.heap.size W1 wr)) (fun iv wr => N - (intOf iv).toNat)
      case atStart => exact ⟨0, rfl, Nat.zero_le _, HB4⟩
      case round =>
        obtain ⟨i, rfl, hi, HBW⟩ := hrel
        by_cases hlt : i < N
        · have hlq : i < qs.length := by rw [HN.out]; omega
          obtain ⟨g, o, rfl, hg, hc⟩ := ((HM1.out).below HBW.out).r.at i hlq
          have i1 : (i : Int) < (N : Int) := by omega
          have i2 : (i : Int) < 20000 := by omega
          have hrd := ((HM1.out).below HBW.out).q _ (List.getElem_mem hlq)
          have hge : (qs.map FW.f).getD i noFun = (qs[i]).f := by simp [List.getD_eq_getElem?_getD, List.getElem?_eq_getElem hlq]
          have hgd := HOK.out i hlt
          rw [hge] at hgd
          generalize qs[i] = q at hc hrd hgd hge
          have HGD := Hid.mk' hgd
          have HRI := Hid.mk' hrd.i
          have h1 := hrd.c.le
          have h1' : q.xc * (4 * 8) ≤ 140737488351232 := hrd.c.cle
          have h2 := hrd.i.le
          have h2' : q.yc * (5 * 8) ≤ 140737488351232 := hrd.i.cle
          have h4 := hrd.p.le
          have h4' : q.uc * (2 * 8) ≤ 140737488351232 := hrd.p.cle
          obtain ⟨⟨f1, f2, f3, f4, f5, cs, is, ts, us⟩, xa, xc, ya, yc, za, zc, ua, uc⟩ := q
          simp only [FW.cs] at hc
          dsimp only at hc HRI h1 h1' h2 h2' h4 h4' HGD hgd
          obtain ⟨m1, hm1⟩ : ∃ m, cs.length = m := ⟨_, rfl⟩
          obtain ⟨m2, hm2⟩ : ∃ m, is.length = m := ⟨_, rfl⟩
          obtain ⟨m3, hm3⟩ : ∃ m, ts.length = m := ⟨_, rfl⟩
          obtain ⟨m4, hm4⟩ : ∃ m, us.length = m := ⟨_, rfl⟩
          rw [hm1, hm2, hm3, hm4] at hc
          rw [hm1] at h1
          rw [hm2] at h2
          rw [hm4] at h4
          obtain ⟨p, rfl⟩ : ∃ p, m2 = p + 1 := ⟨m2 - 1, by have := hgd.pos; dsimp only at this; omega⟩
          obtain ⟨ol, hol, hlea⟩ : ∃ ol, (is[p]'(by omega)).op = ol ∧ leaB ol = true := ⟨_, rfl, by
            have := hgd.last
            dsimp only [insAt] at this
            rw [hm2, List.getD_eq_getElem?_getD, List.getElem?_eq_getElem (by omega)] at this
            simpa using this⟩
          have hreg : decide (f5 < f2) = false := by have := hgd.regs; dsimp only at this; simp; omega
          have d0 := hc 0 (.string f1) (by omega) rfl
          have d1 := hc 1 (.int .i64 f2) (by omega) rfl
          have d2 := hc 2 (.bool f3) (by omega) rfl
          have d3 := hc 3 (.bool f4) (by omega) rfl
          have d4 := hc 4 (.int .i64 f5) (by omega) rfl
          have d5 := hc 5 (.slice xa m1 xc) (by omega) rfl
          have d6 := hc 6 (.slice ya (p + 1) yc) (by omega) rfl
          have d7 := hc 7 (.slice za m3 zc) (by omega) rfl
          have d8 := hc 8 (.slice ua m4 uc) (by omega) rfl
          simp only [Nat.add_zero] at d0
          obtain ⟨W6, hW6⟩ : ∃ W6, wr.alloc (.cells #[.string f1, .int .i64 f2, .bool f3, .bool f4, .int .i64 f5, .slice xa m1 xc, .slice ya (p + 1) yc, .slice za m3 zc, .slice ua m4 uc] 38) = W6 := ⟨_, rfl⟩
          have b6 : Below wr.heap.size wr W6 := by rw [← hW6]; exact lay_below
          have q6 : W6.heap[wr.heap.size]? = some (.cells #[.string f1, .int .i64 f2, .bool f3, .bool f4, .int .i64 f5, .slice xa m1 xc, .slice ya (p + 1) yc, .slice za m3 zc, .slice ua m4 uc] 38 (0, 0)) := by rw [← hW6]; exact box_new
          obtain ⟨bf, hbf⟩ : ∃ bf, wr.heap.size = bf := ⟨_, rfl⟩
          rw [hbf] at q6
          have hbl : bf < W6.heap.size := (Array.getElem?_eq_some_iff.1 q6).1
          have HCF : Hid (∀ W, Below W6.heap.size W6 W → W.cell? ⟨bf, 1, none⟩ = some (.int .i64 f2) ∧ W.cell? ⟨bf, 4, none⟩ = some (.int .i64 f5) ∧ W.cell? ⟨bf, 5, none⟩ = some (.slice xa m1 xc) ∧ W.cell? ⟨bf, 6, none⟩ = some (.slice ya (p + 1) yc) ∧ W.cell? ⟨bf, 8, none⟩ = some (.slice ua m4 uc)) := Hid.mk' (fun W hW =>
            ⟨(hW.cell (p := ⟨bf, 1, none⟩) hbl).trans ((cell_row _ _ 1 _ _ q6).trans rfl), (hW.cell (p := ⟨bf, 4, none⟩) hbl).trans ((cell_row _ _ 4 _ _ q6).trans rfl), (hW.cell (p := ⟨bf, 5, none⟩) hbl).trans ((cell_row _ _ 5 _ _ q6).trans rfl), (hW.cell (p := ⟨bf, 6, none⟩) hbl).trans ((cell_row _ _ 6 _ _ q6).trans rfl), (hW.cell (p := ⟨bf, 8, none⟩) hbl).trans ((cell_row _ _ 8 _ _ q6).trans rfl)⟩)
          obtain ⟨e1, e4, e5, e6, e8⟩ := HCF.out W6 (Below.refl _ _)
          have HB6 := Hid.mk' (HBW.out.trans (b6.mono HBW.out.size))
          have HR6 := Hid.mk' (HRI.out.below b6)
          have HM2 := Hid.mk' hm2
          have HC6 : Hid (∀ W, Below W6.heap.size W6 W → W.cell? ⟨b0, 0, none⟩ = some (.slice (some ⟨g, o, none⟩) N c)) := Hid.mk' (fun W hW => HC0.out W (HB6.out.trans (hW.mono HB6.out.size)))
          obtain ⟨g', o', hya, _, hcl⟩ := HR6.out.at p (by omega)
          have y0 := hcl 0 (.int .i64 ol) (by omega) (by rw [← hol]; rfl)
          simp only [Nat.add_zero] at y0
          subst hya
          have hm1b : (m1 : Int) ≤ 140737488351232 := by omega
          have hm2b : (p : Int) + 1 ≤ 140737488351232 := by omega
          have hm4b : (m4 : Int) ≤ 140737488351232 := by omega
          have hpc : (p : Int) + 1 ≤ (yc : Int) := by omega
          have hp0 : (((p : Int) + 1) == 0) = false := by simp; omega
          have HIL := Hid.mk' hlt
          have HEN : Hid (∀ W, Calls Tryd.prog 15 #[.int .i64 ol] W fun e w' => e = .returned (.bool true) ∧ w' = W) := Hid.mk' (fun W => by have := ends_any W ol; rwa [hlea] at this)
          have HF : Hid (m1 = cs.length ∧ m4 = us.length) := Hid.mk' ⟨hm1.symm, hm4.symm⟩
          clear hc hcl hrd hm1 hm2 hm3 hm4 hge h1 h1' h2 h2' h4 h4' b6 q6 hi hg hlt hgd hol hbl hlea
          go_upto_region 11 with fail
          go_wp2_with fail
          refine (HEN.out _).mono ?_
          rintro e w5 ⟨rfl, hw5⟩
          rw [hw5]
          clear hw5 w5
          go_wp2_with fail
          clear d0 d1 d2 d3 d4 d5 d6 d7 d8 e1 e4 e5 e6 e8 y0 hW6 hbf hp0 hreg
          go_loopw [61] (fun jv wx => ∃ j : Nat, jv = .int .i64 (j : Int) ∧ j ≤ p + 1 ∧ Hid (Below W6.heap.size W6 wx)) (fun jv wx => p + 1 - (intOf jv).toNat)
          case atStart => exact ⟨0, rfl, Nat.zero_le _, Hid.mk' (Below.refl _ _)⟩
          case round =>
            obtain ⟨j, rfl, hj, HBX⟩ := hrel
            by_cases hjt : j < p + 1
            · have hjq : j < is.length := by rw [HM2.out]; exact hjt
              obtain ⟨g', o', hya, _, hc⟩ := (HR6.out.below HBX.out).at j hjq
              simp only [Option.some.injEq, Addr.mk.injEq] at hya
              obtain ⟨rfl, rfl, _⟩ := hya
              have j1 : (j : Int) < (p : Int) + 1 := by omega
              have j2 : (j : Int) < 140737488351232 := by omega
              obtain ⟨k1, k2, k3⟩ := HGD.out.ins j hjq
              dsimp only at k1 k2 k3
              generalize is[j] = ins at hc k1 k2 k3
              obtain ⟨op, ia, ib, ic, id⟩ := ins
              dsimp only at k1 k2 k3
              obtain ⟨on, rfl⟩ : ∃ on : Nat, op = (on : Int) := ⟨op.toNat, by omega⟩
              have hon : on ≤ 70 := by omega
              have x0 := hc 0 (.int .i64 (on : Int)) (by omega) rfl
              have x1 := hc 1 (.int .i64 ia) (by omega) rfl
              have x2 := hc 2 (.int .i64 ib) (by omega) rfl
              have x3 := hc 3 (.int .i64 ic) (by omega) rfl
              have x4 := hc 4 (.int .i64 id) (by omega) rfl
              simp only [Nat.add_zero] at x0
              obtain ⟨W8, hW8⟩ : ∃ W8, wr.alloc (.cells #[.int .i64 (on : Int), .int .i64 ia, .int .i64 ib, .int .i64 ic, .int .i64 id] 50) = W8 := ⟨_, rfl⟩
              have b8 : Below wr.heap.size wr W8 := by rw [← hW8]; exact lay_below
              have q8 : W8.heap[wr.heap.size]? = some (.cells #[.int .i64 (on : Int), .int .i64 ia, .int .i64 ib, .int .i64 ic, .int .i64 id] 50 (0, 0)) := by rw [← hW8]; exact box_new
              obtain ⟨bx, hbx⟩ : ∃ bx, wr.heap.size = bx := ⟨_, rfl⟩
              rw [hbx] at q8
              have hxl : bx < W8.heap.size := (Array.getElem?_eq_some_iff.1 q8).1
              have HCI : Hid (∀ W, Below W8.heap.size W8 W → W.cell? ⟨bx, 0, none⟩ = some (.int .i64 (on : Int)) ∧ W.cell? ⟨bx, 1, none⟩ = some (.int .i64 ia) ∧ W.cell? ⟨bx, 2, none⟩ = some (.int .i64 ib) ∧ W.cell? ⟨bx, 3, none⟩ = some (.int .i64 ic) ∧ W.cell? ⟨bx, 4, none⟩ = some (.int .i64 id)) := Hid.mk' (fun W hW =>
                ⟨(hW.cell (p := ⟨bx, 0, none⟩) hxl).trans ((cell_row _ _ 0 _ _ q8).trans rfl), (hW.cell (p := ⟨bx, 1, none⟩) hxl).trans ((cell_row _ _ 1 _ _ q8).trans rfl), (hW.cell (p := ⟨bx, 2, none⟩) hxl).trans ((cell_row _ _ 2 _ _ q8).trans rfl), (hW.cell (p := ⟨bx, 3, none⟩) hxl).trans ((cell_row _ _ 3 _ _ q8).trans rfl), (hW.cell (p := ⟨bx, 4, none⟩) hxl).trans ((cell_row _ _ 4 _ _ q8).trans rfl)⟩)
              obtain ⟨u0, _, _, _, _⟩ := HCI.out W8 (Below.refl _ _)
              have HB8 := Hid.mk' (HBX.out.trans (b8.mono HBX.out.size))
              have HRO := Hid.mk' (rOperands_any on hon W8)
              obtain ⟨L, hL⟩ : ∃ L, letsOf on = L := ⟨_, rfl⟩
              rw [Int.toNat_natCast, hL] at k3
              rw [hL] at HRO
              have HK := Hid.mk' k3
              have HJL := Hid.mk' hjt
              clear hc hj hjt b8 q8 hxl k1 k2 k3 hon hL
              go_wp2_with fail
              refine HRO.out.mono ?_
              rintro e w9 ⟨rfl, b9⟩
              have HB9 := Hid.mk' b9
              clear b9 x0 x1 x2 x3 x4 u0 hW8 hbx
              obtain ⟨S, hS⟩ : ∃ S, Sb L = S := ⟨_, rfl⟩
              rw [hS]
              have hsz : S.size = L.length := by rw [← hS, Sb_size]
              have hbt := bt_Sb L
              rw [hS] at hbt
              have HS := Hid.mk' hsz
              have HBT := Hid.mk' hbt
              have HIT0 := Hid.mk' (World.iter_heap w9 S 0)
              have HIB0 : Hid (Below w9.heap.size w9 (w9.iter S 0)) := Hid.mk' (by unfold World.iter; exact (Below.refl _ _).alloc (Nat.le_refl _) _)
              obtain ⟨B9, hB9⟩ : ∃ B9, w9.heap.size = B9 := ⟨_, rfl⟩
              clear hS hsz hbt
              go_wp2_with fail
              rw [hB9] at HIT0
              have HQ9 := Hid.mk' hB9
              go_loopw [] (fun wr => ∃ k : Nat, k ≤ L.length ∧ Hid (wr.heap[B9]? = some (.stringIter S k)) ∧ Hid (Below B9 w9 wr)) (fun wr => L.length - wr.iterPos B9)
              case atStart => exact ⟨0, Nat.zero_le _, HIT0, by rw [← HQ9.out]; exact HIB0⟩
              case round =>
                obtain ⟨k, hk, HIT, HBK⟩ := hrel
                by_cases hkt : k < L.length
                · have hks : k < S.size := by rw [HS.out]; exact hkt
                  obtain ⟨hk4, hop⟩ := HK.out k hkt
                  have hb := HBT.out k hkt
                  obtain ⟨hn0, hcs⟩ := opn_cases hop
                  obtain ⟨z, hz⟩ : ∃ z, opx ⟨(on : Int), ia, ib, ic, id⟩ k = z := ⟨_, rfl⟩
                  rw [hz] at hn0 hcs
                  obtain ⟨lt, hlt⟩ : ∃ lt, L.getD k 0 = lt := ⟨_, rfl⟩
                  rw [hlt] at hcs hb
                  have hlt128 : lt.toNat < 128 := by rcases hcs with ⟨rfl, _⟩ | ⟨rfl | rfl, _⟩ | ⟨rfl, _⟩ | ⟨rfl, _⟩ | ⟨rfl, _⟩ | ⟨rfl, _⟩ <;> decide
                  have ha : (S[k]'hks).toNat < 128 := by have := PlainAid.get_bt S k hks; omega
                  have hnx := fun ty => Lib.run_next_ascii_at (P := Tryd.prog) wr B9 S k ty HIT.out hks ha
                  obtain ⟨X, hX⟩ : ∃ X, wr.iterAt B9 S (k + 1) = X := ⟨_, rfl⟩
                  obtain ⟨rn, hrn⟩ : ∃ rn : Int, ((S[k]'hks).toNat : Int) = rn := ⟨_, rfl⟩
                  rw [hX, hrn] at hnx
                  have bX : Below B9 w9 X := by rw [← hX]; exact Lib.below_iterAt HBK.out (Nat.le_refl _) S (k + 1)
                  have BX8 : Below W8.heap.size W8 X := HB9.out.trans (bX.mono (by rw [← HQ9.out]; exact HB9.out.size))
                  have iX : X.heap[B9]? = some (.stringIter S (k + 1)) := by rw [← hX]; exact Lib.iterAt_heap wr B9 S k (k + 1) HIT.out
                  obtain ⟨u0, u1, u2', u3, u4⟩ := HCI.out X BX8
                  have HAR := Hid.mk' (rargs_any X (on : Int) ia ib ic id)
                  have HBX8 := Hid.mk' BX8
                  have HBX9 := Hid.mk' bX
                  have HIX := Hid.mk' iX
                  have HKT := Hid.mk' hkt
                  have HK4 := Hid.mk' (And.intro hk4 hz)
                  have HCS := Hid.mk' hcs
                  have k1 : (k : Int) < 4 := by omega
                  have hbm := PlainAid.get_bt S
                  have hks' : (k : Int) < (S.size : Int) := by omega
                  clear bX BX8 iX hX hrn hlt hop hcs hkt hk hz hk4 ha
                  go_wp2_with fail
                  refine HAR.out.mono ?_
                  rintro e w10 ⟨nb, rfl, q10, b10⟩
                  have y : w10.cell? ⟨nb, k, none⟩ = some (.int .i64 z) := (cell_row _ _ k _ _ q10).trans (by
                    obtain ⟨hk4, hz⟩ := HK4.out
                    rw [← hz]
                    have : k = 0 ∨ k = 1 ∨ k = 2 ∨ k = 3 := by omega
                    rcases this with rfl | rfl | rfl | rfl <;> rfl)
                  have B10 : Below W8.heap.size W8 w10 := HBX8.out.trans (b10.mono HBX8.out.size)
                  have B16 : Below W6.heap.size W6 w10 := HB8.out.trans (B10.mono HB8.out.size)
                  obtain ⟨e1, e4, e5, e6, e8⟩ := HCF.out w10 B16
                  have c10 := HC6.out w10 B16
                  have HIN : Hid (w10.heap[B9]? = some (.stringIter S (k + 1))) := Hid.mk' ((b10.block B9 (Array.getElem?_eq_some_iff.1 HIX.out).1).trans HIX.out)
                  have HBN : Hid (Below B9 w9 w10) := Hid.mk' (HBX9.out.trans (b10.mono (by have := (Array.getElem?_eq_some_iff.1 HIX.out).1; omega)))
                  have HME : Hid (L.length - w10.iterPos B9 < L.length - wr.iterPos B9) := Hid.mk' (by
                    have h1 := HIN.out
                    have h2 := HIT.out
                    have h3 := HKT.out
                    simp only [World.iterPos, h1, h2]
                    omega)
                  have hn0' : decide (z < 0) = false := by simp; omega
                  have hbk : PlainAid.bt S k = (lt.toNat : Int) := hb
                  have hcs := HCS.out
                  clear q10 b10 B10 B16 u0 u1 u2' u3 u4 hn0 hb hnx
                  rcases hcs with ⟨rfl, hl⟩ | ⟨rfl | rfl, hl⟩ | ⟨rfl, hl⟩ | ⟨rfl, hl⟩ | ⟨rfl, hl⟩ | ⟨rfl, hl⟩
                  · have hl' : decide (f5 ≤ z) = false := decide_eq_false (by omega)
                    have hbk' : PlainAid.bt S k = 114 := hbk
                    clear hl hbk
                    go_wp2
                    exact ⟨⟨k + 1, HKT.out, HIN, HBN⟩, HME.out⟩
                  · have hl' : decide ((m1 : Int) ≤ z) = false := decide_eq_false (by have := HF.out.1; omega)
                    have hbk' : PlainAid.bt S k = 107 := hbk
                    clear hl hbk
                    go_wp2
                    exact ⟨⟨k + 1, HKT.out, HIN, HBN⟩, HME.out⟩
                  · have hl' : decide ((m1 : Int) ≤ z) = false := decide_eq_false (by have := HF.out.1; omega)
                    have hbk' : PlainAid.bt S k = 115 := hbk
                    clear hl hbk
                    go_wp2
                    exact ⟨⟨k + 1, HKT.out, HIN, HBN⟩, HME.out⟩
                  · have hl' : decide (2147483648 ≤ z) = false := decide_eq_false (by omega)
                    have hbk' : PlainAid.bt S k = 110 := hbk
                    clear hl hbk
                    go_wp2
                    exact ⟨⟨k + 1, HKT.out, HIN, HBN⟩, HME.out⟩
                  · have hl' : decide ((p : Int) + 1 ≤ z) = false := decide_eq_false (by have := HM2.out; omega)
                    have hbk' : PlainAid.bt S k = 116 := hbk
                    clear hl hbk
                    go_wp2
                    exact ⟨⟨k + 1, HKT.out, HIN, HBN⟩, HME.out⟩
                  · have hl' : decide ((N : Int) ≤ z) = false := decide_eq_false (by omega)
                    have hbk' : PlainAid.bt S k = 102 := hbk
                    clear hl hbk
                    go_wp2
                    exact ⟨⟨k + 1, HKT.out, HIN, HBN⟩, HME.out⟩
                  · have hl' : decide ((m4 : Int) ≤ z) = false := decide_eq_false (by have := HF.out.2; omega)
                    have hbk' : PlainAid.bt S k = 117 := hbk
                    clear hl hbk
                    go_wp2
                    exact ⟨⟨k + 1, HKT.out, HIN, HBN⟩, HME.out⟩
                · have hks : ¬ k < S.size := by rw [HS.out]; exact hkt
                  have hnx := fun ty => Lib.run_next_end_at (P := Tryd.prog) wr B9 S k ty HIT.out hks
                  clear hks
                  go_wp2
                  exact ⟨⟨j + 1, by go_num, HJL.out, Hid.mk' (HB8.out.trans ((HB9.out.trans (HBK.out.mono (by rw [← HQ9.out]; exact HB9.out.size))).mono HB8.out.size))⟩, meas_up' (p + 1) j HJL.out⟩
            · have j1 : ¬ (j : Int) < (p : Int) + 1 := by omega
              go_wp2
              exact ⟨⟨i + 1, by go_num, HIL.out, Hid.mk' (HB6.out.trans (HBX.out.mono HB6.out.size))⟩, meas_up' N i HIL.out⟩
        · have i1 : ¬ (i : Int) < (N : Int) := by omega
          go_wp2
          go_ret
          exact ⟨rfl, by first | exact HB1.out.trans (HBW.out.mono HB1.out.size) | (rw [← hb0]; exact HB1.out.trans (HBW.out.mono HB1.out.size))⟩
    · have hz' : (z != 0) = true := by simp [hz]
      clear hz hC
      go_wp2
      go_ret
      exact ⟨rfl, HB1.out.trans (HB4.out.mono HB1.out.size)⟩
end Go.Proofs.YtcalbepmhadjfaaDoor
