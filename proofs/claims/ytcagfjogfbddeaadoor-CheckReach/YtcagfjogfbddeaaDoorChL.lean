/- Package check: a function; a module. -/
import Derived.Test.YtcagfjogfbddeaaDoorChH
import Derived.Test.YtcagfjogfbddeaaDoorChE
import Derived.Test.YtcagfjogfbddeaaDoorChK
namespace Go.Proofs.YtcagfjogfbddeaaDoor
set_option linter.unusedVariables false
set_option linter.unusedSimpArgs false
open Go.RowKit

/-- The checker at work over functions that came in. -/
structure Cz (w0 w : World) (cb mp : Nat) (a : Option Addr) (c : Nat) (vn : Value) (q : FW) (qs : List FW) : Prop where
  bl : Below w0.heap.size w0 w
  ge : w0.heap.size ≤ cb
  ck : Ck w cb a qs.length c vn mp q
  km : KM w mp
  own : w.ownsRow w0.heap.size 81 3 vn qs.length ((needs qs).flatMap Need.cs)
theorem Cz.below {w0 w w' : World} {cb mp : Nat} {a : Option Addr} {c : Nat} {vn : Value} {q : FW} {qs : List FW} (h : Cz w0 w cb mp a c vn q qs) (hb : Below w.heap.size w w') : Cz w0 w' cb mp a c vn q qs :=
  ⟨h.bl.trans (hb.mono h.bl.size), h.ge, h.ck.below hb, h.km.below hb, own_below h.own hb⟩
theorem Cz.cx {w0 w : World} {cb mp : Nat} {a : Option Addr} {c : Nat} {vn : Value} {q : FW} {qs : List FW} (h : Cz w0 w cb mp a c vn q qs) (hm : Md w0 a c qs) (hq : q ∈ qs) (hl : LaidL w0) : Cx w cb mp w0.heap.size a c vn q qs :=
  ⟨h.ck, h.km, h.own, (hm.q q hq).below h.bl, hl.below' h.bl⟩
/-- The world with another function looked at. -/
def setFn (w : World) (cb : Nat) (q : FW) : World := ((((((((w.setCell ⟨cb, 3, none⟩ (.string q.f.name)).setCell ⟨cb, 4, none⟩ (.int .i64 q.f.params)).setCell ⟨cb, 5, none⟩ (.bool q.f.rest)).setCell ⟨cb, 6, none⟩ (.bool q.f.arrow)).setCell ⟨cb, 7, none⟩ (.int .i64 q.f.regs)).setCell ⟨cb, 8, none⟩ (.slice q.xa q.f.consts.length q.xc)).setCell ⟨cb, 9, none⟩ (.slice q.ya q.f.code.length q.yc)).setCell ⟨cb, 10, none⟩ (.slice q.za q.f.tries.length q.zc)).setCell ⟨cb, 11, none⟩ (.slice q.ua q.f.caps.length q.uc)
theorem setFn_other {w : World} {cb k : Nat} {q : FW} (h : k ≠ cb) : (setFn w cb q).heap[k]? = w.heap[k]? := by
  unfold setFn
  repeat rw [Below.heap_setCell _ _ _ _ h]
theorem Cz.set' {w0 w W2 : World} {cb mp : Nat} {a : Option Addr} {c : Nat} {vn : Value} {q0 q : FW} {qs : List FW} (h : Cz w0 w cb mp a c vn q0 qs) (hoth : ∀ k, k ≠ cb → W2.heap[k]? = w.heap[k]?) (hs : W2.heap.size = w.heap.size) (h1 : W2.os = w.os) (h2 : W2.tape = w.tape) (h3 : W2.output = w.output) (hb : Ck W2 cb a qs.length c vn mp q) : Cz w0 W2 cb mp a c vn q qs := by
  have hck := h.ck.blk
  have A : Below w0.heap.size w0 W2 := ⟨h1.trans h.bl.os, h2.trans h.bl.tape, h3.trans h.bl.output, by rw [hs]; exact h.bl.size, fun k hk => (hoth k (by have := h.ge; omega)).trans (h.bl.block k hk)⟩
  have C : KM W2 mp := by
    obtain ⟨D, k, ⟨es, clock, he, rest⟩, ht⟩ := h.km
    exact ⟨D, k, ⟨es, clock, (hoth mp (fun e => by rw [e, hck] at he; cases he)).trans he, rest⟩, ht⟩
  have D : W2.ownsRow w0.heap.size 81 3 vn qs.length ((needs qs).flatMap Need.cs) := by
    refine ⟨h.own.1, ?_⟩
    rcases h.own.2 with hn | ⟨g, cap, cur, rfl, hB, hg, rest⟩
    · exact .inl hn
    · exact .inr ⟨g, cap, cur, rfl, hB, (hoth g (fun e => by rw [e, hck] at hg; cases hg)).trans hg, rest⟩
  exact ⟨A, h.ge, hb, C, D⟩
set_option maxHeartbeats 1000000 in
theorem Ck.setFn {w : World} {cb : Nat} {a : Option Addr} {n c : Nat} {vn : Value} {mp : Nat} {q0 : FW} (h : Ck w cb a n c vn mp q0) (q : FW) : Ck (setFn w cb q) cb a n c vn mp q := by
  have hck := h.blk
  have e3 := set_blk (o := 3) (.string q.f.name) hck
  have e4 := set_blk (o := 4) (.int .i64 q.f.params) e3
  have e5 := set_blk (o := 5) (.bool q.f.rest) e4
  have e6 := set_blk (o := 6) (.bool q.f.arrow) e5
  have e7 := set_blk (o := 7) (.int .i64 q.f.regs) e6
  have e8 := set_blk (o := 8) (.slice q.xa q.f.consts.length q.xc) e7
  have e9 := set_blk (o := 9) (.slice q.ya q.f.code.length q.yc) e8
  have e10 := set_blk (o := 10) (.slice q.za q.f.tries.length q.zc) e9
  have e11 := set_blk (o := 11) (.slice q.ua q.f.caps.length q.uc) e10
  have e : (Go.Proofs.YtcagfjogfbddeaaDoor.setFn w cb q).heap[cb]? = _ := e11
  refine Ck.mk (e.trans ?_)
  simp
theorem Cz.set {w0 w : World} {cb mp : Nat} {a : Option Addr} {c : Nat} {vn : Value} {q0 : FW} {qs : List FW} (h : Cz w0 w cb mp a c vn q0 qs) (q : FW) : Cz w0 (setFn w cb q) cb mp a c vn q qs :=
  h.set' (fun k hk => setFn_other hk) (by simp [setFn]) (by simp [setFn, World.setCell]) (by simp [setFn, World.setCell]) (by simp [setFn, World.setCell]) (h.ck.setFn q)
/-- What function answers. -/
def fnV (fs : List Fun) (n : Nat) (f : Fun) : Value := .tuple #[.int .i64 ((fnP fs n f).getD 0 : Nat), .bool (fnP fs n f).isNone]
set_option maxHeartbeats 4000000 in
set_option maxRecDepth 100000 in
theorem fn_any {w0 : World} {cb mp : Nat} {a : Option Addr} {c : Nat} {vn : Value} {q0 : FW} {qs : List FW} (w : World) (h : Cz w0 w cb mp a c vn q0 qs) (hm : Md w0 a c qs) (hl : LaidL w0) (n : Nat) (hn : n < qs.length) :
    Calls Tryd.prog 24 #[.pointer (some ⟨cb, 0, none⟩), .int .i64 (n : Int)] w fun e w' => e = .returned (fnV (qs.map FW.f) n (qs[n]).f) ∧ ∃ q', Cz w0 w' cb mp a c vn q' qs := by
  have hle := hm.r.le
  have hcl : c * (9 * 8) ≤ 140737488351232 := hm.r.cle
  obtain ⟨g, o, rfl, hg, hc⟩ := ((hm.below h.bl).r).at n hn
  have hqm : qs[n] ∈ qs := List.getElem_mem hn
  have hfn := hm.n _ hqm
  generalize qs[n] = q at hc hqm hfn
  have HZ := Hid.mk' (h.set q)
  have hck := h.ck
  have c0 : w.cell? ⟨cb, 0, none⟩ = some (.slice (some ⟨g, o, none⟩) qs.length c) := (hck.cell 0).trans rfl
  have s3 := hck.cell 3
  have s4 := hck.cell 4
  have s5 := hck.cell 5
  have s6 := hck.cell 6
  have s7 := hck.cell 7
  have s8 := hck.cell 8
  have s9 := hck.cell 9
  have s10 := hck.cell 10
  have s11 := hck.cell 11
  simp at s3 s4 s5 s6 s7 s8 s9 s10 s11
  have z3 := thaw_row _ _ _ _ hck.blk 3
  have z4 := thaw_row _ _ _ _ hck.blk 4
  have z5 := thaw_row _ _ _ _ hck.blk 5
  have z6 := thaw_row _ _ _ _ hck.blk 6
  have z7 := thaw_row _ _ _ _ hck.blk 7
  have z8 := thaw_row _ _ _ _ hck.blk 8
  have z9 := thaw_row _ _ _ _ hck.blk 9
  have z10 := thaw_row _ _ _ _ hck.blk 10
  have z11 := thaw_row _ _ _ _ hck.blk 11
  obtain ⟨N, hN⟩ : ∃ N, qs.length = N := ⟨_, rfl⟩
  rw [hN] at c0 hle hn
  have i1 : (n : Int) < (N : Int) := by omega
  have HQM := Hid.mk' hqm
  have HFN := Hid.mk' hfn
  have HMD := Hid.mk' hm
  have HLD := Hid.mk' hl
  obtain ⟨W2, hW2⟩ : ∃ W2, setFn w cb q = W2 := ⟨_, rfl⟩
  rw [hW2] at HZ
  have HIF : Hid (∀ W, Below W2.heap.size W2 W → Calls Tryd.prog 32 #[.agg q.cs.toArray] W fun e w' => e = .returned (.bool (headB q.f)) ∧ Below W.heap.size W w') := Hid.mk' (fun W hW => isFunction_any q W (((hm.q q hqm).below HZ.out.bl).c.below hW) hfn.c)
  have HIS : Hid (∀ W, Calls Tryd.prog 33 #[.agg q.cs.toArray] W fun e w' => e = .returned (.bool (scrB q.f)) ∧ Below W.heap.size W w') := Hid.mk' (fun W => isScript_any W q)
  have HFW : Hid (∀ W, Below W2.heap.size W2 W → Calls Tryd.prog 34 #[.pointer (some ⟨cb, 0, none⟩)] W fun e w' => e = .returned (.int .i64 (fwI (qs.map FW.f) q.f : Nat)) ∧ Below W.heap.size W w') := Hid.mk' (fun W hW => firstWrong_any W ((HZ.out.below hW).cx hm hqm hl) hfn)
  have HTR : Hid (∀ W, Below W2.heap.size W2 W → Calls Tryd.prog 35 #[.pointer (some ⟨cb, 0, none⟩)] W fun e w' => e = .returned (.bool (trsB q.f)) ∧ Below W.heap.size W w') := Hid.mk' (fun W hW => tries_any W (HZ.out.below hW).ck (((hm.q q hqm).below HZ.out.bl).t.below hW))
  have HNE : Hid (∀ W, Below W2.heap.size W2 W → Calls Tryd.prog 36 #[.slice q.za q.f.tries.length q.zc] W fun e w' => e = .returned (.bool (nesB q.f.tries)) ∧ Below W.heap.size W w') := Hid.mk' (fun W hW => nested_any _ _ _ W (((hm.q q hqm).below HZ.out.bl).t.below hW))
  have HCL : Hid (∀ W, Below W2.heap.size W2 W → ∀ k, W.cell? ⟨cb, k, none⟩ = _) := Hid.mk' (fun W hW k => (HZ.out.below hW).ck.cell k)
  have HPP : Hid (∀ (x y z : Bool) (u : Nat), headB q.f = x → scrB q.f = y → fwI (qs.map FW.f) q.f = u → (trsB q.f && nesB q.f.tries) = z → fnP (qs.map FW.f) n q.f = if (!x || (decide ((n : Int) = 0) && !y)) = true then some 0 else if u < q.f.code.length then some u else if z = false then some q.f.code.length else none) := Hid.mk' (fun x y z u h1 h2 h3 h4 => by
    subst h1 h2 h3 h4
    unfold fnP
    congr 2
    cases trsB q.f <;> cases nesB q.f.tries <;> simp)
  obtain ⟨x, hx⟩ : ∃ x, headB q.f = x := ⟨_, rfl⟩
  obtain ⟨y, hy⟩ : ∃ y, scrB q.f = y := ⟨_, rfl⟩
  obtain ⟨u, hu⟩ : ∃ u, fwI (qs.map FW.f) q.f = u := ⟨_, rfl⟩
  obtain ⟨zt, hzt⟩ : ∃ z, trsB q.f = z := ⟨_, rfl⟩
  obtain ⟨zn, hzn⟩ : ∃ z, nesB q.f.tries = z := ⟨_, rfl⟩
  have hP := HPP.out x y (zt && zn) u hx hy hu (by rw [hzt, hzn])
  obtain ⟨V, hV⟩ : ∃ V, fnV (qs.map FW.f) n q.f = V := ⟨_, rfl⟩
  rw [hV]
  rw [hx] at HIF
  rw [hy] at HIS
  rw [hu] at HFW
  rw [hzt] at HTR
  rw [hzn] at HNE
  have hub : u ≤ q.f.code.length := by
    rw [← hu]
    unfold fwI
    have := List.findIdx_le_length (xs := q.f.code.zipIdx) (p := fun p => !insB (qs.map FW.f) q.f p.2 p.1)
    simpa using this
  have HVV : Hid (∀ r, fnP (qs.map FW.f) n q.f = r → V = .tuple #[.int .i64 (r.getD 0 : Nat), .bool r.isNone]) := Hid.mk' (fun r hr => by rw [← hV, fnV, hr])
  rw [hP] at HVV
  clear HPP hP hx hy hu hzt hzn hV hm hl hfn hqm h hck hN
  obtain ⟨⟨f1, f2, f3, f4, f5, cs, is, ts, us⟩, xa, xc, ya, yc, za, zc, ua, uc⟩ := q
  simp only [FW.cs] at hc HIF HIS
  dsimp only at hc HIF HIS HFW HTR HNE HCL HVV hub
  simp only [setFn] at hW2
  obtain ⟨m1, hm1⟩ : ∃ m, cs.length = m := ⟨_, rfl⟩
  obtain ⟨m2, hm2⟩ : ∃ m, is.length = m := ⟨_, rfl⟩
  obtain ⟨m3, hm3⟩ : ∃ m, ts.length = m := ⟨_, rfl⟩
  obtain ⟨m4, hm4⟩ : ∃ m, us.length = m := ⟨_, rfl⟩
  simp only [hm1, hm2, hm3, hm4] at hc HIF HIS HCL HVV hub hW2 HNE
  have d0 := hc 0 (.string f1) (by omega) rfl
  have d1 := hc 1 (.int .i64 f2) (by omega) rfl
  have d2 := hc 2 (.bool f3) (by omega) rfl
  have d3 := hc 3 (.bool f4) (by omega) rfl
  have d4 := hc 4 (.int .i64 f5) (by omega) rfl
  have d5 := hc 5 (.slice xa m1 xc) (by omega) rfl
  have d6 := hc 6 (.slice ya m2 yc) (by omega) rfl
  have d7 := hc 7 (.slice za m3 zc) (by omega) rfl
  have d8 := hc 8 (.slice ua m4 uc) (by omega) rfl
  simp only [Nat.add_zero] at d0
  have HW2 := Hid.mk' hW2
  clear hc hm1 hm2 hm3 hm4 hW2 hle hcl hg
  go_enter Tryd.func24, Tryd.ntmps24
  go_upto_region 2 with fail
  rw [HW2.out]
  clear c0 s3 s4 s5 s6 s7 s8 s9 s10 s11 z3 z4 z5 z6 z7 z8 z9 z10 z11 d0 d1 d2 d3 d4 d5 d6 d7 d8 i1 HW2 hn
  have b0 := Below.refl W2.heap.size W2
  have c3 := HCL.out _ b0 3
  have c4 := HCL.out _ b0 4
  have c5 := HCL.out _ b0 5
  have c6 := HCL.out _ b0 6
  have c7 := HCL.out _ b0 7
  have c8 := HCL.out _ b0 8
  have c9 := HCL.out _ b0 9
  have c10 := HCL.out _ b0 10
  have c11 := HCL.out _ b0 11
  simp at c3 c4 c5 c6 c7 c8 c9 c10 c11
  clear b0
  have HM2 : Hid (∀ W, Below W2.heap.size W2 W → ∃ q', Cz w0 W cb mp (some ⟨g, o, none⟩) c vn q' qs) := Hid.mk' (fun W hW => ⟨_, HZ.out.below hW⟩)
  cases x with
  | false =>
    have hV := HVV.out (some 0) (by simp)
    subst hV
    go_wp2_with (go_at_call 32; refine (HIF.out _ (Below.refl _ _)).mono ?_; rintro e w3 ⟨rfl, b3⟩; have HB3 := Hid.mk' b3; clear b3)
    go_ret2
    exact ⟨rfl, HM2.out _ HB3.out⟩
  | true =>
    have HS1 : Hid ((n : Int) = 0 → y = false → V = .tuple #[.int .i64 0, .bool false]) := Hid.mk' (fun h1 h2 => HVV.out (some 0) (by rw [decide_eq_true h1, h2]; simp))
    have HS2 : Hid ((¬ (n : Int) = 0 ∨ y = true) → ∀ r, (if u < m2 then some u else if (zt && zn) = false then some m2 else none) = r → V = .tuple #[.int .i64 (r.getD 0 : Nat), .bool r.isNone]) := Hid.mk' (fun h r hr => HVV.out r (by
      rw [← hr]
      have : (!true || (decide ((n : Int) = 0) && !y)) = false := by
        rcases h with h | h
        · rw [decide_eq_false h]; rfl
        · rw [h]; simp
      rw [this]
      simp))
    clear HVV
    by_cases h0 : (n : Int) = 0
    · have h0b : ((n : Int) == 0) = true := by simp [h0]
      cases y with
      | false =>
        have hV := HS1.out h0 rfl
        subst hV
        clear h0
        go_wp2_with (first
          | (go_at_call 32; refine (HIF.out _ (Below.refl _ _)).mono ?_; rintro e w3 ⟨rfl, b3⟩; have HB3 := Hid.mk' b3; have e3 := HCL.out _ b3 3; have e4 := HCL.out _ b3 4; have e5 := HCL.out _ b3 5; have e6 := HCL.out _ b3 6; have e7 := HCL.out _ b3 7; have e8 := HCL.out _ b3 8; have e9 := HCL.out _ b3 9; have e10 := HCL.out _ b3 10; have e11 := HCL.out _ b3 11; simp at e3 e4 e5 e6 e7 e8 e9 e10 e11; clear b3)
          | (go_at_call 33; refine (HIS.out _).mono ?_; rintro e w4 ⟨rfl, b4⟩; have HB4 := Hid.mk' (HB3.out.trans (b4.mono HB3.out.size)); clear b4))
        go_ret2
        exact ⟨rfl, HM2.out _ HB4.out⟩
      | true =>
        have HS3 := Hid.mk' (HS2.out (.inr rfl))
        clear h0
        go_upto_region 4 with (first
          | (go_at_call 32; refine (HIF.out _ (Below.refl _ _)).mono ?_; rintro e w3 ⟨rfl, b3⟩; have HB3 := Hid.mk' b3; have e3 := HCL.out _ b3 3; have e4 := HCL.out _ b3 4; have e5 := HCL.out _ b3 5; have e6 := HCL.out _ b3 6; have e7 := HCL.out _ b3 7; have e8 := HCL.out _ b3 8; have e9 := HCL.out _ b3 9; have e10 := HCL.out _ b3 10; have e11 := HCL.out _ b3 11; simp at e3 e4 e5 e6 e7 e8 e9 e10 e11; clear b3)
          | (go_at_call 33; refine (HIS.out _).mono ?_; rintro e w4 ⟨rfl, b4⟩; have HB4 := Hid.mk' (HB3.out.trans (b4.mono HB3.out.size)); clear b4))
        clear e3 e4 e5 e6 e7 e8 e9 e10 e11 HB3 c3 c4 c5 c6 c7 c8 c9 c10 c11
        by_cases hlt : u < m2
        · have hV := HS3.out (some u) (by rw [if_pos hlt])
          subst hV
          have hul : (u : Int) < (m2 : Int) := by omega
          clear hlt hub
          go_wp2_with (go_at_call 34; refine (HFW.out _ HB4.out).mono ?_; rintro e w5 ⟨rfl, b5⟩; have B5 := HB4.out.trans (b5.mono HB4.out.size); have g9 := HCL.out _ B5 9; simp at g9; have HB5 := Hid.mk' B5; clear b5 B5)
          go_ret2
          exact ⟨rfl, HM2.out _ HB5.out⟩
        · have hul : ¬ (u : Int) < (m2 : Int) := by omega
          have hV := HS3.out _ (if_neg hlt)
          clear hlt hub
          cases zt with
          | false =>
            have hV := hV.trans (by rw [if_pos (by rfl)])
            subst hV
            go_wp2_with (first
              | (go_at_call 34; refine (HFW.out _ HB4.out).mono ?_; rintro e w5 ⟨rfl, b5⟩; have B5 := HB4.out.trans (b5.mono HB4.out.size); have g9 := HCL.out _ B5 9; simp at g9; have HB5 := Hid.mk' B5; clear b5 B5)
              | (go_at_call 35; refine (HTR.out _ HB5.out).mono ?_; rintro e w6 ⟨rfl, b6⟩; have B6 := HB5.out.trans (b6.mono HB5.out.size); have i9 := HCL.out _ B6 9; have i10 := HCL.out _ B6 10; simp at i9 i10; have HB6 := Hid.mk' B6; clear b6 B6))
            go_ret2
            exact ⟨rfl, HM2.out _ HB6.out⟩
          | true =>
            cases zn with
            | false =>
              have hV := hV.trans (by rw [if_pos (by rfl)])
              subst hV
              go_wp2_with (first
                | (go_at_call 34; refine (HFW.out _ HB4.out).mono ?_; rintro e w5 ⟨rfl, b5⟩; have B5 := HB4.out.trans (b5.mono HB4.out.size); have g9 := HCL.out _ B5 9; simp at g9; have HB5 := Hid.mk' B5; clear b5 B5)
                | (go_at_call 35; refine (HTR.out _ HB5.out).mono ?_; rintro e w6 ⟨rfl, b6⟩; have B6 := HB5.out.trans (b6.mono HB5.out.size); have i9 := HCL.out _ B6 9; have i10 := HCL.out _ B6 10; simp at i9 i10; have HB6 := Hid.mk' B6; clear b6 B6)
                | (go_at_call 36; refine (HNE.out _ HB6.out).mono ?_; rintro e w7 ⟨rfl, b7⟩; have B7 := HB6.out.trans (b7.mono HB6.out.size); have j9 := HCL.out _ B7 9; simp at j9; have HB7 := Hid.mk' B7; clear b7 B7))
              go_ret2
              exact ⟨rfl, HM2.out _ HB7.out⟩
            | true =>
              have hV := hV.trans (by rw [if_neg (by simp)])
              subst hV
              go_wp2_with (first
                | (go_at_call 34; refine (HFW.out _ HB4.out).mono ?_; rintro e w5 ⟨rfl, b5⟩; have B5 := HB4.out.trans (b5.mono HB4.out.size); have g9 := HCL.out _ B5 9; simp at g9; have HB5 := Hid.mk' B5; clear b5 B5)
                | (go_at_call 35; refine (HTR.out _ HB5.out).mono ?_; rintro e w6 ⟨rfl, b6⟩; have B6 := HB5.out.trans (b6.mono HB5.out.size); have i9 := HCL.out _ B6 9; have i10 := HCL.out _ B6 10; simp at i9 i10; have HB6 := Hid.mk' B6; clear b6 B6)
                | (go_at_call 36; refine (HNE.out _ HB6.out).mono ?_; rintro e w7 ⟨rfl, b7⟩; have B7 := HB6.out.trans (b7.mono HB6.out.size); have j9 := HCL.out _ B7 9; simp at j9; have HB7 := Hid.mk' B7; clear b7 B7))
              go_ret2
              exact ⟨rfl, HM2.out _ HB7.out⟩
    · have h0b : ((n : Int) == 0) = false := by simp; omega
      have HS3 := Hid.mk' (HS2.out (.inl h0))
      clear h0
      go_upto_region 4 with (go_at_call 32; refine (HIF.out _ (Below.refl _ _)).mono ?_; rintro e w4 ⟨rfl, b4⟩; have HB4 := Hid.mk' b4; clear b4)
      clear c3 c4 c5 c6 c7 c8 c9 c10 c11
      by_cases hlt : u < m2
      · have hV := HS3.out (some u) (by rw [if_pos hlt])
        subst hV
        have hul : (u : Int) < (m2 : Int) := by omega
        clear hlt hub
        go_wp2_with (go_at_call 34; refine (HFW.out _ HB4.out).mono ?_; rintro e w5 ⟨rfl, b5⟩; have B5 := HB4.out.trans (b5.mono HB4.out.size); have g9 := HCL.out _ B5 9; simp at g9; have HB5 := Hid.mk' B5; clear b5 B5)
        go_ret2
        exact ⟨rfl, HM2.out _ HB5.out⟩
      · have hul : ¬ (u : Int) < (m2 : Int) := by omega
        have hV := HS3.out _ (if_neg hlt)
        clear hlt hub
        cases zt with
        | false =>
          have hV := hV.trans (by rw [if_pos (by rfl)])
          subst hV
          go_wp2_with (first
            | (go_at_call 34; refine (HFW.out _ HB4.out).mono ?_; rintro e w5 ⟨rfl, b5⟩; have B5 := HB4.out.trans (b5.mono HB4.out.size); have g9 := HCL.out _ B5 9; simp at g9; have HB5 := Hid.mk' B5; clear b5 B5)
            | (go_at_call 35; refine (HTR.out _ HB5.out).mono ?_; rintro e w6 ⟨rfl, b6⟩; have B6 := HB5.out.trans (b6.mono HB5.out.size); have i9 := HCL.out _ B6 9; have i10 := HCL.out _ B6 10; simp at i9 i10; have HB6 := Hid.mk' B6; clear b6 B6))
          go_ret2
          exact ⟨rfl, HM2.out _ HB6.out⟩
        | true =>
          cases zn with
          | false =>
            have hV := hV.trans (by rw [if_pos (by rfl)])
            subst hV
            go_wp2_with (first
              | (go_at_call 34; refine (HFW.out _ HB4.out).mono ?_; rintro e w5 ⟨rfl, b5⟩; have B5 := HB4.out.trans (b5.mono HB4.out.size); have g9 := HCL.out _ B5 9; simp at g9; have HB5 := Hid.mk' B5; clear b5 B5)
              | (go_at_call 35; refine (HTR.out _ HB5.out).mono ?_; rintro e w6 ⟨rfl, b6⟩; have B6 := HB5.out.trans (b6.mono HB5.out.size); have i9 := HCL.out _ B6 9; have i10 := HCL.out _ B6 10; simp at i9 i10; have HB6 := Hid.mk' B6; clear b6 B6)
              | (go_at_call 36; refine (HNE.out _ HB6.out).mono ?_; rintro e w7 ⟨rfl, b7⟩; have B7 := HB6.out.trans (b7.mono HB6.out.size); have j9 := HCL.out _ B7 9; simp at j9; have HB7 := Hid.mk' B7; clear b7 B7))
            go_ret2
            exact ⟨rfl, HM2.out _ HB7.out⟩
          | true =>
            have hV := hV.trans (by rw [if_neg (by simp)])
            subst hV
            go_wp2_with (first
              | (go_at_call 34; refine (HFW.out _ HB4.out).mono ?_; rintro e w5 ⟨rfl, b5⟩; have B5 := HB4.out.trans (b5.mono HB4.out.size); have g9 := HCL.out _ B5 9; simp at g9; have HB5 := Hid.mk' B5; clear b5 B5)
              | (go_at_call 35; refine (HTR.out _ HB5.out).mono ?_; rintro e w6 ⟨rfl, b6⟩; have B6 := HB5.out.trans (b6.mono HB5.out.size); have i9 := HCL.out _ B6 9; have i10 := HCL.out _ B6 10; simp at i9 i10; have HB6 := Hid.mk' B6; clear b6 B6)
              | (go_at_call 36; refine (HNE.out _ HB6.out).mono ?_; rintro e w7 ⟨rfl, b7⟩; have B7 := HB6.out.trans (b7.mono HB6.out.size); have j9 := HCL.out _ B7 9; simp at j9; have HB7 := Hid.mk' B7; clear b7 B7))
            go_ret2
            exact ⟨rfl, HM2.out _ HB7.out⟩
end Go.Proofs.YtcagfjogfbddeaaDoor
