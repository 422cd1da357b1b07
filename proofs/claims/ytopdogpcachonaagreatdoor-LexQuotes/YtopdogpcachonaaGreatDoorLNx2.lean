/- lex.next where a token stands. -/
import Derived.Test.YtopdogpcachonaaGreatDoorLNx
namespace Go.Proofs.YtopdogpcachonaaGreatDoor
set_option linter.unusedVariables false
open Go.RowKit Go.Shelf

theorem TokAt.ends {W : World} {b : Nat} {t : Tk} (h : TokAt W b t) (f o : Int) (l : Bool) : TokAt (((W.setCell ⟨b, 4, none⟩ (.int .i64 f)).setCell ⟨b, 5, none⟩ (.int .i64 o)).setCell ⟨b, 6, none⟩ (.bool l)) b ⟨t.kind, t.text, t.str, t.num, f, o, l⟩ := by
  have h' : W.heap[b]? = some (.cells #[.int .i64 t.kind, .string t.text, .string t.str, .float .f64 t.num, .int .i64 t.fr, .int .i64 t.to, .bool t.line] 31 (0, 0)) := h
  have h5 := set_block (o := 4) (.int .i64 f) h'
  have h6 := set_block (o := 5) (.int .i64 o) h5
  have h7 := set_block (o := 6) (.bool l) h6
  unfold TokAt
  rw [h7]
  simp
theorem TF.drew {F : Nat → Prop} {B : Nat} {w X : World} (h : TF F B w X) : TF F B w X.drew := ⟨h.os, h.tape, h.output, h.size, h.same⟩
theorem Rdr.drew {B : Nat} {W : World} {rb : Nat} {S : ByteArray} {a f : Int} {ov : Value} {op : List Int} (h : Rdr B W rb S a f ov op) : Rdr B W.drew rb S a f ov op := ⟨h.blk, h.own, h.ge⟩
theorem PtrAt.drew {W : World} {b rb : Nat} (h : PtrAt W b rb) : PtrAt W.drew b rb := h
theorem next_reads {Z : World} {b c : Nat} {t : Tk} {z : Int} {tmps : Array Value} (h1 : TokAt Z b t) (h2 : ErrAt Z c z) (p1 : tmps.getD 2 undef = .pointer (some ⟨b, 0, none⟩)) (p2 : tmps.getD 3 undef = .pointer (some ⟨c, 0, none⟩)) :
    (results Tryz.f24 tmps).run Tryz.prog Z = .ok (.tuple #[t.agg, .int .i64 z]) Z := by
  obtain ⟨x0, x1, x2, x3, x4, x5, x6, xf⟩ := h1.cells
  obtain ⟨y0, yf⟩ := h2.cells
  have e1 := p1
  have e2 := p2
  simp only [Array.getD_eq_getD_getElem?] at e1 e2
  simp [results, Tryz.results24, go_sem, Tk.agg, x0, x1, x2, x3, x4, x5, x6, y0, e1, e2]
theorem next_end {B rb nb : Nat} {S : ByteArray} {a1 a2 : Int} {ov ov' : Value} {op' : List Int} {line : Bool} {kd fr to : Int} {tx sr : ByteArray} {nu : Nat} {li : Bool} {w X : World} (hT : TokAt X (nb + 1) ⟨kd, tx, sr, nu, fr, to, li⟩) (hE : ErrAt X (nb + 1 + 1) 0) (hR : Rdr B X rb S a2 a1 ov' op') (hF : TF (RdF rb ov) B w X)
    (m2 : ov'.ownBlock ≠ some (nb + 1)) (m4 : ov'.ownBlock ≠ some (nb + 1 + 1)) (m3 : w.heap.size ≤ nb + 1) (q1 : nb + 1 ≠ rb) (q2 : nb + 1 + 1 ≠ rb) {tmps : Array Value} (p1 : tmps.getD 2 undef = .pointer (some ⟨nb + 1, 0, none⟩)) (p2 : tmps.getD 3 undef = .pointer (some ⟨nb + 1 + 1, 0, none⟩)) :
    (results Tryz.f24 tmps).run Tryz.prog ((((((((((((X.setCell ⟨nb + 1, 4, none⟩ (.int .i64 a1)).setCell ⟨nb + 1, 5, none⟩ (.int .i64 a2)).setCell ⟨nb + 1, 6, none⟩ (.bool line)).setCell ⟨nb + 1, 0, none⟩ (.int .i64 kd)).setCell ⟨nb + 1, 1, none⟩ (.string tx)).setCell ⟨nb + 1, 2, none⟩ (.string sr)).setCell ⟨nb + 1, 3, none⟩ (.float .f64 nu)).setCell ⟨nb + 1, 4, none⟩ (.int .i64 a1)).setCell ⟨nb + 1, 5, none⟩ (.int .i64 a2)).setCell ⟨nb + 1, 6, none⟩ (.bool line)).setCell ⟨nb + 1 + 1, 0, none⟩ (.int .i64 0)).drew) = .ok (.tuple #[.agg #[.int .i64 kd, .string tx, .string sr, .float .f64 nu, .int .i64 a1, .int .i64 a2, .bool line], .int .i64 0]) ((((((((((((X.setCell ⟨nb + 1, 4, none⟩ (.int .i64 a1)).setCell ⟨nb + 1, 5, none⟩ (.int .i64 a2)).setCell ⟨nb + 1, 6, none⟩ (.bool line)).setCell ⟨nb + 1, 0, none⟩ (.int .i64 kd)).setCell ⟨nb + 1, 1, none⟩ (.string tx)).setCell ⟨nb + 1, 2, none⟩ (.string sr)).setCell ⟨nb + 1, 3, none⟩ (.float .f64 nu)).setCell ⟨nb + 1, 4, none⟩ (.int .i64 a1)).setCell ⟨nb + 1, 5, none⟩ (.int .i64 a2)).setCell ⟨nb + 1, 6, none⟩ (.bool line)).setCell ⟨nb + 1 + 1, 0, none⟩ (.int .i64 0)).drew) ∧ Rdr B ((((((((((((X.setCell ⟨nb + 1, 4, none⟩ (.int .i64 a1)).setCell ⟨nb + 1, 5, none⟩ (.int .i64 a2)).setCell ⟨nb + 1, 6, none⟩ (.bool line)).setCell ⟨nb + 1, 0, none⟩ (.int .i64 kd)).setCell ⟨nb + 1, 1, none⟩ (.string tx)).setCell ⟨nb + 1, 2, none⟩ (.string sr)).setCell ⟨nb + 1, 3, none⟩ (.float .f64 nu)).setCell ⟨nb + 1, 4, none⟩ (.int .i64 a1)).setCell ⟨nb + 1, 5, none⟩ (.int .i64 a2)).setCell ⟨nb + 1, 6, none⟩ (.bool line)).setCell ⟨nb + 1 + 1, 0, none⟩ (.int .i64 0)).drew) rb S a2 a1 ov' op' ∧ TF (RdF rb ov) B w ((((((((((((X.setCell ⟨nb + 1, 4, none⟩ (.int .i64 a1)).setCell ⟨nb + 1, 5, none⟩ (.int .i64 a2)).setCell ⟨nb + 1, 6, none⟩ (.bool line)).setCell ⟨nb + 1, 0, none⟩ (.int .i64 kd)).setCell ⟨nb + 1, 1, none⟩ (.string tx)).setCell ⟨nb + 1, 2, none⟩ (.string sr)).setCell ⟨nb + 1, 3, none⟩ (.float .f64 nu)).setCell ⟨nb + 1, 4, none⟩ (.int .i64 a1)).setCell ⟨nb + 1, 5, none⟩ (.int .i64 a2)).setCell ⟨nb + 1, 6, none⟩ (.bool line)).setCell ⟨nb + 1 + 1, 0, none⟩ (.int .i64 0)).drew) := by
  have m5 : w.heap.size ≤ nb + 1 + 1 := by omega
  have m1 : nb + 1 ≠ nb + 1 + 1 := by omega
  have m6 := Ne.symm m1
  have g1 := ((((hT.ends a1 a2 line).set ⟨kd, tx, sr, nu, a1, a2, line⟩).other (k := nb + 1 + 1) (o := 0) (.int .i64 0) m1)).drew
  have g2 := (((((((((((hE.other (o := 4) (.int .i64 a1) m6).other (o := 5) (.int .i64 a2) m6).other (o := 6) (.bool line) m6).other (o := 0) (.int .i64 kd) m6).other (o := 1) (.string tx) m6).other (o := 2) (.string sr) m6).other (o := 3) (.float .f64 nu) m6).other (o := 4) (.int .i64 a1) m6).other (o := 5) (.int .i64 a2) m6).other (o := 6) (.bool line) m6).set 0).drew
  have g3 := ((((((((((((hR.setOther (o := 4) (.int .i64 a1) q1 m2).setOther (o := 5) (.int .i64 a2) q1 m2).setOther (o := 6) (.bool line) q1 m2).setOther (o := 0) (.int .i64 kd) q1 m2).setOther (o := 1) (.string tx) q1 m2).setOther (o := 2) (.string sr) q1 m2).setOther (o := 3) (.float .f64 nu) q1 m2).setOther (o := 4) (.int .i64 a1) q1 m2).setOther (o := 5) (.int .i64 a2) q1 m2).setOther (o := 6) (.bool line) q1 m2).setOther (k := nb + 1 + 1) (o := 0) (.int .i64 0) q2 m4)).drew
  have g4 := ((((((((((((hF.setNew (o := 4) m3 (.int .i64 a1)).setNew (o := 5) m3 (.int .i64 a2)).setNew (o := 6) m3 (.bool line)).setNew (o := 0) m3 (.int .i64 kd)).setNew (o := 1) m3 (.string tx)).setNew (o := 2) m3 (.string sr)).setNew (o := 3) m3 (.float .f64 nu)).setNew (o := 4) m3 (.int .i64 a1)).setNew (o := 5) m3 (.int .i64 a2)).setNew (o := 6) m3 (.bool line)).setNew (k := nb + 1 + 1) (o := 0) m5 (.int .i64 0))).drew
  dsimp only at g1
  exact ⟨next_reads g1 g2 p1 p2, g3, g4⟩
set_option maxHeartbeats 4000000 in
set_option maxRecDepth 100000 in
theorem next_ok {B rb : Nat} {S : ByteArray} {a0 f0 a1 a2 : Int} {ov : Value} {op op' : List Int} {line : Bool} {t : Tk} (w : World) (h : Rdr B w rb S a0 f0 ov op)
    (HS : ∀ W, Rdr B W rb S a0 f0 ov op → Calls Tryz.prog 42 #[.pointer (some ⟨rb, 0, none⟩)] W fun e w' => e = .returned (.bool line) ∧ Rdr B w' rb S a1 a1 ov op ∧ TF (RdF rb ov) B W w')
    (HT : ∀ W, Below w.heap.size w W ∨ TF (RdF rb ov) B w W → Rdr B W rb S a1 a1 ov op → Calls Tryz.prog 43 #[.pointer (some ⟨rb, 0, none⟩)] W fun e w' => Gv B rb S a1 ov t a2 op' W e w') :
    Calls Tryz.prog 24 #[.pointer (some ⟨rb, 0, none⟩)] w fun e w' => e = .returned (.tuple #[Tk.agg ⟨t.kind, t.text, t.str, t.num, a1, a2, line⟩, .int .i64 0]) ∧ Nxt B rb S a1 ov a2 op' w w' := by
  have hmf : ∀ (fn : Fn) (first cap : Array Value) (w : World), (Instr.makeFunc fn first cap).run Tryz.prog w = .ok (.func fn first cap) w := fun _ _ _ _ => rfl
  have hst : ∀ (p : Addr) (x : Nat) (md : Mode) (W : World), (store p (.float .f64 x) md).run Tryz.prog W = stored Tryz.prog W p (.float .f64 x) md := fun p x md W => run_store Tryz.prog W p _ md rfl
  obtain ⟨W1, hW1, hp, ht, he, b1, s1⟩ := boxes w rb
  have hR1 := h.below b1
  have HSS := Hid.mk' (HS W1 hR1)
  have HTT := Hid.mk' HT
  have aw := fun (k : Nat) (hk : w.heap.size ≤ k) => (show RdF rb ov k from h.away hk)
  have cp := hp.cell
  have HP := Hid.mk' hp
  have HTO := Hid.mk' ht
  have HER := Hid.mk' he
  have HAW := Hid.mk' aw
  have HB1 := Hid.mk' b1
  have HS1 := Hid.mk' s1
  obtain ⟨nb, hnb⟩ : ∃ nb, w.heap.size = nb := ⟨_, rfl⟩
  rw [hnb] at cp HP HTO HER HAW HS1
  have HNB := Hid.mk' hnb
  have hge := h.ge
  have hlt := h.lt
  rw [hnb] at hlt
  clear HS HT h hR1 hp ht he b1 aw s1
  go_enter_defers Tryz.func24, Tryz.ntmps24
  go_wp2_with fail
  simp only [← hW1]
  refine HSS.out.mono ?_
  rintro e w1 ⟨rfl, hR2, hT2⟩
  have hp2 := HP.out.tf hT2 (HAW.out nb (Nat.le_refl _))
  have cp2 := hp2.cell
  have HTT2 := Hid.mk' (HTT.out w1 (.inr ((TF.of_below HB1.out).trans hT2)) hR2)
  have HT2 := Hid.mk' hT2
  have HP2 := Hid.mk' hp2
  clear hp2 hR2 hT2 cp
  go_wp2_with fail
  refine HTT2.out.mono ?_
  rintro e w2 ⟨rfl, ov', hR3, hT3, hN3⟩
  have n0 : RdF rb ov nb := HAW.out nb (Nat.le_refl _)
  have n1 : RdF rb ov (nb + 1) := HAW.out (nb + 1) (by omega)
  have n2 : RdF rb ov (nb + 1 + 1) := HAW.out (nb + 2) (by omega)
  have hp3 := HP2.out.tf hT3 n0
  have ht3 := (HTO.out.tf HT2.out n1).tf hT3 n1
  have he3 := (HER.out.tf HT2.out n2).tf hT3 n2
  have cp3 := hp3.cell
  obtain ⟨z0, z1, z2, z3, z4, z5, z6, zf⟩ := ht3.cells
  have q1 : nb + 1 ≠ rb := by omega
  have q2 : nb + 1 + 1 ≠ rb := by omega
  have q3 : nb ≠ rb := by omega
  have hov : ∀ k, nb ≤ k → k ≤ nb + 2 → ov'.ownBlock ≠ some k := fun k h0 h2 e => by
    rcases hN3 k e with h1 | h1
    · exact (HAW.out k h0).2 h1
    · have h3 := HT2.out.size
      have h4 := HS1.out
      omega
  obtain ⟨kd, tx, sr, nu, fr, to, li⟩ := t
  simp only [Tk.agg]
  have htX := ht3.set ⟨kd, tx, sr, nu, fr, to, li⟩
  dsimp only at htX
  have m1 : nb + 1 + 1 ≠ nb + 1 := by omega
  have m0 : nb ≠ nb + 1 := by omega
  have heX := ((((((he3.other (o := 0) (.int .i64 kd) m1).other (o := 1) (.string tx) m1).other (o := 2) (.string sr) m1).other (o := 3) (.float .f64 nu) m1).other (o := 4) (.int .i64 fr) m1).other (o := 5) (.int .i64 to) m1).other (o := 6) (.bool li) m1
  have hpX := ((((((hp3.other (o := 0) (.int .i64 kd) m0).other (o := 1) (.string tx) m0).other (o := 2) (.string sr) m0).other (o := 3) (.float .f64 nu) m0).other (o := 4) (.int .i64 fr) m0).other (o := 5) (.int .i64 to) m0).other (o := 6) (.bool li) m0
  have m2 := hov (nb + 1) (by omega) (by omega)
  have hRX := ((((((hR3.setOther (o := 0) (.int .i64 kd) q1 m2).setOther (o := 1) (.string tx) q1 m2).setOther (o := 2) (.string sr) q1 m2).setOther (o := 3) (.float .f64 nu) q1 m2).setOther (o := 4) (.int .i64 fr) q1 m2).setOther (o := 5) (.int .i64 to) q1 m2).setOther (o := 6) (.bool li) q1 m2
  have m3 : w.heap.size ≤ nb + 1 := by rw [HNB.out]; omega
  have hTX := (((((((((TF.of_below HB1.out).trans HT2.out).trans hT3).setNew (o := 0) m3 (.int .i64 kd)).setNew (o := 1) m3 (.string tx)).setNew (o := 2) m3 (.string sr)).setNew (o := 3) m3 (.float .f64 nu)).setNew (o := 4) m3 (.int .i64 fr)).setNew (o := 5) m3 (.int .i64 to)).setNew (o := 6) m3 (.bool li)
  have hNX : ∀ g, ov'.ownBlock = some g → ov.ownBlock = some g ∨ w.heap.size ≤ g := fun g hg => (hN3 g hg).imp id (fun q => Nat.le_trans (Nat.le_trans HB1.out.size HT2.out.size) q)
  clear ht3 he3 hp3 hR3 hT3 hN3 cp2 n0 n1 n2 m1 m0 m2
  go_wp2_with fail
  generalize (((((((w2.setCell ⟨nb + 1, 0, none⟩ (.int .i64 kd)).setCell ⟨nb + 1, 1, none⟩ (.string tx)).setCell ⟨nb + 1, 2, none⟩ (.string sr)).setCell ⟨nb + 1, 3, none⟩ (.float .f64 nu)).setCell ⟨nb + 1, 4, none⟩ (.int .i64 fr)).setCell ⟨nb + 1, 5, none⟩ (.int .i64 to)).setCell ⟨nb + 1, 6, none⟩ (.bool li)) = X at *
  obtain ⟨x0, x1, x2, x3, x4, x5, x6, xf⟩ := htX.cells
  obtain ⟨y0, yf⟩ := heX.cells
  obtain ⟨c0, c1, c2, c3, cf⟩ := hRX.cells
  have cpX := hpX.cell
  have HRX := Hid.mk' hRX
  have HTX := Hid.mk' hTX
  have HNX := Hid.mk' hNX
  have HOV := Hid.mk' hov
  have HTOK := Hid.mk' htX
  have HERR := Hid.mk' heX
  clear z0 z1 z2 z3 z4 z5 z6 zf htX heX hpX hRX hTX hNX hov HTT HTT2 HSS
  dsimp only at x0 x1 x2 x3 x4 x5 x6
  go_region
  go_wp2
  refine leaves_cons (f := 41) (args := #[.pointer (some ⟨nb, 0, none⟩), .pointer (some ⟨nb + 1, 0, none⟩), .pointer (some ⟨nb + 1 + 1, 0, none⟩)]) (by simp) (by simp [go_sem]) ?_
  refine (catch_idle _ _ _ _).mono ?_
  rintro e u' w3 ⟨rfl, rfl, hw3⟩
  rw [hw3]
  clear hw3 w3
  have t1 := HOV.out (nb + 1) (by omega) (by omega)
  have t2 := HOV.out (nb + 1 + 1) (by omega) (by omega)
  have t3 : w.heap.size ≤ nb + 1 := by rw [HNB.out]; omega
  have z1 : (#[undef, undef, .pointer (some ⟨nb + 1, 0, none⟩), .pointer (some ⟨nb + 1 + 1, 0, none⟩)] : Array Value).getD 2 undef = .pointer (some ⟨nb + 1, 0, none⟩) := rfl
  have z2 : (#[undef, undef, .pointer (some ⟨nb + 1, 0, none⟩), .pointer (some ⟨nb + 1 + 1, 0, none⟩)] : Array Value).getD 3 undef = .pointer (some ⟨nb + 1 + 1, 0, none⟩) := rfl
  have r2 := (next_end (line := line) (a1 := a1) HTOK.out HERR.out HRX.out HTX.out t1 t2 t3 q1 q2 z1 z2).2
  refine ⟨.tuple #[.agg #[.int .i64 kd, .string tx, .string sr, .float .f64 nu, .int .i64 a1, .int .i64 a2, .bool line], .int .i64 0], ?_, rfl, ov', r2.1, r2.2, HNX.out⟩
  exact (next_end (line := line) (a1 := a1) HTOK.out HERR.out HRX.out HTX.out t1 t2 t3 q1 q2 rfl rfl).1
end Go.Proofs.YtopdogpcachonaaGreatDoor
