/- lex.next where a token stands. -/
import Derived.Test.YtllglkegdlcgcaaGreatDoorLNx
namespace Go.Proofs.YtllglkegdlcgcaaGreatDoor
set_option linter.unusedVariables false
open Go.RowKit Go.Shelf

theorem TokAt.ends {W : World} {b : Nat} {t : Tk} (h : TokAt W b t) (f o : Int) (l : Bool) : TokAt (((W.setCell ⟨b, 4, none⟩ (.int .i64 f)).setCell ⟨b, 5, none⟩ (.int .i64 o)).setCell ⟨b, 6, none⟩ (.bool l)) b ⟨t.kind, t.text, t.str, t.num, f, o, l⟩ := by
  have h' : W.heap[b]? = some (.cells #[.int .i64 t.kind, .string t.text, .string t.str, .float .f64 t.num, .int .i64 t.fr, .int .i64 t.to, .bool t.line] 31 (0, 0)) := h
  have h5 := set_block (o := 4) (.int .i64 f) h'
  have h6 := set_block (o := 5) (.int .i64 o) h5
  have h7 := set_block (o := 6) (.bool l) h6
  unfold TokAt
  rw [h7]
  simp
theorem TF.drew {F : Nat → Prop} {B : Nat} {w X : World} (h : TF F B w X) : TF F B w X.drew := ⟨h.os, h.tape, h.output, h.size, h.same⟩
theorem Rdr.drew {B : Nat} {W : World} {rb : Nat} {S : ByteArray} {a f : Int} {ov : Value} {op : List Int} (h : Rdr B W rb S a f ov op) : Rdr B W.drew rb S a f ov op := ⟨h.blk, h.own, h.ge⟩
theorem PtrAt.drew {W : World} {b rb : Nat} (h : PtrAt W b rb) : PtrAt W.drew b rb := h
theorem next_reads {Z : World} {b c : Nat} {t : Tk} {z : Int} {tmps : Array Value} (h1 : TokAt Z b t) (h2 : ErrAt Z c z) (p1 : tmps.getD 2 undef = .pointer (some ⟨b, 0, none⟩)) (p2 : tmps.getD 3 undef = .pointer (some ⟨c, 0, none⟩)) :
    (results Tryz.f21 tmps).run Tryz.prog Z = .ok (.tuple #[t.agg, .int .i64 z]) Z := by
  obtain ⟨x0, x1, x2, x3, x4, x5, x6, xf⟩ := h1.cells
  obtain ⟨y0, yf⟩ := h2.cells
  have e1 := p1
  have e2 := p2
  simp only [Array.getD_eq_getD_getElem?] at e1 e2
  simp [results, Tryz.results21, go_sem, Tk.agg, x0, x1, x2, x3, x4, x5, x6, y0, e1, e2]
theorem next_end {B rb nb : Nat} {S : ByteArray} {a1 a2 : Int} {ov ov' : Value} {op' : List Int} {line : Bool} {kd fr to : Int} {tx sr : ByteArray} {nu : Nat} {li : Bool} {w X : World} (hT : TokAt X (nb + 1) ⟨kd, tx, sr, nu, fr, to, li⟩) (hE : ErrAt X (nb + 1 + 1) 0) (hR : Rdr B X rb S a2 a1 ov' op') (hF : TF (RdF rb ov) B w X)
    (m2 : ov'.ownBlock ≠ some (nb + 1)) (m4 : ov'.ownBlock ≠ some (nb + 1 + 1)) (m3 : w.heap.size ≤ nb + 1) (q1 : nb + 1 ≠ rb) (q2 : nb + 1 + 1 ≠ rb) {tmps : Array Value} (p1 : tmps.getD 2 undef = .pointer (some ⟨nb + 1, 0, none⟩)) (p2 : tmps.getD 3 undef = .pointer (some ⟨nb + 1 + 1, 0, none⟩)) :
    (results Tryz.f21 tmps).run Tryz.prog ((((((((((((X.setCell ⟨nb + 1, 4, none⟩ (.int .i64 a1)).setCell ⟨nb + 1, 5, none⟩ (.int .i64 a2)).setCell ⟨nb + 1, 6, none⟩ (.bool line)).setCell ⟨nb + 1, 0, none⟩ (.int .i64 kd)).setCell ⟨nb + 1, 1, none⟩ (.string tx)).setCell ⟨nb + 1, 2, none⟩ (.string sr)).setCell ⟨nb + 1, 3, none⟩ (.float .f64 nu)).setCell ⟨nb + 1, 4, none⟩ (.int .i64 a1)).setCell ⟨nb + 1, 5, none⟩ (.int .i64 a2)).setCell ⟨nb + 1, 6, none⟩ (.bool line)).setCell ⟨nb + 1 + 1, 0, none⟩ (.int .i64 0)).drew) = .ok (.tuple #[.agg #[.int .i64 kd, .string tx, .string sr, .float .f64 nu, .int .i64 a1, .int .i64 a2, .bool line], .int .i64 0]) ((((((((((((X.setCell ⟨nb + 1, 4, none⟩ (.int .i64 a1)).setCell ⟨nb + 1, 5, none⟩ (.int .i64 a2)).setCell ⟨nb + 1, 6, none⟩ (.bool line)).setCell ⟨nb + 1, 0, none⟩ (.int .i64 kd)).setCell ⟨nb + 1, 1, none⟩ (.string tx)).setCell ⟨nb + 1, 2, none⟩ (.string sr)).setCell ⟨nb + 1, 3, none⟩ (.float .f64 nu)).setCell ⟨nb + 1, 4, none⟩ (.int .i64 a1)).setCell ⟨nb + 1, 5, none⟩ (.int .i64 a2)).setCell ⟨nb + 1, 6, none⟩ (.bool line)).setCell ⟨nb + 1 + 1, 0, none⟩ (.int .i64 0)).drew) ∧ Rdr B ((((((((((((X.setCell ⟨nb + 1, 4, none⟩ (.int .i64 a1)).setCell ⟨nb + 1, 5, none⟩ (.int .i64 a2)).setCell ⟨nb + 1, 6, none⟩ (.bool line)).setCell ⟨nb + 1, 0, none⟩ (.int .i64 kd)).setCell ⟨nb + 1, 1, none⟩ (.string tx)).setCell ⟨nb + 1, 2, none⟩ (.string sr)).setCell ⟨nb + 1, 3, none⟩ (.float .f64 nu)).setCell ⟨nb + 1, 4, none⟩ (.int .i64 a1)).setCell ⟨nb + 1, 5, none⟩ (.int .i64 a2)).setCell ⟨nb + 1, 6, none⟩ (.bool line)).setCell ⟨nb + 1 + 1, 0, none⟩ (.int .i64 0)).drew) rb S a2 a1 ov' op' ∧ TF (RdF rb ov) B w ((((((((((((X.setCell ⟨nb + 1, 4, none⟩ (.int .i64 a1)).setCell ⟨nb + 1, 5, none⟩ (.int .i64 a2)).setCell ⟨nb + 1, 6, none⟩ (.bool line)).setCell ⟨nb + 1, 0, none⟩ (.int .i64 kd)).setCell ⟨nb + 1, 1, none⟩ (.string tx)).setCell ⟨nb + 1, 2, none⟩ (.string sr)).setCell ⟨nb + 1, 3, none⟩ (.float .f64 nu)).setCell ⟨nb + 1, 4, none⟩ (.int .i64 a1)).setCell ⟨nb + 1, 5, none⟩ (.int .i64 a2)).setCell ⟨nb + 1, 6, none⟩ (.bool line)).setCell ⟨nb + 1 + 1, 0, none⟩ (.int .i64 0)).drew) := by
  have m5 : w.heap.size ≤ nb + 1 + 1 := by omega
  have m1 : nb + 1 ≠ nb + 1 + 1 := by omega
  have m6 := Ne.symm m1
  have g1 := ((((hT.ends a1 a2 line).set ⟨kd, tx, sr, nu, a1, a2, line⟩).other (k := nb + 1 + 1) (o := 0) (.int .i64 0) m1)).drew
  have g2 := (((((((((((hE.other (o := 4) (.int .i64 a1) m6).other (o := 5) (.int .i64 a2) m6).other (o := 6) (.bool line) m6).other (o := 0) (.int .i64 kd) m6).other (o := 1) (.string tx) m6).other (o := 2) (.string sr) m6).other (o := 3) (.float .f64 nu) m6).other (o := 4) (.int .i64 a1) m6).other (o := 5) (.int .i64 a2) m6).other (o := 6) (.bool line) m6).set 0).drew
  have g3 := ((((((((((((hR.setOther (o := 4) (.int .i64 a1) q1 m2).setOther (o := 5) (.int .i64 a2) q1 m2).setOther (o := 6) (.bool line) q1 m2).setOther (o := 0) (.int .i64 kd) q1 m2).setOther (o := 1) (.string tx) q1 m2).setOther (o := 2) (.string sr) q1 m2).setOther (o := 3) (.float .f64 nu) q1 m2).setOther (o := 4) (.int .i64 a1) q1 m2).setOther (o := 5) (.int .i64 a2) q1 m2).setOther (o := 6) (.bool line) q1 m2).setOther (k := nb + 1 + 1) (o := 0) (.int .i64 0) q2 m4)).drew
  have g4 := ((((((((((((hF.setNew (o := 4) m3 (.int .i64 a1)).setNew (o := 5) m3 (.int .i64 a2)).setNew (o := 6) m3 (.bool line)).setNew (o := 0) m3 (.int .i64 kd)).setNew (o := 1) m3 (.string tx)).setNew (o := 2) m3 (.string sr)).setNew (o := 3) m3 (.float .f64 nu)).setNew (o := 4) m3 (.int .i64 a1)).setNew (o := 5) m3 (.int .i64 a2)).setNew (o := 6) m3 (.bool line)).setNew (k := nb + 1 + 1) (o := 0) m5 (.int .i64 0))).drew
  dsimp only at g1
  exact ⟨next_reads g1 g2 p1 p2, g3, g4⟩
end Go.Proofs.YtllglkegdlcgcaaGreatDoor
