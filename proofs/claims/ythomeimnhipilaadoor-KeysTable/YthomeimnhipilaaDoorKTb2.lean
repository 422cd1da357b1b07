/- keys.Table: Name of a number that there is, Intern of a text that is known; texts alike are one; calls as steps of a region. -/
import Derived.Test.YthomeimnhipilaaDoorKInt
import Derived.Test.YthomeimnhipilaaDoorKStep
namespace Go.Proofs.YthomeimnhipilaaDoor
set_option linter.unusedVariables false
open Go.RowKit Go.Maps Go.ChangeShapes

/-- Texts alike: without the odd byte they are one. -/
theorem cmp_zero (a b : ByteArray) : cmpK a b 0 = 0 ↔ evenS a = evenS b := by
  unfold cmpK
  simp only [Nat.mul_zero, List.drop_zero]
  constructor
  · intro h
    have := (cb_zero _ _).1 h
    apply ByteArray.ext
    apply Array.toList_inj.1
    rw [evenS_bytes, evenS_bytes, this]
  · intro h
    have h2 : ebs a = ebs b := by rw [← evenS_bytes, ← evenS_bytes, h]
    rw [h2]
    exact (cb_zero _ _).2 rfl
theorem mapOk_one {D : DataW Unit} {ts : List ByteArray} (h : MapOk D ts) {i j : Nat} {q : ByteArray} (hi : ts[i]? = some q) (hj : ts[j]? = some q) : i = j := by
  have e := (h.yes i q hi).2.symm.trans (h.yes j q hj).2
  simp at e
  omega

set_option maxHeartbeats 1000000 in
set_option maxRecDepth 100000 in
theorem name_in {B g mb : Nat} {vt vs : Value} {ts ss : List ByteArray} {D : DataW Unit} (i : Nat) (w : World) (h : Tab B g mb vt vs ts ss D w) (hi : i < ts.length) (hz : ∀ t ∈ ts, (t.size : Int) ≤ 140737488351232) :
    Calls Tryd.prog 19 #[.pointer (some ⟨g, 0, none⟩), .int .i64 i] w fun e w' => e = .returned (.tuple #[.string (evenS ts[i]), .int .i64 0]) ∧ Below w.heap.size w w' := by
  have HM := Hid.mk' (isMade_yes w h)
  have HOw := Hid.mk' (fun W => own_any ts[i] W (hz _ (List.getElem_mem hi)))
  have c2 := h.cell.2.2.1
  have hlg := h.lt.1
  obtain ⟨x, c, rfl⟩ := own_slice' h.t |>.imp fun _ h => h.imp fun _ h => h.1
  obtain ⟨gs, rfl⟩ := own_some h.t (by omega)
  have e1 : w.cell? ⟨gs, i, none⟩ = some (.string ts[i]) := own_cell h.t (by simp [sC, hi])
  generalize evenS ts[i] = q at HOw ⊢
  generalize ts[i] = r at HOw e1
  have i1 : ¬ (i : Int) < 0 := by omega
  have i2 : (i : Int) < (ts.length : Int) := by omega
  clear h hz hi
  go_enter Tryd.func19, Tryd.ntmps19
  go_wp2_with (first | (go_at_call 37; refine (HM.out).mono ?_; rintro e w1 ⟨rfl, hw1⟩; rw [hw1]; clear hw1 w1) | (go_at_call 29; refine (HOw.out _).mono ?_; rintro e w3 ⟨rfl, b3⟩))
  go_ret2
  exact ⟨rfl, b3⟩

set_option maxHeartbeats 4000000 in
set_option maxRecDepth 100000 in
theorem intern_old {B g mb : Nat} {vt vs : Value} {ts ss : List ByteArray} {D : DataW Unit} (s : ByteArray) (i : Nat) (w : World) (h : Tab B g mb vt vs ts ss D w) (hs : (s.size : Int) ≤ 140737488351232) (hi : ts[i]? = some (evenS s)) :
    Calls Tryd.prog 17 #[.pointer (some ⟨g, 0, none⟩), .string s] w fun e w' => e = .returned (.int .i64 i) ∧ Below w.heap.size w w' := by
  obtain ⟨c0, c1, c2, c3⟩ := h.cell
  have hes : (evenS s).size ≤ maxLen := by rw [even_size']; unfold maxLen; omega
  have HM := Hid.mk' (isMade_yes w h)
  have HBr := Hid.mk' (fun W => bare_text s 0 W hs (by omega))
  obtain ⟨hh, hv⟩ := h.ok.yes i _ hi
  have HK := Hid.mk' (key_mk (evenS s) hes)
  have hlt := h.lt
  have hm := h.m
  generalize evenS s = q at *
  clear h hes hi
  go_enter Tryd.func17, Tryd.ntmps17
  go_wp2_with (first | (go_at_call 37; refine (HM.out).mono ?_; rintro e w1 ⟨rfl, hw1⟩; rw [hw1]; clear hw1 w1) | (go_at_call 27; refine (HBr.out _).mono ?_; rintro e w1 ⟨rfl, b1⟩))
  have s1 := b1.size
  have m1 := own_map_below hm b1
  have k1 := (b1.cell (p := ⟨g, 1, none⟩) hlt.1).trans c1
  have g1 : g < w1.heap.size := by omega
  have hrun : ∀ n, (Instr.lookup 50 (.map (some mb)) (.agg #[.string q, .int .i64 0]) true).run Tryd.prog ((w1.alloc (.cells #[.string q, .int .i64 0] 25)).drewN n) = .ok (.tuple #[.int .i64 i, .bool true]) ((w1.alloc (.cells #[.string q, .int .i64 0] 25)).drewN n) := fun n => look_yes (show ((w1.alloc (.cells #[.string q, .int .i64 0] 25)).drewN n).ownsMap Tryd.prog 25 (plainElem Tryd.prog 3) mb ts.length D from m1.alloc _) HK.out hh hv
  clear hm m1 hh hv
  go_quiet (fail)
  clear hrun
  go_wp2
  go_ret
  exact ⟨rfl, b1.trans ((below_drewN ((Below.refl _ _).alloc (Nat.le_refl _) _) _).mono b1.size)⟩

/-- A call of two arguments as one step of a region that draws its order. -/
theorem step_call2 {P : Program} {ops : Array Oper} {o : Oper} {a : Act} {w : World} {K : Act → World → Prop} {Q : Exit → Act → World → Prop} {E : Prop}
    (hg : o.guard = none) (f : FuncId) (x y : Operand) (t u : TypeId) (hop : o.op = Op.call { callee := Callee.value (Operand.func f), args := #[x, y], argTypes := #[t, u] })
    (he : ∀ args w, (callFunc f args).run P w = .ok (.enter f args) w) (vx vy : Value) (hx : a.eval x = vx) (hy : a.eval y = vy) {R : Ending → World → Prop} (hC : Calls P f #[vx, vy] w R)
    (hK : ∀ e w', R e w' → ∃ v, e = .returned v ∧ K (a.put o.dst v) w') :
    if Region.wanted o (yielded ops a.tmps) = true then Oper.wp P o a w K Q else E := by
  have hw : Region.wanted o (yielded ops a.tmps) = true := by simp [Region.wanted, hg]
  rw [if_pos hw]
  unfold Oper.wp
  have hf : a.eval (Operand.func f) = .func (.func f) #[] #[] := rfl
  simp [execOp, hop, resolve, invoke, Deferred.ofValue, hx, hy, hf, he]
  rw [Oper.upon_enter]
  exact hC.mono (fun e w' h => by obtain ⟨v, rfl, hk⟩ := hK e w' h; exact hk)
/-- A guarded call of one argument, where it is wanted. -/
theorem step_callG {P : Program} {ops : Array Oper} {o : Oper} {a : Act} {w : World} {K : Act → World → Prop} {Q : Exit → Act → World → Prop} {E : Prop}
    (hw : Region.wanted o (yielded ops a.tmps) = true) (f : FuncId) (x : Operand) (t : TypeId) (hop : o.op = Op.call { callee := Callee.value (Operand.func f), args := #[x], argTypes := #[t] })
    (he : ∀ args w, (callFunc f args).run P w = .ok (.enter f args) w) (vx : Value) (hx : a.eval x = vx) {R : Ending → World → Prop} (hC : Calls P f #[vx] w R)
    (hK : ∀ e w', R e w' → ∃ v, e = .returned v ∧ K (a.put o.dst v) w') :
    if Region.wanted o (yielded ops a.tmps) = true then Oper.wp P o a w K Q else E := by
  rw [if_pos hw]
  unfold Oper.wp
  have hf : a.eval (Operand.func f) = .func (.func f) #[] #[] := rfl
  simp [execOp, hop, resolve, invoke, Deferred.ofValue, hx, hf, he]
  rw [Oper.upon_enter]
  exact hC.mono (fun e w' h => by obtain ⟨v, rfl, hk⟩ := hK e w' h; exact hk)

end Go.Proofs.YthomeimnhipilaaDoor
