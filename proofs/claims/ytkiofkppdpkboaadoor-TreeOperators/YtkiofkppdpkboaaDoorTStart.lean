/- Steps of a region that draws its order: a call without arguments, a struct built of parts, a store of many cells; the checker built. -/
import Derived.Test.YtkiofkppdpkboaaDoorTFits
namespace Go.Proofs.YtkiofkppdpkboaaDoor
set_option linter.unusedVariables false
open Go.RowKit

theorem tstep0 {P : Program} {ops : Array Oper} {o : Oper} {a : Act} {w : World} {K : Act → World → Prop} {Q : Exit → Act → World → Prop} {E : Prop}
    (hg : o.guard = none) (f : FuncId) (hop : o.op = Op.call { callee := Callee.value (Operand.func f), args := #[], argTypes := #[] })
    (he : ∀ args w, (callFunc f args).run P w = .ok (.enter f args) w) {R : Ending → World → Prop} (hC : Calls P f #[] w R)
    (hK : ∀ e w', R e w' → ∃ v, e = .returned v ∧ K (a.put o.dst v) w') :
    if Region.wanted o (yielded ops a.tmps) = true then Oper.wp P o a w K Q else E := by
  have hw : Region.wanted o (yielded ops a.tmps) = true := by simp [Region.wanted, hg]
  rw [if_pos hw]
  unfold Oper.wp
  have hf : a.eval (Operand.func f) = .func (.func f) #[] #[] := rfl
  simp [execOp, hop, resolve, invoke, Deferred.ofValue, hf, he]
  rw [Oper.upon_enter]
  exact hC.mono (fun e w' h => by obtain ⟨v, rfl, hk⟩ := hK e w' h; exact hk)
theorem step_build3 {P : Program} {ops : Array Oper} {o : Oper} {a : Act} {w : World} {K : Act → World → Prop} {Q : Exit → Act → World → Prop} {E : Prop}
    (hg : o.guard = none) (t : TypeId) (i j k : Nat) (x y z : Operand) (hop : o.op = Op.build t #[(i, x), (j, y), (k, z)]) (vx vy vz v : Value) (hx : a.eval x = vx) (hy : a.eval y = vy) (hz : a.eval z = vz)
    (hrun : (Instr.build t #[(i, vx), (j, vy), (k, vz)]).run P w = .ok v w) (hK : K (a.put o.dst v) w) :
    if Region.wanted o (yielded ops a.tmps) = true then Oper.wp P o a w K Q else E := by
  have hw : Region.wanted o (yielded ops a.tmps) = true := by simp [Region.wanted, hg]
  rw [if_pos hw]
  unfold Oper.wp
  simp [execOp, hop, hx, hy, hz, hrun]
  exact hK
theorem step_store_mid {P : Program} {ops : Array Oper} {o : Oper} {a : Act} {w : World} {K : Act → World → Prop} {Q : Exit → Act → World → Prop} {E : Prop}
    (hg : o.guard = none) (ty : TypeId) (x y : Operand) (ho : o.op = .store ty x y)
    (b of : Nat) (cells : Array Value) (hx : a.eval x = .pointer (some ⟨b, of, none⟩)) (hy : a.eval y = .agg cells)
    (ht : w.there b of cells.size) (hi : (P.info? ty).map (·.size) = some cells.size) (h1 : cells.all (·.oneCell') = true)
    (h : K (a.put o.dst undef) (w.setCells b of cells.toList)) :
    if Region.wanted o (yielded ops a.tmps) = true then Oper.wp P o a w K Q else E := by
  have hw : Region.wanted o (yielded ops a.tmps) = true := by simp [Region.wanted, hg]
  rw [if_pos hw]
  exact wp_store_mid ty x y ho b of cells hx hy ht hi h1 h

set_option maxHeartbeats 4000000 in
set_option maxRecDepth 100000 in
theorem build_ck (x : Option Addr) (n c rb tb N : Nat) (W : World) :
    (Instr.build 62 #[(0, .slice x n c), (1, .agg (rowsC rb).toArray), (2, .slice (some ⟨tb, 0, none⟩) N N)]).run Tryd.prog W = .ok (.agg (ckC (.slice x n c) rb tb N 0).toArray) W := by
  kernel_rfl
theorem ckC_len (nv : Value) (rb tb N : Nat) (cnt : Int) : (ckC nv rb tb N cnt).length = 231 := by
  unfold ckC
  rw [List.length_cons, List.length_append, rowsC_len]
  rfl
theorem ckC_one (x : Option Addr) (n c rb tb N : Nat) (cnt : Int) : (ckC (.slice x n c) rb tb N cnt).all (·.oneCell') = true := by kernel_rfl
end Go.Proofs.YtkiofkppdpkboaaDoor
