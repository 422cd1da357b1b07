/- The document's reader of modules: a list of a function grows. -/
import Derived.Test.YtkgjmiadgfcbnaaGreatDoorCdX
import Derived.Deep.RegionLaw
import Derived.Shelf.Abstract
namespace Go.Proofs.YtkgjmiadgfcbnaaGreatDoor
set_option linter.unusedVariables false
set_option linter.unusedSimpArgs false
open Go.RowKit Go.Shelf

theorem stepCall {P : Program} {ops : Array Oper} {o : Oper} {a : Act} {w : World} {K : Act → World → Prop} {Q : Exit → Act → World → Prop} {E : Prop}
    (hg : o.guard = none) (f : FuncId) (x : Operand) (t : TypeId) (hop : o.op = Op.call { callee := Callee.value (Operand.func f), args := #[x], argTypes := #[t] })
    (he : ∀ args w, (callFunc f args).run P w = .ok (.enter f args) w) (vx : Value) (hx : a.eval x = vx) {R : Ending → World → Prop} (hC : Calls P f #[vx] w R)
    (hK : ∀ e w', R e w' → ∃ v, e = .returned v ∧ K (a.put o.dst v) w') :
    if Region.wanted o (yielded ops a.tmps) = true then Oper.wp P o a w K Q else E := by
  have hw : Region.wanted o (yielded ops a.tmps) = true := by simp [Region.wanted, hg]
  rw [if_pos hw]
  unfold Oper.wp
  have hf : a.eval (Operand.func f) = .func (.func f) #[] #[] := rfl
  simp [execOp, hop, resolve, invoke, Deferred.ofValue, hx, hf, he]
  rw [Oper.upon_enter]
  exact hC.mono (fun e w' h => by obtain ⟨v, rfl, hk⟩ := hK e w' h; exact hk)
theorem own_nb {B : Nat} {X : World} {e : TypeId} {sz : Nat} {v : Value} {n k : Nat} {xs : List Value} (h : X.ownsRow B e sz v n xs) (hk : k < B) : v.ownBlock ≠ some k := fun q => by have := own_ge h k q; omega
theorem Fs.stays {w wr w2 w3 w5 : World} {rb g bx bf : Nat} {f : Fun} {x y z u : Value} {s : Option (List UInt8)} {v : Option Nat} (h : Fs w rb g bx bf f x y z u s wr) (hF : Fr rb wr w2) (hb : Below w2.heap.size w2 w3) (hg : w3.grownBy w5 v) (nb : v ≠ some bf) (hr : bf ≠ rb) : w5.heap[bf]? = some (.cells (fcs f x y z u).toArray 42 (0, 0)) := by
  have h1 := hF.same bf _ hr h.fb
  have h2 := (hb.block bf (Array.getElem?_eq_some_iff.1 h1).1).trans h1
  exact (hg.block bf (Array.getElem?_eq_some_iff.1 h2).1 (Ne.symm nb)).trans h2
theorem after_few {α : Type} {p : List UInt8 → Option (α × List UInt8)} {R : List UInt8} {x : α} {s' : Option (List UInt8)} {k m : Nat} (hA : After p (some R) x s') (hp : Eats p) (h : k + R.length ≤ 5000) (hm : m + 1 < 9223372036854775808) : ∀ R', s' = some R' → (k + 1) + R'.length ≤ 5000 ∧ m < 9223372036854775808 := fun R' e => by
  subst e
  have := hp _ _ _ (hA.yes : p R = some (x, R'))
  omega
theorem down_v (m : Nat) : Value.int .i64 ((m : Int) + 1 - 1) = .int .i64 (m : Int) := by congr 1; omega
theorem down_m (m : Nat) : (intOf (.int .i64 (m : Int))).toNat < (intOf (.int .i64 ((m + 1 : Nat) : Int))).toNat := by simp [intOf]
theorem aft_map {α β : Type} {p : List UInt8 → Option (β × List UInt8)} {q : List UInt8 → Option (α × List UInt8)} {x : α} {s s1 : Option (List UInt8)} (F : α → List UInt8 → Option (β × List UInt8)) (h : ∀ L, p L = (q L).bind fun x => F x.1 x.2) (hA : After q s x s1) : aft p s = aft (F x) s1 := by
  rcases hA with ⟨L, h1, h2⟩ | ⟨h1, h2⟩
  · cases s with
    | none => cases h1
    | some L0 =>
      subst h2
      show p L0 = F x L
      rw [h, show q L0 = some (x, L) from h1]
      rfl
  · subst h2
    cases s with
    | none => rfl
    | some L0 =>
      show p L0 = none
      rw [h, show q L0 = none from h1]
      rfl
theorem tri_after {s s1 s2 s3 s4 : Option (List UInt8)} {a b c d : Nat} (h1 : After numP s a s1) (h2 : After numP s1 b s2) (h3 : After numP s2 c s3) (h4 : After numP s3 d s4) : After triP s ⟨a, b, c, d⟩ s4 := by
  have e1 := aft_map (p := triP) (q := numP) (fun a L => (numP L).bind fun y => (numP y.2).bind fun z => (numP z.2).map fun u => (⟨a, y.1, z.1, u.1⟩, u.2)) (fun L => rfl) h1
  have e2 := aft_map (p := fun L => (numP L).bind fun y => (numP y.2).bind fun z => (numP z.2).map fun u => (⟨a, y.1, z.1, u.1⟩, u.2)) (q := numP) (fun b L => (numP L).bind fun z => (numP z.2).map fun u => ((⟨a, b, z.1, u.1⟩ : Tri), u.2)) (fun L => rfl) h2
  have e3 := aft_map (p := fun L => (numP L).bind fun z => (numP z.2).map fun u => ((⟨a, b, z.1, u.1⟩ : Tri), u.2)) (q := numP) (fun c L => (numP L).map fun u => ((⟨a, b, c, u.1⟩ : Tri), u.2)) (fun L => rfl) h3
  have e4 : aft (fun L => (numP L).map fun u => ((⟨a, b, c, u.1⟩ : Tri), u.2)) s3 = (aft numP s3).map fun u => ((⟨a, b, c, u.1⟩ : Tri), u.2) := by cases s3 <;> rfl
  have e := e1.trans (e2.trans (e3.trans e4))
  rcases h4 with ⟨L, q1, q2⟩ | ⟨q1, q2⟩
  · exact .inl ⟨L, by rw [e, q1]; rfl, q2⟩
  · exact .inr ⟨by rw [e, q1]; rfl, q2⟩
theorem cap_after {s s1 s2 : Option (List UInt8)} {a : Bool} {b : Nat} (h1 : After flagP s a s1) (h2 : After numP s1 b s2) : After capP s ⟨a, b⟩ s2 := by
  have e1 := aft_map (p := capP) (q := flagP) (fun a L => (numP L).map fun y => ((⟨a, y.1⟩ : Cap), y.2)) (fun L => rfl) h1
  have e4 : aft (fun L => (numP L).map fun u => ((⟨a, u.1⟩ : Cap), u.2)) s1 = (aft numP s1).map fun u => ((⟨a, u.1⟩ : Cap), u.2) := by cases s1 <;> rfl
  have e := e1.trans e4
  rcases h2 with ⟨L, q1, q2⟩ | ⟨q1, q2⟩
  · exact .inl ⟨L, by rw [e, q1]; rfl, q2⟩
  · exact .inr ⟨by rw [e, q1]; rfl, q2⟩
theorem drewFr {rb : Nat} {w w2 : World} (h : Fr rb w.drew w2) : Fr rb w w2 := (Fr.of_below ((Below.refl _ _).drew)).trans h
theorem Fs.appC {w wr w2 w3 w5 : World} {rb g bx bf : Nat} {f : Fun} {x y z u v' : Value} {s s2 : Option (List UInt8)} (h : Fs w rb g bx bf f x y z u s wr) (hF : Fr rb wr w2) (hS : St w2 rb g s2) (hb : Below w2.heap.size w2 w3) (q : Cst) (hg : w3.grownBy w5 x.ownBlock) (ho : w5.ownsRow (bf + 1) 83 4 v' (f.consts.length + 1) (f.consts.flatMap Cst.cs ++ q.cs)) (h1 : rb < bf) (h2 : g < bf) (h3 : bx < bf) (h4 : w.heap.size ≤ bf) (h6 : bx ≠ rb) :
    Fs w rb g bx bf { f with consts := f.consts ++ [q] } v' y z u s2 (w5.setCell ⟨bf, 5, none⟩ v') := by
  have hA := (h.read hF hS (by omega) h6 (by omega)).lays hb
  have nb : ∀ k, k < bf + 1 → x.ownBlock ≠ some k := fun k hk => own_nb hA.rows.c hk
  have hlt : ∀ k, k < bf + 1 → k < w3.heap.size := fun k hk => Nat.lt_of_lt_of_le hk (Array.getElem?_eq_some_iff.1 hA.fb).1
  have hB : Fs w rb g bx bf f x y z u s2 w3 := hA
  have ho' : w5.ownsRow (bf + 1) 83 4 v' (f.consts ++ [q]).length ((f.consts ++ [q]).flatMap Cst.cs) := by
    rw [List.length_append, List.flatMap_append]
    simpa using ho
  have hR : Rows w5 (bf + 1) { f with consts := f.consts ++ [q] } v' y z u := ⟨ho', own_apart hA.rows.i hA.rows.c hg (by decide), own_apart hA.rows.t hA.rows.c hg (by decide), own_apart hA.rows.p hA.rows.c hg (by decide)⟩
  refine ⟨(set_blk _ ((hg.block bf (hlt bf (by omega)) (Ne.symm (nb bf (by omega)))).trans hA.fb)).trans rfl, (Below.heap_setCell _ _ _ _ (show bx ≠ bf by omega)).trans ((hg.block bx (hlt bx (by omega)) (Ne.symm (nb bx (by omega)))).trans hA.xb), hR.setNew (by omega) _, ?_, ?_⟩
  · exact (hA.st.grown hg (nb rb (by omega)) (nb g (by omega))).setNew _ (by omega) (by omega)
  · exact (hA.fr.grown hg (fun k hk => by
      have := own_ge hA.rows.c k hk
      omega)).setNew h4 _
theorem Fs.appI {w wr w2 w3 w5 : World} {rb g bx bf : Nat} {f : Fun} {x y z u v' : Value} {s s2 : Option (List UInt8)} (h : Fs w rb g bx bf f x y z u s wr) (hF : Fr rb wr w2) (hS : St w2 rb g s2) (hb : Below w2.heap.size w2 w3) (q : Ins) (hg : w3.grownBy w5 y.ownBlock) (ho : w5.ownsRow (bf + 1) 35 5 v' (f.code.length + 1) (f.code.flatMap Ins.cs ++ q.cs)) (h1 : rb < bf) (h2 : g < bf) (h3 : bx < bf) (h4 : w.heap.size ≤ bf) (h6 : bx ≠ rb) :
    Fs w rb g bx bf { f with code := f.code ++ [q] } x v' z u s2 (w5.setCell ⟨bf, 6, none⟩ v') := by
  have hA := (h.read hF hS (by omega) h6 (by omega)).lays hb
  have nb : ∀ k, k < bf + 1 → y.ownBlock ≠ some k := fun k hk => own_nb hA.rows.i hk
  have hlt : ∀ k, k < bf + 1 → k < w3.heap.size := fun k hk => Nat.lt_of_lt_of_le hk (Array.getElem?_eq_some_iff.1 hA.fb).1
  have hB : Fs w rb g bx bf f x y z u s2 w3 := hA
  have ho' : w5.ownsRow (bf + 1) 35 5 v' (f.code ++ [q]).length ((f.code ++ [q]).flatMap Ins.cs) := by
    rw [List.length_append, List.flatMap_append]
    simpa using ho
  have hR : Rows w5 (bf + 1) { f with code := f.code ++ [q] } x v' z u := ⟨own_apart hA.rows.c hA.rows.i hg (by decide), ho', own_apart hA.rows.t hA.rows.i hg (by decide), own_apart hA.rows.p hA.rows.i hg (by decide)⟩
  refine ⟨(set_blk _ ((hg.block bf (hlt bf (by omega)) (Ne.symm (nb bf (by omega)))).trans hA.fb)).trans rfl, (Below.heap_setCell _ _ _ _ (show bx ≠ bf by omega)).trans ((hg.block bx (hlt bx (by omega)) (Ne.symm (nb bx (by omega)))).trans hA.xb), hR.setNew (by omega) _, ?_, ?_⟩
  · exact (hA.st.grown hg (nb rb (by omega)) (nb g (by omega))).setNew _ (by omega) (by omega)
  · exact (hA.fr.grown hg (fun k hk => by
      have := own_ge hA.rows.i k hk
      omega)).setNew h4 _
theorem Fs.appT {w wr w2 w3 w5 : World} {rb g bx bf : Nat} {f : Fun} {x y z u v' : Value} {s s2 : Option (List UInt8)} (h : Fs w rb g bx bf f x y z u s wr) (hF : Fr rb wr w2) (hS : St w2 rb g s2) (hb : Below w2.heap.size w2 w3) (q : Tri) (hg : w3.grownBy w5 z.ownBlock) (ho : w5.ownsRow (bf + 1) 87 4 v' (f.tries.length + 1) (f.tries.flatMap Tri.cs ++ q.cs)) (h1 : rb < bf) (h2 : g < bf) (h3 : bx < bf) (h4 : w.heap.size ≤ bf) (h6 : bx ≠ rb) :
    Fs w rb g bx bf { f with tries := f.tries ++ [q] } x y v' u s2 (w5.setCell ⟨bf, 7, none⟩ v') := by
  have hA := (h.read hF hS (by omega) h6 (by omega)).lays hb
  have nb : ∀ k, k < bf + 1 → z.ownBlock ≠ some k := fun k hk => own_nb hA.rows.t hk
  have hlt : ∀ k, k < bf + 1 → k < w3.heap.size := fun k hk => Nat.lt_of_lt_of_le hk (Array.getElem?_eq_some_iff.1 hA.fb).1
  have hB : Fs w rb g bx bf f x y z u s2 w3 := hA
  have ho' : w5.ownsRow (bf + 1) 87 4 v' (f.tries ++ [q]).length ((f.tries ++ [q]).flatMap Tri.cs) := by
    rw [List.length_append, List.flatMap_append]
    simpa using ho
  have hR : Rows w5 (bf + 1) { f with tries := f.tries ++ [q] } x y v' u := ⟨own_apart hA.rows.c hA.rows.t hg (by decide), own_apart hA.rows.i hA.rows.t hg (by decide), ho', own_apart hA.rows.p hA.rows.t hg (by decide)⟩
  refine ⟨(set_blk _ ((hg.block bf (hlt bf (by omega)) (Ne.symm (nb bf (by omega)))).trans hA.fb)).trans rfl, (Below.heap_setCell _ _ _ _ (show bx ≠ bf by omega)).trans ((hg.block bx (hlt bx (by omega)) (Ne.symm (nb bx (by omega)))).trans hA.xb), hR.setNew (by omega) _, ?_, ?_⟩
  · exact (hA.st.grown hg (nb rb (by omega)) (nb g (by omega))).setNew _ (by omega) (by omega)
  · exact (hA.fr.grown hg (fun k hk => by
      have := own_ge hA.rows.t k hk
      omega)).setNew h4 _
theorem Fs.appP {w wr w2 w3 w5 : World} {rb g bx bf : Nat} {f : Fun} {x y z u v' : Value} {s s2 : Option (List UInt8)} (h : Fs w rb g bx bf f x y z u s wr) (hF : Fr rb wr w2) (hS : St w2 rb g s2) (hb : Below w2.heap.size w2 w3) (q : Cap) (hg : w3.grownBy w5 u.ownBlock) (ho : w5.ownsRow (bf + 1) 89 2 v' (f.caps.length + 1) (f.caps.flatMap Cap.cs ++ q.cs)) (h1 : rb < bf) (h2 : g < bf) (h3 : bx < bf) (h4 : w.heap.size ≤ bf) (h6 : bx ≠ rb) :
    Fs w rb g bx bf { f with caps := f.caps ++ [q] } x y z v' s2 (w5.setCell ⟨bf, 8, none⟩ v') := by
  have hA := (h.read hF hS (by omega) h6 (by omega)).lays hb
  have nb : ∀ k, k < bf + 1 → u.ownBlock ≠ some k := fun k hk => own_nb hA.rows.p hk
  have hlt : ∀ k, k < bf + 1 → k < w3.heap.size := fun k hk => Nat.lt_of_lt_of_le hk (Array.getElem?_eq_some_iff.1 hA.fb).1
  have hB : Fs w rb g bx bf f x y z u s2 w3 := hA
  have ho' : w5.ownsRow (bf + 1) 89 2 v' (f.caps ++ [q]).length ((f.caps ++ [q]).flatMap Cap.cs) := by
    rw [List.length_append, List.flatMap_append]
    simpa using ho
  have hR : Rows w5 (bf + 1) { f with caps := f.caps ++ [q] } x y z v' := ⟨own_apart hA.rows.c hA.rows.p hg (by decide), own_apart hA.rows.i hA.rows.p hg (by decide), own_apart hA.rows.t hA.rows.p hg (by decide), ho'⟩
  refine ⟨(set_blk _ ((hg.block bf (hlt bf (by omega)) (Ne.symm (nb bf (by omega)))).trans hA.fb)).trans rfl, (Below.heap_setCell _ _ _ _ (show bx ≠ bf by omega)).trans ((hg.block bx (hlt bx (by omega)) (Ne.symm (nb bx (by omega)))).trans hA.xb), hR.setNew (by omega) _, ?_, ?_⟩
  · exact (hA.st.grown hg (nb rb (by omega)) (nb g (by omega))).setNew _ (by omega) (by omega)
  · exact (hA.fr.grown hg (fun k hk => by
      have := own_ge hA.rows.p k hk
      omega)).setNew h4 _
end Go.Proofs.YtkgjmiadgfcbnaaGreatDoor
