/- KeysStable: putting keys in order keeps them all, and once is enough. -/
import Derived.Test.YtcjpoabknlpopaaDoorKPl
import Derived.Test.YtcjpoabknlpopaaDoorKFew
import Derived.Test.YtcjpoabknlpopaaDoorKSrt9
import Derived.Laws.MakeOwn
namespace Go.Proofs.YtcjpoabknlpopaaDoor
set_option linter.unusedVariables false
open Go.RowKit

/-- The classes of keys that are not used yet. -/
def fr : KL → List Bool → KL
  | p :: l, u :: U => if u then fr l U else cls p :: fr l U
  | _, _ => []
theorem fr_start : ∀ (l : KL), fr l (List.replicate l.length false) = l.map cls
  | [] => rfl
  | p :: l => by
    show fr (p :: l) (false :: List.replicate l.length false) = _
    rw [fr, if_neg (by simp), fr_start l]; rfl
theorem fr_mem : ∀ (l : KL) (U : List Bool) (c : ByteArray × Int), U.length = l.length → c ∈ fr l U → ∃ (n : Nat) (h : n < l.length), U[n]? = some false ∧ cls l[n] = c
  | [], U, c, _, h => by cases U <;> cases h
  | p :: l, [], c, hl, h => by cases h
  | p :: l, u :: U, c, hl, h => by
    have hl' : U.length = l.length := by simpa using hl
    rw [fr] at h
    cases u
    · rw [if_neg (by simp)] at h
      rcases List.mem_cons.1 h with rfl | h
      · exact ⟨0, by simp, rfl, rfl⟩
      · obtain ⟨n, hn, h1, h2⟩ := fr_mem l U c hl' h
        exact ⟨n + 1, by simpa using hn, by simpa using h1, by simpa using h2⟩
    · rw [if_pos rfl] at h
      obtain ⟨n, hn, h1, h2⟩ := fr_mem l U c hl' h
      exact ⟨n + 1, by simpa using hn, by simpa using h1, by simpa using h2⟩
theorem fr_set : ∀ (l : KL) (U : List Bool) (n : Nat) (h : n < l.length), U[n]? = some false → (fr l U).Perm (cls l[n] :: fr l (U.set n true))
  | [], U, n, h, _ => by simp at h
  | p :: l, [], n, h, hu => by simp at hu
  | p :: l, u :: U, 0, h, hu => by
    simp only [List.getElem?_cons_zero, Option.some.injEq] at hu
    subst hu
    rw [List.set_cons_zero, fr, fr, if_neg (by simp), if_pos rfl]
    exact List.Perm.refl _
  | p :: l, u :: U, n + 1, h, hu => by
    have ih := fr_set l U n (by simpa using h) (by simpa using hu)
    rw [List.set_cons_succ, fr, fr]
    cases u
    · rw [if_neg (by simp), if_neg (by simp)]
      exact (List.Perm.cons _ ih).trans (List.Perm.swap _ _ _)
    · rw [if_pos rfl, if_pos rfl]
      exact ih

/-- The world of the law's loops: below the row of those used all stands; that row. -/
structure SR (w0 : World) (U : List Bool) (wr : World) : Prop where
  b : Below w0.heap.size w0 wr
  u : wr.heap[w0.heap.size]? = some (.cells (U.map Value.bool).toArray 4 (0, 0))
theorem SR.lt {w0 wr : World} {U : List Bool} (h : SR w0 U wr) : w0.heap.size < wr.heap.size := (Array.getElem?_eq_some_iff.1 h.u).1
theorem SR.grow {w0 wr w1 : World} {U : List Bool} (h : SR w0 U wr) (hb : Below wr.heap.size wr w1) : SR w0 U w1 :=
  ⟨h.b.trans (hb.mono (Nat.le_of_lt h.lt)), (hb.block _ h.lt).trans h.u⟩
theorem SR.cell {w0 wr : World} {U : List Bool} (h : SR w0 U wr) (n : Nat) (hn : n < U.length) : wr.cell? ⟨w0.heap.size, n, none⟩ = some (.bool U[n]) := by
  rw [cell_of_row _ _ _ _ _ _ h.u]; simp [hn]
theorem SR.frozen {w0 wr : World} {U : List Bool} (h : SR w0 U wr) (n : Nat) : wr.frozen? ⟨w0.heap.size, n, none⟩ = false := by
  simp [World.frozen?, h.u]
theorem SR.set {w0 wr : World} {U : List Bool} (h : SR w0 U wr) (n : Nat) (hn : n < U.length) : SR w0 (U.set n true) (wr.setCell ⟨w0.heap.size, n, none⟩ (.bool true)) := by
  refine ⟨h.b.setCell (p := ⟨w0.heap.size, n, none⟩) (Nat.le_refl _) _, ?_⟩
  simp [World.setCell, Array.getElem?_modify, h.u, List.map_set]
theorem SR.new (w0 : World) (n : Nat) : SR w0 (List.replicate n false) (w0.alloc (.cells (Array.replicate n (.bool false)) 4)) := by
  refine ⟨(Below.refl _ _).alloc (Nat.le_refl _) _, ?_⟩
  rw [heap_alloc_new]
  simp
/-- A key in its box. -/
structure KB (w : World) (b : Nat) (p : ByteArray × Int) : Prop where
  c0 : w.cell? ⟨b, 0, none⟩ = some (.string p.1)
  c1 : w.cell? ⟨b, 1, none⟩ = some (.int .i64 p.2)
  lt : b < w.heap.size
theorem KB.grow {w w' : World} {b : Nat} {p : ByteArray × Int} (h : KB w b p) (hb : Below w.heap.size w w') : KB w' b p :=
  ⟨(hb.cell (p := ⟨b, 0, none⟩) h.lt).trans h.c0, (hb.cell (p := ⟨b, 1, none⟩) h.lt).trans h.c1, Nat.lt_of_lt_of_le h.lt hb.size⟩
theorem KB.set {w : World} {b g n : Nat} {p : ByteArray × Int} (h : KB w b p) (hne : g ≠ b) (v : Value) : KB (w.setCell ⟨g, n, none⟩ v) b p :=
  ⟨by rw [World.cell?_setCell_other _ _ _ _ (by intro e; cases e; exact hne rfl)]; exact h.c0, by rw [World.cell?_setCell_other _ _ _ _ (by intro e; cases e; exact hne rfl)]; exact h.c1, by simpa using h.lt⟩
theorem KB.new (w : World) (s : ByteArray) (z : Int) : KB (w.alloc (.cells #[.string s, .int .i64 z] 25)) w.heap.size (s, z) :=
  ⟨World.cell?_alloc_new w _ _ _, World.cell?_alloc_new w _ _ _, by simp⟩

theorem step_call2' {P : Program} {ops : Array Oper} {o : Oper} {a : Act} {w : World} {K : Act → World → Prop} {Q : Exit → Act → World → Prop} {E : Prop}
    (hg : o.guard = none) (f : FuncId) (x y : Operand) (t u : TypeId) (hop : o.op = Op.call { callee := Callee.value (Operand.func f), args := #[x, y], argTypes := #[t, u] })
    (he : ∀ args w, (callFunc f args).run P w = .ok (.enter f args) w) (vx vy : Value) (hx : a.eval x = vx) (hy : a.eval y = vy) {R : Ending → World → Prop} (hC : Calls P f #[vx, vy] w R)
    (hK : ∀ e w', R e w' → ∃ v, e = .returned v ∧ K (a.put o.dst v) w') :
    if Region.wanted o (yielded ops a.tmps) = true then Oper.wp P o a w K Q else E := by
  have hw : Region.wanted o (yielded ops a.tmps) = true := by simp [Region.wanted, hg]
  rw [if_pos hw]
  unfold Oper.wp
  have hf : a.eval (Operand.func f) = .func (.func f) #[] #[] := rfl
  simp [execOp, hop, resolve, invoke, Deferred.ofValue, hx, hy, hf, he]
  rw [Oper.upon_enter]
  exact hC.mono (fun e w' h => by obtain ⟨v, rfl, hk⟩ := hK e w' h; exact hk)

theorem infoB : (Tryd.prog.info? 4).map (fun i => (i.zero, i.size, i.bytes)) = some (some (.bool false), 1, 1) := by kernel_rfl
theorem made_bools (n : Nat) : madeCells (Value.bool false).cells n = Array.replicate n (.bool false) := by
  apply Array.ext
  · simp [size_madeCells]
  · intro i h1 h2
    simp [madeCells, Value.cells, Nat.mod_one]

end Go.Proofs.YtcjpoabknlpopaaDoor
