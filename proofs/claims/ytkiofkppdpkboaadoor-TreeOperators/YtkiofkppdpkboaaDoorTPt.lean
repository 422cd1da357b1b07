/- What lies in memory while Check builds its checker, in whatever order. -/
import Derived.Test.YtkiofkppdpkboaaDoorTStart
namespace Go.Proofs.YtkiofkppdpkboaaDoor
set_option linter.unusedVariables false
open Go.RowKit

theorem setCells_other (b k : Nat) (h : b ≠ k) : ∀ (vs : List Value) (o : Nat) (w : World), (w.setCells b o vs).heap[k]? = w.heap[k]?
  | [], o, w => rfl
  | v :: r, o, w => by
    rw [World.setCells, setCells_other b k h r]
    simp only [World.setCell, Array.getElem?_modify]
    rw [if_neg h]
theorem setCells_same (b : Nat) (t : TypeId) : ∀ (vs : List Value) (o : Nat) (w : World) (l : List Value), w.heap[b]? = some (.cells l.toArray t (0, 0)) → o + vs.length ≤ l.length → (w.setCells b o vs).heap[b]? = some (.cells (l.take o ++ vs ++ l.drop (o + vs.length)).toArray t (0, 0))
  | [], o, w, l, h, _ => by
    rw [World.setCells, h]
    simp
  | v :: r, o, w, l, h, hl => by
    rw [List.length_cons] at hl
    have h1 : (w.setCell ⟨b, o, none⟩ v).heap[b]? = some (.cells (l.set o v).toArray t (0, 0)) := by
      simp [World.setCell, Array.getElem?_modify, h]
    rw [World.setCells, setCells_same b t r (o + 1) _ _ h1 (by rw [List.length_set]; omega)]
    have e : (l.set o v).take (o + 1) ++ r ++ (l.set o v).drop (o + 1 + r.length) = l.take o ++ v :: r ++ l.drop (o + (r.length + 1)) := by
      rw [List.take_succ_eq_append_getElem (by rw [List.length_set]; omega), List.getElem_set_self, List.take_set_of_le (Nat.le_refl _), List.drop_set_of_lt (by omega)]
      simp [Nat.add_comm]
      omega
    rw [e, List.length_cons]
theorem alloc_heap_new (w : World) (o : Obj) : (w.alloc o).heap[w.heap.size]? = some o := by
  show (w.heap.push o)[w.heap.size]? = some o
  simp
theorem allocs_heap : ∀ (os : List Obj) (w : World) (i : Nat) (x : Obj), os[i]? = some x → (allocs w os).heap[w.heap.size + i]? = some x
  | [], w, i, x, h => by simp at h
  | o :: r, w, 0, x, h => by
    have e : o = x := by simpa using h
    subst e
    rw [allocs, (allocs_below r (w.alloc o) (w.heap.size + 1) (by simp)).block _ (by omega)]
    exact alloc_heap_new w o
  | o :: r, w, i + 1, x, h => by
    have := allocs_heap r (w.alloc o) i x (by simpa using h)
    rw [allocs, show w.heap.size + (i + 1) = (w.alloc o).heap.size + i from by simp; omega]
    exact this
theorem RowsIs.heap {w W : World} (h : RowsIs w W) (i : Nat) (x : Obj) (hx : mustObjs[i]? = some x) : W.heap[w.heap.size + 1 + i]? = some x := by
  subst h
  rw [setCells_other _ _ (by omega)]
  have := allocs_heap mustObjs (w.alloc (.cells Tryd.zeroCells59 59)) i x hx
  simpa using this
def kindsObj : Obj → Bool
  | .cells _ t _ => t == 56
  | _ => false
theorem musts_kinds (i : Nat) (x : Obj) (h : mustObjs[i]? = some x) : kindsObj x = true :=
  (List.all_eq_true.1 (show mustObjs.all kindsObj = true from by kernel_rfl)) x (List.mem_of_getElem? h)

/-- What of the checker lies there by now: the rows, those taken, the box. -/
structure Pt (w : World) (r m a : Option Nat) (N : Nat) (W : World) : Prop where
  b : Below w.heap.size w W
  hr : ∀ rb, r = some rb → ∀ i x, mustObjs[i]? = some x → W.heap[rb + 1 + i]? = some x
  hm : ∀ tb, m = some tb → W.heap[tb]? = some (.cells (Array.replicate N (.bool false)) 4 (0, 0)) ∧ w.heap.size ≤ tb
  ha : ∀ q, a = some q → W.heap[q]? = some (.cells Tryd.zeroCells62 62 (0, 0)) ∧ w.heap.size ≤ q
theorem lt_of_some {W : World} {k : Nat} {x : Obj} (h : W.heap[k]? = some x) : k < W.heap.size := (Array.getElem?_eq_some_iff.1 h).1
theorem Pt.grow {w W W' : World} {r m a : Option Nat} {N : Nat} (h : Pt w r m a N W) (hb : Below W.heap.size W W') : Pt w r m a N W' :=
  ⟨h.b.trans (hb.mono h.b.size), fun rb e i x hx => (hb.block _ (lt_of_some (h.hr rb e i x hx))).trans (h.hr rb e i x hx),
   fun tb e => ⟨(hb.block _ (lt_of_some (h.hm tb e).1)).trans (h.hm tb e).1, (h.hm tb e).2⟩, fun q e => ⟨(hb.block _ (lt_of_some (h.ha q e).1)).trans (h.ha q e).1, (h.ha q e).2⟩⟩
theorem Pt.start (w : World) (N : Nat) : Pt w none none none N w.drew := ⟨(Below.refl _ _).drew, fun _ e => (by cases e), fun _ e => (by cases e), fun _ e => (by cases e)⟩
theorem Pt.rows {w W W' : World} {m a : Option Nat} {N : Nat} (h : Pt w none m a N W) (hR : RowsIs W W') : Pt w (some W.heap.size) m a N W' :=
  have g := h.grow hR.below
  ⟨g.b, fun rb e i x hx => by cases e; exact hR.heap i x hx, g.hm, g.ha⟩
theorem Pt.make {w W : World} {r a : Option Nat} {N : Nat} (h : Pt w r none a N W) : Pt w r (some W.heap.size) a N (W.alloc (.cells (Array.replicate N (.bool false)) 4)) :=
  have g := h.grow ((Below.refl _ _).alloc (Nat.le_refl _) (.cells (Array.replicate N (.bool false)) 4))
  ⟨g.b, g.hr, fun tb e => by cases e; exact ⟨alloc_heap_new _ _, h.b.size⟩, g.ha⟩
theorem Pt.box {w W : World} {r m : Option Nat} {N : Nat} (h : Pt w r m none N W) : Pt w r m (some W.heap.size) N (W.alloc (.cells Tryd.zeroCells62 62)) :=
  have g := h.grow ((Below.refl _ _).alloc (Nat.le_refl _) (.cells Tryd.zeroCells62 62))
  ⟨g.b, g.hr, g.hm, fun tb e => by cases e; exact ⟨alloc_heap_new _ _, h.b.size⟩⟩
theorem zeroCk : Tryd.zeroCells62.size = 231 := by kernel_rfl
theorem Pt.there {w W : World} {r m : Option Nat} {q N : Nat} (h : Pt w r m (some q) N W) : W.there q 0 231 := fun j hj => by
  have hq := (h.ha q rfl).1
  refine ⟨?_, by simp [World.frozen?, hq]⟩
  rw [cell_of_row _ _ _ _ _ _ hq, Nat.zero_add, Array.getElem?_eq_getElem (by rw [zeroCk]; exact hj)]
  rfl
theorem Pt.ck {w W : World} {rb tb q N : Nat} (h : Pt w (some rb) (some tb) (some q) N W) (nv : Value) : Ck w q tb rb nv (List.replicate N false) 0 (W.setCells q 0 (ckC nv rb tb N 0)) := by
  obtain ⟨hq, qB⟩ := h.ha q rfl
  obtain ⟨ht, tB⟩ := h.hm tb rfl
  have ne : q ≠ tb := fun e => by subst e; rw [hq] at ht; injection ht with e1; injection e1 with _ e2; exact absurd e2 (by decide)
  refine ⟨h.b.trans (below_setCells _ _ qB _ _ _), ?_, ?_, fun i j c t v hi hj => ?_, qB, tB, ne⟩
  · have hq' : W.heap[q]? = some (.cells Tryd.zeroCells62.toList.toArray 62 (0, 0)) := by rw [hq]
    rw [setCells_same q _ (ckC nv rb tb N 0) 0 W _ hq' (by rw [ckC_len, Array.length_toList, zeroCk]; omega)]
    rw [List.take_zero, List.nil_append, List.drop_eq_nil_of_le (by rw [ckC_len, Array.length_toList, zeroCk]; omega), List.append_nil, List.length_replicate]
  · rw [setCells_other _ _ ne, ht]
    simp
  · have hh := h.hr rb rfl i _ hi
    have hk := musts_kinds i _ hi
    have nq : rb + 1 + i ≠ q := fun e => by rw [e, hq] at hh; injection hh with e1; rw [← e1] at hk; exact absurd hk (by simp [kindsObj])
    have nt : rb + 1 + i ≠ tb := fun e => by rw [e, ht] at hh; injection hh with e1; rw [← e1] at hk; exact absurd hk (by simp [kindsObj])
    refine ⟨?_, nq, nt⟩
    rw [World.cell?_setCells_out q (ckC nv rb tb N 0) 0 _ ⟨rb + 1 + i, j, none⟩ (fun e => absurd e nq), cell_of_row _ _ _ _ _ _ hh]
    exact hj
end Go.Proofs.YtkiofkppdpkboaaDoor
