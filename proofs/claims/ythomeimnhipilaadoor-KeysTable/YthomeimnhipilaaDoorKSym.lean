/- A table behind stores: facts for Symbol. -/
import Derived.Test.YthomeimnhipilaaDoorKAw
import Derived.Laws.ResultCell
namespace Go.Proofs.YthomeimnhipilaaDoor
set_option linter.unusedVariables false
open Go.RowKit Go.Maps

theorem row_ne {w : World} {B g n sz : Nat} {e t : TypeId} {v : Value} {xs : List Value} {c : Array Value} (h : w.ownsRow B e sz v n xs) (hr : w.heap[g]? = some (.cells c t (0, 0))) (hne : e ≠ t) : ∀ r, v.ownBlock = some r → some g ≠ some r := by
  intro r hrr he
  cases he
  rcases h.2 with ⟨rfl, _⟩ | ⟨g', cap, cur, rfl, _, hg, _⟩
  · cases hrr
  · simp [Value.ownBlock] at hrr
    subst hrr
    rw [hr] at hg
    simp at hg
    exact hne hg.2.symm
theorem grown_set (w : World) (p : Addr) (v : Value) : w.grownBy (w.setCell p v) (some p.block) := by
  refine ⟨rfl, rfl, rfl, by simp [World.setCell], fun k hk hne => ?_⟩
  exact Below.heap_setCell _ _ _ _ (fun e => hne (by rw [e]))
theorem heap_set (w : World) (g o : Nat) (v : Value) (c : Array Value) (t : TypeId) (fr : Nat × Nat) (h : w.heap[g]? = some (.cells c t fr)) : (w.setCell ⟨g, o, none⟩ v).heap[g]? = some (.cells (c.setIfInBounds o v) t fr) := by
  rw [Sort.setCell_eq]
  simp [Sort.mapBlock, Array.getElem?_modify, h, Sort.onCells]
theorem Tab.setS {B g mb : Nat} {vt vs v' : Value} {ts ss : List ByteArray} {D : DataW Unit} {w W w5 : World} {q : ByteArray} (h : Tab B g mb vt vs ts ss D w) (hb : Below w.heap.size w W) (hg : W.grownBy w5 vs.ownBlock) (o : w5.ownsRow B 23 1 v' (ss.length + 1) (sC ss ++ [.string q])) (hl : v'.ownBlock = vs.ownBlock ∨ v'.ownBlock = some W.heap.size) : Tab B g mb vt v' ts (ss ++ [q]) D (w5.setCell ⟨g, 3, none⟩ v') := by
  have hW := h.below hb
  have ng : ∀ r, vs.ownBlock = some r → some g ≠ some r := row_ne hW.s hW.row (by decide)
  have ng' : some g ≠ vs.ownBlock := fun e => ng g e.symm rfl
  have r5 : w5.heap[g]? = some (.cells #[.pointer (some ⟨g, 0, none⟩), .map (some mb), vt, vs] 52 (0, 0)) := (hg.block g hW.lt.1 ng').trans hW.row
  have t5 := own_other hW.t hg hW.ap
  have m5 := hW.m.kept hg (fun e => own_ne_map hW.s hW.m _ e.symm rfl)
  have gs := grown_set w5 ⟨g, 3, none⟩ v'
  refine ⟨hW.gB, hW.mB, heap_set w5 g 3 v' _ _ _ r5, own_other t5 gs (row_ne t5 r5 (by decide)), ?_, m5.kept gs ?_, hW.ok, apart_new hW.t hW.ap hl (Nat.le_refl _)⟩
  · rw [List.length_append, sC_append]
    exact own_other o gs (row_ne o r5 (by decide))
  · intro e
    cases e
    obtain ⟨es, clock, he, _⟩ := m5
    rw [r5] at he
    cases he

/-- The world behind own, within Symbol. -/
structure SymW (w w2 : World) (g : Nat) (v : Value) : Prop where
  c3 : w2.cell? ⟨g, 3, none⟩ = some v
  f3 : w2.frozen? ⟨g, 3, none⟩ = false
  d0 : w2.cell? ⟨w.heap.size, 0, none⟩ = some (.string ⟨#[]⟩)
  d1 : w2.cell? ⟨w.heap.size, 1, none⟩ = some (.int .i64 0)
  f0 : w2.frozen? ⟨w.heap.size, 0, none⟩ = false
  f1 : w2.frozen? ⟨w.heap.size, 1, none⟩ = false
  s2 : w.heap.size + 1 ≤ w2.heap.size
  row : ∃ c, w2.heap[w.heap.size]? = some (.cells c 25 (0, 0))
theorem symW_own {w w2 : World} {g : Nat} {v : Value} (hlt : g < w.heap.size) (c3 : w.cell? ⟨g, 3, none⟩ = some v) (fz : w.frozen? ⟨g, 3, none⟩ = false) (b2 : Below ((w.alloc (.cells #[.string ⟨#[]⟩, .int .i64 0] 25)).drew).heap.size ((w.alloc (.cells #[.string ⟨#[]⟩, .int .i64 0] 25)).drew) w2) : SymW w w2 g v ∧ Below w.heap.size w w2 := by
  have B1 : Below w.heap.size w ((w.alloc (.cells #[.string ⟨#[]⟩, .int .i64 0] 25)).drew) := ((Below.refl _ _).alloc (Nat.le_refl _) _).drew
  have s1 : w.heap.size + 1 ≤ w2.heap.size := by simpa using b2.size
  have B2 := B1.trans (b2.mono B1.size)
  have hl : w.heap.size < ((w.alloc (.cells #[.string ⟨#[]⟩, .int .i64 0] 25)).drew).heap.size := by simp
  refine ⟨⟨(B2.cell (p := ⟨g, 3, none⟩) hlt).trans c3, (B2.frozen (p := ⟨g, 3, none⟩) hlt).trans fz, ?_, ?_, ?_, ?_, s1, ⟨_, (b2.block w.heap.size hl).trans (heap_alloc_new w _)⟩⟩, B2⟩
  · exact (b2.cell (p := ⟨w.heap.size, 0, none⟩) hl).trans (World.cell?_alloc_new w _ _ _)
  · exact (b2.cell (p := ⟨w.heap.size, 1, none⟩) hl).trans (World.cell?_alloc_new w _ _ _)
  · exact (b2.frozen (p := ⟨w.heap.size, 0, none⟩) hl).trans (World.frozen?_alloc_new w _ _ _)
  · exact (b2.frozen (p := ⟨w.heap.size, 1, none⟩) hl).trans (World.frozen?_alloc_new w _ _ _)
theorem SymW.grow {w w2 w5 : World} {g : Nat} {v : Value} {o : Obj} {row : Option Nat} (h : SymW w w2 g v) (hlt : g < w.heap.size) (hg : (w2.alloc o).grownBy w5 row) (ng : some g ≠ row) (nr : some w.heap.size ≠ row) : SymW w w5 g v := by
  have hb := (Below.refl w2.heap.size w2).alloc (Nat.le_refl _) o
  have s2 := h.s2
  have l1 : g < w2.heap.size := by omega
  have l2 : w.heap.size < w2.heap.size := by omega
  have l3 : (w2.alloc o).heap.size = w2.heap.size + 1 := by simp
  exact ⟨((grown_cell hg (p := ⟨g, 3, none⟩) (by show g < _; omega) ng).trans (hb.cell (p := ⟨g, 3, none⟩) l1)).trans h.c3, ((grown_frozen hg (p := ⟨g, 3, none⟩) (by show g < _; omega) ng).trans (hb.frozen (p := ⟨g, 3, none⟩) l1)).trans h.f3,
    ((grown_cell hg (p := ⟨w.heap.size, 0, none⟩) (by show w.heap.size < _; omega) nr).trans (hb.cell (p := ⟨w.heap.size, 0, none⟩) l2)).trans h.d0, ((grown_cell hg (p := ⟨w.heap.size, 1, none⟩) (by show w.heap.size < _; omega) nr).trans (hb.cell (p := ⟨w.heap.size, 1, none⟩) l2)).trans h.d1,
    ((grown_frozen hg (p := ⟨w.heap.size, 0, none⟩) (by show w.heap.size < _; omega) nr).trans (hb.frozen (p := ⟨w.heap.size, 0, none⟩) l2)).trans h.f0, ((grown_frozen hg (p := ⟨w.heap.size, 1, none⟩) (by show w.heap.size < _; omega) nr).trans (hb.frozen (p := ⟨w.heap.size, 1, none⟩) l2)).trans h.f1, by have := hg.size; omega, h.row.imp fun c hc => ((hg.block w.heap.size (by omega) nr).trans (hb.block w.heap.size l2)).trans hc⟩
/-- The table behind Symbol's stores. -/
theorem Tab.other {B g mb : Nat} {vt vs : Value} {ts ss : List ByteArray} {D : DataW Unit} {w w' : World} {k : Nat} {c : Array Value} (h : Tab B g mb vt vs ts ss D w) (hg : w.grownBy w' (some k)) (hk : w.heap[k]? = some (.cells c 25 (0, 0))) : Tab B g mb vt vs ts ss D w' := by
  have n1 : some g ≠ some k := fun e => by
    cases e
    rw [h.row] at hk
    simp at hk
  refine ⟨h.gB, h.mB, (hg.block g h.lt.1 n1).trans h.row, own_other h.t hg (row_ne h.t hk (by decide)), own_other h.s hg (row_ne h.s hk (by decide)), h.m.kept hg (fun e => ?_), h.ok, h.ap⟩
  cases e
  obtain ⟨es, clock, he, _⟩ := h.m
  rw [hk] at he
  cases he

theorem Tab.res {B g mb k : Nat} {vt vs v x y : Value} {ts ss : List ByteArray} {D : DataW Unit} {w5 : World} (h : Tab B g mb vt vs ts ss D (w5.setCell ⟨g, 3, none⟩ v)) (hr : ∃ c, w5.heap[k]? = some (.cells c 25 (0, 0))) (hne : g ≠ k) : Tab B g mb vt vs ts ss D (((w5.setCell ⟨g, 3, none⟩ v).setCell ⟨k, 0, none⟩ x).setCell ⟨k, 1, none⟩ y) := by
  obtain ⟨c, hc⟩ := hr
  have hk : k < w5.heap.size := (Array.getElem?_eq_some_iff.1 hc).1
  have h1 : (w5.setCell ⟨g, 3, none⟩ v).heap[k]? = some (.cells c 25 (0, 0)) := ((grown_set w5 ⟨g, 3, none⟩ v).block k hk (fun e => hne (by cases e; rfl))).trans hc
  exact (h.other (grown_set _ ⟨k, 0, none⟩ x) h1).other (grown_set _ ⟨k, 1, none⟩ y) (heap_set _ k 0 x _ _ _ h1)

end Go.Proofs.YthomeimnhipilaaDoor
