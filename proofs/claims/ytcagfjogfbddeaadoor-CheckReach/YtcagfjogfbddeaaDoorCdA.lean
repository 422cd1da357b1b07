/- Package code's reader in memory: bytes, the frame of its methods; hold, take. -/
import Derived.Test.YtcagfjogfbddeaaDoorOwn
import Derived.Test.YtcagfjogfbddeaaDoorSb
namespace Go.Proofs.YtcagfjogfbddeaaDoor
set_option linter.unusedVariables false
open Go.RowKit

/-- All blocks but one stand. -/
structure Fr (rb : Nat) (W W' : World) : Prop where
  os : W'.os = W.os
  tape : W'.tape = W.tape
  output : W'.output = W.output
  size : W.heap.size ≤ W'.heap.size
  same : ∀ (k : Nat) (o : Obj), k ≠ rb → W.heap[k]? = some o → W'.heap[k]? = some o
theorem Fr.refl (rb : Nat) (W : World) : Fr rb W W := ⟨rfl, rfl, rfl, Nat.le_refl _, fun _ _ _ h => h⟩
theorem Fr.trans {rb : Nat} {X Y Z : World} (h : Fr rb X Y) (g : Fr rb Y Z) : Fr rb X Z :=
  ⟨g.os.trans h.os, g.tape.trans h.tape, g.output.trans h.output, Nat.le_trans h.size g.size, fun k o hk ho => g.same k o hk (h.same k o hk ho)⟩
theorem Fr.of_below {rb : Nat} {W W' : World} (h : Below W.heap.size W W') : Fr rb W W' := ⟨h.os, h.tape, h.output, h.size, fun k o _ ho => (h.block k (Array.getElem?_eq_some_iff.1 ho).1).trans ho⟩
theorem Fr.set {rb o : Nat} {W : World} (v : Value) : Fr rb W (W.setCell ⟨rb, o, none⟩ v) :=
  ⟨rfl, rfl, rfl, by simp [World.setCell], fun j ob hj ho => (Below.heap_setCell _ _ _ _ hj).trans ho⟩
theorem Fr.setNew {rb k o : Nat} {w X : World} (h : Fr rb w X) (hk : w.heap.size ≤ k) (v : Value) : Fr rb w (X.setCell ⟨k, o, none⟩ v) :=
  ⟨h.os, h.tape, h.output, by simpa [World.setCell] using h.size, fun j ob hj ho => by
    have hlt := (Array.getElem?_eq_some_iff.1 ho).1
    have hne : j ≠ k := by omega
    exact (Below.heap_setCell _ _ _ _ hne).trans (h.same j ob hj ho)⟩
theorem Fr.cell {rb : Nat} {W W' : World} (h : Fr rb W W') {k j : Nat} {v : Value} (hk : k ≠ rb) (hc : W.cell? ⟨k, j, none⟩ = some v) : W'.cell? ⟨k, j, none⟩ = some v := by
  have hlt : k < W.heap.size := World.block_lt_of_cell? W _ hc
  have h1 : W.heap[k]? = some W.heap[k] := Array.getElem?_eq_getElem hlt
  have h2 := h.same k _ hk h1
  have e : W'.cell? ⟨k, j, none⟩ = W.cell? ⟨k, j, none⟩ := by simp only [World.cell?, h1, h2]
  rw [e, hc]
theorem Fr.below {rb B : Nat} {W W' : World} (h : Fr rb W W') (hB : B ≤ rb) (hs : B ≤ W.heap.size) : Below B W W' := ⟨h.os, h.tape, h.output, h.size, fun k hk => by
  have e : W.heap[k]? = some W.heap[k] := Array.getElem?_eq_getElem (by omega)
  rw [h.same k _ (by omega) e, e]⟩
theorem set_blk {W : World} {rb o : Nat} {c : Array Value} {t : TypeId} {m} (v : Value) (h : W.heap[rb]? = some (.cells c t m)) : (W.setCell ⟨rb, o, none⟩ v).heap[rb]? = some (.cells (c.setIfInBounds o v) t m) := by
  simp only [World.setCell, Array.getElem?_modify, h]
  rw [if_pos trivial]
  rfl
theorem cell_row (w : World) (b j : Nat) (c : Array Value) (t : TypeId) (h : w.heap[b]? = some (.cells c t (0, 0))) : w.cell? ⟨b, j, none⟩ = c[j]? := by
  simp only [World.cell?, h]
  simp
theorem thaw_row (w : World) (b : Nat) (c : Array Value) (t : TypeId) (h : w.heap[b]? = some (.cells c t (0, 0))) (j : Nat) : w.frozen? ⟨b, j, none⟩ = false := by
  simp only [World.frozen?, h]
  simp

/-- Bytes that lie there. -/
def Bs (W : World) (g o : Nat) (L : List UInt8) : Prop := ∀ (j : Nat) (h : j < L.length), W.cell? ⟨g, o + j, none⟩ = some (.int .u8 (L[j].toNat : Int))
theorem Bs.fr {W W' : World} {rb g o : Nat} {L : List UInt8} (h : Bs W g o L) (f : Fr rb W W') (hg : g ≠ rb) : Bs W' g o L := fun j hj => f.cell hg (h j hj)
theorem Bs.drop {W : World} {g o : Nat} {L : List UInt8} (h : Bs W g o L) (k : Nat) : Bs W g (o + k) (L.drop k) := fun j hj => by
  have hj' : k + j < L.length := by simp at hj; omega
  have := h (k + j) hj'
  rw [List.getElem_drop, Nat.add_assoc]
  exact this

abbrev thrown : Ending := .panicked [{ v := .iface 45 (.int .i64 110), recovered := false }]

end Go.Proofs.YtcagfjogfbddeaaDoor
