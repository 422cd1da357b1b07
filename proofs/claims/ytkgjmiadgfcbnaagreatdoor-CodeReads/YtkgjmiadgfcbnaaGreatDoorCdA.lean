/- Package code's reader in memory: bytes, the frame of its methods; hold, take. -/
import Derived.Test.YtkgjmiadgfcbnaaGreatDoorOwn
import Derived.Test.YtkgjmiadgfcbnaaGreatDoorSb
namespace Go.Proofs.YtkgjmiadgfcbnaaGreatDoor
set_option linter.unusedVariables false
open Go.RowKit

/-- All blocks but one stand. -/
structure Fr (rb : Nat) (W W' : World) : Prop where
  os : W'.os = W.os
  tape : W'.tape = W.tape
  output : W'.output = W.output
  size : W.heap.size ≤ W'.heap.size
  same : ∀ (k : Nat) (o : Obj), k ≠ rb → W.heap[k]? = some o → W'.heap[k]? = some o
theorem Fr.refl (rb : Nat) (W : World) : Fr rb W W := ⟨rfl, rfl, rfl, Nat.le_refl _, fun _ _ _ h => h⟩
theorem Fr.trans {rb : Nat} {X Y Z : World} (h : Fr rb X Y) (g : Fr rb Y Z) : Fr rb X Z :=
  ⟨g.os.trans h.os, g.tape.trans h.tape, g.output.trans h.output, Nat.le_trans h.size g.size, fun k o hk ho => g.same k o hk (h.same k o hk ho)⟩
theorem Fr.of_below {rb : Nat} {W W' : World} (h : Below W.heap.size W W') : Fr rb W W' := ⟨h.os, h.tape, h.output, h.size, fun k o _ ho => (h.block k (Array.getElem?_eq_some_iff.1 ho).1).trans ho⟩
theorem Fr.set {rb o : Nat} {W : World} (v : Value) : Fr rb W (W.setCell ⟨rb, o, none⟩ v) :=
  ⟨rfl, rfl, rfl, by simp [World.setCell], fun j ob hj ho => (Below.heap_setCell _ _ _ _ hj).trans ho⟩
theorem Fr.setNew {rb k o : Nat} {w X : World} (h : Fr rb w X) (hk : w.heap.size ≤ k) (v : Value) : Fr rb w (X.setCell ⟨k, o, none⟩ v) :=
  ⟨h.os, h.tape, h.output, by simpa [World.setCell] using h.size, fun j ob hj ho => by
    have hlt := (Array.getElem?_eq_some_iff.1 ho).1
    have hne : j ≠ k := by omega
    exact (Below.heap_setCell _ _ _ _ hne).trans (h.same j ob hj ho)⟩
theorem Fr.cell {rb : Nat} {W W' : World} (h : Fr rb W W') {k j : Nat} {v : Value} (hk : k ≠ rb) (hc : W.cell? ⟨k, j, none⟩ = some v) : W'.cell? ⟨k, j, none⟩ = some v := by
  have hlt : k < W.heap.size := World.block_lt_of_cell? W _ hc
  have h1 : W.heap[k]? = some W.heap[k] := Array.getElem?_eq_getElem hlt
  have h2 := h.same k _ hk h1
  have e : W'.cell? ⟨k, j, none⟩ = W.cell? ⟨k, j, none⟩ := by simp only [World.cell?, h1, h2]
  rw [e, hc]
theorem Fr.below {rb B : Nat} {W W' : World} (h : Fr rb W W') (hB : B ≤ rb) (hs : B ≤ W.heap.size) : Below B W W' := ⟨h.os, h.tape, h.output, h.size, fun k hk => by
  have e : W.heap[k]? = some W.heap[k] := Array.getElem?_eq_getElem (by omega)
  rw [h.same k _ (by omega) e, e]⟩
theorem set_blk {W : World} {rb o : Nat} {c : Array Value} {t : TypeId} {m} (v : Value) (h : W.heap[rb]? = some (.cells c t m)) : (W.setCell ⟨rb, o, none⟩ v).heap[rb]? = some (.cells (c.setIfInBounds o v) t m) := by
  simp only [World.setCell, Array.getElem?_modify, h]
  rw [if_pos trivial]
  rfl
theorem cell_row (w : World) (b j : Nat) (c : Array Value) (t : TypeId) (h : w.heap[b]? = some (.cells c t (0, 0))) : w.cell? ⟨b, j, none⟩ = c[j]? := by
  simp only [World.cell?, h]
  simp
theorem thaw_row (w : World) (b : Nat) (c : Array Value) (t : TypeId) (h : w.heap[b]? = some (.cells c t (0, 0))) (j : Nat) : w.frozen? ⟨b, j, none⟩ = false := by
  simp only [World.frozen?, h]
  simp

/-- Bytes that lie there. -/
def Bs (W : World) (g o : Nat) (L : List UInt8) : Prop := ∀ (j : Nat) (h : j < L.length), W.cell? ⟨g, o + j, none⟩ = some (.int .u8 (L[j].toNat : Int))
theorem Bs.fr {W W' : World} {rb g o : Nat} {L : List UInt8} (h : Bs W g o L) (f : Fr rb W W') (hg : g ≠ rb) : Bs W' g o L := fun j hj => f.cell hg (h j hj)
theorem Bs.drop {W : World} {g o : Nat} {L : List UInt8} (h : Bs W g o L) (k : Nat) : Bs W g (o + k) (L.drop k) := fun j hj => by
  have hj' : k + j < L.length := by simp at hj; omega
  have := h (k + j) hj'
  rw [List.getElem_drop, Nat.add_assoc]
  exact this

/-- The program's reader. -/
structure RcAt (W : World) (rb g o c : Nat) (L : List UInt8) : Prop where
  blk : W.heap[rb]? = some (.cells #[.slice (some ⟨g, o, none⟩) L.length c] 74 (0, 0))
  bs : Bs W g o L
  le : L.length ≤ c
  cle : c ≤ 9223372036854775807
  ne : g ≠ rb
  glt : g < W.heap.size
def Rc (W : World) (rb g : Nat) (L : List UInt8) : Prop := ∃ o c, RcAt W rb g o c L
theorem RcAt.lt {W : World} {rb g o c : Nat} {L : List UInt8} (h : RcAt W rb g o c L) : rb < W.heap.size := (Array.getElem?_eq_some_iff.1 h.blk).1
theorem RcAt.cells {W : World} {rb g o c : Nat} {L : List UInt8} (h : RcAt W rb g o c L) : W.cell? ⟨rb, 0, none⟩ = some (.slice (some ⟨g, o, none⟩) L.length c) ∧ (∀ j, W.frozen? ⟨rb, j, none⟩ = false) :=
  ⟨(cell_row _ _ _ _ _ h.blk).trans rfl, thaw_row _ _ _ _ h.blk⟩
theorem RcAt.take {W : World} {rb g o c : Nat} {L : List UInt8} (h : RcAt W rb g o c L) (k : Nat) (hk : k ≤ L.length) : RcAt (W.setCell ⟨rb, 0, none⟩ (.slice (some ⟨g, o + k, none⟩) (L.length - k) (c - k))) rb g (o + k) (c - k) (L.drop k) :=
  ⟨(set_blk _ h.blk).trans (by simp), (h.bs.drop k).fr (Fr.set _) h.ne, by simp; have := h.le; omega, by have := h.cle; omega, h.ne, by simpa [World.setCell] using h.glt⟩
theorem RcAt.all {W : World} {rb g o c : Nat} {L : List UInt8} (h : RcAt W rb g o c L) (k : Nat) (hk : k ≤ L.length) (e : c = k) : RcAt (W.setCell ⟨rb, 0, none⟩ (.slice (some ⟨g, o, none⟩) (L.length - k) 0)) rb g o 0 (L.drop k) := by
  have hl := h.le
  have e0 : L.drop k = [] := by simp; omega
  have e1 : L.length - k = 0 := by omega
  rw [e0, e1]
  exact ⟨(set_blk _ h.blk).trans (by simp), fun j hj => absurd hj (by simp), by simp, by omega, h.ne, by simpa [World.setCell] using h.glt⟩
theorem RcAt.below {W W' : World} {rb g o c : Nat} {L : List UInt8} (h : RcAt W rb g o c L) (hb : Below W.heap.size W W') : RcAt W' rb g o c L :=
  ⟨(hb.block rb h.lt).trans h.blk, h.bs.fr (Fr.of_below hb) h.ne, h.le, h.cle, h.ne, Nat.lt_of_lt_of_le h.glt hb.size⟩
theorem RcAt.setNew {W : World} {rb g o c k j : Nat} {L : List UInt8} (h : RcAt W rb g o c L) (v : Value) (h1 : rb ≠ k) (h2 : g ≠ k) : RcAt (W.setCell ⟨k, j, none⟩ v) rb g o c L :=
  ⟨(Below.heap_setCell _ _ _ _ h1).trans h.blk, h.bs.fr (Fr.set _) h2, h.le, h.cle, h.ne, by simpa [World.setCell] using h.glt⟩
theorem Rc.below {W W' : World} {rb g : Nat} {L : List UInt8} (h : Rc W rb g L) (hb : Below W.heap.size W W') : Rc W' rb g L := by
  obtain ⟨o, c, h⟩ := h
  exact ⟨o, c, h.below hb⟩
theorem Rc.setNew {W : World} {rb g k j : Nat} {L : List UInt8} (h : Rc W rb g L) (v : Value) (h1 : rb ≠ k) (h2 : g ≠ k) : Rc (W.setCell ⟨k, j, none⟩ v) rb g L := by
  obtain ⟨o, c, h⟩ := h
  exact ⟨o, c, h.setNew v h1 h2⟩
theorem Rc.glt {W : World} {rb g : Nat} {L : List UInt8} (h : Rc W rb g L) : g < W.heap.size := by
  obtain ⟨o, c, h⟩ := h
  exact h.glt
theorem Rc.lt {W : World} {rb g : Nat} {L : List UInt8} (h : Rc W rb g L) : rb < W.heap.size := by
  obtain ⟨o, c, h⟩ := h
  exact h.lt

abbrev thrown : Ending := .panicked [{ v := .iface 27 (.int .i64 110), recovered := false }]

theorem hold_ok (w : World) : Calls Tryz.prog 28 #[.bool true] w fun e w' => e = .returned (.tuple #[]) ∧ w' = w := by
  go_enter Tryz.func28, Tryz.ntmps28
  go_wp2
  exact ⟨rfl, .tuple #[], results_none rfl _ _ _, rfl, rfl⟩
theorem hold_no (w : World) : Calls Tryz.prog 28 #[.bool false] w fun e w' => e = thrown ∧ w' = w := by
  go_enter Tryz.func28, Tryz.ntmps28
  go_wp2
  exact ⟨rfl, rfl, rfl⟩
set_option maxHeartbeats 2000000 in
set_option maxRecDepth 100000 in
theorem take_ok {rb g : Nat} {L : List UInt8} (k : Nat) (z : Int) (hz : z = k) (w : World) (h : Rc w rb g L) (hk : k ≤ L.length) :
    Calls Tryz.prog 29 #[.pointer (some ⟨rb, 0, none⟩), .int .i64 z] w fun e w' => ∃ o c, e = .returned (.slice (some ⟨g, o, none⟩) k c) ∧ Bs w' g o (L.take k) ∧ k ≤ c ∧ c ≤ 9223372036854775807 ∧ Rc w' rb g (L.drop k) ∧ Fr rb w w' := by
  subst hz
  obtain ⟨o, c, h⟩ := h
  obtain ⟨c0, cf⟩ := h.cells
  have HT := Hid.mk' (h.take k hk)
  have HA := Hid.mk' (h.all k hk)
  have HB : Hid (Bs w g o (L.take k)) := fun j hj => by
    have hj' : j < L.length := by simp at hj; omega
    have := h.bs j hj'
    simp only [List.getElem_take]
    exact this
  have HN := Hid.mk' h.ne
  have hle := h.le
  have hcl := h.cle
  have i1 : (k : Int) ≤ (L.length : Int) := by omega
  have i2 : (k : Int) ≤ (c : Int) := by omega
  have i3 : (L.length : Int) ≤ (c : Int) := by omega
  have HH := Hid.mk' hold_ok
  clear h
  go_enter Tryz.func29, Tryz.ntmps29
  go_wp2_with (go_at_call 28; refine (HH.out _).mono ?_; rintro e w1 ⟨rfl, hw1⟩; rw [hw1]; clear hw1 w1)
  · go_ret
    subst h
    exact ⟨o, c, rfl, HB.out.fr (Fr.set _) HN.out, by omega, hcl, ⟨_, _, HA.out rfl⟩, Fr.set _⟩
  · go_ret
    exact ⟨o, c, rfl, HB.out.fr (Fr.set _) HN.out, by omega, hcl, ⟨_, _, HT.out⟩, Fr.set _⟩
set_option maxHeartbeats 2000000 in
set_option maxRecDepth 100000 in
theorem take_no {rb g : Nat} {L : List UInt8} (z : Int) (w : World) (h : Rc w rb g L) (hk : (L.length : Int) < z) :
    Calls Tryz.prog 29 #[.pointer (some ⟨rb, 0, none⟩), .int .i64 z] w fun e w' => e = thrown ∧ Fr rb w w' := by
  obtain ⟨o, c, h⟩ := h
  obtain ⟨c0, cf⟩ := h.cells
  have i1 : ¬ z ≤ (L.length : Int) := by omega
  have HH := Hid.mk' hold_no
  clear h
  go_enter Tryz.func29, Tryz.ntmps29
  go_wp2_with (go_at_call 28; refine (HH.out _).mono ?_; rintro e w1 ⟨rfl, hw1⟩; rw [hw1]; clear hw1 w1)
  exact ⟨rfl, rfl, Fr.refl _ _⟩
end Go.Proofs.YtkgjmiadgfcbnaaGreatDoor
