/- lex's reader in memory; small functions of lex. -/
import Derived.Test.YtopdogpcachonaaGreatDoorLRng
import Derived.Test.YtopdogpcachonaaGreatDoorLNm
import Derived.Test.YtopdogpcachonaaGreatDoorSb
import Derived.Test.YtopdogpcachonaaGreatDoorOwn
import Derived.Test.YtopdogpcachonaaGreatDoorLaidN
import Derived.Test.YtopdogpcachonaaGreatDoorShelf
import Derived.Shelf.RegionOpen
namespace Go.Proofs.YtopdogpcachonaaGreatDoor
set_option linter.unusedVariables false
open Go.RowKit Go.Shelf

/-- The reader: its source, where it stands, where its token began, the braces that are open. -/
structure Rdr (B : Nat) (W : World) (rb : Nat) (S : ByteArray) (at' from' : Int) (ov : Value) (op : List Int) : Prop where
  blk : W.heap[rb]? = some (.cells #[.string S, .int .i64 at', .int .i64 from', ov] 68 (0, 0))
  own : W.ownsRow B 3 1 ov op.length (op.map (.int .i64 ·))
  ge : B ≤ rb
theorem Rdr.lt {B : Nat} {W : World} {rb : Nat} {S : ByteArray} {a f : Int} {ov : Value} {op : List Int} (h : Rdr B W rb S a f ov op) : rb < W.heap.size := (Array.getElem?_eq_some_iff.1 h.blk).1
theorem Rdr.cells {B : Nat} {W : World} {rb : Nat} {S : ByteArray} {a f : Int} {ov : Value} {op : List Int} (h : Rdr B W rb S a f ov op) :
    W.cell? ⟨rb, 0, none⟩ = some (.string S) ∧ W.cell? ⟨rb, 1, none⟩ = some (.int .i64 a) ∧ W.cell? ⟨rb, 2, none⟩ = some (.int .i64 f) ∧ W.cell? ⟨rb, 3, none⟩ = some ov ∧ (∀ j, W.frozen? ⟨rb, j, none⟩ = false) := by
  refine ⟨?_, ?_, ?_, ?_, fun j => ?_⟩
  · rw [cell_of_row _ rb 0 _ _ _ h.blk]; rfl
  · rw [cell_of_row _ rb 1 _ _ _ h.blk]; rfl
  · rw [cell_of_row _ rb 2 _ _ _ h.blk]; rfl
  · rw [cell_of_row _ rb 3 _ _ _ h.blk]; rfl
  · unfold World.frozen?
    simp only [h.blk]
    simp
theorem own_ne {w : World} {B rb : Nat} {ov : Value} {op : List Int} {c : Array Value} (h : w.ownsRow B 3 1 ov op.length (op.map (.int .i64 ·))) (hb : w.heap[rb]? = some (.cells c 68 (0, 0))) : ov.ownBlock ≠ some rb := fun e => by
  obtain ⟨c', fz, h'⟩ := kind_own h rb e
  rw [hb] at h'
  cases h'
theorem set_block {W : World} {rb o : Nat} {c : Array Value} {t : TypeId} {m} (v : Value) (h : W.heap[rb]? = some (.cells c t m)) : (W.setCell ⟨rb, o, none⟩ v).heap[rb]? = some (.cells (c.setIfInBounds o v) t m) := by
  simp only [World.setCell, Array.getElem?_modify, h]
  rw [if_pos trivial]
  rfl
theorem own_set {W : World} {B : Nat} {e : TypeId} {sz : Nat} {v : Value} {n : Nat} {xs : List Value} {rb o : Nat} (u : Value) (h : W.ownsRow B e sz v n xs) (hne : v.ownBlock ≠ some rb) : (W.setCell ⟨rb, o, none⟩ u).ownsRow B e sz v n xs := by
  refine ⟨h.1, ?_⟩
  rcases h.2 with hn | ⟨g, cap, cur, rfl, hB, hg, rest⟩
  · exact .inl hn
  · refine .inr ⟨g, cap, cur, rfl, hB, ?_, rest⟩
    have : g ≠ rb := fun q => hne (by rw [q]; rfl)
    exact (Below.heap_setCell _ _ _ _ this).trans hg
theorem Rdr.setAt {B : Nat} {W : World} {rb : Nat} {S : ByteArray} {a f : Int} {ov : Value} {op : List Int} (h : Rdr B W rb S a f ov op) (z : Int) : Rdr B (W.setCell ⟨rb, 1, none⟩ (.int .i64 z)) rb S z f ov op :=
  ⟨(set_block _ h.blk).trans rfl, own_set _ h.own (own_ne h.own h.blk), h.ge⟩
theorem Rdr.setFrom {B : Nat} {W : World} {rb : Nat} {S : ByteArray} {a f : Int} {ov : Value} {op : List Int} (h : Rdr B W rb S a f ov op) (z : Int) : Rdr B (W.setCell ⟨rb, 2, none⟩ (.int .i64 z)) rb S a z ov op :=
  ⟨(set_block _ h.blk).trans rfl, own_set _ h.own (own_ne h.own h.blk), h.ge⟩
theorem Rdr.below {B : Nat} {W W' : World} {rb : Nat} {S : ByteArray} {a f : Int} {ov : Value} {op : List Int} (h : Rdr B W rb S a f ov op) (hb : Below W.heap.size W W') : Rdr B W' rb S a f ov op :=
  ⟨(hb.block rb h.lt).trans h.blk, own_below h.own hb, h.ge⟩
/-- What a method of the reader's may turn: its own block and the row of its braces; and what it lays anew. -/
def RdF (rb : Nat) (ov : Value) (k : Nat) : Prop := k ≠ rb ∧ ov.ownBlock ≠ some k
theorem RdF.set {rb o : Nat} {ov : Value} {B : Nat} {W : World} (v : Value) (hB : B ≤ rb) : TF (RdF rb ov) B W (W.setCell ⟨rb, o, none⟩ v) := TF.set v hB (fun h => h.1 rfl)
theorem Rdr.rf {B : Nat} {W W' : World} {rb : Nat} {S : ByteArray} {a f : Int} {ov : Value} {op : List Int} {F F' : Nat → Prop} (h : Rdr B W rb S a f ov op) (hr : RF F F' W W') (h1 : ¬ F rb) (h2 : ∀ k, ov.ownBlock = some k → ¬ F k) : Rdr B W' rb S a f ov op := by
  refine ⟨hr.same _ _ h1 h.blk, ⟨h.own.1, ?_⟩, h.ge⟩
  rcases h.own.2 with hn | ⟨g, cap, cur, rfl, hB, hg, rest⟩
  · exact .inl hn
  · exact .inr ⟨g, cap, cur, rfl, hB, hr.same _ _ (h2 _ rfl) hg, rest⟩

theorem TF.setNew {F : Nat → Prop} {B k o : Nat} {w X : World} (h : TF F B w X) (hk : w.heap.size ≤ k) (v : Value) : TF F B w (X.setCell ⟨k, o, none⟩ v) :=
  ⟨h.os, h.tape, h.output, by simpa [World.setCell] using h.size, fun j ob hj ho => by
    have hlt := (Array.getElem?_eq_some_iff.1 ho).1
    have hne : j ≠ k := by omega
    exact (Below.heap_setCell _ _ _ _ hne).trans (h.same j ob hj ho)⟩
theorem Rdr.setOther {B : Nat} {W : World} {rb k o : Nat} {S : ByteArray} {a f : Int} {ov : Value} {op : List Int} (h : Rdr B W rb S a f ov op) (v : Value) (h1 : k ≠ rb) (h2 : ov.ownBlock ≠ some k) : Rdr B (W.setCell ⟨k, o, none⟩ v) rb S a f ov op :=
  ⟨(Below.heap_setCell _ _ _ _ (Ne.symm h1)).trans h.blk, own_set _ h.own h2, h.ge⟩
theorem Rdr.away {B : Nat} {W : World} {rb : Nat} {S : ByteArray} {a f : Int} {ov : Value} {op : List Int} (h : Rdr B W rb S a f ov op) {k : Nat} (hk : W.heap.size ≤ k) : k ≠ rb ∧ ov.ownBlock ≠ some k :=
  ⟨fun e => by have := h.lt; omega, fun e => by have := (h.own.lt k e).2; omega⟩
/-- A new block's cells behind a turn of the reader's. -/
theorem TF.box {F : Nat → Prop} {B k : Nat} {X Y : World} {c : Array Value} {t : TypeId} (h : TF F B X Y) (hF : F k) (hb : X.heap[k]? = some (.cells c t (0, 0))) : (∀ j v, c[j]? = some v → Y.cell? ⟨k, j, none⟩ = some v) ∧ (∀ j, Y.frozen? ⟨k, j, none⟩ = false) := by
  have h' := h.same k _ (.inl hF) hb
  refine ⟨fun j v hv => by rw [cell_of_row _ k j _ _ _ h']; exact hv, fun j => ?_⟩
  unfold World.frozen?
  simp only [h']
  simp

def blankZ (z : Int) : Bool := decide (z = 9 ∨ z = 11 ∨ z = 12 ∨ z = 32 ∨ z = 160 ∨ z = 65279)
def endsZ (z : Int) : Bool := decide (z = 10 ∨ z = 13 ∨ z = 8232 ∨ z = 8233)
set_option maxHeartbeats 1000000 in
theorem isBlank_any (z : Int) (w : World) : Calls Tryz.prog 60 #[.int .i32 z] w fun e w' => e = .returned (.bool (blankZ z)) ∧ w' = w := by
  obtain ⟨r, hr⟩ : ∃ r, blankZ z = r := ⟨_, rfl⟩
  rw [hr]
  have HR : Hid (blankZ z = r) := Hid.mk' hr
  clear hr
  go_enter Tryz.func60, Tryz.ntmps60
  go_wp2
  all_goals
    go_ret
    refine ⟨ret_bool' ?_, rfl⟩
    rw [← HR.out]
    unfold blankZ
    simp_all
set_option maxHeartbeats 1000000 in
theorem endsLine_any (z : Int) (w : World) : Calls Tryz.prog 61 #[.int .i32 z] w fun e w' => e = .returned (.bool (endsZ z)) ∧ w' = w := by
  obtain ⟨r, hr⟩ : ∃ r, endsZ z = r := ⟨_, rfl⟩
  rw [hr]
  have HR : Hid (endsZ z = r) := Hid.mk' hr
  clear hr
  go_enter Tryz.func61, Tryz.ntmps61
  go_wp2
  all_goals
    go_ret
    refine ⟨ret_bool' ?_, rfl⟩
    rw [← HR.out]
    unfold endsZ
    simp_all
set_option maxHeartbeats 1000000 in
set_option maxRecDepth 100000 in
theorem decode_nil (w : World) : Calls Tryz.prog 57 #[.string ⟨#[]⟩] w fun e w' => e = .returned (.tuple #[.int .i32 65533, .int .i64 0]) ∧ w' = w := by
  go_enter Tryz.func57, Tryz.ntmps57
  go_wp2
  go_ret2
  exact ⟨rfl, rfl⟩
set_option maxHeartbeats 1000000 in
theorem clone_l (s : ByteArray) (w : World) (hs : s.size ≤ 281474976710656) : Calls Tryz.prog 97 #[.string s] w fun e w' => e = .returned (.string s) ∧ Below w.heap.size w w' := by
  have H := Hid.mk' (fun W => Tryz.stringslite_Clone s W hs)
  go_enter Tryz.func97, Tryz.ntmps97
  go_wp2_with fail
  refine (H.out _).mono ?_
  rintro e w1 ⟨rfl, b1⟩
  go_wp2
  go_ret
  exact ⟨rfl, b1⟩
theorem below_drew {X w1 : World} (h : Below X.drew.heap.size X.drew w1) : Below X.heap.size X w1 := ((Below.refl _ X).drew).trans h
set_option maxHeartbeats 2000000 in
set_option maxRecDepth 100000 in
/-- take passes over some bytes and answers them. -/
theorem take_any {B : Nat} {rb : Nat} {S : ByteArray} {a f : Int} {ov : Value} {op : List Int} (k : Nat) (an : Nat) (w : World) (ha : a = an) (h : Rdr B w rb S a f ov op) (hs : (S.size : Int) ≤ 262144) (hk : an + k ≤ S.size) :
    Calls Tryz.prog 84 #[.pointer (some ⟨rb, 0, none⟩), .int .i64 k] w fun e w' => e = .returned (.string (S.extract an (an + k))) ∧ Rdr B w' rb S ((an + k : Nat) : Int) f ov op ∧ TF (RdF rb ov) B w w' := by
  subst ha
  obtain ⟨c0, c1, c2, c3, cf⟩ := h.cells
  have hR := h.setAt ((an + k : Nat) : Int)
  have e1 : ((an + k : Nat) : Int) = (an : Int) + (k : Int) := by omega
  rw [e1] at hR
  have HR := Hid.mk' hR
  obtain ⟨d0, d1, d2, d3, df⟩ := hR.cells
  have i1 : (an : Int) + (k : Int) ≤ (S.size : Int) := by omega
  have HG := Hid.mk' h.ge
  have HC := Hid.mk' (fun W => clone_l (S.extract an (an + k)) W (by simp; omega))
  clear h hR
  go_enter Tryz.func84, Tryz.ntmps84
  go_wp2_with fail
  go_region_with (go_at_call 97; refine (HC.out _).mono ?_; rintro e w1 ⟨rfl, b1⟩)
  all_goals
    have b2 := below_drew b1
    go_wp2
    go_ret
    exact ⟨rfl, by rw [show ((an + k : Nat) : Int) = (an : Int) + (k : Int) by omega]; exact HR.out.below b2, (RdF.set _ HG.out).trans (TF.of_below b2)⟩
end Go.Proofs.YtopdogpcachonaaGreatDoor
