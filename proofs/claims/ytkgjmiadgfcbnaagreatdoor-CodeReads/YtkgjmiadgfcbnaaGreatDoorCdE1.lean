/- Package code's writer: bytes, small numbers, flags. -/
import Derived.Test.YtkgjmiadgfcbnaaGreatDoorCdK
import Derived.Lib.AppendStr
namespace Go.Proofs.YtkgjmiadgfcbnaaGreatDoor
set_option linter.unusedVariables false
set_option linter.unusedSimpArgs false
open Go.RowKit

/-- The writer in memory: what it has written. -/
structure Wt (W : World) (B wb : Nat) (v : Value) (l : List UInt8) : Prop where
  blk : W.heap[wb]? = some (.cells #[v, .int .i64 (l.length : Int)] 56 (0, 0))
  own : W.ownsRow B 5 1 v l.length (Lib.byteCells l)
  lt : wb < B
/-- All blocks but the writer's stand. -/
structure Fo (B wb : Nat) (W W' : World) : Prop where
  os : W'.os = W.os
  tape : W'.tape = W.tape
  output : W'.output = W.output
  size : W.heap.size ≤ W'.heap.size
  same : ∀ (k : Nat) (o : Obj), k ≠ wb → (k < B ∨ ∀ c fz, o ≠ .cells c 5 fz) → W.heap[k]? = some o → W'.heap[k]? = some o
/-- A method of the writer's. -/
def Wrt (B wb : Nat) (l : List UInt8) (w : World) (e : Ending) (w' : World) : Prop :=
  e = .returned (.tuple #[]) ∧ (∃ v', Wt w' B wb v' l) ∧ Fo B wb w w'
theorem Fo.trans {B wb : Nat} {X Y Z : World} (h : Fo B wb X Y) (g : Fo B wb Y Z) : Fo B wb X Z :=
  ⟨g.os.trans h.os, g.tape.trans h.tape, g.output.trans h.output, Nat.le_trans h.size g.size, fun k o hk hv ho => g.same k o hk hv (h.same k o hk hv ho)⟩
theorem Fo.refl (B wb : Nat) (X : World) : Fo B wb X X := ⟨rfl, rfl, rfl, Nat.le_refl _, fun _ _ _ _ h => h⟩
theorem Fo.of_below {B wb : Nat} {X Y : World} (h : Below X.heap.size X Y) : Fo B wb X Y := ⟨h.os, h.tape, h.output, h.size, fun k o _ _ ho => (h.block k (Array.getElem?_eq_some_iff.1 ho).1).trans ho⟩
theorem Fo.set {B wb o : Nat} {W : World} (v : Value) : Fo B wb W (W.setCell ⟨wb, o, none⟩ v) :=
  ⟨rfl, rfl, rfl, by simp [World.setCell], fun j ob hj _ ho => (Below.heap_setCell _ _ _ _ hj).trans ho⟩
theorem Fo.setNew {B wb k o : Nat} {w X : World} (h : Fo B wb w X) (hk : w.heap.size ≤ k) (v : Value) : Fo B wb w (X.setCell ⟨k, o, none⟩ v) :=
  ⟨h.os, h.tape, h.output, by simpa [World.setCell] using h.size, fun j ob hj hv ho => by
    have hlt := (Array.getElem?_eq_some_iff.1 ho).1
    have hne : j ≠ k := by omega
    exact (Below.heap_setCell _ _ _ _ hne).trans (h.same j ob hj hv ho)⟩
theorem Fo.grown {wb B n : Nat} {v : Value} {xs : List Value} {X Y : World} (h : X.ownsRow B 5 1 v n xs) (hg : X.grownBy Y v.ownBlock) : Fo B wb X Y :=
  ⟨hg.os, hg.tape, hg.output, hg.size, fun k o _ hv ho => (hg.block k (Array.getElem?_eq_some_iff.1 ho).1 (fun e => by
    rcases hv with hv | hv
    · have := own_ge h k e.symm
      omega
    · obtain ⟨c, fz, h1⟩ := kind_own h k e.symm
      rw [ho] at h1
      cases h1
      exact hv _ _ rfl)).trans ho⟩
theorem Wt.below {X Y : World} {B wb : Nat} {v : Value} {l : List UInt8} (h : Wt X B wb v l) (hb : Below X.heap.size X Y) : Wt Y B wb v l :=
  ⟨(hb.block wb (Array.getElem?_eq_some_iff.1 h.blk).1).trans h.blk, own_below h.own hb, h.lt⟩
theorem Wt.size {X : World} {B wb : Nat} {v : Value} {l : List UInt8} (h : Wt X B wb v l) : wb < X.heap.size := (Array.getElem?_eq_some_iff.1 h.blk).1
theorem LaidL.fo {B wb : Nat} {W W' : World} (h : LaidL W) (f : Fo B wb W W') (hg : 1 < B) (hr : 1 ≠ wb) : LaidL W' := fun k hk => by
  have h1 := h k hk
  have hlt : 1 < W.heap.size := World.block_lt_of_cell? W _ h1
  have h2 : W.heap[1]? = some W.heap[1] := Array.getElem?_eq_getElem hlt
  have h3 := f.same _ _ hr (.inl hg) h2
  have e : W'.cell? ⟨1, k, none⟩ = W.cell? ⟨1, k, none⟩ := by simp only [World.cell?, h2, h3]
  rw [e, h1]
/-- A box, behind the writer's methods. -/
theorem Fo.box {B wb k : Nat} {X Y : World} {c : Array Value} {t : TypeId} (h : Fo B wb X Y) (hk : k ≠ wb) (ht : t ≠ 5) (hb : X.heap[k]? = some (.cells c t (0, 0))) : Y.heap[k]? = some (.cells c t (0, 0)) :=
  h.same k _ hk (.inr fun c' fz e => by cases e; exact ht rfl) hb
set_option maxHeartbeats 2000000 in
set_option maxRecDepth 100000 in
theorem putByte_any {B wb : Nat} {v : Value} {l : List UInt8} (b : UInt8) (w : World) (h : Wt w B wb v l) (hl : l.length ≤ 1000) (hB : B ≤ w.heap.size) :
    Calls Tryz.prog 79 #[.pointer (some ⟨wb, 0, none⟩), .int .u8 (b.toNat : Int)] w fun e w' => Wrt B wb (l ++ [b]) w e w' := by
  obtain ⟨i0, hi, hz0, hz1, hz2⟩ := info_parts info8
  obtain ⟨av, cv, hv, _⟩ := own_slice' h.own
  subst hv
  have c0 : w.cell? ⟨wb, 0, none⟩ = some (.slice av l.length cv) := (cell_row _ wb 0 _ _ h.blk).trans rfl
  have c1 : w.cell? ⟨wb, 1, none⟩ = some (.int .i64 (l.length : Int)) := (cell_row _ wb 1 _ _ h.blk).trans rfl
  have cf := thaw_row _ _ _ _ h.blk
  obtain ⟨n, hn⟩ : ∃ n, l.length = n := ⟨_, rfl⟩
  have HH := Hid.mk' h
  rw [hn] at c0 c1 hl
  obtain ⟨X1, hX1⟩ : ∃ X, w.setCell ⟨wb, 1, none⟩ (.int .i64 ((n : Int) + 1)) = X := ⟨_, rfl⟩
  have hO1 : X1.ownsRow B 5 1 (.slice av n cv) n (Lib.byteCells l) := by
    rw [← hX1]
    have := own_setNew (k := wb) (o := 1) h.own h.lt (.int .i64 ((n : Int) + 1))
    rw [hn] at this
    exact this
  have hbk : X1.heap[wb]? = some (.cells #[.slice av n cv, .int .i64 ((n : Int) + 1)] 56 (0, 0)) := by
    rw [← hX1, set_blk _ h.blk, hn]
    rfl
  have hs1 : X1.heap.size = w.heap.size := by rw [← hX1]; simp [World.setCell]
  obtain ⟨X2, hX2⟩ : ∃ X, X1.alloc (.cells #[.int .u8 (b.toNat : Int)] 5) = X := ⟨_, rfl⟩
  have b2 : Below X1.heap.size X1 X2 := by rw [← hX2]; exact lay_below
  have hC2 : ∀ (j : Nat) (u : Value), ([.int .u8 (b.toNat : Int)] : List Value)[j]? = some u → X2.cell? (Addr.add ⟨X1.heap.size, 0, none⟩ j) = some u := by rw [← hX2]; exact row_cells
  have HO2 := Hid.mk' (own_below hO1 b2)
  have HC2 := Hid.mk' hC2
  have HB2 := Hid.mk' b2
  have HBK2 := Hid.mk' ((b2.block wb (Array.getElem?_eq_some_iff.1 hbk).1).trans hbk)
  have HZ2 : Hid (B ≤ X2.heap.size) := Hid.mk' (by have := b2.size; omega)
  obtain ⟨b1, hb1⟩ : ∃ b1, X1.heap.size = b1 := ⟨_, rfl⟩
  rw [hb1] at HC2
  have i1 : (n : Int) + 1 ≤ 4194304 := by omega
  have e0 : X1.cell? ⟨wb, 0, none⟩ = some (.slice av n cv) := (cell_row _ wb 0 _ _ hbk).trans rfl
  have e1 : X1.cell? ⟨wb, 1, none⟩ = some (.int .i64 ((n : Int) + 1)) := (cell_row _ wb 1 _ _ hbk).trans rfl
  have HX1 := Hid.mk' hX1
  have HS1 := Hid.mk' hs1
  have HN := Hid.mk' hn
  clear h hO1 hbk b2 hC2 hn hs1
  go_enter Tryz.func79, Tryz.ntmps79
  go_wp2_with (at_builtin; refine wpList_append_own_at _ rfl _ _ 22 rfl B 5 i0 (.int .u8 0) 1 1 Tryz.underlying22 hi hz0 hz1 hz2 rfl (by decide) _ _ _ rfl HO2.out ⟨b1, 0, none⟩ 1 1 [.int .u8 (b.toNat : Int)] rfl rfl HC2.out ?c2 (by unfold maxLen; omega) (by omega) HZ2.out ?_)
  case c2 =>
    intro u hu
    rw [List.mem_singleton.1 hu]
    rfl
  intro v' w4 ho hg _ _
  have nb : (Value.slice av n cv).ownBlock ≠ some wb := fun e => by have := own_ge HO2.out wb e; have := HH.out.lt; omega
  have hk4 := (hg.block wb (Array.getElem?_eq_some_iff.1 HBK2.out).1 (Ne.symm nb)).trans HBK2.out
  have z0 : w4.cell? ⟨wb, 0, none⟩ = some (.slice av n cv) := (cell_row _ wb 0 _ _ hk4).trans rfl
  have zf := thaw_row _ _ _ _ hk4
  obtain ⟨a4, c4, hv4, _⟩ := own_slice' ho
  subst hv4
  have HFO : Hid (Fo B wb w w4) := Hid.mk' (((by rw [← HX1.out]; exact Fo.set _ : Fo B wb w X1).trans (Fo.of_below HB2.out)).trans (Fo.grown HO2.out hg))
  have HWT : Hid (Wt (w4.setCell ⟨wb, 0, none⟩ (.slice a4 (n + 1) c4)) B wb (.slice a4 (n + 1) c4) (l ++ [b])) := Hid.mk' ⟨by
      rw [set_blk _ hk4, List.length_append, List.length_singleton, HN.out]
      simp, by
      refine own_setNew ?_ HH.out.lt _
      rw [List.length_append, List.length_singleton, HN.out]
      simpa [Lib.byteCells] using ho, HH.out.lt⟩
  clear ho hg hk4
  go_wp2
  exact bodyPost_ret (v := .tuple #[]) (results_none rfl _ _ _) rfl ⟨rfl, ⟨_, HWT.out⟩, HFO.out.trans (Fo.set _)⟩
set_option maxHeartbeats 2000000 in
set_option maxRecDepth 100000 in
theorem put_any {B wb : Nat} {v : Value} {l : List UInt8} (t : List UInt8) (w : World) (h : Wt w B wb v l) (hl : l.length ≤ 1000) (ht : t.length ≤ 100) (hB : B ≤ w.heap.size) :
    Calls Tryz.prog 37 #[.pointer (some ⟨wb, 0, none⟩), .string (Sb t)] w fun e w' => Wrt B wb (l ++ t) w e w' := by
  obtain ⟨i0, hi, hz0, hz1, hz2⟩ := info_parts info8
  obtain ⟨av, cv, hv, _⟩ := own_slice' h.own
  subst hv
  have c0 : w.cell? ⟨wb, 0, none⟩ = some (.slice av l.length cv) := (cell_row _ wb 0 _ _ h.blk).trans rfl
  have c1 : w.cell? ⟨wb, 1, none⟩ = some (.int .i64 (l.length : Int)) := (cell_row _ wb 1 _ _ h.blk).trans rfl
  have cf := thaw_row _ _ _ _ h.blk
  obtain ⟨n, hn⟩ : ∃ n, l.length = n := ⟨_, rfl⟩
  have hsz : (Sb t).size = t.length := Sb_size t
  obtain ⟨m, hm⟩ : ∃ m, t.length = m := ⟨_, rfl⟩
  rw [hm] at hsz ht
  have HT : Hid (Lib.strCells (Sb t) = Lib.byteCells t) := Hid.mk' (by unfold Lib.strCells Lib.byteCells; rw [Sb_list])
  obtain ⟨s, hs⟩ : ∃ s, Sb t = s := ⟨_, rfl⟩
  rw [hs] at hsz HT ⊢
  have HH := Hid.mk' h
  rw [hn] at c0 c1 hl
  have hszi : (s.size : Int) = (m : Int) := by omega
  obtain ⟨X1, hX1⟩ : ∃ X, w.setCell ⟨wb, 1, none⟩ (.int .i64 ((n : Int) + (m : Int))) = X := ⟨_, rfl⟩
  have hO1 : X1.ownsRow B 5 1 (.slice av n cv) n (Lib.byteCells l) := by
    rw [← hX1]
    have := own_setNew (k := wb) (o := 1) h.own h.lt (.int .i64 ((n : Int) + (m : Int)))
    rw [hn] at this
    exact this
  have hbk : X1.heap[wb]? = some (.cells #[.slice av n cv, .int .i64 ((n : Int) + (m : Int))] 56 (0, 0)) := by
    rw [← hX1, set_blk _ h.blk, hn]
    rfl
  have hs1 : X1.heap.size = w.heap.size := by rw [← hX1]; simp [World.setCell]
  have HO2 := Hid.mk' hO1
  have HBK2 := Hid.mk' hbk
  have HZ2 : Hid (B ≤ X1.heap.size) := Hid.mk' (by omega)
  have i1 : (n : Int) + (m : Int) ≤ 4194304 := by omega
  have e0 : X1.cell? ⟨wb, 0, none⟩ = some (.slice av n cv) := (cell_row _ wb 0 _ _ hbk).trans rfl
  have e1 : X1.cell? ⟨wb, 1, none⟩ = some (.int .i64 ((n : Int) + (m : Int))) := (cell_row _ wb 1 _ _ hbk).trans rfl
  have HX1 := Hid.mk' hX1
  have HN := Hid.mk' hn
  have HM := Hid.mk' hm
  have HSZ := Hid.mk' hsz
  clear h hO1 hbk hn hs1 hm hs hsz
  go_enter Tryz.func37, Tryz.ntmps37
  go_wp2_with (at_builtin; refine Lib.wpList_append_own_string _ rfl _ _ 22 9 rfl B 5 i0 Tryz.underlying22 Tryz.underlying9 hi hz0 hz1 hz2 _ _ _ rfl HO2.out s rfl (by unfold maxLen; omega) (by omega) HZ2.out ?_)
  intro v' w4 ho hg _
  have nb : (Value.slice av n cv).ownBlock ≠ some wb := fun e => by have := own_ge HO2.out wb e; have := HH.out.lt; omega
  have hk4 := (hg.block wb (Array.getElem?_eq_some_iff.1 HBK2.out).1 (Ne.symm nb)).trans HBK2.out
  have z0 : w4.cell? ⟨wb, 0, none⟩ = some (.slice av n cv) := (cell_row _ wb 0 _ _ hk4).trans rfl
  have zf := thaw_row _ _ _ _ hk4
  rw [HSZ.out, HT.out] at ho
  obtain ⟨a4, c4, hv4, _⟩ := own_slice' ho
  subst hv4
  have HFO : Hid (Fo B wb w w4) := Hid.mk' ((by rw [← HX1.out]; exact Fo.set _ : Fo B wb w X1).trans (Fo.grown HO2.out hg))
  have HWT : Hid (Wt (w4.setCell ⟨wb, 0, none⟩ (.slice a4 (n + m) c4)) B wb (.slice a4 (n + m) c4) (l ++ t)) := Hid.mk' ⟨by
      rw [set_blk _ hk4, List.length_append, HN.out, HM.out]
      simp, by
      refine own_setNew ?_ HH.out.lt _
      rw [List.length_append, HN.out, HM.out]
      simpa [Lib.byteCells] using ho, HH.out.lt⟩
  clear ho hg hk4
  go_wp2
  exact bodyPost_ret (v := .tuple #[]) (results_none rfl _ _ _) rfl ⟨rfl, ⟨_, HWT.out⟩, HFO.out.trans (Fo.set _)⟩
set_option maxHeartbeats 1000000 in
set_option maxRecDepth 100000 in
/-- A number of one byte. -/
theorem wnum_small {B wb : Nat} {v : Value} {l : List UInt8} (b : UInt8) (z : Int) (hz : (b.toNat : Int) = z) (h128 : b.toNat < 128) (w : World) (h : Wt w B wb v l) (hl : l.length ≤ 1000) (hB : B ≤ w.heap.size) :
    Calls Tryz.prog 58 #[.pointer (some ⟨wb, 0, none⟩), .int .i64 z] w fun e w' => Wrt B wb (l ++ [b]) w e w' := by
  have HP := Hid.mk' (putByte_any b w h hl hB)
  rw [hz] at HP
  have HH := Hid.mk' hold_ok
  have i0 : 0 ≤ z := by omega
  have i1 : ¬ 128 ≤ z := by omega
  have hw : IntKind.u8.wrap z = z := by rw [IntKind.wrap_u8]; omega
  clear h hz h128
  go_enter Tryz.func58, Tryz.ntmps58
  go_wp2_with (go_at_call 28; refine (HH.out _).mono ?_; rintro e w1 ⟨rfl, hw1⟩; rw [hw1]; clear hw1 w1)
  go_loop [1] (fun v => v = .int .i64 z) (fun v => 0)
  case atStart => exact rfl
  case round =>
    subst hrel
    go_wp2_with fail
    refine HP.out.mono ?_
    rintro e w1 ⟨rfl, hW, hF⟩
    go_wp2
    exact bodyPost_ret (v := .tuple #[]) (results_none rfl _ _ _) rfl ⟨rfl, hW, hF⟩
set_option maxHeartbeats 1000000 in
set_option maxRecDepth 100000 in
theorem wflag_no {B wb : Nat} {v : Value} {l : List UInt8} (w : World) (h : Wt w B wb v l) (hl : l.length ≤ 1000) (hB : B ≤ w.heap.size) :
    Calls Tryz.prog 60 #[.pointer (some ⟨wb, 0, none⟩), .bool false] w fun e w' => Wrt B wb (l ++ [0]) w e w' := by
  have HP := Hid.mk' (wnum_small 0 0 rfl (by decide) w h hl hB)
  clear h
  go_enter Tryz.func60, Tryz.ntmps60
  go_wp2_with fail
  refine HP.out.mono ?_
  rintro e w1 ⟨rfl, hW, hF⟩
  go_wp2
  exact bodyPost_ret (v := .tuple #[]) (results_none rfl _ _ _) rfl ⟨rfl, hW, hF⟩
set_option maxHeartbeats 1000000 in
set_option maxRecDepth 100000 in
theorem wtext_nil {B wb : Nat} {v : Value} {l : List UInt8} (w : World) (h : Wt w B wb v l) (hl : l.length ≤ 900) (hB : B ≤ w.heap.size) :
    Calls Tryz.prog 59 #[.pointer (some ⟨wb, 0, none⟩), .string ⟨#[]⟩] w fun e w' => Wrt B wb (l ++ [0]) w e w' := by
  have HP := Hid.mk' (wnum_small 0 0 rfl (by decide) w h (by omega) hB)
  have HQ := Hid.mk' (fun v' W (hW : Wt W B wb v' (l ++ [0])) (hBW : B ≤ W.heap.size) => put_any [] W hW (by simp; omega) (by simp) hBW)
  have HH := Hid.mk' hold_ok
  clear h
  go_enter Tryz.func59, Tryz.ntmps59
  go_wp2_with (go_at_call 28; refine (HH.out _).mono ?_; rintro e w1 ⟨rfl, hw1⟩; rw [hw1]; clear hw1 w1)
  refine HP.out.mono ?_
  rintro e w1 ⟨rfl, ⟨v1, hW⟩, hF⟩
  have HN := Hid.mk' (HQ.out v1 w1 hW (Nat.le_trans hB hF.size))
  have HF := Hid.mk' hF
  clear hW hF
  go_wp2_with fail
  refine HN.out.mono ?_
  rintro e w2 ⟨rfl, ⟨v2, hW⟩, hF⟩
  rw [List.append_nil] at hW
  go_wp2
  exact bodyPost_ret (v := .tuple #[]) (results_none rfl _ _ _) rfl ⟨rfl, ⟨_, hW⟩, HF.out.trans hF⟩
end Go.Proofs.YtkgjmiadgfcbnaaGreatDoor
