/- Package code: Encode, at the chapter's example. -/
import Derived.Test.YtkgjmiadgfcbnaaGreatDoorCdE4
namespace Go.Proofs.YtkgjmiadgfcbnaaGreatDoor
set_option linter.unusedVariables false
set_option linter.unusedSimpArgs false
open Go.RowKit

set_option maxHeartbeats 2000000 in
set_option maxRecDepth 100000 in
theorem wlistF_ex {B wb gi gf c : Nat} {v : Value} {l : List UInt8} (w : World) (h : Wt w B wb v l) (hl : l.length ≤ 300) (hB : B ≤ w.heap.size) (hL : LaidL w) (hr : 1 ≠ wb) (hg : 1 < B) (hx : w.heap[gi]? = some (.cells exRow 35 (0, 0))) (hgi : gi ≠ wb) (hy : w.heap[gf]? = some (.cells #[.string ⟨#[]⟩, .int .i64 0, .bool false, .bool false, .int .i64 1, .slice none 0 0, .slice (some ⟨gi, 0, none⟩) 2 2, .slice none 0 0, .slice none 0 0] 42 (0, 0))) (hgf : gf ≠ wb) :
    Calls Tryz.prog 38 #[.pointer (some ⟨wb, 0, none⟩), .slice (some ⟨gf, 0, none⟩) 1 c, .func (.func 39) #[.pointer (some ⟨wb, 0, none⟩)] #[]] w fun e w' => Wrt B wb (l ++ 1 :: exF) w e w' := by
  have HP := Hid.mk' (wnum_small 1 1 rfl (by decide) w h (by omega) hB)
  have HI : Hid (∀ v' W, Wt W B wb v' (l ++ [1]) → Fo B wb w W → Calls Tryz.prog 39 #[.pointer (some ⟨wb, 0, none⟩), .agg #[.string ⟨#[]⟩, .int .i64 0, .bool false, .bool false, .int .i64 1, .slice none 0 0, .slice (some ⟨gi, 0, none⟩) 2 2, .slice none 0 0, .slice none 0 0]] W fun e w' => Wrt B wb (l ++ 1 :: exF) W e w') := Hid.mk' (fun v' W hW hF => by
    have := wfun_ex W hW (by simp; omega) (Nat.le_trans hB hF.size) (hL.fo hF hg hr) hr hg (hF.box hgi (by decide) hx) hgi
    simpa using this)
  have HY := Hid.mk' hy
  have HG := Hid.mk' hgf
  clear h hL hx hy
  go_enter Tryz.func38, Tryz.ntmps38
  go_wp2_with fail
  refine HP.out.mono ?_
  rintro e w1 ⟨rfl, ⟨v1, hW⟩, hF⟩
  have HW1 := Hid.mk' hW
  have HF1 := Hid.mk' hF
  clear hW hF
  go_wp2
  go_loopw [14] (fun iv wr => (iv = .int .i64 0 ∧ Hid (∃ v', Wt wr B wb v' (l ++ [1])) ∧ Hid (Fo B wb w wr)) ∨ (iv = .int .i64 1 ∧ Hid (∃ v', Wt wr B wb v' (l ++ 1 :: exF)) ∧ Hid (Fo B wb w wr))) (fun iv wr => 1 - (intOf iv).toNat)
  case atStart => exact .inl ⟨rfl, Hid.mk' ⟨v1, HW1.out⟩, HF1⟩
  case round =>
    rcases hrel with ⟨rfl, HW, HF⟩ | ⟨rfl, HW, HF⟩
    · have hb := HF.out.box HG.out (by decide) HY.out
      have r0 : wr.cell? ⟨gf, 0, none⟩ = some (.string ⟨#[]⟩) := (cell_row _ gf 0 _ _ hb).trans rfl
      have r1 : wr.cell? ⟨gf, 1, none⟩ = some (.int .i64 0) := (cell_row _ gf 1 _ _ hb).trans rfl
      have r2 : wr.cell? ⟨gf, 2, none⟩ = some (.bool false) := (cell_row _ gf 2 _ _ hb).trans rfl
      have r3 : wr.cell? ⟨gf, 3, none⟩ = some (.bool false) := (cell_row _ gf 3 _ _ hb).trans rfl
      have r4 : wr.cell? ⟨gf, 4, none⟩ = some (.int .i64 1) := (cell_row _ gf 4 _ _ hb).trans rfl
      have r5 : wr.cell? ⟨gf, 5, none⟩ = some (.slice none 0 0) := (cell_row _ gf 5 _ _ hb).trans rfl
      have r6 : wr.cell? ⟨gf, 6, none⟩ = some (.slice (some ⟨gi, 0, none⟩) 2 2) := (cell_row _ gf 6 _ _ hb).trans rfl
      have r7 : wr.cell? ⟨gf, 7, none⟩ = some (.slice none 0 0) := (cell_row _ gf 7 _ _ hb).trans rfl
      have r8 : wr.cell? ⟨gf, 8, none⟩ = some (.slice none 0 0) := (cell_row _ gf 8 _ _ hb).trans rfl
      obtain ⟨v', hW⟩ := HW.out
      have HN : Hid (∀ W, Below wr.heap.size wr W → Calls Tryz.prog 39 #[.pointer (some ⟨wb, 0, none⟩), .agg #[.string ⟨#[]⟩, .int .i64 0, .bool false, .bool false, .int .i64 1, .slice none 0 0, .slice (some ⟨gi, 0, none⟩) 2 2, .slice none 0 0, .slice none 0 0]] W fun e w' => Wrt B wb (l ++ 1 :: exF) W e w') := Hid.mk' (fun W hb => HI.out v' W (hW.below hb) (HF.out.trans (Fo.of_below hb)))
      clear hb hW
      go_wp2_with fail
      refine (HN.out _ lay_below).mono ?_
      rintro e w4 ⟨rfl, hW4, hF4⟩
      have HW4 := Hid.mk' hW4
      have HF4 := Hid.mk' ((HF.out.trans (Fo.of_below lay_below)).trans hF4)
      clear hW4 hF4
      go_wp2
      go_roundw
      case rel => exact .inr ⟨by go_num, HW4, HF4⟩
      case measure => simp [intOf]
    · go_wp2
      exact bodyPost_ret (v := .tuple #[]) (results_none rfl _ _ _) rfl ⟨rfl, HW.out, HF.out⟩
set_option maxHeartbeats 2000000 in
set_option maxRecDepth 100000 in
theorem wmodule_ex {B wb gi gf : Nat} {v : Value} (w : World) (h : Wt w B wb v []) (hB : B ≤ w.heap.size) (hL : LaidL w) (hr : 1 ≠ wb) (hg : 1 < B) (hx : w.heap[gi]? = some (.cells exRow 35 (0, 0))) (hgi : gi ≠ wb) (hy : w.heap[gf]? = some (.cells #[.string ⟨#[]⟩, .int .i64 0, .bool false, .bool false, .int .i64 1, .slice none 0 0, .slice (some ⟨gi, 0, none⟩) 2 2, .slice none 0 0, .slice none 0 0] 42 (0, 0))) (hgf : gf ≠ wb) :
    Calls Tryz.prog 17 #[.pointer (some ⟨wb, 0, none⟩), .agg #[.slice (some ⟨gf, 0, none⟩) 1 1]] w fun e w' => Wrt B wb (magic ++ 1 :: exF) w e w' := by
  have hmf : ∀ (fn : Fn) (first cap : Array Value) (w : World), (Instr.makeFunc fn first cap).run Tryz.prog w = .ok (.func fn first cap) w := fun _ _ _ _ => rfl
  obtain ⟨W1, hW1⟩ : ∃ W1, w.alloc (.cells #[.slice (some ⟨gf, 0, none⟩) 1 1] 26) = W1 := ⟨_, rfl⟩
  have b1 : Below w.heap.size w W1 := by rw [← hW1]; exact lay_below
  have q1 : W1.heap[w.heap.size]? = some (.cells #[.slice (some ⟨gf, 0, none⟩) 1 1] 26 (0, 0)) := by rw [← hW1]; exact box_new
  have HH := Hid.mk' hold_ok
  have HF0 := Hid.mk' (Fo.of_below (B := B) (wb := wb) b1)
  have HP := Hid.mk' (put_any magic W1 (h.below b1) (by simp) (by decide) (Nat.le_trans hB b1.size))
  have HI : Hid (∀ v' W, Wt W B wb v' magic → Fo B wb w W → Calls Tryz.prog 38 #[.pointer (some ⟨wb, 0, none⟩), .slice (some ⟨gf, 0, none⟩) 1 1, .func (.func 39) #[.pointer (some ⟨wb, 0, none⟩)] #[]] W fun e w' => Wrt B wb (magic ++ 1 :: exF) W e w') := Hid.mk' (fun v' W hW hF => wlistF_ex W hW (by decide) (Nat.le_trans hB hF.size) (hL.fo hF hg hr) hr hg (hF.box hgi (by decide) hx) hgi (hF.box hgf (by decide) hy) hgf)
  have hws := h.size
  obtain ⟨bm, hbm⟩ : ∃ bm, w.heap.size = bm := ⟨_, rfl⟩
  rw [hbm] at q1 hws
  have hne : bm ≠ wb := by omega
  have HQ1 := Hid.mk' q1
  have r0 : W1.cell? ⟨bm, 0, none⟩ = some (.slice (some ⟨gf, 0, none⟩) 1 1) := (cell_row _ bm 0 _ _ q1).trans rfl
  clear h b1 hL hx hy q1
  go_enter Tryz.func17, Tryz.ntmps17
  go_wp2_with (go_at_call 28; refine (HH.out _).mono ?_; rintro e w1 ⟨rfl, hw1⟩; rw [hw1]; clear hw1 w1)
  refine HP.out.mono ?_
  rintro e w1 ⟨rfl, ⟨v1, hW⟩, hF⟩
  have q2 := hF.box hne (by decide) HQ1.out
  have HF1 := Hid.mk' (HF0.out.trans hF)
  have HN := Hid.mk' (HI.out v1 w1 (by simpa using hW) HF1.out)
  clear r0
  have r0 : w1.cell? ⟨bm, 0, none⟩ = some (.slice (some ⟨gf, 0, none⟩) 1 1) := (cell_row _ bm 0 _ _ q2).trans rfl
  clear hW hF q2
  go_wp2_with fail
  refine HN.out.mono ?_
  rintro e w2 ⟨rfl, hW, hF⟩
  go_wp2
  exact bodyPost_ret (v := .tuple #[]) (results_none rfl _ _ _) rfl ⟨rfl, hW, HF1.out.trans hF⟩
set_option maxHeartbeats 2000000 in
set_option maxRecDepth 100000 in
theorem encode1_ex {B wb gi gf bp bm : Nat} {v : Value} (w : World) (h : Wt w B wb v []) (hB : B ≤ w.heap.size) (hL : LaidL w) (hr : 1 ≠ wb) (hg : 1 < B) (hx : w.heap[gi]? = some (.cells exRow 35 (0, 0))) (hgi : gi ≠ wb) (hy : w.heap[gf]? = some (.cells #[.string ⟨#[]⟩, .int .i64 0, .bool false, .bool false, .int .i64 1, .slice none 0 0, .slice (some ⟨gi, 0, none⟩) 2 2, .slice none 0 0, .slice none 0 0] 42 (0, 0))) (hgf : gf ≠ wb) (c0 : w.cell? ⟨bp, 0, none⟩ = some (.pointer (some ⟨wb, 0, none⟩))) (c1 : w.cell? ⟨bm, 0, none⟩ = some (.slice (some ⟨gf, 0, none⟩) 1 1)) :
    Calls Tryz.prog 16 #[.pointer (some ⟨bp, 0, none⟩), .pointer (some ⟨bm, 0, none⟩)] w fun e w' => Wrt B wb (magic ++ 1 :: exF) w e w' := by
  have HM := Hid.mk' (wmodule_ex w h hB hL hr hg hx hgi hy hgf)
  clear h hL hx hy
  go_enter Tryz.func16, Tryz.ntmps16
  go_wp2_with fail
  refine HM.out.mono ?_
  rintro e w1 ⟨rfl, hW, hF⟩
  go_wp2
  exact bodyPost_ret (v := .tuple #[]) (results_none rfl _ _ _) rfl ⟨rfl, hW, hF⟩
set_option maxHeartbeats 2000000 in
set_option maxRecDepth 100000 in
theorem caughtE_ex {B wb gi gf bp bm : Nat} {v : Value} (w : World) (h : Wt w B wb v []) (hB : B ≤ w.heap.size) (hL : LaidL w) (hr : 1 ≠ wb) (hg : 1 < B) (hx : w.heap[gi]? = some (.cells exRow 35 (0, 0))) (hgi : gi ≠ wb) (hy : w.heap[gf]? = some (.cells #[.string ⟨#[]⟩, .int .i64 0, .bool false, .bool false, .int .i64 1, .slice none 0 0, .slice (some ⟨gi, 0, none⟩) 2 2, .slice none 0 0, .slice none 0 0] 42 (0, 0))) (hgf : gf ≠ wb) (c0 : w.cell? ⟨bp, 0, none⟩ = some (.pointer (some ⟨wb, 0, none⟩))) (c1 : w.cell? ⟨bm, 0, none⟩ = some (.slice (some ⟨gf, 0, none⟩) 1 1)) :
    Calls Tryz.prog 10 #[.func (.func 16) #[] #[.pointer (some ⟨bp, 0, none⟩), .pointer (some ⟨bm, 0, none⟩)]] w fun e w' => e = .returned (.int .i64 0) ∧ (∃ v', Wt w' B wb v' (magic ++ 1 :: exF)) ∧ Fo B wb w w' := by
  have hmf : ∀ (fn : Fn) (first cap : Array Value) (w : World), (Instr.makeFunc fn first cap).run Tryz.prog w = .ok (.func fn first cap) w := fun _ _ _ _ => rfl
  obtain ⟨W1, hW1⟩ : ∃ W1, w.alloc (.cells #[.int .i64 0] 27) = W1 := ⟨_, rfl⟩
  have b1 : Below w.heap.size w W1 := by rw [← hW1]; exact lay_below
  have he : ErrBox W1 w.heap.size 0 := by rw [← hW1]; exact box_new
  have hF1 := Fo.of_below (B := B) (wb := wb) b1
  have cc : ∀ k v', w.cell? ⟨k, 0, none⟩ = some v' → W1.cell? ⟨k, 0, none⟩ = some v' := fun k v' hc => (Fr.of_below (rb := w.heap.size) b1).cell (by have := World.block_lt_of_cell? w _ hc; simp only at this; omega) hc
  have HD := Hid.mk' (encode1_ex W1 (h.below b1) (Nat.le_trans hB b1.size) (hL.fo hF1 hg hr) hr hg (hF1.box hgi (by decide) hx) hgi (hF1.box hgf (by decide) hy) hgf (cc bp _ c0) (cc bm _ c1))
  have HE := Hid.mk' he
  have HF1 := Hid.mk' hF1
  have hws := h.size
  have HLB := Hid.mk' h.lt
  obtain ⟨be, hbe⟩ : ∃ be, w.heap.size = be := ⟨_, rfl⟩
  rw [hbe] at HE hws hB
  have HBE := Hid.mk' hbe
  have hne : be ≠ wb := by omega
  clear h hL hx hy b1 he hF1 cc c0 c1
  go_enter_defers Tryz.func10, Tryz.ntmps10
  go_wp2_with fail
  refine HD.out.mono ?_
  rintro e w1 ⟨rfl, ⟨v1, hW⟩, hF⟩
  have h1 : ErrBox w1 be 0 := hF.box hne (by decide) HE.out
  have e0 := (cell_row _ be 0 _ _ h1).trans rfl
  have ef := thaw_row _ _ _ _ h1
  have HF := Hid.mk' (HF1.out.trans hF)
  have HWW : Hid (∃ v', Wt (w1.setCell ⟨be, 0, none⟩ (.int .i64 0)) B wb v' (magic ++ 1 :: exF)) := Hid.mk' ⟨v1, (Below.heap_setCell _ _ _ _ (Ne.symm hne)).trans hW.blk, ⟨hW.own.1, by
    rcases hW.own.2 with hn | ⟨g, cap, cur, e, hB', hg', rest⟩
    · exact .inl hn
    · exact .inr ⟨g, cap, cur, e, hB', (Below.heap_setCell _ _ _ _ (fun q => by
        rw [q] at hg'
        rw [show w1.heap[be]? = _ from h1] at hg'
        cases hg')).trans hg', rest⟩⟩, hW.lt⟩
  clear h1 hW hF
  go_wp2
  refine leaves_cons (f := 27) (args := #[.pointer (some ⟨be, 0, none⟩)]) (by simp) (by simp [go_sem]) ?_
  refine (caught_idle ⟨be, 0, none⟩ _).mono ?_
  rintro e u' w2 ⟨rfl, rfl, rfl⟩
  refine ⟨.int .i64 0, ?_, rfl, HWW.out, ?_⟩
  · simp [results, Tryz.results10, go_sem, e0]
  · exact Fo.setNew HF.out (by rw [HBE.out]; exact Nat.le_refl _) _
end Go.Proofs.YtkgjmiadgfcbnaaGreatDoor
