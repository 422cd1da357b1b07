/- Package code's writer: a function, a module; Encode, at the chapter's example. -/
import Derived.Test.YtkgjmiadgfcbnaaGreatDoorCdE3
namespace Go.Proofs.YtkgjmiadgfcbnaaGreatDoor
set_option linter.unusedVariables false
set_option linter.unusedSimpArgs false
open Go.RowKit

def exF : List UInt8 := [0, 0, 0, 0, 1, 0, 2, 0, 0, 0, 34, 0, 0, 0]
set_option maxHeartbeats 4000000 in
set_option maxRecDepth 100000 in
theorem wfun_ex {B wb gi : Nat} {v : Value} {l : List UInt8} (w : World) (h : Wt w B wb v l) (hl : l.length ≤ 500) (hB : B ≤ w.heap.size) (hL : LaidL w) (hr : 1 ≠ wb) (hg : 1 < B) (hx : w.heap[gi]? = some (.cells exRow 35 (0, 0))) (hgi : gi ≠ wb) :
    Calls Tryz.prog 39 #[.pointer (some ⟨wb, 0, none⟩), .agg #[.string ⟨#[]⟩, .int .i64 0, .bool false, .bool false, .int .i64 1, .slice none 0 0, .slice (some ⟨gi, 0, none⟩) 2 2, .slice none 0 0, .slice none 0 0]] w fun e w' => Wrt B wb (l ++ exF) w e w' := by
  have hmf : ∀ (fn : Fn) (first cap : Array Value) (w : World), (Instr.makeFunc fn first cap).run Tryz.prog w = .ok (.func fn first cap) w := fun _ _ _ _ => rfl
  obtain ⟨W1, hW1⟩ : ∃ W1, w.alloc (.cells #[.string ⟨#[]⟩, .int .i64 0, .bool false, .bool false, .int .i64 1, .slice none 0 0, .slice (some ⟨gi, 0, none⟩) 2 2, .slice none 0 0, .slice none 0 0] 42) = W1 := ⟨_, rfl⟩
  have b1 : Below w.heap.size w W1 := by rw [← hW1]; exact lay_below
  have q0 : W1.heap[w.heap.size]? = some (.cells #[.string ⟨#[]⟩, .int .i64 0, .bool false, .bool false, .int .i64 1, .slice none 0 0, .slice (some ⟨gi, 0, none⟩) 2 2, .slice none 0 0, .slice none 0 0] 42 (0, 0)) := by rw [← hW1]; exact box_new
  have HF0 := Hid.mk' (Fo.of_below (B := B) (wb := wb) b1)
  have HW0 : Hid (∃ v', Wt W1 B wb v' l) := Hid.mk' ⟨v, h.below b1⟩
  have hws := h.size
  have HX := Hid.mk' hx
  have HLL := Hid.mk' hL
  obtain ⟨bf, hbf⟩ : ∃ bf, w.heap.size = bf := ⟨_, rfl⟩
  rw [hbf] at q0 hws
  have HQ0 := Hid.mk' q0
  have hbw : bf ≠ wb := by omega
  have HB0 := Hid.mk' hB
  have HM1 := Hid.mk' (fun v' W (hW : Wt W B wb v' (l)) (hBW : B ≤ W.heap.size) => wtext_nil W hW (by first | omega | (simp; omega)) hBW)
  have HM2 := Hid.mk' (fun v' W (hW : Wt W B wb v' ((l) ++ [0])) (hBW : B ≤ W.heap.size) => wnum_small 0 0 rfl (by decide) W hW (by first | omega | (simp; omega)) hBW)
  have HM3 := Hid.mk' (fun v' W (hW : Wt W B wb v' (((l) ++ [0]) ++ [0])) (hBW : B ≤ W.heap.size) => wflag_no W hW (by first | omega | (simp; omega)) hBW)
  have HM4 := Hid.mk' (fun v' W (hW : Wt W B wb v' ((((l) ++ [0]) ++ [0]) ++ [0])) (hBW : B ≤ W.heap.size) => wflag_no W hW (by first | omega | (simp; omega)) hBW)
  have HM5 := Hid.mk' (fun v' W (hW : Wt W B wb v' (((((l) ++ [0]) ++ [0]) ++ [0]) ++ [0])) (hBW : B ≤ W.heap.size) => wnum_small 1 1 rfl (by decide) W hW (by first | omega | (simp; omega)) hBW)
  have HM6 := Hid.mk' (fun v' W (hW : Wt W B wb v' ((((((l) ++ [0]) ++ [0]) ++ [0]) ++ [0]) ++ [1])) (hBW : B ≤ W.heap.size) => wlistV_nil W hW (by first | omega | (simp; omega)) hBW)
  have HM7 := Hid.mk' (fun v' W (hW : Wt W B wb v' (((((((l) ++ [0]) ++ [0]) ++ [0]) ++ [0]) ++ [1]) ++ [0])) (hBW : B ≤ W.heap.size) (hLW : LaidL W) (hxW : W.heap[gi]? = some (.cells exRow 35 (0, 0))) => wlistI_ex (c := 2) W hW (by first | omega | (simp; omega)) hBW hLW hr hg hxW hgi)
  have HM8 := Hid.mk' (fun v' W (hW : Wt W B wb v' ((((((((l) ++ [0]) ++ [0]) ++ [0]) ++ [0]) ++ [1]) ++ [0]) ++ (2 :: exC 2))) (hBW : B ≤ W.heap.size) => wlistT_nil W hW (by first | omega | (simp [exC]; omega)) hBW)
  have HM9 := Hid.mk' (fun v' W (hW : Wt W B wb v' (((((((((l) ++ [0]) ++ [0]) ++ [0]) ++ [0]) ++ [1]) ++ [0]) ++ (2 :: exC 2)) ++ [0])) (hBW : B ≤ W.heap.size) => wlistC_nil W hW (by first | omega | (simp [exC]; omega)) hBW)
  clear h b1 hL hx
  obtain ⟨v0, hW0⟩ := HW0.out
  have HN1 := Hid.mk' (HM1.out v0 W1 hW0 (Nat.le_trans HB0.out HF0.out.size))
  have r0 : W1.cell? ⟨bf, 0, none⟩ = some (.string ⟨#[]⟩) := (cell_row _ bf 0 _ _ q0).trans rfl
  have r1 : W1.cell? ⟨bf, 1, none⟩ = some (.int .i64 0) := (cell_row _ bf 1 _ _ q0).trans rfl
  have r2 : W1.cell? ⟨bf, 2, none⟩ = some (.bool false) := (cell_row _ bf 2 _ _ q0).trans rfl
  have r3 : W1.cell? ⟨bf, 3, none⟩ = some (.bool false) := (cell_row _ bf 3 _ _ q0).trans rfl
  have r4 : W1.cell? ⟨bf, 4, none⟩ = some (.int .i64 1) := (cell_row _ bf 4 _ _ q0).trans rfl
  have r5 : W1.cell? ⟨bf, 5, none⟩ = some (.slice none 0 0) := (cell_row _ bf 5 _ _ q0).trans rfl
  have r6 : W1.cell? ⟨bf, 6, none⟩ = some (.slice (some ⟨gi, 0, none⟩) 2 2) := (cell_row _ bf 6 _ _ q0).trans rfl
  have r7 : W1.cell? ⟨bf, 7, none⟩ = some (.slice none 0 0) := (cell_row _ bf 7 _ _ q0).trans rfl
  have r8 : W1.cell? ⟨bf, 8, none⟩ = some (.slice none 0 0) := (cell_row _ bf 8 _ _ q0).trans rfl
  clear q0 hW0
  go_enter Tryz.func39, Tryz.ntmps39
  go_wp2_with fail
  refine HN1.out.mono ?_
  rintro e w1 ⟨rfl, ⟨v1, hW⟩, hF⟩
  have q1 := hF.box hbw (by decide) HQ0.out
  have HQ1 := Hid.mk' q1
  have HF1 := Hid.mk' (HF0.out.trans hF)
  have HN2 := Hid.mk' (HM2.out v1 w1 hW (Nat.le_trans HB0.out HF1.out.size))
  clear r0 r1 r2 r3 r4 r5 r6 r7 r8
  have r0 : w1.cell? ⟨bf, 0, none⟩ = some (.string ⟨#[]⟩) := (cell_row _ bf 0 _ _ q1).trans rfl
  have r1 : w1.cell? ⟨bf, 1, none⟩ = some (.int .i64 0) := (cell_row _ bf 1 _ _ q1).trans rfl
  have r2 : w1.cell? ⟨bf, 2, none⟩ = some (.bool false) := (cell_row _ bf 2 _ _ q1).trans rfl
  have r3 : w1.cell? ⟨bf, 3, none⟩ = some (.bool false) := (cell_row _ bf 3 _ _ q1).trans rfl
  have r4 : w1.cell? ⟨bf, 4, none⟩ = some (.int .i64 1) := (cell_row _ bf 4 _ _ q1).trans rfl
  have r5 : w1.cell? ⟨bf, 5, none⟩ = some (.slice none 0 0) := (cell_row _ bf 5 _ _ q1).trans rfl
  have r6 : w1.cell? ⟨bf, 6, none⟩ = some (.slice (some ⟨gi, 0, none⟩) 2 2) := (cell_row _ bf 6 _ _ q1).trans rfl
  have r7 : w1.cell? ⟨bf, 7, none⟩ = some (.slice none 0 0) := (cell_row _ bf 7 _ _ q1).trans rfl
  have r8 : w1.cell? ⟨bf, 8, none⟩ = some (.slice none 0 0) := (cell_row _ bf 8 _ _ q1).trans rfl
  clear q1 hW hF
  go_wp2_with fail
  refine HN2.out.mono ?_
  rintro e w2 ⟨rfl, ⟨v2, hW⟩, hF⟩
  have q2 := hF.box hbw (by decide) HQ1.out
  have HQ2 := Hid.mk' q2
  have HF2 := Hid.mk' (HF1.out.trans hF)
  have HN3 := Hid.mk' (HM3.out v2 w2 hW (Nat.le_trans HB0.out HF2.out.size))
  clear r0 r1 r2 r3 r4 r5 r6 r7 r8
  have r0 : w2.cell? ⟨bf, 0, none⟩ = some (.string ⟨#[]⟩) := (cell_row _ bf 0 _ _ q2).trans rfl
  have r1 : w2.cell? ⟨bf, 1, none⟩ = some (.int .i64 0) := (cell_row _ bf 1 _ _ q2).trans rfl
  have r2 : w2.cell? ⟨bf, 2, none⟩ = some (.bool false) := (cell_row _ bf 2 _ _ q2).trans rfl
  have r3 : w2.cell? ⟨bf, 3, none⟩ = some (.bool false) := (cell_row _ bf 3 _ _ q2).trans rfl
  have r4 : w2.cell? ⟨bf, 4, none⟩ = some (.int .i64 1) := (cell_row _ bf 4 _ _ q2).trans rfl
  have r5 : w2.cell? ⟨bf, 5, none⟩ = some (.slice none 0 0) := (cell_row _ bf 5 _ _ q2).trans rfl
  have r6 : w2.cell? ⟨bf, 6, none⟩ = some (.slice (some ⟨gi, 0, none⟩) 2 2) := (cell_row _ bf 6 _ _ q2).trans rfl
  have r7 : w2.cell? ⟨bf, 7, none⟩ = some (.slice none 0 0) := (cell_row _ bf 7 _ _ q2).trans rfl
  have r8 : w2.cell? ⟨bf, 8, none⟩ = some (.slice none 0 0) := (cell_row _ bf 8 _ _ q2).trans rfl
  clear q2 hW hF
  go_wp2_with fail
  refine HN3.out.mono ?_
  rintro e w3 ⟨rfl, ⟨v3, hW⟩, hF⟩
  have q3 := hF.box hbw (by decide) HQ2.out
  have HQ3 := Hid.mk' q3
  have HF3 := Hid.mk' (HF2.out.trans hF)
  have HN4 := Hid.mk' (HM4.out v3 w3 hW (Nat.le_trans HB0.out HF3.out.size))
  clear r0 r1 r2 r3 r4 r5 r6 r7 r8
  have r0 : w3.cell? ⟨bf, 0, none⟩ = some (.string ⟨#[]⟩) := (cell_row _ bf 0 _ _ q3).trans rfl
  have r1 : w3.cell? ⟨bf, 1, none⟩ = some (.int .i64 0) := (cell_row _ bf 1 _ _ q3).trans rfl
  have r2 : w3.cell? ⟨bf, 2, none⟩ = some (.bool false) := (cell_row _ bf 2 _ _ q3).trans rfl
  have r3 : w3.cell? ⟨bf, 3, none⟩ = some (.bool false) := (cell_row _ bf 3 _ _ q3).trans rfl
  have r4 : w3.cell? ⟨bf, 4, none⟩ = some (.int .i64 1) := (cell_row _ bf 4 _ _ q3).trans rfl
  have r5 : w3.cell? ⟨bf, 5, none⟩ = some (.slice none 0 0) := (cell_row _ bf 5 _ _ q3).trans rfl
  have r6 : w3.cell? ⟨bf, 6, none⟩ = some (.slice (some ⟨gi, 0, none⟩) 2 2) := (cell_row _ bf 6 _ _ q3).trans rfl
  have r7 : w3.cell? ⟨bf, 7, none⟩ = some (.slice none 0 0) := (cell_row _ bf 7 _ _ q3).trans rfl
  have r8 : w3.cell? ⟨bf, 8, none⟩ = some (.slice none 0 0) := (cell_row _ bf 8 _ _ q3).trans rfl
  clear q3 hW hF
  go_wp2_with fail
  refine HN4.out.mono ?_
  rintro e w4 ⟨rfl, ⟨v4, hW⟩, hF⟩
  have q4 := hF.box hbw (by decide) HQ3.out
  have HQ4 := Hid.mk' q4
  have HF4 := Hid.mk' (HF3.out.trans hF)
  have HN5 := Hid.mk' (HM5.out v4 w4 hW (Nat.le_trans HB0.out HF4.out.size))
  clear r0 r1 r2 r3 r4 r5 r6 r7 r8
  have r0 : w4.cell? ⟨bf, 0, none⟩ = some (.string ⟨#[]⟩) := (cell_row _ bf 0 _ _ q4).trans rfl
  have r1 : w4.cell? ⟨bf, 1, none⟩ = some (.int .i64 0) := (cell_row _ bf 1 _ _ q4).trans rfl
  have r2 : w4.cell? ⟨bf, 2, none⟩ = some (.bool false) := (cell_row _ bf 2 _ _ q4).trans rfl
  have r3 : w4.cell? ⟨bf, 3, none⟩ = some (.bool false) := (cell_row _ bf 3 _ _ q4).trans rfl
  have r4 : w4.cell? ⟨bf, 4, none⟩ = some (.int .i64 1) := (cell_row _ bf 4 _ _ q4).trans rfl
  have r5 : w4.cell? ⟨bf, 5, none⟩ = some (.slice none 0 0) := (cell_row _ bf 5 _ _ q4).trans rfl
  have r6 : w4.cell? ⟨bf, 6, none⟩ = some (.slice (some ⟨gi, 0, none⟩) 2 2) := (cell_row _ bf 6 _ _ q4).trans rfl
  have r7 : w4.cell? ⟨bf, 7, none⟩ = some (.slice none 0 0) := (cell_row _ bf 7 _ _ q4).trans rfl
  have r8 : w4.cell? ⟨bf, 8, none⟩ = some (.slice none 0 0) := (cell_row _ bf 8 _ _ q4).trans rfl
  clear q4 hW hF
  go_wp2_with fail
  refine HN5.out.mono ?_
  rintro e w5 ⟨rfl, ⟨v5, hW⟩, hF⟩
  have q5 := hF.box hbw (by decide) HQ4.out
  have HQ5 := Hid.mk' q5
  have HF5 := Hid.mk' (HF4.out.trans hF)
  have HN6 := Hid.mk' (HM6.out v5 w5 hW (Nat.le_trans HB0.out HF5.out.size))
  clear r0 r1 r2 r3 r4 r5 r6 r7 r8
  have r0 : w5.cell? ⟨bf, 0, none⟩ = some (.string ⟨#[]⟩) := (cell_row _ bf 0 _ _ q5).trans rfl
  have r1 : w5.cell? ⟨bf, 1, none⟩ = some (.int .i64 0) := (cell_row _ bf 1 _ _ q5).trans rfl
  have r2 : w5.cell? ⟨bf, 2, none⟩ = some (.bool false) := (cell_row _ bf 2 _ _ q5).trans rfl
  have r3 : w5.cell? ⟨bf, 3, none⟩ = some (.bool false) := (cell_row _ bf 3 _ _ q5).trans rfl
  have r4 : w5.cell? ⟨bf, 4, none⟩ = some (.int .i64 1) := (cell_row _ bf 4 _ _ q5).trans rfl
  have r5 : w5.cell? ⟨bf, 5, none⟩ = some (.slice none 0 0) := (cell_row _ bf 5 _ _ q5).trans rfl
  have r6 : w5.cell? ⟨bf, 6, none⟩ = some (.slice (some ⟨gi, 0, none⟩) 2 2) := (cell_row _ bf 6 _ _ q5).trans rfl
  have r7 : w5.cell? ⟨bf, 7, none⟩ = some (.slice none 0 0) := (cell_row _ bf 7 _ _ q5).trans rfl
  have r8 : w5.cell? ⟨bf, 8, none⟩ = some (.slice none 0 0) := (cell_row _ bf 8 _ _ q5).trans rfl
  clear q5 hW hF
  go_wp2_with fail
  refine HN6.out.mono ?_
  rintro e w6 ⟨rfl, ⟨v6, hW⟩, hF⟩
  have q6 := hF.box hbw (by decide) HQ5.out
  have HQ6 := Hid.mk' q6
  have HF6 := Hid.mk' (HF5.out.trans hF)
  have HN7 := Hid.mk' (HM7.out v6 w6 hW (Nat.le_trans HB0.out HF6.out.size) (HLL.out.fo HF6.out hg hr) (HF6.out.box hgi (by decide) HX.out))
  clear r0 r1 r2 r3 r4 r5 r6 r7 r8
  have r0 : w6.cell? ⟨bf, 0, none⟩ = some (.string ⟨#[]⟩) := (cell_row _ bf 0 _ _ q6).trans rfl
  have r1 : w6.cell? ⟨bf, 1, none⟩ = some (.int .i64 0) := (cell_row _ bf 1 _ _ q6).trans rfl
  have r2 : w6.cell? ⟨bf, 2, none⟩ = some (.bool false) := (cell_row _ bf 2 _ _ q6).trans rfl
  have r3 : w6.cell? ⟨bf, 3, none⟩ = some (.bool false) := (cell_row _ bf 3 _ _ q6).trans rfl
  have r4 : w6.cell? ⟨bf, 4, none⟩ = some (.int .i64 1) := (cell_row _ bf 4 _ _ q6).trans rfl
  have r5 : w6.cell? ⟨bf, 5, none⟩ = some (.slice none 0 0) := (cell_row _ bf 5 _ _ q6).trans rfl
  have r6 : w6.cell? ⟨bf, 6, none⟩ = some (.slice (some ⟨gi, 0, none⟩) 2 2) := (cell_row _ bf 6 _ _ q6).trans rfl
  have r7 : w6.cell? ⟨bf, 7, none⟩ = some (.slice none 0 0) := (cell_row _ bf 7 _ _ q6).trans rfl
  have r8 : w6.cell? ⟨bf, 8, none⟩ = some (.slice none 0 0) := (cell_row _ bf 8 _ _ q6).trans rfl
  clear q6 hW hF
  go_wp2_with fail
  refine HN7.out.mono ?_
  rintro e w7 ⟨rfl, ⟨v7, hW⟩, hF⟩
  have q7 := hF.box hbw (by decide) HQ6.out
  have HQ7 := Hid.mk' q7
  have HF7 := Hid.mk' (HF6.out.trans hF)
  have HN8 := Hid.mk' (HM8.out v7 w7 hW (Nat.le_trans HB0.out HF7.out.size))
  clear r0 r1 r2 r3 r4 r5 r6 r7 r8
  have r0 : w7.cell? ⟨bf, 0, none⟩ = some (.string ⟨#[]⟩) := (cell_row _ bf 0 _ _ q7).trans rfl
  have r1 : w7.cell? ⟨bf, 1, none⟩ = some (.int .i64 0) := (cell_row _ bf 1 _ _ q7).trans rfl
  have r2 : w7.cell? ⟨bf, 2, none⟩ = some (.bool false) := (cell_row _ bf 2 _ _ q7).trans rfl
  have r3 : w7.cell? ⟨bf, 3, none⟩ = some (.bool false) := (cell_row _ bf 3 _ _ q7).trans rfl
  have r4 : w7.cell? ⟨bf, 4, none⟩ = some (.int .i64 1) := (cell_row _ bf 4 _ _ q7).trans rfl
  have r5 : w7.cell? ⟨bf, 5, none⟩ = some (.slice none 0 0) := (cell_row _ bf 5 _ _ q7).trans rfl
  have r6 : w7.cell? ⟨bf, 6, none⟩ = some (.slice (some ⟨gi, 0, none⟩) 2 2) := (cell_row _ bf 6 _ _ q7).trans rfl
  have r7 : w7.cell? ⟨bf, 7, none⟩ = some (.slice none 0 0) := (cell_row _ bf 7 _ _ q7).trans rfl
  have r8 : w7.cell? ⟨bf, 8, none⟩ = some (.slice none 0 0) := (cell_row _ bf 8 _ _ q7).trans rfl
  clear q7 hW hF
  go_wp2_with fail
  refine HN8.out.mono ?_
  rintro e w8 ⟨rfl, ⟨v8, hW⟩, hF⟩
  have q8 := hF.box hbw (by decide) HQ7.out
  have HQ8 := Hid.mk' q8
  have HF8 := Hid.mk' (HF7.out.trans hF)
  have HN9 := Hid.mk' (HM9.out v8 w8 hW (Nat.le_trans HB0.out HF8.out.size))
  clear r0 r1 r2 r3 r4 r5 r6 r7 r8
  have r0 : w8.cell? ⟨bf, 0, none⟩ = some (.string ⟨#[]⟩) := (cell_row _ bf 0 _ _ q8).trans rfl
  have r1 : w8.cell? ⟨bf, 1, none⟩ = some (.int .i64 0) := (cell_row _ bf 1 _ _ q8).trans rfl
  have r2 : w8.cell? ⟨bf, 2, none⟩ = some (.bool false) := (cell_row _ bf 2 _ _ q8).trans rfl
  have r3 : w8.cell? ⟨bf, 3, none⟩ = some (.bool false) := (cell_row _ bf 3 _ _ q8).trans rfl
  have r4 : w8.cell? ⟨bf, 4, none⟩ = some (.int .i64 1) := (cell_row _ bf 4 _ _ q8).trans rfl
  have r5 : w8.cell? ⟨bf, 5, none⟩ = some (.slice none 0 0) := (cell_row _ bf 5 _ _ q8).trans rfl
  have r6 : w8.cell? ⟨bf, 6, none⟩ = some (.slice (some ⟨gi, 0, none⟩) 2 2) := (cell_row _ bf 6 _ _ q8).trans rfl
  have r7 : w8.cell? ⟨bf, 7, none⟩ = some (.slice none 0 0) := (cell_row _ bf 7 _ _ q8).trans rfl
  have r8 : w8.cell? ⟨bf, 8, none⟩ = some (.slice none 0 0) := (cell_row _ bf 8 _ _ q8).trans rfl
  clear q8 hW hF
  go_wp2_with fail
  refine HN9.out.mono ?_
  rintro e w9 ⟨rfl, ⟨v9, hW⟩, hF⟩
  have q9 := hF.box hbw (by decide) HQ8.out
  have HQ9 := Hid.mk' q9
  have HF9 := Hid.mk' (HF8.out.trans hF)
  have HWf : Hid (Wt w9 B wb v9 (l ++ exF)) := Hid.mk' (by
    simp only [List.append_assoc] at hW
    exact hW)
  go_wp2
  exact bodyPost_ret (v := .tuple #[]) (results_none rfl _ _ _) rfl ⟨rfl, ⟨_, HWf.out⟩, HF9.out⟩
end Go.Proofs.YtkgjmiadgfcbnaaGreatDoor
