/- Package code's writer: instructions without operands that count, lists, a function. -/
import Derived.Test.YtkgjmiadgfcbnaaGreatDoorCdE1
namespace Go.Proofs.YtkgjmiadgfcbnaaGreatDoor
set_option linter.unusedVariables false
set_option linter.unusedSimpArgs false
open Go.RowKit

set_option maxHeartbeats 1000000 in
set_option maxRecDepth 100000 in
theorem operands0 (op : Int) (w : World) : Calls Tryz.prog 23 #[.agg #[.int .i64 op, .int .i64 0, .int .i64 0, .int .i64 0, .int .i64 0]] w fun e w' => e = .returned (.agg #[.int .i64 0, .int .i64 0, .int .i64 0, .int .i64 0]) ∧ Below w.heap.size w w' := by
  have HB : Hid (Below w.heap.size w ((w.alloc (.cells #[.int .i64 op, .int .i64 0, .int .i64 0, .int .i64 0, .int .i64 0] 35)).alloc (.cells #[.int .i64 0, .int .i64 0, .int .i64 0, .int .i64 0] 68))) := Hid.mk' ((lay_below).alloc (by simp) _)
  go_enter Tryz.func23, Tryz.ntmps23
  go_wp2
  refine bodyPost_ret (v := .agg #[.int .i64 0, .int .i64 0, .int .i64 0, .int .i64 0]) ?_ rfl ⟨rfl, ?_⟩
  · rw [res_cell rfl]
    go_simp
  · exact HB.out
theorem own_iterAt' {w : World} {base : Nat} {e : TypeId} {size : Nat} {v : Value} {n : Nat} {xs : List Value} (h : w.ownsRow base e size v n xs) {k : Nat} {s : ByteArray} {p : Nat} (hk : w.heap[k]? = some (.stringIter s p)) (q : Nat) : (w.iterAt k s q).ownsRow base e size v n xs := by
  obtain ⟨h1, h2⟩ := h
  refine ⟨h1, ?_⟩
  rcases h2 with h2 | ⟨g, cap, cur, a, b, c, d⟩
  · exact .inl h2
  · refine .inr ⟨g, cap, cur, a, b, ?_, d⟩
    rw [Lib.iterAt_other _ _ _ _ _ (fun e => by rw [e, hk] at c; cases c)]
    exact c
theorem Fo.iter {B wb k : Nat} {w X : World} (h : Fo B wb w X) (hk : w.heap.size ≤ k) (s : ByteArray) (p : Nat) : Fo B wb w (X.iterAt k s p) :=
  ⟨h.os, h.tape, h.output, by rw [Lib.iterAt_size]; exact h.size, fun j ob hj hv ho => by
    have hlt := (Array.getElem?_eq_some_iff.1 ho).1
    rw [Lib.iterAt_other _ _ _ _ _ (show j ≠ k by omega)]
    exact h.same j ob hj hv ho⟩
theorem Wt.iter {X : World} {B wb k : Nat} {v : Value} {l : List UInt8} (h : Wt X B wb v l) (t : ByteArray) (p q : Nat) (hk : X.heap[k]? = some (.stringIter t q)) (h1 : wb ≠ k) : Wt (X.iterAt k t p) B wb v l :=
  ⟨(Lib.iterAt_other _ _ _ _ _ h1).trans h.blk, own_iterAt' h.own hk p, h.lt⟩
set_option maxHeartbeats 4000000 in
set_option maxRecDepth 100000 in
theorem winstr0 {B wb : Nat} {v : Value} {l0 : List UInt8} (b : UInt8) (op : Nat) (hop : b.toNat = op) (h70 : op ≤ 70) (w : World) (h : Wt w B wb v l0) (hl : l0.length ≤ 800) (hB : B ≤ w.heap.size) (hL : LaidL w) (hr : 1 ≠ wb) (hg : 1 < B) :
    Calls Tryz.prog 64 #[.pointer (some ⟨wb, 0, none⟩), .agg #[.int .i64 (op : Int), .int .i64 0, .int .i64 0, .int .i64 0, .int .i64 0]] w fun e w' => Wrt B wb (l0 ++ b :: List.replicate (letsOf op).length 0) w e w' := by
  obtain ⟨W1, hW1⟩ : ∃ W1, w.alloc (.cells #[.int .i64 (op : Int), .int .i64 0, .int .i64 0, .int .i64 0, .int .i64 0] 35) = W1 := ⟨_, rfl⟩
  have b1 : Below w.heap.size w W1 := by rw [← hW1]; exact lay_below
  have q1 : W1.heap[w.heap.size]? = some (.cells #[.int .i64 (op : Int), .int .i64 0, .int .i64 0, .int .i64 0, .int .i64 0] 35 (0, 0)) := by rw [← hW1]; exact box_new
  have hlb : 1 < w.heap.size := World.block_lt_of_cell? w _ (hL 0 (by omega))
  have HI := Hid.mk' (fun W => isOp_any (op : Int) W)
  rw [decide_eq_true (show 0 ≤ (op : Int) ∧ (op : Int) ≤ 70 by omega)] at HI
  have HH := Hid.mk' hold_ok
  have HN := Hid.mk' (wnum_small b (op : Int) (by rw [hop]) (by omega) W1 (h.below b1) (by omega) (Nat.le_trans hB b1.size))
  have HOP := Hid.mk' (fun W hW => operands_any op W h70 hW)
  have HO0 := Hid.mk' (fun W => operands0 (op : Int) W)
  have HLL : Hid (∀ W, Fo B wb w W → LaidL W) := Hid.mk' (fun W hF => hL.fo hF hg hr)
  have HM0 := Hid.mk' (fun v' l' W (hW : Wt W B wb v' l') (hl' : l'.length ≤ 1000) (hBW : B ≤ W.heap.size) => wnum_small 0 0 rfl (by decide) W hW hl' hBW)
  have hws := h.size
  obtain ⟨bi, hbi⟩ : ∃ bi, w.heap.size = bi := ⟨_, rfl⟩
  rw [hbi] at q1 hws hlb
  have HB1 := Hid.mk' b1
  have HQ1 := Hid.mk' q1
  have HBI := Hid.mk' hbi
  have r0 := (cell_row _ bi 0 _ _ q1).trans rfl
  have r1 := (cell_row _ bi 1 _ _ q1).trans rfl
  have r2 := (cell_row _ bi 2 _ _ q1).trans rfl
  have r3 := (cell_row _ bi 3 _ _ q1).trans rfl
  have r4 := (cell_row _ bi 4 _ _ q1).trans rfl
  have HLT : Hid (wb < bi ∧ B ≤ bi) := Hid.mk' ⟨hws, by omega⟩
  clear h b1 q1 hL hws
  go_enter Tryz.func64, Tryz.ntmps64
  go_wp2_with (first | (go_at_call 28; refine (HH.out _).mono ?_; rintro e w1 ⟨rfl, hw1⟩; rw [hw1]; clear hw1 w1) | (go_at_call 21; refine (HI.out _).mono ?_; rintro e w1 ⟨rfl, hw1⟩; rw [hw1]; clear hw1 w1))
  refine HN.out.mono ?_
  rintro e w1 ⟨rfl, ⟨v1, hWt⟩, hF⟩
  have hq := hF.box (k := bi) (by have := HLT.out; omega) (by decide) HQ1.out
  have HF1 := Hid.mk' ((Fo.of_below (B := B) (wb := wb) HB1.out).trans hF)
  clear r0 r1 r2 r3 r4
  have r0 := (cell_row _ bi 0 _ _ hq).trans rfl
  have r1 := (cell_row _ bi 1 _ _ hq).trans rfl
  have r2 := (cell_row _ bi 2 _ _ hq).trans rfl
  have r3 := (cell_row _ bi 3 _ _ hq).trans rfl
  have r4 := (cell_row _ bi 4 _ _ hq).trans rfl
  have HWt := Hid.mk' hWt
  have HQ2 := Hid.mk' hq
  clear hWt hF hq
  go_wp2_with fail
  refine (HO0.out _).mono ?_
  rintro e w2 ⟨rfl, hb2⟩
  obtain ⟨w3, hw3⟩ : ∃ w3, w2.alloc (.cells #[.int .i64 0, .int .i64 0, .int .i64 0, .int .i64 0] 68) = w3 := ⟨_, rfl⟩
  have b3 : Below w2.heap.size w2 w3 := by rw [← hw3]; exact lay_below
  have q3 : w3.heap[w2.heap.size]? = some (.cells #[.int .i64 0, .int .i64 0, .int .i64 0, .int .i64 0] 68 (0, 0)) := by rw [← hw3]; exact box_new
  have B3 := hb2.trans (b3.mono hb2.size)
  have HF3 := Hid.mk' (HF1.out.trans (Fo.of_below B3))
  have HWt3 := Hid.mk' (HWt.out.below B3)
  have hq3 := (B3.block bi (Array.getElem?_eq_some_iff.1 HQ2.out).1).trans HQ2.out
  have s3 : w3.heap.size = w2.heap.size + 1 := by rw [← hw3]; simp
  have hs2 : bi < w2.heap.size := Nat.lt_of_lt_of_le (Array.getElem?_eq_some_iff.1 HQ2.out).1 hb2.size
  have HO3 := Hid.mk' (HOP.out w3 (Hid.mk' (HLL.out w3 HF3.out)))
  have e0 : w2.cell? ⟨bi, 0, none⟩ = some (.int .i64 (op : Int)) := (cell_row _ bi 0 _ _ ((hb2.block bi (Array.getElem?_eq_some_iff.1 HQ2.out).1).trans HQ2.out)).trans rfl
  have e1 : bi < w2.heap.size := hs2
  obtain ⟨ar, har⟩ : ∃ ar, w2.heap.size = ar := ⟨_, rfl⟩
  rw [har] at q3 s3 hs2
  have HA3 := Hid.mk' q3
  have HI3 := Hid.mk' hq3
  have i0' := (cell_row _ bi 0 _ _ hq3).trans rfl
  obtain ⟨k4, kA⟩ := lets_ok op
  obtain ⟨l, hlt⟩ : ∃ l, letsOf op = l := ⟨_, rfl⟩
  have HLO := Hid.mk' hlt
  simp only [hlt] at k4 kA HO3 HOP ⊢
  have HK := Hid.mk' kA
  have hsz : (Sb l).size = l.length := Sb_size l
  have HSZ := Hid.mk' hsz
  obtain ⟨t, ht⟩ : ∃ t, Sb l = t := ⟨_, rfl⟩
  simp only [ht] at HO3 HSZ HOP
  have HTT := Hid.mk' ht
  have HLA : Hid (bi < ar ∧ wb < ar ∧ w.heap.size ≤ ar) := Hid.mk' ⟨hs2, by have := HLT.out; omega, by have := HBI.out; omega⟩
  have HH1 := Hid.mk' hw3
  have HH2 := Hid.mk' har
  have HS3 := Hid.mk' s3
  clear hb2 b3 q3 B3 hq3 s3 hs2 hw3 har hlt kA hsz ht r0 r1 r2 r3 r4 i0'
  go_wp2_with fail
  simp only [HH1.out, HH2.out]
  refine HO3.out.mono ?_
  rintro e w4 ⟨rfl, hw4⟩
  rw [hw4]
  clear hw4 w4 e0 e1
  go_wp2_with fail
  have HBI4 : Hid (Below w3.heap.size w3 (w3.iter t 0)) := Hid.mk' ((Below.refl _ _).alloc (Nat.le_refl _) _)
  have HIT := Hid.mk' (World.iter_heap w3 t 0)
  have HITE : Hid (w3.heap.size = ar + 1) := HS3
  obtain ⟨it, hit⟩ : ∃ it, w3.heap.size = it := ⟨_, rfl⟩
  rw [hit] at HITE HBI4 HIT
  have HIW := Hid.mk' hit
  simp only [hit]
  clear hit
  go_loopw [5] (fun v wr => ∃ (j : Nat) (v' : Value), j ≤ l.length ∧ Hid (wr.heap[it]? = some (.stringIter t j)) ∧ Hid (wr.heap[ar]? = some (.cells #[.int .i64 0, .int .i64 0, .int .i64 0, .int .i64 0] 68 (0, 0))) ∧ Hid (wr.heap[bi]? = some (.cells #[.int .i64 (op : Int), .int .i64 0, .int .i64 0, .int .i64 0, .int .i64 0] 35 (0, 0))) ∧ Hid (Wt wr B wb v' (l0 ++ b :: List.replicate j 0)) ∧ Hid (Fo B wb w wr)) (fun _ wr => l.length - wr.iterPos it)
  case atStart =>
    have h1 := HLA.out
    have h2 := HITE.out
    refine ⟨0, v1, Nat.zero_le _, HIT, Hid.mk' ((HBI4.out.block ar (by omega)).trans HA3.out), Hid.mk' ((HBI4.out.block bi (by omega)).trans HI3.out), Hid.mk' (HWt3.out.below (by rw [HIW.out]; exact HBI4.out)), Hid.mk' (HF3.out.trans (Fo.of_below (by rw [HIW.out]; exact HBI4.out)))⟩
  case round =>
    obtain ⟨j, v', hle, HI1, HA1, HQ1', HW1, HFw⟩ := hrel
    have z0 := (cell_row _ ar 0 _ _ HA1.out).trans rfl
    by_cases hlt : j < l.length
    · have hs1 : j < t.size := by rw [HSZ.out]; exact hlt
      have hbt : (t[j]'hs1).toNat < 128 := by
        have e1 : t.data.toList = l := by rw [← HTT.out, Sb_list]
        have e2 : t[j]'hs1 ∈ t.data.toList := by
          show t.data[j] ∈ _
          rw [← Array.getElem_toList]
          exact List.getElem_mem _
        rw [e1] at e2
        exact HK.out _ e2
      have hnx : ∀ ty, (Instr.next (.pointer (some ⟨it, 0, none⟩)) true ty).run Tryz.prog wr = _ := fun ty => Lib.run_next_ascii_at wr it t j ty HI1.out hs1 hbt
      obtain ⟨cb, hcb⟩ : ∃ cb : Nat, (t[j]'hs1).toNat = cb := ⟨_, rfl⟩
      rw [hcb] at hnx
      have hW3 := HW1.out.iter (k := it) t (j + 1) j HI1.out (by have := HLA.out; have := HITE.out; omega)
      have hF3 := HFw.out.iter (k := it) (by have := HLA.out; have := HITE.out; omega) t (j + 1)
      have HN3 := Hid.mk' (HM0.out v' _ _ hW3 (by simp; omega) (by rw [Lib.iterAt_size]; exact Nat.le_trans hB HFw.out.size))
      have HF3' := Hid.mk' hF3
      have HA3' := Hid.mk' ((Lib.iterAt_other wr it ar t (j + 1) (by have := HITE.out; omega)).trans HA1.out)
      have HQ3' := Hid.mk' ((Lib.iterAt_other wr it bi t (j + 1) (by have := HLA.out; have := HITE.out; omega)).trans HQ1'.out)
      have HI3' := Hid.mk' (Lib.iterAt_heap wr it t j (j + 1) HI1.out)
      have HPS : Hid (wr.iterPos it = j) := Hid.mk' (by simp only [World.iterPos, HI1.out])
      obtain ⟨X, hX⟩ : ∃ X, wr.iterAt it t (j + 1) = X := ⟨_, rfl⟩
      rw [hX] at HN3 HF3' HA3' HI3' HQ3'
      simp only [hX] at hnx
      have i4 : (j : Int) < 4 := by omega
      have i0 : (0 : Int) ≤ (j : Int) := by omega
      have zj : X.cell? ⟨ar, j, none⟩ = some (.int .i64 0) := (cell_row _ ar j _ _ HA3'.out).trans (arr4_get [] j (by omega))
      clear hW3 hF3 hX hcb z0
      go_wp2_with fail
      refine HN3.out.mono ?_
      rintro e w4 ⟨rfl, ⟨v4, hW4⟩, hF4⟩
      have HI5 := Hid.mk' (hF4.same it _ (by have := HLA.out; have := HITE.out; omega) (.inr fun c fz e => by cases e) HI3'.out)
      have HA5 := Hid.mk' (hF4.box (by have := HLA.out; omega) (by decide) HA3'.out)
      have HQ5 := Hid.mk' (hF4.box (by have := HLT.out; omega) (by decide) HQ3'.out)
      have HF5 := Hid.mk' (HF3'.out.trans hF4)
      have HW5 : Hid (Wt w4 B wb v4 (l0 ++ b :: List.replicate (j + 1) 0)) := Hid.mk' (by
        have e : (l0 ++ b :: List.replicate j (0 : UInt8)) ++ [0] = l0 ++ b :: List.replicate (j + 1) 0 := by
          rw [List.append_assoc, List.cons_append, ← List.replicate_succ']
        rw [← e]
        exact hW4)
      clear hW4 hF4 zj
      go_wp2
      go_roundw
      case rel => exact ⟨j + 1, v4, hlt, HI5, HA5, HQ5, HW5, HF5⟩
      case measure =>
        have e5 : w4.iterPos it = j + 1 := by simp only [World.iterPos, HI5.out]
        rw [HPS.out, e5]
        omega
    · obtain rfl : j = l.length := by omega
      have hnx : ∀ ty, (Instr.next (.pointer (some ⟨it, 0, none⟩)) true ty).run Tryz.prog wr = _ := fun ty => Lib.run_next_end_at wr it t l.length ty HI1.out (by rw [HSZ.out]; exact hlt)
      have y0 := (cell_row _ bi 0 _ _ HQ1'.out).trans rfl
      have HO9 := Hid.mk' (HOP.out wr (Hid.mk' (HLL.out wr HFw.out)))
      go_wp2_with fail
      refine HO9.out.mono ?_
      rintro e w9 ⟨rfl, hw9⟩
      rw [hw9]
      clear hw9 w9
      have hsz2 : (t.size : Int) = (l.length : Int) := by have := HSZ.out; omega
      obtain ⟨m, hm⟩ : ∃ m, l.length = m := ⟨_, rfl⟩
      rw [hm] at hsz2 k4 HW1
      go_wp2_with fail
      go_loop [6] (fun v => ∃ j : Nat, v = .int .i64 (j : Int) ∧ j ≤ 4) (fun v => 4 - (intOf v).toNat)
      case atStart => exact ⟨m, rfl, k4⟩
      case round =>
        obtain ⟨j, rfl, hj⟩ := hrel
        by_cases hj4 : j < 4
        · have i4 : (j : Int) < 4 := by omega
          have zj : wr.cell? ⟨ar, j, none⟩ = some (.int .i64 0) := (cell_row _ ar j _ _ HA1.out).trans (arr4_get [] j hj4)
          go_wp2_with (go_at_call 28; refine (HH.out _).mono ?_; rintro e w1 ⟨rfl, hw1⟩; rw [hw1]; clear hw1 w1)
          go_round
          case rel => exact ⟨j + 1, by go_num, hj4⟩
          case measure => simp [intOf]; omega
        · have i4 : ¬ (j : Int) < 4 := by omega
          go_wp2
          exact bodyPost_ret (v := .tuple #[]) (results_none rfl _ _ _) rfl ⟨rfl, ⟨_, by rw [HLO.out, hm]; exact HW1.out⟩, HFw.out⟩
end Go.Proofs.YtkgjmiadgfcbnaaGreatDoor
