/- Package check: what a function needs of the one that makes it; the checker made. -/
import Derived.Test.YtlhiedlpjefbnaaDoorChB
import Derived.Deep.Cut
import Derived.Deep.CutRange
import Derived.Lib.MinMax
namespace Go.Proofs.YtlhiedlpjefbnaaDoor
set_option linter.unusedVariables false
set_option linter.unusedSimpArgs false
open Go.RowKit

structure NG (w wr : World) (b b1 : Nat) (m : Need) : Prop where
  bl : Below b w wr
  r : wr.heap[b]? = some (.cells #[.int .i64 0, .int .i64 0, .int .i64 0] 82 (0, 0))
  n : wr.heap[b1]? = some (.cells m.cs.toArray 82 (0, 0))
theorem meas_up' (K j : Nat) (h : j < K) : K - (intOf (.int .i64 ((j : Int) + 1))).toNat < K - (intOf (.int .i64 (j : Int))).toNat := by simp [intOf]; omega
theorem take_snoc' {α : Type} (l : List α) (k : Nat) (h : k < l.length) : l.take (k + 1) = l.take k ++ [l[k]] := by rw [List.take_succ_eq_append_getElem h]
theorem NG.two {w wr : World} {b b1 : Nat} {m1 m2 m3 : Int} (h : NG w wr b b1 ⟨m1, m2, m3⟩) (hb : b < b1) (o : Nat) (u v : Value) (ob : Obj) (m : Need) (hm : ((#[.int .i64 m1, .int .i64 m2, .int .i64 m3] : Array Value).setIfInBounds 2 u).setIfInBounds o v = m.cs.toArray) :
    NG w (((wr.setCell ⟨b1, 2, none⟩ u).setCell ⟨b1, o, none⟩ v).alloc ob) b b1 m := by
  have hl : b1 < wr.heap.size := (Array.getElem?_eq_some_iff.1 h.n).1
  have hsz : ((wr.setCell ⟨b1, 2, none⟩ u).setCell ⟨b1, o, none⟩ v).heap.size = wr.heap.size := by simp
  refine ⟨((h.bl.setCell (by simp; omega) _).setCell (by simp; omega) _).alloc (by rw [hsz]; omega) _, ?_, ?_⟩
  · rw [(lay_below).block _ (by rw [hsz]; omega), Below.heap_setCell _ _ _ _ (show b ≠ b1 by omega), Below.heap_setCell _ _ _ _ (show b ≠ b1 by omega)]
    exact h.r
  · rw [(lay_below).block _ (by rw [hsz]; omega), ← hm]
    exact set_blk _ (set_blk _ h.n)
set_option maxHeartbeats 2000000 in
set_option maxRecDepth 100000 in
theorem needOf_any (a : Option Addr) (c : Nat) (l : List Cap) (w : World) (h : RdE Cap.cs 2 w a c l) : Calls Tryd.prog 31 #[.slice a l.length c] w fun e w' => e = .returned (.agg (needOf l).cs.toArray) ∧ Below w.heap.size w w' := by
  have hle := h.le
  have hcl : c * (2 * 8) ≤ 140737488351232 := h.cle
  have HR := Hid.mk' h
  obtain ⟨n, hn⟩ : ∃ n, l.length = n := ⟨_, rfl⟩
  rw [hn] at hle ⊢
  obtain ⟨W2, hW2⟩ : ∃ W2, (w.alloc (.cells #[.int .i64 0, .int .i64 0, .int .i64 0] 82)).alloc (.cells #[.int .i64 (-1), .int .i64 (-1), .int .i64 0] 82) = W2 := ⟨_, rfl⟩
  have HG0 : Hid (NG w W2 w.heap.size (w.heap.size + 1) (needOf (l.take 0))) := Hid.mk' (by
    rw [← hW2]
    refine ⟨(lay_below).alloc (by simp) _, ?_, ?_⟩
    · rw [(lay_below).block _ (by simp)]; exact box_new
    · have := @box_new (w.alloc (.cells #[.int .i64 0, .int .i64 0, .int .i64 0] 82)) #[.int .i64 (-1), .int .i64 (-1), .int .i64 0] 82
      rw [show (w.alloc (.cells #[.int .i64 0, .int .i64 0, .int .i64 0] 82)).heap.size = w.heap.size + 1 by simp] at this
      exact this)
  have HH := Hid.mk' hW2
  obtain ⟨b0, hb0⟩ : ∃ b0, w.heap.size = b0 := ⟨_, rfl⟩
  obtain ⟨b1, hb1⟩ : ∃ b1, b0 + 1 = b1 := ⟨_, rfl⟩
  rw [hb0, hb1] at HG0
  have HN := Hid.mk' hn
  clear h hn hW2
  go_enter Tryd.func31, Tryd.ntmps31
  go_wp2
  rw [HH.out]
  go_loopw [9] (fun iv wr => ∃ i : Nat, iv = .int .i64 (i : Int) ∧ i ≤ n ∧ Hid (NG w wr b0 b1 (needOf (l.take i)))) (fun iv wr => n - (intOf iv).toNat)
  case atStart => exact ⟨0, rfl, Nat.zero_le _, HG0⟩
  case round =>
    obtain ⟨i, rfl, hi, HG⟩ := hrel
    have hbw : Below w.heap.size w wr := by rw [hb0]; exact HG.out.bl
    by_cases hlt : i < n
    · obtain ⟨g, o, rfl, hg, hc⟩ := ((HR.out).below hbw).at i (by rw [HN.out]; exact hlt)
      have i1 : (i : Int) < (n : Int) := by omega
      have i2 : (i : Int) < 140737488351232 := by omega
      have HS : Hid (needOf (l.take (i + 1)) = (needOf (l.take i)).add (l[i]'(by rw [HN.out]; exact hlt))) := Hid.mk' (by rw [take_snoc' l i (by rw [HN.out]; exact hlt), needOf_snoc])
      have hq := HG.out.n
      obtain ⟨m, hm⟩ : ∃ m, needOf (l.take i) = m := ⟨_, rfl⟩
      rw [hm] at hq HS
      obtain ⟨m1, m2, m3⟩ := m
      cases he : (l[i]'(by rw [HN.out]; exact hlt)) with
      | mk up z =>
        rw [he] at hc HS
        have d0 := hc 0 (.bool up) (by omega) rfl
        have d1 := hc 1 (.int .i64 z) (by omega) rfl
        simp only [Nat.add_zero] at d0
        have hq' : wr.heap[b1]? = some (.cells #[.int .i64 m1, .int .i64 m2, .int .i64 m3] 82 (0, 0)) := hq
        have e0 : wr.cell? ⟨b1, 0, none⟩ = some (.int .i64 m1) := (cell_row _ _ 0 _ _ hq').trans rfl
        have e1 : wr.cell? ⟨b1, 1, none⟩ = some (.int .i64 m2) := (cell_row _ _ 1 _ _ hq').trans rfl
        have e2 : wr.cell? ⟨b1, 2, none⟩ = some (.int .i64 m3) := (cell_row _ _ 2 _ _ hq').trans rfl
        have z0 := thaw_row _ _ _ _ hq' 0
        have z1 := thaw_row _ _ _ _ hq' 1
        have z2 := thaw_row _ _ _ _ hq' 2
        have hbl : b1 < wr.heap.size := (Array.getElem?_eq_some_iff.1 hq').1
        have HQ := Hid.mk' hq'
        have hm' := Hid.mk' hm
        clear hc hq he hm hq'
        obtain ⟨y3, h3⟩ : ∃ y, min m3 z = y := ⟨_, rfl⟩
        have HY3 := Hid.mk' h3
        cases up with
        | true =>
          obtain ⟨y1, h1⟩ : ∃ y, max m1 z = y := ⟨_, rfl⟩
          have HY1 := Hid.mk' h1
          go_wp2
          refine ⟨⟨i + 1, by go_num, hlt, ?_⟩, meas_up' n i hlt⟩
          have := HS.out
          rw [this]
          refine Hid.mk' (NG.two (by rw [← hm'.out]; exact HG.out) (by omega) 0 _ _ _ _ ?_)
          rw [← HY1.out, ← HY3.out]
          rfl
        | false =>
          obtain ⟨y1, h1⟩ : ∃ y, max m2 z = y := ⟨_, rfl⟩
          have HY1 := Hid.mk' h1
          go_wp2
          refine ⟨⟨i + 1, by go_num, hlt, ?_⟩, meas_up' n i hlt⟩
          have := HS.out
          rw [this]
          refine Hid.mk' (NG.two (by rw [← hm'.out]; exact HG.out) (by omega) 1 _ _ _ _ ?_)
          rw [← HY1.out, ← HY3.out]
          rfl
    · have i1 : ¬ (i : Int) < (n : Int) := by omega
      have hin : l.take i = l := List.take_of_length_le (by rw [HN.out]; omega)
      have hq := HG.out.n
      have hr0 := HG.out.r
      rw [hin] at hq
      obtain ⟨m, hm⟩ : ∃ m, needOf l = m := ⟨_, rfl⟩
      rw [hm] at hq
      have HM := Hid.mk' hm
      obtain ⟨m1, m2, m3⟩ := m
      have hq' : wr.heap[b1]? = some (.cells #[.int .i64 m1, .int .i64 m2, .int .i64 m3] 82 (0, 0)) := hq
      have e0 : wr.cell? ⟨b1, 0, none⟩ = some (.int .i64 m1) := (cell_row _ _ 0 _ _ hq').trans rfl
      have e1 : wr.cell? ⟨b1, 1, none⟩ = some (.int .i64 m2) := (cell_row _ _ 1 _ _ hq').trans rfl
      have e2 : wr.cell? ⟨b1, 2, none⟩ = some (.int .i64 m3) := (cell_row _ _ 2 _ _ hq').trans rfl
      have r0 : wr.cell? ⟨b0, 0, none⟩ = some (.int .i64 0) := (cell_row _ _ 0 _ _ hr0).trans rfl
      have r1 : wr.cell? ⟨b0, 1, none⟩ = some (.int .i64 0) := (cell_row _ _ 1 _ _ hr0).trans rfl
      have r2 : wr.cell? ⟨b0, 2, none⟩ = some (.int .i64 0) := (cell_row _ _ 2 _ _ hr0).trans rfl
      have z0 := thaw_row _ _ _ _ hr0 0
      have z1 := thaw_row _ _ _ _ hr0 1
      have z2 := thaw_row _ _ _ _ hr0 2
      have HB := Hid.mk' HG.out.bl
      clear hq hq' hr0 hm hin
      go_wp2
      refine bodyPost_ret (v := .agg #[.int .i64 m1, .int .i64 m2, .int .i64 m3]) ?_ rfl ⟨?_, ?_⟩
      · rw [res_cell rfl]
        go_simp
      · rw [HM.out]; rfl
      · exact ((HB.out.setCell (by simp) _).setCell (by simp) _).setCell (by simp) _
end Go.Proofs.YtlhiedlpjefbnaaDoor
