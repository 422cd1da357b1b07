/- Package check: the walker at the chapter's example. -/
import Derived.Test.YtlhiedlpjefbnaaDoorChN
import Derived.Deep.DeepCutAuto
namespace Go.Proofs.YtlhiedlpjefbnaaDoor
set_option linter.unusedVariables false
set_option linter.unusedSimpArgs false
open Go.RowKit Go.Shelf

/-- The walker of the function of one instruction. -/
structure Wk (B : Nat) (w : World) (wb br bt bp : Nat) (r0 : Bool) (vw : Value) (k : Nat) (tv : Int) : Prop where
  blk : w.heap[wb]? = some (.cells #[.slice (some ⟨br, 0, none⟩) 1 1, vw, .slice (some ⟨bt, 0, none⟩) 1 1, .slice (some ⟨bp, 0, none⟩) 2 2] 61 (0, 0))
  r : w.heap[br]? = some (.cells #[.bool r0] 4 (0, 0))
  t : w.heap[bt]? = some (.cells #[.int .i64 tv] 3 (0, 0))
  p : w.heap[bp]? = some (.cells #[.slice none 0 0, .slice none 0 0] 41 (0, 0))
  own : w.ownsRow (bt + 1) 3 1 vw k (ints (List.replicate k 0))
  ge : B ≤ wb ∧ B ≤ br ∧ B ≤ bt ∧ B ≤ bp
theorem Wk.below {B : Nat} {w w' : World} {wb br bt bp : Nat} {r0 : Bool} {vw : Value} {k : Nat} {tv : Int} (h : Wk B w wb br bt bp r0 vw k tv) (hb : Below w.heap.size w w') : Wk B w' wb br bt bp r0 vw k tv :=
  have f : ∀ {k : Nat} {ob : Obj}, w.heap[k]? = some ob → w'.heap[k]? = some ob := fun h => (hb.block _ (Array.getElem?_eq_some_iff.1 h).1).trans h
  ⟨f h.blk, f h.r, f h.t, f h.p, own_below h.own hb, h.ge⟩
theorem below_putObj {B E : Nat} {w V : World} {ob : Obj} (h : Below B w V) (hE : B ≤ E) : Below B w (V.putObj E ob) :=
  ⟨h.os, h.tape, h.output, by have := h.size; simpa [World.putObj] using this, fun k hk => (World.putObj_heap_other (by omega)).trans (h.block k hk)⟩
/-- The walker with the variable that holds it. -/
structure Nw (w wc : World) (b0 bw wb br bt bp : Nat) (F : Array Value) (tv : Int) : Prop where
  wk : Wk w.heap.size wc wb br bt bp false (.slice none 0 0) 0 tv
  pw : wc.heap[bw]? = some (.cells #[.pointer (some ⟨wb, 0, none⟩)] 56 (0, 0))
  f : wc.heap[b0]? = some (.cells F 38 (0, 0))
  bl : Below w.heap.size w wc
theorem at_new {X : World} {ob : Obj} {k : Nat} (h : X.heap.size = k) : (X.alloc ob).heap[k]? = some ob := by rw [← h]; exact World.alloc_heap_new X ob
theorem at_old {X : World} {ob : Obj} {k : Nat} {v : Option Obj} (h : k < X.heap.size) (hv : X.heap[k]? = v) : (X.alloc ob).heap[k]? = v := ((lay_below).block k h).trans hv
theorem at_drew {X : World} {k : Nat} {v : Option Obj} (h : X.heap[k]? = v) : X.drew.heap[k]? = v := h
theorem region_only' {n : Nat} {P : Program} {c : Code} {K : Act → World → Prop} {Q : Exit → Act → World → Prop} {a : Act} {w : World} (h : c.wp P (Exit.then K (fun _ _ _ => False)) a w) : c.wp P (Exit.then K Q) a w :=
  wp_mono h (fun e a w he => by cases e <;> first | exact he | exact he.elim)
set_option maxHeartbeats 2000000 in
set_option maxRecDepth 100000 in
theorem newWalker_ex (g o yc : Nat) (w : World) (hl : LaidL w) (h : ∀ k, k < 5 → w.cell? ⟨g, o + k, none⟩ = some (.int .i64 0)) :
    Calls Tryd.prog 18 #[.agg (exC (some ⟨g, o, none⟩) yc)] w fun e w' => ∃ wb, e = .returned (.pointer (some ⟨wb, 0, none⟩)) ∧ ∃ br bt bp, Wk w.heap.size w' wb br bt bp false (.slice none 0 0) 0 (-1) ∧ Below w.heap.size w w' := by
  have HC := Hid.mk' h
  have HLD := Hid.mk' hl
  have gl : g < w.heap.size := World.block_lt_of_cell? w _ (h 0 (by omega))
  have HGL := Hid.mk' gl
  have HTG := Hid.mk' (fun W (hW : Below w.heap.size w W) => targets_ex g o yc W (hl.below' hW) (fun k hk => (hW.cell (p := ⟨g, o + k, none⟩) gl).trans (h k hk)))
  unfold exC at HTG ⊢
  clear h hl gl
  refine (callsIn_wide (n := 3)).1 ?_
  refine callsIn_of_wp_marks Tryd.func18 rfl trivial ?_ rfl
  refine wpIn_wide.2 ?_
  simp only [Tryd.ntmps18, List.size_toArray, List.length_cons, List.length_nil, Nat.reduceAdd, Nat.reduceSub, Array.replicate_succ, Array.replicate_zero, List.push_toArray, List.append_toArray, List.nil_append, List.cons_append]
  have mk1 : ∀ W : World, (Instr.makeSlice 39 (.int .i64 1) (.int .i64 1)).run Tryd.prog W = .ok (.slice (some ⟨W.heap.size, 0, none⟩) 1 1) (W.alloc (.cells #[.bool false] 4)) := fun W => by kernel_rfl
  have mk2 : ∀ W : World, (Instr.makeSlice 41 (.int .i64 1) (.int .i64 1)).run Tryd.prog W = .ok (.slice (some ⟨W.heap.size, 0, none⟩) 1 1) (W.alloc (.cells #[.int .i64 0] 3)) := fun W => by kernel_rfl
  have mk3 : ∀ W : World, (Instr.makeSlice 59 (.int .i64 2) (.int .i64 2)).run Tryd.prog W = .ok (.slice (some ⟨W.heap.size, 0, none⟩) 2 2) (W.alloc (.cells #[.slice none 0 0, .slice none 0 0] 41)) := fun W => by kernel_rfl
  obtain ⟨b0, hb0⟩ : ∃ b0, w.heap.size = b0 := ⟨_, rfl⟩
  go_upto_region 2 with fail
  go_cut [4, 14, 16, 19, 21] from 13 (fun v4 v14 v16 v19 v21 wc => ∃ bw wb br bt bp, v4 = .pointer (some ⟨bw, 0, none⟩) ∧ v14 = .slice (some ⟨br, 0, none⟩) 1 1 ∧ v16 = .slice (some ⟨bt, 0, none⟩) 1 1 ∧ v19 = .slice (some ⟨bp, 0, none⟩) 2 2 ∧ v21 = .pointer (some ⟨wb, 0, none⟩) ∧ Hid (Nw w wc b0 bw wb br bt bp #[.string ⟨#[]⟩, .int .i64 0, .bool false, .bool false, .int .i64 1, .slice none 0 0, .slice (some ⟨g, o, none⟩) 1 yc, .slice none 0 0, .slice none 0 0] 0))
  case first =>
    refine region_only' (n := 0) ?_
    go_region
    all_goals go_wp2_with fail
    all_goals
      go_meet
      refine ⟨_, _, _, _, _, rfl, rfl, rfl, rfl, rfl, Hid.mk' ⟨⟨?_, ?_, ?_, ?_, World.ownsRow_nil _ _ _ _, ?_⟩, ?_, ?_, ?_⟩⟩
      · refine at_drew ?_
        repeat' (first | exact at_new (by simp only [World.size_alloc, hb0]) | refine at_old (by simp only [World.size_alloc, hb0]; omega) ?_)
      · refine at_drew ?_
        repeat' (first | exact at_new (by simp only [World.size_alloc, hb0]) | refine at_old (by simp only [World.size_alloc, hb0]; omega) ?_)
      · refine at_drew ?_
        repeat' (first | exact at_new (by simp only [World.size_alloc, hb0]) | refine at_old (by simp only [World.size_alloc, hb0]; omega) ?_)
      · refine at_drew ?_
        repeat' (first | exact at_new (by simp only [World.size_alloc, hb0]) | refine at_old (by simp only [World.size_alloc, hb0]; omega) ?_)
      · omega
      · refine at_drew ?_
        repeat' (first | exact at_new (by simp only [World.size_alloc, hb0]) | refine at_old (by simp only [World.size_alloc, hb0]; omega) ?_)
      · refine at_drew ?_
        repeat' (first | exact at_new (by simp only [World.size_alloc, hb0]) | refine at_old (by simp only [World.size_alloc, hb0]; omega) ?_)
      · refine Below.drew ?_
        repeat' (first | exact lay_below | refine Below.alloc ?_ (by simp only [World.size_alloc]; omega) _)
  case rest =>
    obtain ⟨bw, wb, br, bt, bp, rfl, rfl, rfl, rfl, rfl, HW⟩ := hcut
    have hwk := HW.out.wk
    have c0 : wc.cell? ⟨bw, 0, none⟩ = some (.pointer (some ⟨wb, 0, none⟩)) := (cell_row _ _ 0 _ _ HW.out.pw).trans rfl
    have c2 : wc.cell? ⟨wb, 2, none⟩ = some (.slice (some ⟨bt, 0, none⟩) 1 1) := (cell_row _ _ 2 _ _ hwk.blk).trans rfl
    have ct : wc.cell? ⟨bt, 0, none⟩ = some (.int .i64 0) := (cell_row _ _ 0 _ _ hwk.t).trans rfl
    have zt := thaw_row _ _ _ _ hwk.t 0
    have n1 : bw ≠ bt := fun e => by have h1 := HW.out.pw; rw [e, hwk.t] at h1; cases h1
    have n2 : wb ≠ bt := fun e => by have h1 := hwk.blk; rw [e, hwk.t] at h1; cases h1
    have n3 : br ≠ bt := fun e => by have h1 := hwk.r; rw [e, hwk.t] at h1; cases h1
    have n4 : bp ≠ bt := fun e => by have h1 := hwk.p; rw [e, hwk.t] at h1; cases h1
    have n5 : b0 ≠ bt := fun e => by have h1 := HW.out.f; rw [e, hwk.t] at h1; cases h1
    have HW5 : Hid (Nw w (wc.setCell ⟨bt, 0, none⟩ (.int .i64 (-1))) b0 bw wb br bt bp #[.string ⟨#[]⟩, .int .i64 0, .bool false, .bool false, .int .i64 1, .slice none 0 0, .slice (some ⟨g, o, none⟩) 1 yc, .slice none 0 0, .slice none 0 0] (-1)) := Hid.mk' ⟨⟨(Below.heap_setCell _ _ _ _ n2).trans hwk.blk, (Below.heap_setCell _ _ _ _ n3).trans hwk.r, set_blk _ hwk.t, (Below.heap_setCell _ _ _ _ n4).trans hwk.p, World.ownsRow_nil _ _ _ _, hwk.ge⟩, (Below.heap_setCell _ _ _ _ n1).trans HW.out.pw, (Below.heap_setCell _ _ _ _ n5).trans HW.out.f, HW.out.bl.setCell hwk.ge.2.2.1 _⟩
    clear hwk n3 n4 n5 mk1 mk2 mk3
    go_wp2_with fail
    refine wp_loop_rounds 2 ?_
    rw [rounds_succ]
    go_wp2_with fail
    rw [rounds_succ]
    obtain ⟨W5, hW5⟩ : ∃ W5, wc.setCell ⟨bt, 0, none⟩ (.int .i64 (-1)) = W5 := ⟨_, rfl⟩
    rw [hW5] at HW5 ⊢
    clear c0 c2 ct zt n1 n2 hW5 HW
    have f0 : W5.cell? ⟨b0, 0, none⟩ = _ := (cell_row _ _ 0 _ _ HW5.out.f).trans rfl
    have f1 : W5.cell? ⟨b0, 1, none⟩ = _ := (cell_row _ _ 1 _ _ HW5.out.f).trans rfl
    have f2 : W5.cell? ⟨b0, 2, none⟩ = _ := (cell_row _ _ 2 _ _ HW5.out.f).trans rfl
    have f3 : W5.cell? ⟨b0, 3, none⟩ = _ := (cell_row _ _ 3 _ _ HW5.out.f).trans rfl
    have f4 : W5.cell? ⟨b0, 4, none⟩ = _ := (cell_row _ _ 4 _ _ HW5.out.f).trans rfl
    have f5 : W5.cell? ⟨b0, 5, none⟩ = _ := (cell_row _ _ 5 _ _ HW5.out.f).trans rfl
    have f6 : W5.cell? ⟨b0, 6, none⟩ = _ := (cell_row _ _ 6 _ _ HW5.out.f).trans rfl
    have f7 : W5.cell? ⟨b0, 7, none⟩ = _ := (cell_row _ _ 7 _ _ HW5.out.f).trans rfl
    have f8 : W5.cell? ⟨b0, 8, none⟩ = _ := (cell_row _ _ 8 _ _ HW5.out.f).trans rfl
    simp at f0 f1 f2 f3 f4 f5 f6 f7 f8
    go_wp2_with (go_at_call 12; refine (HTG.out _ HW5.out.bl).mono ?_; rintro e w6 ⟨ba, rfl, hba, b6⟩)
    have HB6 := Hid.mk' b6
    have l6 : b0 < w6.heap.size := Nat.lt_of_lt_of_le (Array.getElem?_eq_some_iff.1 HW5.out.f).1 b6.size
    clear f0 f1 f2 f3 f4 f5 f6 f7 f8 b6
    refine (wpIn_wide (n := 3)).1 ?_
    refine range_p (α := Unit) (by omega) (gf := 29) (lb := #[.pointer (some ⟨ba, 0, none⟩)]) rfl (enters_of Tryd.func29 (by kernel_rfl) rfl)
      (targets_seq (3 - 1) ba b0 w6 hba) l6 (Below.refl _ _) (fun _ => rfl)
      (fun _ V => Below w6.heap.size w6 V) (fun _ _ _ => False) (ownFrom_below (Nat.le_refl _) (Nat.le_refl _))
      (fun cd s A C row hs hgr hr => hs) (Below.refl _ _) ?round1 ?done1 ?stop1
    case round1 =>
      intro l pre y V Vb _ _ hlt
      exact absurd hlt (Nat.not_lt_zero _)
    case stop1 =>
      rintro E cd pre V hE h _ hK
      exact h.elim
    case done1 =>
      rintro E xs V hE rfl bV hK
      have BV : Below W5.heap.size W5 V := HB6.out.trans (bV.mono HB6.out.size)
      have HBV := Hid.mk' BV
      have k0 : V.cell? ⟨bw, 0, none⟩ = some (.pointer (some ⟨wb, 0, none⟩)) := (cell_row _ _ 0 _ _ ((BV.block _ (Array.getElem?_eq_some_iff.1 HW5.out.pw).1).trans HW5.out.pw)).trans rfl
      have k7 : V.cell? ⟨b0, 7, none⟩ = some (.slice none 0 0) := (cell_row _ _ 7 _ _ ((BV.block _ (Array.getElem?_eq_some_iff.1 HW5.out.f).1).trans HW5.out.f)).trans rfl
      have HK := Hid.mk' hK
      have HEE := Hid.mk' hE
      clear bV BV hK hE
      go_wp2_with fail
      refine wp_loop_rounds 1 ?_
      rw [rounds_succ]
      go_wp2_with fail
      refine ⟨by simp, .inl ⟨_, _, rfl, run_takeDeferred HK.out, ?_⟩⟩
      have B7 : Below W5.heap.size W5 (V.putObj E (.deferred none)) := below_putObj HBV.out (Nat.le_trans HB6.out.size HEE.out)
      exact ⟨_, results_tmp rfl _ _ _, wb, rfl, br, bt, bp, HW5.out.wk.below B7, HW5.out.bl.trans (B7.mono HW5.out.bl.size)⟩
end Go.Proofs.YtlhiedlpjefbnaaDoor
