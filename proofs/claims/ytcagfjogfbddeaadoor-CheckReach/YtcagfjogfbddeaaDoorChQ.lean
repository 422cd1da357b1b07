/- Package check: Reach at the chapter's example: the targets, the walker made. Package check: the walker at the chapter's example. Package check: Reach at the chapter's example. -/
import Derived.Test.YtcagfjogfbddeaaDoorChM
import Derived.Test.YtcagfjogfbddeaaDoorShelf
import Derived.Test.YtcagfjogfbddeaaDoorKRng2
import Derived.Deep.DeepCutAuto
namespace Go.Proofs.YtcagfjogfbddeaaDoor
set_option linter.unusedVariables false
set_option linter.unusedSimpArgs false
open Go.RowKit Go.Shelf

/-- The function of one instruction, Load. -/
def exF : Fun := ⟨⟨#[]⟩, 0, false, false, 1, [], [⟨0, 0, 0, 0, 0⟩], [], []⟩
def exC (ya : Option Addr) (yc : Nat) : Array Value := #[.string ⟨#[]⟩, .int .i64 0, .bool false, .bool false, .int .i64 1, .slice none 0 0, .slice ya 1 yc, .slice none 0 0, .slice none 0 0]
set_option maxHeartbeats 1000000 in
set_option maxRecDepth 100000 in
theorem targets_ex (g o yc : Nat) (w : World) (hl : LaidL w) (h : ∀ k, k < 5 → w.cell? ⟨g, o + k, none⟩ = some (.int .i64 0)) :
    Calls Tryd.prog 9 #[.agg (exC (some ⟨g, o, none⟩) yc)] w fun e w' => ∃ ba, e = .returned (.func (.func 22) #[] #[.pointer (some ⟨ba, 0, none⟩)]) ∧ w'.heap[ba]? = some (.cells #[.slice none 0 0] 60 (0, 0)) ∧ Below w.heap.size w w' := by
  have h0 := h 0 (by omega)
  have h1 := h 1 (by omega)
  have h2 := h 2 (by omega)
  have h3 := h 3 (by omega)
  have h4 := h 4 (by omega)
  simp only [Nat.add_zero] at h0
  have HOP := Hid.mk' (fun W (hW : LaidL W) => operandsZ 0 W (Hid.mk' hW))
  have hmf : ∀ (fn : Fn) (first cap : Array Value) (w : World), (Instr.makeFunc fn first cap).run Tryd.prog w = .ok (.func fn first cap) w := fun _ _ _ _ => rfl
  have HLD := Hid.mk' hl
  unfold exC
  clear h
  have HIX : Hid (∀ W, Calls Tryd.prog 19 #[.string (Sb (letz 0)), .int .u8 116] W fun e w' => e = .returned (.int .i64 (-1)) ∧ w' = W) := Hid.mk' (fun W => Tryd.strings_IndexByte (Sb (letz 0)) 116 W)
  obtain ⟨S, hS⟩ : ∃ S, Sb (letz 0) = S := ⟨_, rfl⟩
  rw [hS] at HIX HOP
  clear hS
  obtain ⟨W1, hW1⟩ : ∃ W1, (w.alloc (.cells #[.string ⟨#[]⟩, .int .i64 0, .bool false, .bool false, .int .i64 1, .slice none 0 0, .slice (some ⟨g, o, none⟩) 1 yc, .slice none 0 0, .slice none 0 0] 28)).alloc (.cells #[.slice none 0 0] 60) = W1 := ⟨_, rfl⟩
  have b1 : Below w.heap.size w W1 := by rw [← hW1]; exact (lay_below).alloc (by simp) _
  have q1 : W1.heap[w.heap.size + 1]? = some (.cells #[.slice none 0 0] 60 (0, 0)) := by
    rw [← hW1]
    have := @box_new (w.alloc (.cells #[.string ⟨#[]⟩, .int .i64 0, .bool false, .bool false, .int .i64 1, .slice none 0 0, .slice (some ⟨g, o, none⟩) 1 yc, .slice none 0 0, .slice none 0 0] 28)) #[.slice none 0 0] 60
    rw [World.size_alloc] at this
    exact this
  have HL1 := Hid.mk' (hl.below' b1)
  have HB1 := Hid.mk' b1
  have HQ1 := Hid.mk' q1
  have gl : g < w.heap.size := World.block_lt_of_cell? w _ h0
  have k0 := (b1.cell (p := ⟨g, o, none⟩) gl).trans h0
  have k1 := (b1.cell (p := ⟨g, o + 1, none⟩) gl).trans h1
  have k2 := (b1.cell (p := ⟨g, o + 2, none⟩) gl).trans h2
  have k3 := (b1.cell (p := ⟨g, o + 3, none⟩) gl).trans h3
  have k4 := (b1.cell (p := ⟨g, o + 4, none⟩) gl).trans h4
  have HH := Hid.mk' hW1
  clear hl b1 q1 gl h0 h1 h2 h3 h4 hW1
  go_enter Tryd.func9, Tryd.ntmps9
  go_wp2_with fail
  rw [HH.out]
  refine wp_loop_rounds 2 ?_
  rw [rounds_succ]
  go_wp2_with (first
    | (go_at_call 20; refine (HOP.out _ (HL1.out.below' (by first | exact Below.refl _ _ | exact lay_below))).mono ?_; rintro e w2 ⟨rfl, hw2⟩; rw [hw2]; clear hw2 w2)
    | (go_at_call 19; refine (HIX.out _).mono ?_; rintro e w2 ⟨rfl, hw2⟩; rw [hw2]; clear hw2 w2))
  rw [rounds_succ]
  go_wp2
  go_ret
  refine ⟨w.heap.size + 1, rfl, ?_, ?_⟩
  · rw [(lay_below).block _ (by rw [← HH.out]; simp)]
    exact HQ1.out
  · exact HB1.out.trans ((lay_below).mono HB1.out.size)
set_option maxHeartbeats 1000000 in
set_option maxRecDepth 100000 in
theorem targets_none (v : Value) (ba : Nat) (w : World) (h : w.heap[ba]? = some (.cells #[.slice none 0 0] 60 (0, 0))) : Calls Tryd.prog 22 #[v, .pointer (some ⟨ba, 0, none⟩)] w fun e w' => (∃ v, e = .returned v) ∧ w' = w := by
  have c0 : w.cell? ⟨ba, 0, none⟩ = some (.slice none 0 0) := (cell_row _ _ 0 _ _ h).trans rfl
  clear h
  go_enter Tryd.func22, Tryd.ntmps22
  go_wp2_with fail
  refine wp_loop_rounds 1 ?_
  rw [rounds_succ]
  go_wp2
  go_end0
  exact ⟨⟨_, rfl⟩, rfl⟩
theorem targets_seq (n ba Bk : Nat) (w : World) (h : w.heap[ba]? = some (.cells #[.slice none 0 0] 60 (0, 0))) :
    SeqO (α := Unit) n Tryd.prog 22 #[.pointer (some ⟨ba, 0, none⟩)] (fun _ => #[.int .i64 0, .int .i64 0]) Bk (fun xs => xs = []) (fun _ => False) 0 w := by
  intro l J Jx W hW hJ hJx _ h0
  refine callsIn_wide.2 ((targets_none _ ba W ((hW.block ba (Array.getElem?_eq_some_iff.1 h).1).trans h)).mono ?_)
  rintro e w' ⟨he, rfl⟩
  exact ⟨he, .inl ⟨[], rfl, h0⟩⟩
end Go.Proofs.YtcagfjogfbddeaaDoor

namespace Go.Proofs.YtcagfjogfbddeaaDoor
set_option linter.unusedVariables false
set_option linter.unusedSimpArgs false
open Go.RowKit Go.Shelf

/-- The walker of the function of one instruction. -/
structure Wk (B : Nat) (w : World) (wb br bt bp : Nat) (r0 : Bool) (vw : Value) (k : Nat) (tv : Int) : Prop where
  blk : w.heap[wb]? = some (.cells #[.slice (some ⟨br, 0, none⟩) 1 1, vw, .slice (some ⟨bt, 0, none⟩) 1 1, .slice (some ⟨bp, 0, none⟩) 2 2] 53 (0, 0))
  r : w.heap[br]? = some (.cells #[.bool r0] 4 (0, 0))
  t : w.heap[bt]? = some (.cells #[.int .i64 tv] 3 (0, 0))
  p : w.heap[bp]? = some (.cells #[.slice none 0 0, .slice none 0 0] 36 (0, 0))
  own : w.ownsRow (bt + 1) 3 1 vw k (ints (List.replicate k 0))
  ge : B ≤ wb ∧ B ≤ br ∧ B ≤ bt ∧ B ≤ bp
theorem Wk.below {B : Nat} {w w' : World} {wb br bt bp : Nat} {r0 : Bool} {vw : Value} {k : Nat} {tv : Int} (h : Wk B w wb br bt bp r0 vw k tv) (hb : Below w.heap.size w w') : Wk B w' wb br bt bp r0 vw k tv :=
  have f : ∀ {k : Nat} {ob : Obj}, w.heap[k]? = some ob → w'.heap[k]? = some ob := fun h => (hb.block _ (Array.getElem?_eq_some_iff.1 h).1).trans h
  ⟨f h.blk, f h.r, f h.t, f h.p, own_below h.own hb, h.ge⟩
theorem below_putObj {B E : Nat} {w V : World} {ob : Obj} (h : Below B w V) (hE : B ≤ E) : Below B w (V.putObj E ob) :=
  ⟨h.os, h.tape, h.output, by have := h.size; simpa [World.putObj] using this, fun k hk => (World.putObj_heap_other (by omega)).trans (h.block k hk)⟩
/-- The walker with the variable that holds it. -/
structure Nw (w wc : World) (b0 bw wb br bt bp : Nat) (F : Array Value) (tv : Int) : Prop where
  wk : Wk w.heap.size wc wb br bt bp false (.slice none 0 0) 0 tv
  pw : wc.heap[bw]? = some (.cells #[.pointer (some ⟨wb, 0, none⟩)] 48 (0, 0))
  f : wc.heap[b0]? = some (.cells F 28 (0, 0))
  bl : Below w.heap.size w wc
theorem at_new {X : World} {ob : Obj} {k : Nat} (h : X.heap.size = k) : (X.alloc ob).heap[k]? = some ob := by rw [← h]; exact World.alloc_heap_new X ob
theorem at_old {X : World} {ob : Obj} {k : Nat} {v : Option Obj} (h : k < X.heap.size) (hv : X.heap[k]? = v) : (X.alloc ob).heap[k]? = v := ((lay_below).block k h).trans hv
theorem at_drew {X : World} {k : Nat} {v : Option Obj} (h : X.heap[k]? = v) : X.drew.heap[k]? = v := h
theorem region_only' {n : Nat} {P : Program} {c : Code} {K : Act → World → Prop} {Q : Exit → Act → World → Prop} {a : Act} {w : World} (h : c.wp P (Exit.then K (fun _ _ _ => False)) a w) : c.wp P (Exit.then K Q) a w :=
  wp_mono h (fun e a w he => by cases e <;> first | exact he | exact he.elim)
set_option maxHeartbeats 2000000 in
set_option maxRecDepth 100000 in
theorem newWalker_ex (g o yc : Nat) (w : World) (hl : LaidL w) (h : ∀ k, k < 5 → w.cell? ⟨g, o + k, none⟩ = some (.int .i64 0)) :
    Calls Tryd.prog 11 #[.agg (exC (some ⟨g, o, none⟩) yc)] w fun e w' => ∃ wb, e = .returned (.pointer (some ⟨wb, 0, none⟩)) ∧ ∃ br bt bp, Wk w.heap.size w' wb br bt bp false (.slice none 0 0) 0 (-1) ∧ Below w.heap.size w w' := by
  have HC := Hid.mk' h
  have HLD := Hid.mk' hl
  have gl : g < w.heap.size := World.block_lt_of_cell? w _ (h 0 (by omega))
  have HGL := Hid.mk' gl
  have HTG := Hid.mk' (fun W (hW : Below w.heap.size w W) => targets_ex g o yc W (hl.below' hW) (fun k hk => (hW.cell (p := ⟨g, o + k, none⟩) gl).trans (h k hk)))
  unfold exC at HTG ⊢
  clear h hl gl
  refine (callsIn_wide (n := 3)).1 ?_
  refine callsIn_of_wp_marks Tryd.func11 rfl trivial ?_ rfl
  refine wpIn_wide.2 ?_
  simp only [Tryd.ntmps11, List.size_toArray, List.length_cons, List.length_nil, Nat.reduceAdd, Nat.reduceSub, Array.replicate_succ, Array.replicate_zero, List.push_toArray, List.append_toArray, List.nil_append, List.cons_append]
  have mk1 : ∀ W : World, (Instr.makeSlice 34 (.int .i64 1) (.int .i64 1)).run Tryd.prog W = .ok (.slice (some ⟨W.heap.size, 0, none⟩) 1 1) (W.alloc (.cells #[.bool false] 4)) := fun W => by kernel_rfl
  have mk2 : ∀ W : World, (Instr.makeSlice 36 (.int .i64 1) (.int .i64 1)).run Tryd.prog W = .ok (.slice (some ⟨W.heap.size, 0, none⟩) 1 1) (W.alloc (.cells #[.int .i64 0] 3)) := fun W => by kernel_rfl
  have mk3 : ∀ W : World, (Instr.makeSlice 51 (.int .i64 2) (.int .i64 2)).run Tryd.prog W = .ok (.slice (some ⟨W.heap.size, 0, none⟩) 2 2) (W.alloc (.cells #[.slice none 0 0, .slice none 0 0] 36)) := fun W => by kernel_rfl
  obtain ⟨b0, hb0⟩ : ∃ b0, w.heap.size = b0 := ⟨_, rfl⟩
  go_upto_region 2 with fail
  go_cut [4, 14, 16, 19, 21] from 13 (fun v4 v14 v16 v19 v21 wc => ∃ bw wb br bt bp, v4 = .pointer (some ⟨bw, 0, none⟩) ∧ v14 = .slice (some ⟨br, 0, none⟩) 1 1 ∧ v16 = .slice (some ⟨bt, 0, none⟩) 1 1 ∧ v19 = .slice (some ⟨bp, 0, none⟩) 2 2 ∧ v21 = .pointer (some ⟨wb, 0, none⟩) ∧ Hid (Nw w wc b0 bw wb br bt bp #[.string ⟨#[]⟩, .int .i64 0, .bool false, .bool false, .int .i64 1, .slice none 0 0, .slice (some ⟨g, o, none⟩) 1 yc, .slice none 0 0, .slice none 0 0] 0))
  case first =>
    refine region_only' (n := 0) ?_
    go_region
    all_goals go_wp2_with fail
    all_goals
      go_meet
      refine ⟨_, _, _, _, _, rfl, rfl, rfl, rfl, rfl, Hid.mk' ⟨⟨?_, ?_, ?_, ?_, World.ownsRow_nil _ _ _ _, ?_⟩, ?_, ?_, ?_⟩⟩
      · refine at_drew ?_
        repeat' (first | exact at_new (by simp only [World.size_alloc, hb0]) | refine at_old (by simp only [World.size_alloc, hb0]; omega) ?_)
      · refine at_drew ?_
        repeat' (first | exact at_new (by simp only [World.size_alloc, hb0]) | refine at_old (by simp only [World.size_alloc, hb0]; omega) ?_)
      · refine at_drew ?_
        repeat' (first | exact at_new (by simp only [World.size_alloc, hb0]) | refine at_old (by simp only [World.size_alloc, hb0]; omega) ?_)
      · refine at_drew ?_
        repeat' (first | exact at_new (by simp only [World.size_alloc, hb0]) | refine at_old (by simp only [World.size_alloc, hb0]; omega) ?_)
      · omega
      · refine at_drew ?_
        repeat' (first | exact at_new (by simp only [World.size_alloc, hb0]) | refine at_old (by simp only [World.size_alloc, hb0]; omega) ?_)
      · refine at_drew ?_
        repeat' (first | exact at_new (by simp only [World.size_alloc, hb0]) | refine at_old (by simp only [World.size_alloc, hb0]; omega) ?_)
      · refine Below.drew ?_
        repeat' (first | exact lay_below | refine Below.alloc ?_ (by simp only [World.size_alloc]; omega) _)
  case rest =>
    obtain ⟨bw, wb, br, bt, bp, rfl, rfl, rfl, rfl, rfl, HW⟩ := hcut
    have hwk := HW.out.wk
    have c0 : wc.cell? ⟨bw, 0, none⟩ = some (.pointer (some ⟨wb, 0, none⟩)) := (cell_row _ _ 0 _ _ HW.out.pw).trans rfl
    have c2 : wc.cell? ⟨wb, 2, none⟩ = some (.slice (some ⟨bt, 0, none⟩) 1 1) := (cell_row _ _ 2 _ _ hwk.blk).trans rfl
    have ct : wc.cell? ⟨bt, 0, none⟩ = some (.int .i64 0) := (cell_row _ _ 0 _ _ hwk.t).trans rfl
    have zt := thaw_row _ _ _ _ hwk.t 0
    have n1 : bw ≠ bt := fun e => by have h1 := HW.out.pw; rw [e, hwk.t] at h1; cases h1
    have n2 : wb ≠ bt := fun e => by have h1 := hwk.blk; rw [e, hwk.t] at h1; cases h1
    have n3 : br ≠ bt := fun e => by have h1 := hwk.r; rw [e, hwk.t] at h1; cases h1
    have n4 : bp ≠ bt := fun e => by have h1 := hwk.p; rw [e, hwk.t] at h1; cases h1
    have n5 : b0 ≠ bt := fun e => by have h1 := HW.out.f; rw [e, hwk.t] at h1; cases h1
    have HW5 : Hid (Nw w (wc.setCell ⟨bt, 0, none⟩ (.int .i64 (-1))) b0 bw wb br bt bp #[.string ⟨#[]⟩, .int .i64 0, .bool false, .bool false, .int .i64 1, .slice none 0 0, .slice (some ⟨g, o, none⟩) 1 yc, .slice none 0 0, .slice none 0 0] (-1)) := Hid.mk' ⟨⟨(Below.heap_setCell _ _ _ _ n2).trans hwk.blk, (Below.heap_setCell _ _ _ _ n3).trans hwk.r, set_blk _ hwk.t, (Below.heap_setCell _ _ _ _ n4).trans hwk.p, World.ownsRow_nil _ _ _ _, hwk.ge⟩, (Below.heap_setCell _ _ _ _ n1).trans HW.out.pw, (Below.heap_setCell _ _ _ _ n5).trans HW.out.f, HW.out.bl.setCell hwk.ge.2.2.1 _⟩
    clear hwk n3 n4 n5 mk1 mk2 mk3
    go_wp2_with fail
    refine wp_loop_rounds 2 ?_
    rw [rounds_succ]
    go_wp2_with fail
    rw [rounds_succ]
    obtain ⟨W5, hW5⟩ : ∃ W5, wc.setCell ⟨bt, 0, none⟩ (.int .i64 (-1)) = W5 := ⟨_, rfl⟩
    rw [hW5] at HW5 ⊢
    clear c0 c2 ct zt n1 n2 hW5 HW
    have f0 : W5.cell? ⟨b0, 0, none⟩ = _ := (cell_row _ _ 0 _ _ HW5.out.f).trans rfl
    have f1 : W5.cell? ⟨b0, 1, none⟩ = _ := (cell_row _ _ 1 _ _ HW5.out.f).trans rfl
    have f2 : W5.cell? ⟨b0, 2, none⟩ = _ := (cell_row _ _ 2 _ _ HW5.out.f).trans rfl
    have f3 : W5.cell? ⟨b0, 3, none⟩ = _ := (cell_row _ _ 3 _ _ HW5.out.f).trans rfl
    have f4 : W5.cell? ⟨b0, 4, none⟩ = _ := (cell_row _ _ 4 _ _ HW5.out.f).trans rfl
    have f5 : W5.cell? ⟨b0, 5, none⟩ = _ := (cell_row _ _ 5 _ _ HW5.out.f).trans rfl
    have f6 : W5.cell? ⟨b0, 6, none⟩ = _ := (cell_row _ _ 6 _ _ HW5.out.f).trans rfl
    have f7 : W5.cell? ⟨b0, 7, none⟩ = _ := (cell_row _ _ 7 _ _ HW5.out.f).trans rfl
    have f8 : W5.cell? ⟨b0, 8, none⟩ = _ := (cell_row _ _ 8 _ _ HW5.out.f).trans rfl
    simp at f0 f1 f2 f3 f4 f5 f6 f7 f8
    go_wp2_with (go_at_call 9; refine (HTG.out _ HW5.out.bl).mono ?_; rintro e w6 ⟨ba, rfl, hba, b6⟩)
    have HB6 := Hid.mk' b6
    have l6 : b0 < w6.heap.size := Nat.lt_of_lt_of_le (Array.getElem?_eq_some_iff.1 HW5.out.f).1 b6.size
    clear f0 f1 f2 f3 f4 f5 f6 f7 f8 b6
    refine (wpIn_wide (n := 3)).1 ?_
    refine range_p (α := Unit) (by omega) (gf := 22) (lb := #[.pointer (some ⟨ba, 0, none⟩)]) rfl (enters_of Tryd.func22 (by kernel_rfl) rfl)
      (targets_seq (3 - 1) ba b0 w6 hba) l6 (Below.refl _ _) (fun _ => rfl)
      (fun _ V => Below w6.heap.size w6 V) (fun _ _ _ => False) (ownFrom_below (Nat.le_refl _) (Nat.le_refl _))
      (fun cd s A C row hs hgr hr => hs) (Below.refl _ _) ?round1 ?done1 ?stop1
    case round1 =>
      intro l pre y V Vb _ _ hlt
      exact absurd hlt (Nat.not_lt_zero _)
    case stop1 =>
      rintro E cd pre V hE h _ hK
      exact h.elim
    case done1 =>
      rintro E xs V hE rfl bV hK
      have BV : Below W5.heap.size W5 V := HB6.out.trans (bV.mono HB6.out.size)
      have HBV := Hid.mk' BV
      have k0 : V.cell? ⟨bw, 0, none⟩ = some (.pointer (some ⟨wb, 0, none⟩)) := (cell_row _ _ 0 _ _ ((BV.block _ (Array.getElem?_eq_some_iff.1 HW5.out.pw).1).trans HW5.out.pw)).trans rfl
      have k7 : V.cell? ⟨b0, 7, none⟩ = some (.slice none 0 0) := (cell_row _ _ 7 _ _ ((BV.block _ (Array.getElem?_eq_some_iff.1 HW5.out.f).1).trans HW5.out.f)).trans rfl
      have HK := Hid.mk' hK
      have HEE := Hid.mk' hE
      clear bV BV hK hE
      go_wp2_with fail
      refine wp_loop_rounds 1 ?_
      rw [rounds_succ]
      go_wp2_with fail
      refine ⟨by simp, .inl ⟨_, _, rfl, run_takeDeferred HK.out, ?_⟩⟩
      have B7 : Below W5.heap.size W5 (V.putObj E (.deferred none)) := below_putObj HBV.out (Nat.le_trans HB6.out.size HEE.out)
      exact ⟨_, results_tmp rfl _ _ _, wb, rfl, br, bt, bp, HW5.out.wk.below B7, HW5.out.bl.trans (B7.mono HW5.out.bl.size)⟩
end Go.Proofs.YtcagfjogfbddeaaDoor

namespace Go.Proofs.YtcagfjogfbddeaaDoor
set_option linter.unusedVariables false
set_option linter.unusedSimpArgs false
open Go.RowKit Go.Shelf

theorem Wk.ne {B : Nat} {w : World} {wb br bt bp : Nat} {r0 : Bool} {vw : Value} {k : Nat} {tv : Int} (h : Wk B w wb br bt bp r0 vw k tv) : wb ≠ br ∧ wb ≠ bt ∧ wb ≠ bp ∧ br ≠ bt ∧ br ≠ bp ∧ bt ≠ bp := by
  have h1 := h.blk
  have h2 := h.r
  have h3 := h.t
  have h4 := h.p
  refine ⟨fun e => ?_, fun e => ?_, fun e => ?_, fun e => ?_, fun e => ?_, fun e => ?_⟩
  · rw [e, h2] at h1; cases h1
  · rw [e, h3] at h1; cases h1
  · rw [e, h4] at h1; cases h1
  · rw [e, h3] at h2; cases h2
  · rw [e, h4] at h2; cases h2
  · rw [e, h4] at h3; cases h3
theorem Wk.cells {B : Nat} {w : World} {wb br bt bp : Nat} {r0 : Bool} {vw : Value} {k : Nat} {tv : Int} (h : Wk B w wb br bt bp r0 vw k tv) : w.cell? ⟨wb, 0, none⟩ = some (.slice (some ⟨br, 0, none⟩) 1 1) ∧ w.cell? ⟨wb, 1, none⟩ = some vw ∧ w.cell? ⟨wb, 2, none⟩ = some (.slice (some ⟨bt, 0, none⟩) 1 1) ∧ w.cell? ⟨wb, 3, none⟩ = some (.slice (some ⟨bp, 0, none⟩) 2 2) ∧ w.cell? ⟨br, 0, none⟩ = some (.bool r0) ∧ w.cell? ⟨bt, 0, none⟩ = some (.int .i64 tv) ∧ w.cell? ⟨bp, 1, none⟩ = some (.slice none 0 0) :=
  ⟨(cell_row _ _ 0 _ _ h.blk).trans rfl, (cell_row _ _ 1 _ _ h.blk).trans rfl, (cell_row _ _ 2 _ _ h.blk).trans rfl, (cell_row _ _ 3 _ _ h.blk).trans rfl, (cell_row _ _ 0 _ _ h.r).trans rfl, (cell_row _ _ 0 _ _ h.t).trans rfl, (cell_row _ _ 1 _ _ h.p).trans rfl⟩
set_option maxHeartbeats 1000000 in
theorem reach_no {B : Nat} {w : World} {wb br bt bp : Nat} {r0 : Bool} {vw : Value} {k : Nat} {tv : Int} (h : Wk B w wb br bt bp r0 vw k tv) (z : Int) (hz : z = 1 ∨ z = -1) : Calls Tryd.prog 12 #[.pointer (some ⟨wb, 0, none⟩), .int .i64 z] w fun e w' => (∃ v, e = .returned v) ∧ w' = w := by
  obtain ⟨c0, _, _, _, _, _, _⟩ := h.cells
  clear h
  rcases hz with rfl | rfl
  all_goals
    go_enter Tryd.func12, Tryd.ntmps12
    go_wp2
    go_end0
    exact ⟨⟨_, rfl⟩, rfl⟩
theorem Wk.setR {B : Nat} {w : World} {wb br bt bp : Nat} {r0 : Bool} {vw : Value} {k : Nat} {tv : Int} (h : Wk B w wb br bt bp r0 vw k tv) (x : Bool) : Wk B (w.setCell ⟨br, 0, none⟩ (.bool x)) wb br bt bp x vw k tv := by
  obtain ⟨n1, n2, n3, n4, n5, n6⟩ := h.ne
  refine ⟨(Below.heap_setCell _ _ _ _ n1).trans h.blk, set_blk _ h.r, (Below.heap_setCell _ _ _ _ (Ne.symm n4)).trans h.t, (Below.heap_setCell _ _ _ _ (Ne.symm n5)).trans h.p, ?_, h.ge⟩
  refine ⟨h.own.1, ?_⟩
  rcases h.own.2 with hn | ⟨g, cap, cur, rfl, hB, hg, rest⟩
  · exact .inl hn
  · exact .inr ⟨g, cap, cur, rfl, hB, (Below.heap_setCell _ _ _ _ (show g ≠ br from fun e => by have := h.r; rw [← e, hg] at this; cases this)).trans hg, rest⟩
theorem Wk.setW {B : Nat} {w : World} {wb br bt bp : Nat} {r0 : Bool} {vw v : Value} {k j : Nat} {tv : Int} (h : Wk B w wb br bt bp r0 vw k tv) (ho : w.ownsRow (bt + 1) 3 1 v j (ints (List.replicate j 0))) : Wk B (w.setCell ⟨wb, 1, none⟩ v) wb br bt bp r0 v j tv := by
  obtain ⟨n1, n2, n3, n4, n5, n6⟩ := h.ne
  refine ⟨set_blk _ h.blk, (Below.heap_setCell _ _ _ _ (Ne.symm n1)).trans h.r, (Below.heap_setCell _ _ _ _ (Ne.symm n2)).trans h.t, (Below.heap_setCell _ _ _ _ (Ne.symm n3)).trans h.p, ?_, h.ge⟩
  refine ⟨ho.1, ?_⟩
  rcases ho.2 with hn | ⟨g, cap, cur, rfl, hB, hg, rest⟩
  · exact .inl hn
  · exact .inr ⟨g, cap, cur, rfl, hB, (Below.heap_setCell _ _ _ _ (show g ≠ wb from fun e => by have := h.blk; rw [← e, hg] at this; cases this)).trans hg, rest⟩
theorem Wk.grown {B : Nat} {w w' : World} {wb br bt bp : Nat} {r0 : Bool} {vw : Value} {k : Nat} {tv : Int} (h : Wk B w wb br bt bp r0 vw k tv) (hg : w.grownBy w' vw.ownBlock) : w'.heap[wb]? = w.heap[wb]? ∧ w'.heap[br]? = w.heap[br]? ∧ w'.heap[bt]? = w.heap[bt]? ∧ w'.heap[bp]? = w.heap[bp]? := by
  have nt : some bt ≠ vw.ownBlock := fun e => by have := (h.own.lt bt e.symm).1; omega
  exact ⟨hg.block _ (Array.getElem?_eq_some_iff.1 h.blk).1 (blk_ne h.own h.blk (fun c fz e => by cases e)), hg.block _ (Array.getElem?_eq_some_iff.1 h.r).1 (blk_ne h.own h.r (fun c fz e => by cases e)), hg.block _ (Array.getElem?_eq_some_iff.1 h.t).1 nt, hg.block _ (Array.getElem?_eq_some_iff.1 h.p).1 (blk_ne h.own h.p (fun c fz e => by cases e))⟩
set_option maxHeartbeats 1000000 in
set_option maxRecDepth 100000 in
theorem reach_yes {B : Nat} {w : World} {wb br bt bp : Nat} {tv : Int} (h : Wk B w wb br bt bp false (.slice none 0 0) 0 tv) (hB : B ≤ w.heap.size) : Calls Tryd.prog 12 #[.pointer (some ⟨wb, 0, none⟩), .int .i64 0] w fun e w' => (∃ v, e = .returned v) ∧ ∃ vw, Wk B w' wb br bt bp true vw 1 tv ∧ Below B w w' := by
  obtain ⟨i0, hif, hz0, hz1, hz2⟩ := info_parts infoInt
  obtain ⟨c0, c1, _, _, cr, _, _⟩ := h.cells
  obtain ⟨n1, n2, n3, n4, n5, n6⟩ := h.ne
  have zr := thaw_row _ _ _ _ h.r 0
  have H1 := Hid.mk' (h.setR true)
  have HB1 : Hid (Below B w (w.setCell ⟨br, 0, none⟩ (.bool true))) := Hid.mk' ((Below.refl _ _).setCell h.ge.2.1 _)
  obtain ⟨W1, hW1⟩ : ∃ W1, w.setCell ⟨br, 0, none⟩ (.bool true) = W1 := ⟨_, rfl⟩
  rw [hW1] at H1 HB1
  have hs1 : W1.heap.size = w.heap.size := by rw [← hW1]; simp
  obtain ⟨W2, hW2⟩ : ∃ W2, W1.alloc (.cells #[.int .i64 0] 3) = W2 := ⟨_, rfl⟩
  have b2 : Below W1.heap.size W1 W2 := by rw [← hW2]; exact lay_below
  have H2 := Hid.mk' (H1.out.below b2)
  have HC2 : Hid (∀ (j : Nat) (u : Value), ([.int .i64 0] : List Value)[j]? = some u → W2.cell? (Addr.add ⟨W1.heap.size, 0, none⟩ j) = some u) := Hid.mk' (by rw [← hW2]; exact cells_new _ _ _)
  have d1 : W1.cell? ⟨wb, 1, none⟩ = some (.slice none 0 0) := H1.out.cells.2.1
  have bl : bt < W1.heap.size := (Array.getElem?_eq_some_iff.1 H1.out.t).1
  have HZ2 : Hid (bt + 1 ≤ W2.heap.size) := Hid.mk' (by have := b2.size; omega)
  have HB2 := Hid.mk' (HB1.out.trans (b2.mono (by rw [hs1]; exact hB)))
  have HBS : Hid (B ≤ W2.heap.size) := Hid.mk' (Nat.le_trans (by rw [hs1]; exact hB) b2.size)
  obtain ⟨b3, hb3⟩ : ∃ b3, W1.heap.size = b3 := ⟨_, rfl⟩
  rw [hb3] at HC2
  have HGE := Hid.mk' h.ge
  have HHW := Hid.mk' hW1
  clear h n1 n2 n3 n4 n5 n6 b2 bl hs1 hW1
  go_enter Tryd.func12, Tryd.ntmps12
  go_upto_region 2 with fail
  rw [HHW.out]
  clear c0 c1 cr zr HHW
  go_wp2_with (at_builtin; refine wpList_append_own_at _ rfl _ _ 36 rfl (bt + 1) 3 i0 (.int .i64 0) 1 8 Tryd.underlying36 hif hz0 hz1 hz2 rfl (by decide) _ _ _ rfl H2.out.own ⟨b3, 0, none⟩ 1 1 [.int .i64 0] rfl rfl HC2.out ?c2 (by unfold maxLen; omega) (by omega) HZ2.out ?_)
  case c2 => first | rfl | (intro u hu; rw [List.mem_singleton.1 hu]; rfl)
  intro v' w4 ho4 hg4 _ _
  obtain ⟨e1, e2, e3, e4⟩ := H2.out.grown hg4
  have d4 : w4.cell? ⟨wb, 1, none⟩ = some (.slice none 0 0) := (cell_row _ _ 1 _ _ (e1.trans H2.out.blk)).trans rfl
  have z4 := thaw_row _ _ _ _ (e1.trans H2.out.blk) 1
  have HK4 : Hid (Wk B (w4.setCell ⟨wb, 1, none⟩ v') wb br bt bp true v' 1 tv) := Hid.mk' (Wk.setW (vw := .slice none 0 0) (k := 0) ⟨e1.trans H2.out.blk, e2.trans H2.out.r, e3.trans H2.out.t, e4.trans H2.out.p, World.ownsRow_nil _ _ _ _, HGE.out⟩ ho4)
  have HB4 : Hid (Below B w (w4.setCell ⟨wb, 1, none⟩ v')) := Hid.mk' ((HB2.out.grown hg4 HBS.out (fun k hk => by cases hk)).setCell HGE.out.1 _)
  obtain ⟨y4, c4, hv4, _⟩ := own_slice' ho4
  subst hv4
  clear ho4 hg4 e1 e2 e3 e4 d1
  go_wp2
  go_end0
  exact ⟨⟨_, rfl⟩, _, HK4.out, HB4.out⟩
set_option maxHeartbeats 1000000 in
set_option maxRecDepth 100000 in
theorem next_ex {B : Nat} {w : World} {wb br bt bp : Nat} {vw : Value} {tv : Int} (h : Wk B w wb br bt bp true vw 1 tv) : Calls Tryd.prog 13 #[.pointer (some ⟨wb, 0, none⟩)] w fun e w' => e = .returned (.int .i64 0) ∧ ∃ a c, Wk B w' wb br bt bp true (.slice a 0 c) 0 tv ∧ Below B w w' := by
  obtain ⟨a, c, hv, _⟩ := own_slice' h.own
  subst hv
  obtain ⟨g, rfl⟩ := own_some h.own (by omega)
  obtain ⟨_, c1, _⟩ := h.cells
  have z1 := thaw_row _ _ _ _ h.blk 1
  have cg : w.cell? ⟨g, 0, none⟩ = some (.int .i64 0) := by
    have := h.own.cells (g := g) rfl 0 (.int .i64 0) rfl
    rw [Addr.add_lit] at this
    simpa using this
  have hgw : wb ≠ g := fun e => by
    rcases h.own.2 with ⟨h0, _⟩ | ⟨g', cap, cur, h0, _, hg, _⟩
    · cases h0
    · simp only [Value.slice.injEq, Option.some.injEq, Addr.mk.injEq] at h0
      have h1 := h.blk
      rw [e, h0.1.1, hg] at h1
      cases h1
  have hcc : (0 : Int) ≤ (c : Int) := by omega
  have HK : Hid (Wk B (w.setCell ⟨wb, 1, none⟩ (.slice (some ⟨g, 0, none⟩) 0 c)) wb br bt bp true (.slice (some ⟨g, 0, none⟩) 0 c) 0 tv) := Hid.mk' (h.setW (own_short h.own 0 (by omega) (by omega)))
  have HB : Hid (Below B w (w.setCell ⟨wb, 1, none⟩ (.slice (some ⟨g, 0, none⟩) 0 c))) := Hid.mk' ((Below.refl _ _).setCell h.ge.1 _)
  clear h
  go_enter Tryd.func13, Tryd.ntmps13
  go_wp2
  go_ret
  exact ⟨rfl, _, _, HK.out, HB.out⟩
theorem Wk.setP {B : Nat} {w : World} {wb br bt bp : Nat} {r0 : Bool} {vw : Value} {k : Nat} {tv : Int} (h : Wk B w wb br bt bp r0 vw k tv) : Wk B (w.setCell ⟨bp, 1, none⟩ (.slice none 0 0)) wb br bt bp r0 vw k tv := by
  obtain ⟨n1, n2, n3, n4, n5, n6⟩ := h.ne
  refine ⟨(Below.heap_setCell _ _ _ _ n3).trans h.blk, (Below.heap_setCell _ _ _ _ n5).trans h.r, (Below.heap_setCell _ _ _ _ n6).trans h.t, set_blk _ h.p, ?_, h.ge⟩
  refine ⟨h.own.1, ?_⟩
  rcases h.own.2 with hn | ⟨g, cap, cur, rfl, hB, hg, rest⟩
  · exact .inl hn
  · exact .inr ⟨g, cap, cur, rfl, hB, (Below.heap_setCell _ _ _ _ (show g ≠ bp from fun e => by have := h.p; rw [← e, hg] at this; cases this)).trans hg, rest⟩
set_option maxHeartbeats 1000000 in
set_option maxRecDepth 100000 in
theorem enter_ex {B : Nat} {w : World} {wb br bt bp : Nat} {vw : Value} {k : Nat} {tv : Int} (h : Wk B w wb br bt bp true vw k tv) : Calls Tryd.prog 15 #[.pointer (some ⟨wb, 0, none⟩), .int .i64 0] w fun e w' => (∃ v, e = .returned v) ∧ Wk B w' wb br bt bp true vw k tv ∧ Below B w w' := by
  obtain ⟨c0, _, _, c3, _, _, cp⟩ := h.cells
  have zp := thaw_row _ _ _ _ h.p 1
  have HK := Hid.mk' h.setP
  have HB : Hid (Below B w (w.setCell ⟨bp, 1, none⟩ (.slice none 0 0))) := Hid.mk' ((Below.refl _ _).setCell h.ge.2.2.2 _)
  have n3 := h.ne.2.2.1
  clear h
  go_enter Tryd.func15, Tryd.ntmps15
  go_wp2_with fail
  refine wp_loop_rounds 2 ?_
  rw [rounds_succ]
  go_wp2_with fail
  refine wp_loop_rounds 1 ?_
  rw [rounds_succ]
  go_wp2_with fail
  rw [rounds_succ]
  go_wp2
  go_end0
  exact ⟨⟨_, rfl⟩, HK.out, HB.out⟩
set_option maxHeartbeats 1000000 in
set_option maxRecDepth 100000 in
theorem reach_ex (g o yc : Nat) (w : World) (hl : LaidL w) (h : ∀ k, k < 5 → w.cell? ⟨g, o + k, none⟩ = some (.int .i64 0)) :
    Calls Tryd.prog 6 #[.agg (exC (some ⟨g, o, none⟩) yc)] w fun e w' => ∃ br, e = .returned (.slice (some ⟨br, 0, none⟩) 1 1) ∧ w'.cell? ⟨br, 0, none⟩ = some (.bool true) ∧ Below w.heap.size w w' := by
  obtain ⟨W1, hW1⟩ : ∃ W1, w.alloc (.cells (exC (some ⟨g, o, none⟩) yc) 28) = W1 := ⟨_, rfl⟩
  have b1 : Below w.heap.size w W1 := by rw [← hW1]; exact lay_below
  have q1 : W1.heap[w.heap.size]? = some (.cells (exC (some ⟨g, o, none⟩) yc) 28 (0, 0)) := by rw [← hW1]; exact box_new
  have gl : g < w.heap.size := World.block_lt_of_cell? w _ (h 0 (by omega))
  have HNW := Hid.mk' (newWalker_ex g o yc W1 (hl.below' b1) (fun k hk => (b1.cell (p := ⟨g, o + k, none⟩) gl).trans (h k hk)))
  have HLV := Hid.mk' (fun W => leaves_any W 0)
  rw [show leaB 0 = false by decide] at HLV
  have s1 : W1.heap.size = w.heap.size + 1 := by rw [← hW1]; simp
  obtain ⟨b0, hb0⟩ : ∃ b0, w.heap.size = b0 := ⟨_, rfl⟩
  rw [hb0] at q1 s1
  have HQ1 := Hid.mk' q1
  have HB1 := Hid.mk' b1
  have HC := Hid.mk' (h 0 (by omega))
  have HGL := Hid.mk' gl
  have HS1 := Hid.mk' s1
  unfold exC at hW1 HNW HQ1 ⊢
  clear h hl b1 q1 gl s1
  go_enter Tryd.func6, Tryd.ntmps6
  have q0 := fun k => cell_row _ _ k _ _ HQ1.out
  have f0 : W1.cell? ⟨b0, 0, none⟩ = _ := (q0 0).trans rfl
  have f1 : W1.cell? ⟨b0, 1, none⟩ = _ := (q0 1).trans rfl
  have f2 : W1.cell? ⟨b0, 2, none⟩ = _ := (q0 2).trans rfl
  have f3 : W1.cell? ⟨b0, 3, none⟩ = _ := (q0 3).trans rfl
  have f4 : W1.cell? ⟨b0, 4, none⟩ = _ := (q0 4).trans rfl
  have f5 : W1.cell? ⟨b0, 5, none⟩ = _ := (q0 5).trans rfl
  have f6 : W1.cell? ⟨b0, 6, none⟩ = _ := (q0 6).trans rfl
  have f7 : W1.cell? ⟨b0, 7, none⟩ = _ := (q0 7).trans rfl
  have f8 : W1.cell? ⟨b0, 8, none⟩ = _ := (q0 8).trans rfl
  simp at f0 f1 f2 f3 f4 f5 f6 f7 f8
  clear q0
  go_wp2_with fail
  refine HNW.out.mono ?_
  rintro e w2 ⟨wb, rfl, br, bt, bp, hwk, b2⟩
  have HB2 := Hid.mk' b2
  have HR1 := Hid.mk' (reach_yes hwk b2.size)
  clear hwk b2 f0 f1 f2 f3 f4 f5 f6 f7 f8 hW1
  go_wp2_with fail
  refine HR1.out.mono ?_
  rintro e w3 ⟨⟨v3, rfl⟩, vw, hwk, b3⟩
  have HB3 := Hid.mk' (HB2.out.trans b3)
  have HWK := Hid.mk' hwk
  obtain ⟨_, k1, _⟩ := hwk.cells
  obtain ⟨va, vc, hv, _⟩ := own_slice' hwk.own
  subst hv
  have HNX := Hid.mk' (next_ex hwk)
  clear hwk b3
  go_wp2_with fail
  refine wp_loop_rounds 2 ?_
  rw [rounds_succ]
  go_wp2_with fail
  refine HNX.out.mono ?_
  rintro e w4 ⟨rfl, a4, c4, hwk, b4⟩
  have B4 := HB3.out.trans b4
  have HB4 := Hid.mk' B4
  have e6 : w4.cell? ⟨b0, 6, none⟩ = some (.slice (some ⟨g, o, none⟩) 1 yc) := (B4.cell (p := ⟨b0, 6, none⟩) (by have := HS1.out; show b0 < _; omega)).trans ((cell_row _ _ 6 _ _ HQ1.out).trans rfl)
  have e0 : w4.cell? ⟨g, o, none⟩ = some (.int .i64 0) := (B4.cell (p := ⟨g, o, none⟩) (by have := HS1.out; have := HGL.out; show g < _; omega)).trans ((HB1.out.cell (p := ⟨g, o, none⟩) HGL.out).trans HC.out)
  obtain ⟨_, _, t2, _, _, t5, _⟩ := hwk.cells
  have HN1 := Hid.mk' (reach_no hwk 1 (.inl rfl))
  have HN2 := Hid.mk' (reach_no hwk (-1) (.inr rfl))
  have HEN := Hid.mk' (enter_ex hwk)
  clear hwk b4 B4 k1
  go_wp2_with (go_at_call 14; refine (HLV.out _).mono ?_; rintro e w5 ⟨rfl, hw5⟩; rw [hw5]; clear hw5 w5)
  refine HN1.out.mono ?_
  rintro e w5 ⟨⟨v5, rfl⟩, hw5⟩
  rw [hw5]
  clear hw5 w5
  go_wp2_with fail
  refine HN2.out.mono ?_
  rintro e w5 ⟨⟨v6, rfl⟩, hw5⟩
  rw [hw5]
  clear hw5 w5
  go_wp2_with fail
  refine HEN.out.mono ?_
  rintro e w5 ⟨⟨v7, rfl⟩, hwk, b5⟩
  have HB5 := Hid.mk' (HB4.out.trans b5)
  obtain ⟨r0, r1, _, _, r4, _, _⟩ := hwk.cells
  clear hwk b5 e6 e0 t2 t5
  go_wp2_with fail
  rw [rounds_succ]
  go_wp2
  go_ret
  exact ⟨br, rfl, r4, HB1.out.trans (HB5.out.mono HB1.out.size)⟩
end Go.Proofs.YtcagfjogfbddeaaDoor
