/- units.Points and units.Text: code points with their places; UTF-8 of a text. -/
import Derived.RangeFuncNested
import Derived.RangeFuncBound
import Derived.RangeFuncCalls
import Derived.RangeFuncLeaves
import Derived.RangeFuncBox
import Derived.Shelf.Abstract
import Derived.OwnWalkIn
import Derived.TacticsInMore
import Derived.LoopNIn
import Derived.LoopIn
import Derived.Test.YtbkkkpfoaggejaaGreatDoorRune
import Derived.Test.YtbkkkpfoaggejaaGreatDoorOf
namespace Go.Proofs.YtbkkkpfoaggejaaGreatDoor
set_option linter.unusedVariables false
open Go.RowKit Go.Shelf
attribute [local go_sem] Oper.semAt_some

theorem region_only {F : Fence} {n : Nat} {P : Program} {c : Code} {K : Act → World → Prop} {Q : Exit → Act → World → Prop} {a : Act} {w : World} (h : c.wpIn F n P (Exit.then K (fun _ _ _ => False)) a w) : c.wpIn F n P (Exit.then K Q) a w :=
  wpIn_mono h (fun e a w hq => by cases e <;> first | exact hq | exact hq.elim)
theorem region_cut {F : Fence} {n : Nat} {P : Program} {c : Code} {K : Act → World → Prop} {Q : Exit → Act → World → Prop} {a : Act} {w : World} (K' : Act → World → Prop) (h : c.wpIn F n P (Exit.then K' (fun _ _ _ => False)) a w) (hk : ∀ a' w', K' a' w' → K a' w') : c.wpIn F n P (Exit.then K Q) a w :=
  wpIn_mono h (fun e a w hq => by cases e <;> first | exact hk _ _ hq | exact hq.elim)
/-- A block stands. -/
def KBox (B : Nat) (W W' : World) : Prop := W'.heap[B]? = W.heap[B]?
theorem KBox.trans {B : Nat} {a b c : World} (h : KBox B a b) (k : KBox B b c) : KBox B a c := Eq.trans k h
theorem KBox.put {B n : Nat} (h : B < n) (W : World) (l : Nat) (o o' : Obj) (hl : n ≤ l) (_ : W.heap[l]? = some o) (_ : o.isCells = false) (_ : o.isWalk = false) : KBox B W (W.putObj l o') :=
  World.putObj_heap_other (by omega)
theorem Boxed.kbox {B : Nat} {W W' : World} {t : TypeId} {v : Value} (h : Boxed W B t v) (k : KBox B W W') : Boxed W' B t v := Eq.trans k h

/-- A number that is a code point. -/
def cap21 (r : Nat) : Nat := min r 1114111
theorem cap21_le (r : Nat) : cap21 r ≤ 1114111 := by unfold cap21; omega
theorem cap21_pt (s : ByteArray) (i : Nat) : cap21 (ptAt s i) = ptAt s i := by have := ptAt_le s i; unfold cap21; omega
/-- What a round is handed. -/
def encP (x : Nat × Nat) : Array Value := #[.int .i64 x.1, .int .i32 (cap21 x.2)]

theorem grown_drewN (w : World) (n : Nat) (row : Option Nat) : w.grownBy (w.drewN n) row := ⟨rfl, rfl, rfl, Nat.le_refl _, fun _ _ _ => rfl⟩

set_option maxRecDepth 100000 in
set_option maxHeartbeats 1000000 in
theorem points1_in (n : Nat) (hn : 1 ≤ n) (l Bs m : Nat) (s : ByteArray) (hs : (s.size : Int) ≤ 1048576) (J Jx : List (Nat × Nat) → World → Prop) (hJ : AbidesFrom m J)
    (hY : ∀ pre x W, J pre W → pre.length < (pts s).length → YieldAt Fence.wide (n - 1) Tryz.prog l (encP x) W fun e W' =>
      (e = .returned (.bool true) ∧ J (pre ++ [x]) W' ∧ KBox Bs W W') ∨ (e = .returned (.bool false) ∧ Jx (pre ++ [x]) W'))
    (W : World) (hB : Boxed W Bs 22 (.string s)) (h0 : J [] W) :
    CallsIn Fence.wide n Tryz.prog 166 #[.func (.yield l) #[] #[], .pointer (some ⟨Bs, 0, none⟩)] W fun e W' => (∃ v, e = .returned v) ∧
      ((∃ ys, ys = pts s ∧ J ys W') ∨ (∃ pre, pre <+: pts s ∧ Jx pre W')) := by
  have hm : s.size ≤ maxLen := by unfold maxLen; omega
  refine callsIn_of_wp Tryz.func166 rfl trivial ?_ rfl
  simp only [Tryz.ntmps166, List.size_toArray, List.length_cons, List.length_nil, Nat.reduceAdd, Nat.reduceSub, Array.replicate_succ, Array.replicate_zero, List.push_toArray, List.append_toArray, List.nil_append, List.cons_append]
  gi_wp2
  gi_loopw [3] (fun v wr => ∃ (i : Nat) (pre : List (Nat × Nat)), v = .int .i64 i ∧ i ≤ s.size / 2 ∧ pts s = pre ++ ptsFrom s (s.size / 2) i ∧ Boxed wr Bs 22 (.string s) ∧ J pre wr) (fun v _ => s.size / 2 - (intOf v).toNat)
  case atStart => exact ⟨0, [], rfl, Nat.zero_le _, rfl, hB, h0⟩
  case round =>
    obtain ⟨i, pre, rfl, hi, hx, hb, hJs⟩ := hrel
    have hc := hb.cell
    have HX := Hid.mk' hx
    clear hx
    by_cases hlt : i < s.size / 2
    · have hlt' : (i : Int) < ((s.size / 2 : Nat) : Int) := by omega
      have hp := szAt_pos s i
      have hfit := szAt_fit s i hlt
      gi_wp2_with (refine ⟨trivial, ?_⟩; gi_at_call 99; refine (callsIn_wide.2 (len_any _ _ hm)).mono ?_; rintro e w1 ⟨rfl, hw1⟩; rw [hw1]; clear hw1 w1)
      refine ⟨trivial, (callsIn_wide.2 (pointAt_any s i _ hm hlt)).mono ?_⟩
      rintro e w1 ⟨rfl, nq, hw1⟩
      rw [hw1]
      clear hw1 w1
      have hbq : Boxed (wr.drewN nq) Bs 22 (.string s) := hb
      have hJq : J pre (wr.drewN nq) := hJ pre wr _ none hJs (grown_drewN _ _ _) (by simp)
      have hst : ptsFrom s (s.size / 2) i = (i, ptAt s i) :: ptsFrom s (s.size / 2) (i + szAt s i) := ptsFrom_step s i hlt
      have HX2 : Hid (pts s = (pre ++ [(i, ptAt s i)]) ++ ptsFrom s (s.size / 2) (i + szAt s i)) := by
        show _ = _
        rw [HX.out, hst]; simp
      obtain ⟨fn, tmps, assign, body, hy, hR⟩ := hY pre (i, ptAt s i) (wr.drewN nq) hJq (by rw [HX.out, hst]; simp)
      simp only [encP, cap21_pt] at hy
      clear hst
      gi_wp2
      refine hR.mono ?_
      rintro e W3 (⟨rfl, hJ3, hk3⟩ | ⟨rfl, hJx3⟩)
      · gi_wp2
        go_roundw
        case rel => exact ⟨i + szAt s i, pre ++ [(i, ptAt s i)], by go_num, hfit, HX2.out, Boxed.kbox hbq hk3, hJ3⟩
        case measure => simp [intOf]; omega
      · gi_wp2
        refine bodyPost_ret (results_none rfl _ _ _) rfl ?_
        exact ⟨⟨_, rfl⟩, .inr ⟨pre ++ [(i, ptAt s i)], ⟨_, HX2.out.symm⟩, hJx3⟩⟩
    · have hx := HX.out
      rw [ptsFrom_end s _ i hlt, List.append_nil] at hx
      have HX3 := Hid.mk' hx
      clear hx
      gi_wp2_with (refine ⟨trivial, ?_⟩; gi_at_call 99; refine (callsIn_wide.2 (len_any _ _ hm)).mono ?_; rintro e w1 ⟨rfl, hw1⟩; rw [hw1]; clear hw1 w1)
      go_end0
      exact ⟨⟨_, rfl⟩, .inl ⟨pre, HX3.out.symm, hJs⟩⟩

set_option maxHeartbeats 1000000 in
/-- units.Points: the text is boxed; the function value captures the box. -/
theorem points_in (s : ByteArray) (w : World) :
    Calls Tryz.prog 149 #[.string s] w fun e w' => e = .returned (.func (.func 166) #[] #[.pointer (some ⟨w.heap.size, 0, none⟩)]) ∧ w' = w.alloc (.cells #[.string s] 22) := by
  go_enter Tryz.func149, Tryz.ntmps149
  go_wp2
  go_ret
  exact ⟨rfl, rfl⟩

theorem points_stops (n : Nat) (hn : 1 ≤ n) (Bs : Nat) (s : ByteArray) (hs : (s.size : Int) ≤ 1048576) (w : World) (hlt : Bs < w.heap.size) (hB : Boxed w Bs 22 (.string s)) :
    SeqStopsK Fence.wide n Tryz.prog 166 #[.pointer (some ⟨Bs, 0, none⟩)] encP (KBox Bs) (fun ys => ys = pts s) (fun pre => pre <+: pts s) (pts s).length w :=
  fun l J Jx W hW hJ _ hY h0 => points1_in n hn l Bs _ s hs J Jx hJ hY W ((hW.block Bs hlt).trans hB) h0

/-- The UTF-8 of code points. -/
def textC (l : List (Nat × Nat)) : List UInt8 := l.flatMap fun x => Lib.encodeRune (cap21 x.2 : Nat)
theorem textC_snoc (l : List (Nat × Nat)) (x : Nat × Nat) : textC (l ++ [x]) = textC l ++ Lib.encodeRune (cap21 x.2 : Nat) := by simp [textC]
theorem textC_length (l : List (Nat × Nat)) : (textC l).length ≤ 4 * l.length := by
  induction l with
  | nil => simp [textC]
  | cons x r ih =>
    have h4 := Lib.encodeRuneZ_length (cap21 x.2 : Nat)
    have : (textC (x :: r)).length = (Lib.encodeRune (cap21 x.2 : Nat)).length + (textC r).length := by simp [textC]
    rw [this]
    simp only [List.length_cons, Lib.encodeRune, List.length_map]
    omega
theorem pts_length (s : ByteArray) : (pts s).length ≤ s.size / 2 := by have := ptsFrom_length s (s.size / 2) 0; unfold pts; omega
theorem KeepsOthers.of_kept {B : Nat} {e : TypeId} {W W' : World} (h : Kept B e W W') : KeepsOthers W W' :=
  ⟨h.1.size, fun k o hk ho => h.2 k o hk (by simp) (fun c fz hc => by subst hc; simp [Obj.isCells] at ho)⟩
theorem Boxed.of_kept {B b : Nat} {e t : TypeId} {W W' : World} {v : Value} (hb : Boxed W b t v) (h : Kept B e W W') (hte : t ≠ e) : Boxed W' b t v :=
  h.2 b _ hb (by simp) (fun c fz hc => by cases hc; exact hte rfl)

theorem own_slice {w : World} {B : Nat} {e : TypeId} {sz : Nat} {v : Value} {n : Nat} {xs : List Value} (h : w.ownsRow B e sz v n xs) : ∃ a c, v = .slice a n c := by
  rcases h.2 with ⟨rfl, rfl⟩ | ⟨g, cap, cur, rfl, _⟩
  · exact ⟨_, _, rfl⟩
  · exact ⟨_, _, rfl⟩

set_option maxRecDepth 100000 in
set_option maxHeartbeats 2000000 in
theorem text_core (s : ByteArray) (w : World) (hs : (s.size : Int) ≤ 1048576) :
    Calls Tryz.prog 132 #[.string s] w fun e w' => e = .returned (.string ⟨(textC (pts s)).toArray⟩) ∧ Below w.heap.size w w' := by
  obtain ⟨i0, hi, hz0, hz1, hz2⟩ := info_parts info8
  have hm : s.size ≤ maxLen := by unfold maxLen; omega
  refine (callsIn_wide (n := 3)).1 ?_
  refine callsIn_of_wp_marks Tryz.func132 rfl trivial ?_ rfl
  simp only [Tryz.ntmps132, List.size_toArray, List.length_cons, List.length_nil, Nat.reduceAdd, Nat.reduceSub, Array.replicate_succ, Array.replicate_zero, List.push_toArray, List.append_toArray, List.nil_append, List.cons_append]
  gi_wp2_with (first | (refine ⟨trivial, ?_⟩; gi_at_call 99; refine (callsIn_wide.2 (len_any _ _ hm)).mono ?_; rintro e w1 ⟨rfl, hw1⟩; rw [hw1]; clear hw1 w1) | (gi_at_make; refine wpListIn_make_own _ rfl _ _ 54 rfl w.heap.size 5 i0 (.int .u8 0) 1 Tryz.underlying54 hi hz0 hz1 .i64 .i64 _ (s.size / 2) rfl rfl (by omega) (by rw [hz2]; omega) (by unfold maxLen; omega) (Nat.le_refl _) ?_; intro w0 hown0 hgrow0) | (refine ⟨trivial, ?_⟩; gi_at_call 149; refine (callsIn_wide.2 (points_in _ _)).mono ?_; rintro e w1 ⟨rfl, hw1⟩; rw [hw1]; clear hw1 w1))
  have hle : w.heap.size ≤ w0.heap.size := hgrow0.size
  have hb0 : Below w.heap.size w w0 := (Below.refl _ _).grown hgrow0 (Nat.le_refl _) (by simp)
  have bO := Boxed.new w0 54 (.slice (some ⟨w.heap.size, 0, none⟩) 0 (s.size / 2))
  have bN := Boxed.new (w0.alloc (.cells #[.slice (some ⟨w.heap.size, 0, none⟩) 0 (s.size / 2)] 54)) 22 (.string s)
  rw [World.size_alloc] at bN
  have hB0 : Below w.heap.size w ((w0.alloc (.cells #[.slice (some ⟨w.heap.size, 0, none⟩) 0 (s.size / 2)] 54)).alloc (.cells #[.string s] 22)) := (hb0.alloc hle _).alloc (by simp; omega) _
  refine wpIn_rangeFunc_ownG rfl (by omega) (gf := 166) (lb := #[.pointer (some ⟨w0.heap.size + 1, 0, none⟩)]) rfl trivial (enters_of Tryz.func166 (by kernel_rfl) rfl)
    (points_stops (3 - 1) (by omega) (w0.heap.size + 1) s hs _ (by simp) bN) KBox.trans (KBox.put (by simp)) (Below.refl _ _) (fun _ => rfl)
    (fun pre W => ((∃ v, Boxed W w0.heap.size 54 v ∧ W.ownsRow w.heap.size 5 1 v (textC pre).length (Lib.byteCells (textC pre)) ∧ True) ∧ Boxed W (w0.heap.size + 1) 22 (.string s)) ∧ Below w.heap.size w W)
    (fun _ _ _ => False)
    (OwnFrom.and (OwnFrom.and (Own.from (holdsRow_own w.heap.size w0.heap.size 54 5 1 (fun pre => (textC pre).length) (fun pre => Lib.byteCells (textC pre)) (fun pre v => True)) _) (Own.from (boxed_own _ _ _) _)) (ownFrom_below (Nat.le_refl _) (by simp; omega)))
    (fun _ _ _ _ _ hs _ _ => hs)
    ⟨⟨⟨_, bO.alloc _, (hown0.alloc _).alloc _, trivial⟩, bN⟩, hB0⟩
    (fun x => { tmps := #[.string s, undef, .string ⟨#[]⟩, .pointer (some ⟨w0.heap.size, 0, none⟩), undef, .int .i32 (cap21 x.2), .string s, .int .i64 ((s.size : Int) / 2), .slice (some ⟨w.heap.size, 0, none⟩) 0 (s.size / 2), .string s, .func (.func 166) #[] #[.pointer (some ⟨w0.heap.size + 1, 0, none⟩)], .int .i64 x.1, .int .i32 (cap21 x.2), undef, undef, undef, undef, undef], defers := [] }) ?assign ?body ?done ?stop
  case assign =>
    intro l x W K hK
    simp only [encP]
    gi_wp2
    exact hK
  case body =>
    rintro l pre x W ⟨⟨⟨v, hv, hrow, _⟩, hbs⟩, hB⟩ hlt
    have hc := hv.cell
    have hl4 := textC_length pre
    have hpl := pts_length s
    have hBW : w.heap.size ≤ W.heap.size := hB.size
    have HC := Hid.mk' (appendRune_any w.heap.size v (textC pre).length _ (cap21 x.2) (cap21_le _) W hrow (by omega) hBW)
    gi_wp2_with (refine ⟨trivial, ?_⟩; gi_at_call 150; refine (CallsIn.inRound l (callsIn_wide.2 HC.out)).mono ?_; rintro e w1 ⟨v1, rfl, o1, k1⟩; obtain ⟨ga, gc, rfl⟩ := own_slice o1; have hv1 := Boxed.of_kept hv k1 (by decide); have hc1 := hv1.cell; have hf1 := hv1.frozen)
    have hbs1 := Boxed.of_kept hbs k1 (by decide)
    refine ⟨((KeepsOthers.of_kept k1).trans (KeepsOthers.setCell _ _ _)).from _, ?_, ⟨⟨_, hv1.set _, ?_, trivial⟩, hbs1.other (by omega) _⟩, (hB.trans k1.1).setCell (p := ⟨w0.heap.size, 0, none⟩) hle _⟩
    · exact (hbs1.other (by omega) _).trans hbs.symm
    · rw [textC_snoc, List.length_append, byteCells_append']
      exact o1.kept (grownBy_setCell' w1 _ _) (.inr (hv1.not_row (by decide) o1).symm)
  case done =>
    rintro D ys W hD rfl ⟨⟨⟨v, hv, hrow, _⟩, hbs⟩, hB⟩ hK
    have hc := hv.cell
    have hcv := conv_row hrow 9 Tryz.underlying9
    gi_wp2
    refine ⟨by simp, .inl ⟨_, _, rfl, run_takeDeferred hK, ?_⟩⟩
    exact ⟨_, results_tmp rfl _ _ _, rfl, hB.trans (belowK_b (w := w) (Nat.le_refl _) W D _ _ (by simp at hD; omega) hK rfl rfl)⟩
  case stop =>
    rintro D c pre W _ _ h _
    exact h.elim

end Go.Proofs.YtbkkkpfoaggejaaGreatDoor
