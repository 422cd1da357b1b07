/- Package ops: sums, differences and products of numbers, texts joined, integers. Written by tools/mkopd.py. Package ops: Binary at texts and numbers; Unary, by a contract of its method. Written by tools/mkopf.py. lintellaw19.awake: chapter 19's examples. Written by tools/mkopf.py. -/
import Derived.Test.YtbkkkpfoaggejaaGreatDoorOpB
import Derived.Test.YtbkkkpfoaggejaaGreatDoorJoin
import Derived.Test.YtbkkkpfoaggejaaGreatDoorCvT
import Derived.WalkMore
import Derived.Handy
import Derived.Test.YtbkkkpfoaggejaaGreatDoorOpC
import Derived.Shelf.RegionOpen
import Derived.Test.YtbkkkpfoaggejaaGreatDoorCvA
import Derived.Deep.RegionHeld3
namespace Go.Proofs.YtbkkkpfoaggejaaGreatDoor
set_option linter.unusedVariables false
set_option linter.unusedSimpArgs false
open Go.RowKit Go.Sort Fl

/-- What a sum, difference or product of numbers may be: just it, or some NaN where it is none. -/
def FR (o : Option Nat) (r : Nat) : Prop := (∀ z, o = some z → r = z) ∧ (o = none → r < 18446744073709551616 ∧ nan r)
theorem op_nan_cut (t : Nat) : (t % 2) * 2 ^ 63 + 0x7ff0000000000000 + 1 + (t / 2) % (2 ^ 52 - 1) < 18446744073709551616 ∧ nan ((t % 2) * 2 ^ 63 + 0x7ff0000000000000 + 1 + (t / 2) % (2 ^ 52 - 1)) := by
  unfold nan
  have e63 : (2 : Nat) ^ 63 = 9223372036854775808 := rfl
  have e52 : (2 : Nat) ^ 52 - 1 = 4503599627370495 := rfl
  rw [e63, e52]
  have hy : (t / 2) % 4503599627370495 < 4503599627370495 := Nat.mod_lt _ (by omega)
  generalize (t / 2) % 4503599627370495 = y at hy
  rcases Nat.mod_two_eq_zero_or_one t with h | h
  · rw [h]; omega
  · rw [h]; omega
theorem fop_add (x y : Nat) (W : World) : ∃ r n, (binOp .add 24 (.float .f64 x) (.float .f64 y)).run Tryz.prog W = .ok (.float .f64 r) (W.drewN n) ∧ FR (FloatKind.f64.format.add x y) r := by
  cases h : FloatKind.f64.format.add x y with
  | some z => exact ⟨z, 0, by simp [binOp, Op.floatArith, h]; rfl, fun z' e => Option.some.inj e, fun e => by cases e⟩
  | none =>
    have hdef : binOp .add 24 (.float .f64 x) (.float .f64 y) = (do pure (.float .f64 (← choose (.nanBits .f64 x y))) : Sem Value) := by
      simp [binOp, Op.floatArith, h]
    rw [hdef]
    simp only [Sem.run_bind, run_choose_drew]
    have hfo : (Question.nanBits .f64 x y).forced = false := rfl
    rw [hfo]
    have hc := op_nan_cut (W.tape W.drawn (Question.nanBits .f64 x y))
    exact ⟨_, 1, rfl, (fun z e => by cases e), fun _ => ⟨hc.1, hc.2⟩⟩
theorem fop_sub (x y : Nat) (W : World) : ∃ r n, (binOp .sub 24 (.float .f64 x) (.float .f64 y)).run Tryz.prog W = .ok (.float .f64 r) (W.drewN n) ∧ FR (FloatKind.f64.format.sub x y) r := by
  cases h : FloatKind.f64.format.sub x y with
  | some z => exact ⟨z, 0, by simp [binOp, Op.floatArith, h]; rfl, fun z' e => Option.some.inj e, fun e => by cases e⟩
  | none =>
    have hdef : binOp .sub 24 (.float .f64 x) (.float .f64 y) = (do pure (.float .f64 (← choose (.nanBits .f64 x y))) : Sem Value) := by
      simp [binOp, Op.floatArith, h]
    rw [hdef]
    simp only [Sem.run_bind, run_choose_drew]
    have hfo : (Question.nanBits .f64 x y).forced = false := rfl
    rw [hfo]
    have hc := op_nan_cut (W.tape W.drawn (Question.nanBits .f64 x y))
    exact ⟨_, 1, rfl, (fun z e => by cases e), fun _ => ⟨hc.1, hc.2⟩⟩
theorem fop_mul (x y : Nat) (W : World) : ∃ r n, (binOp .mul 24 (.float .f64 x) (.float .f64 y)).run Tryz.prog W = .ok (.float .f64 r) (W.drewN n) ∧ FR (FloatKind.f64.format.mul x y) r := by
  cases h : FloatKind.f64.format.mul x y with
  | some z => exact ⟨z, 0, by simp [binOp, Op.floatArith, h]; rfl, fun z' e => Option.some.inj e, fun e => by cases e⟩
  | none =>
    have hdef : binOp .mul 24 (.float .f64 x) (.float .f64 y) = (do pure (.float .f64 (← choose (.nanBits .f64 x y))) : Sem Value) := by
      simp [binOp, Op.floatArith, h]
    rw [hdef]
    simp only [Sem.run_bind, run_choose_drew]
    have hfo : (Question.nanBits .f64 x y).forced = false := rfl
    rw [hfo]
    have hc := op_nan_cut (W.tape W.drawn (Question.nanBits .f64 x y))
    exact ⟨_, 1, rfl, (fun z e => by cases e), fun _ => ⟨hc.1, hc.2⟩⟩
set_option maxHeartbeats 1000000 in
set_option maxRecDepth 100000 in
theorem subtract_h (ka : Int) (xa : Nat) (sa : ByteArray) (ra : Int) (kb : Int) (xb : Nat) (sb : ByteArray) (rb : Int) (fa fb : Nat) (ha : ka ≠ 6) (hb : kb ≠ 6) (HA : Hid (NumIs ka xa sa ra fa)) (HB : Hid (NumIs kb xb sb rb fb)) (w : World) (hl : Hid (Laid w)) : Calls Tryz.prog 27 #[.agg #[.int .i64 ka, .float .f64 xa, .string sa, .int .i64 ra, .int .i64 kb, .float .f64 xb, .string sb, .int .i64 rb]] w fun e w' => ∃ kr xr sr rr, e = .returned (.agg #[.int .i64 kr, .float .f64 xr, .string sr, .int .i64 rr]) ∧ (kr = 3 ∧ sr = ⟨#[]⟩ ∧ rr = 0 ∧ FR (FloatKind.f64.format.sub fa fb) xr) ∧ Below w.heap.size w w' := by
  have HN := Hid.mk' (fun W (hW : Hid (Laid W)) => numbers_h ka xa sa ra kb xb sb rb fa fb ha hb HA HB W hW)
  have HF := Hid.mk' (fun f W => op_number f W)
  clear ha hb HA HB
  go_enter Tryz.func27, Tryz.ntmps27
  go_wp2_with fail
  with_reducible refine (HN.out _ (Hid.mk' (hl.out.below (by (repeat' (first | (with_reducible exact Below.refl _ _) | (with_reducible assumption) | (with_reducible refine Below.drew ?_) | (with_reducible refine below_drewN ?_ _) | (with_reducible refine Below.alloc ?_ ?_ _) | (with_reducible refine Below.setCell ?_ ?_ _) | exact Below.size (show Below w.heap.size w _ by assumption) | (simp; done) | (simp; omega))))))).mono ?_; rintro e w1 ⟨rfl, b1⟩; have c1 : Below w.heap.size w w1 := bl_chain (by (repeat' (first | (with_reducible exact Below.refl _ _) | (with_reducible assumption) | (with_reducible refine Below.drew ?_) | (with_reducible refine below_drewN ?_ _) | (with_reducible refine Below.alloc ?_ ?_ _) | (with_reducible refine Below.setCell ?_ ?_ _) | exact Below.size (show Below w.heap.size w _ by assumption) | (simp; done) | (simp; omega)))) b1; have lt1 : w.heap.size + 1 < w1.heap.size := Nat.lt_of_lt_of_le (by first | assumption | (simp; done) | (simp; omega)) b1.size; have q10 : w1.cell? ⟨w.heap.size + 1, 0, none⟩ = some (.int .i64 0) := (b1.cell (p := ⟨w.heap.size + 1, 0, none⟩) (by simp)).trans (by simp); have f10 : w1.frozen? ⟨w.heap.size + 1, 0, none⟩ = false := (b1.frozen (p := ⟨w.heap.size + 1, 0, none⟩) (by simp)).trans (by simp); have q11 : w1.cell? ⟨w.heap.size + 1, 1, none⟩ = some (.float .f64 0) := (b1.cell (p := ⟨w.heap.size + 1, 1, none⟩) (by simp)).trans (by simp); have f11 : w1.frozen? ⟨w.heap.size + 1, 1, none⟩ = false := (b1.frozen (p := ⟨w.heap.size + 1, 1, none⟩) (by simp)).trans (by simp); have q12 : w1.cell? ⟨w.heap.size + 1, 2, none⟩ = some (.string ⟨#[]⟩) := (b1.cell (p := ⟨w.heap.size + 1, 2, none⟩) (by simp)).trans (by simp); have f12 : w1.frozen? ⟨w.heap.size + 1, 2, none⟩ = false := (b1.frozen (p := ⟨w.heap.size + 1, 2, none⟩) (by simp)).trans (by simp); have q13 : w1.cell? ⟨w.heap.size + 1, 3, none⟩ = some (.int .i64 0) := (b1.cell (p := ⟨w.heap.size + 1, 3, none⟩) (by simp)).trans (by simp); have f13 : w1.frozen? ⟨w.heap.size + 1, 3, none⟩ = false := (b1.frozen (p := ⟨w.heap.size + 1, 3, none⟩) (by simp)).trans (by simp); clear b1
  obtain ⟨r, n, hop, hr⟩ := fop_sub fa fb w1
  have HFR := Hid.mk' hr
  clear hr
  have ltn : w.heap.size + 1 < (w1.drewN n).heap.size := lt1
  have qn0 : (w1.drewN n).cell? ⟨w.heap.size + 1, 0, none⟩ = _ := q10
  have fn0 : (w1.drewN n).frozen? ⟨w.heap.size + 1, 0, none⟩ = _ := f10
  have qn1 : (w1.drewN n).cell? ⟨w.heap.size + 1, 1, none⟩ = _ := q11
  have fn1 : (w1.drewN n).frozen? ⟨w.heap.size + 1, 1, none⟩ = _ := f11
  have qn2 : (w1.drewN n).cell? ⟨w.heap.size + 1, 2, none⟩ = _ := q12
  have fn2 : (w1.drewN n).frozen? ⟨w.heap.size + 1, 2, none⟩ = _ := f12
  have qn3 : (w1.drewN n).cell? ⟨w.heap.size + 1, 3, none⟩ = _ := q13
  have fn3 : (w1.drewN n).frozen? ⟨w.heap.size + 1, 3, none⟩ = _ := f13
  go_wp2_with fail
  with_reducible refine (HF.out _ _).mono ?_; rintro e w2 ⟨rfl, b2⟩; have c2 : Below w.heap.size w w2 := bl_chain (by (repeat' (first | (with_reducible exact Below.refl _ _) | (with_reducible assumption) | (with_reducible refine Below.drew ?_) | (with_reducible refine below_drewN ?_ _) | (with_reducible refine Below.alloc ?_ ?_ _) | (with_reducible refine Below.setCell ?_ ?_ _) | exact Below.size (show Below w.heap.size w _ by assumption) | (simp; done) | (simp; omega)))) b2; have lt2 : w.heap.size + 1 < w2.heap.size := Nat.lt_of_lt_of_le (by first | assumption | (simp; done) | (simp; omega)) b2.size; have q20 : w2.cell? ⟨w.heap.size + 1, 0, none⟩ = some (.int .i64 0) := (b2.cell (p := ⟨w.heap.size + 1, 0, none⟩) ltn).trans qn0; have f20 : w2.frozen? ⟨w.heap.size + 1, 0, none⟩ = false := (b2.frozen (p := ⟨w.heap.size + 1, 0, none⟩) ltn).trans fn0; have q21 : w2.cell? ⟨w.heap.size + 1, 1, none⟩ = some (.float .f64 0) := (b2.cell (p := ⟨w.heap.size + 1, 1, none⟩) ltn).trans qn1; have f21 : w2.frozen? ⟨w.heap.size + 1, 1, none⟩ = false := (b2.frozen (p := ⟨w.heap.size + 1, 1, none⟩) ltn).trans fn1; have q22 : w2.cell? ⟨w.heap.size + 1, 2, none⟩ = some (.string ⟨#[]⟩) := (b2.cell (p := ⟨w.heap.size + 1, 2, none⟩) ltn).trans qn2; have f22 : w2.frozen? ⟨w.heap.size + 1, 2, none⟩ = false := (b2.frozen (p := ⟨w.heap.size + 1, 2, none⟩) ltn).trans fn2; have q23 : w2.cell? ⟨w.heap.size + 1, 3, none⟩ = some (.int .i64 0) := (b2.cell (p := ⟨w.heap.size + 1, 3, none⟩) ltn).trans qn3; have f23 : w2.frozen? ⟨w.heap.size + 1, 3, none⟩ = false := (b2.frozen (p := ⟨w.heap.size + 1, 3, none⟩) ltn).trans fn3; clear b2
  go_wp2
  (try simp only [Exit.inBlock, Exit.then])
  refine bodyPost_ret (v := .agg #[.int .i64 3, .float .f64 (r), .string ⟨#[]⟩, .int .i64 0]) ?_ rfl ⟨3, r, ⟨#[]⟩, 0, rfl, ⟨rfl, rfl, rfl, HFR.out⟩, by (repeat' (first | (with_reducible exact Below.refl _ _) | (with_reducible assumption) | (with_reducible refine Below.drew ?_) | (with_reducible refine below_drewN ?_ _) | (with_reducible refine Below.alloc ?_ ?_ _) | (with_reducible refine Below.setCell ?_ ?_ _) | exact Below.size (show Below w.heap.size w _ by assumption) | (simp; done) | (simp; omega)))⟩
  rw [cv_results_cell rfl]
  go_simp
set_option maxHeartbeats 1000000 in
set_option maxRecDepth 100000 in
theorem multiply_h (ka : Int) (xa : Nat) (sa : ByteArray) (ra : Int) (kb : Int) (xb : Nat) (sb : ByteArray) (rb : Int) (fa fb : Nat) (ha : ka ≠ 6) (hb : kb ≠ 6) (HA : Hid (NumIs ka xa sa ra fa)) (HB : Hid (NumIs kb xb sb rb fb)) (w : World) (hl : Hid (Laid w)) : Calls Tryz.prog 28 #[.agg #[.int .i64 ka, .float .f64 xa, .string sa, .int .i64 ra, .int .i64 kb, .float .f64 xb, .string sb, .int .i64 rb]] w fun e w' => ∃ kr xr sr rr, e = .returned (.agg #[.int .i64 kr, .float .f64 xr, .string sr, .int .i64 rr]) ∧ (kr = 3 ∧ sr = ⟨#[]⟩ ∧ rr = 0 ∧ FR (FloatKind.f64.format.mul fa fb) xr) ∧ Below w.heap.size w w' := by
  have HN := Hid.mk' (fun W (hW : Hid (Laid W)) => numbers_h ka xa sa ra kb xb sb rb fa fb ha hb HA HB W hW)
  have HF := Hid.mk' (fun f W => op_number f W)
  clear ha hb HA HB
  go_enter Tryz.func28, Tryz.ntmps28
  go_wp2_with fail
  with_reducible refine (HN.out _ (Hid.mk' (hl.out.below (by (repeat' (first | (with_reducible exact Below.refl _ _) | (with_reducible assumption) | (with_reducible refine Below.drew ?_) | (with_reducible refine below_drewN ?_ _) | (with_reducible refine Below.alloc ?_ ?_ _) | (with_reducible refine Below.setCell ?_ ?_ _) | exact Below.size (show Below w.heap.size w _ by assumption) | (simp; done) | (simp; omega))))))).mono ?_; rintro e w1 ⟨rfl, b1⟩; have c1 : Below w.heap.size w w1 := bl_chain (by (repeat' (first | (with_reducible exact Below.refl _ _) | (with_reducible assumption) | (with_reducible refine Below.drew ?_) | (with_reducible refine below_drewN ?_ _) | (with_reducible refine Below.alloc ?_ ?_ _) | (with_reducible refine Below.setCell ?_ ?_ _) | exact Below.size (show Below w.heap.size w _ by assumption) | (simp; done) | (simp; omega)))) b1; have lt1 : w.heap.size + 1 < w1.heap.size := Nat.lt_of_lt_of_le (by first | assumption | (simp; done) | (simp; omega)) b1.size; have q10 : w1.cell? ⟨w.heap.size + 1, 0, none⟩ = some (.int .i64 0) := (b1.cell (p := ⟨w.heap.size + 1, 0, none⟩) (by simp)).trans (by simp); have f10 : w1.frozen? ⟨w.heap.size + 1, 0, none⟩ = false := (b1.frozen (p := ⟨w.heap.size + 1, 0, none⟩) (by simp)).trans (by simp); have q11 : w1.cell? ⟨w.heap.size + 1, 1, none⟩ = some (.float .f64 0) := (b1.cell (p := ⟨w.heap.size + 1, 1, none⟩) (by simp)).trans (by simp); have f11 : w1.frozen? ⟨w.heap.size + 1, 1, none⟩ = false := (b1.frozen (p := ⟨w.heap.size + 1, 1, none⟩) (by simp)).trans (by simp); have q12 : w1.cell? ⟨w.heap.size + 1, 2, none⟩ = some (.string ⟨#[]⟩) := (b1.cell (p := ⟨w.heap.size + 1, 2, none⟩) (by simp)).trans (by simp); have f12 : w1.frozen? ⟨w.heap.size + 1, 2, none⟩ = false := (b1.frozen (p := ⟨w.heap.size + 1, 2, none⟩) (by simp)).trans (by simp); have q13 : w1.cell? ⟨w.heap.size + 1, 3, none⟩ = some (.int .i64 0) := (b1.cell (p := ⟨w.heap.size + 1, 3, none⟩) (by simp)).trans (by simp); have f13 : w1.frozen? ⟨w.heap.size + 1, 3, none⟩ = false := (b1.frozen (p := ⟨w.heap.size + 1, 3, none⟩) (by simp)).trans (by simp); clear b1
  obtain ⟨r, n, hop, hr⟩ := fop_mul fa fb w1
  have HFR := Hid.mk' hr
  clear hr
  have ltn : w.heap.size + 1 < (w1.drewN n).heap.size := lt1
  have qn0 : (w1.drewN n).cell? ⟨w.heap.size + 1, 0, none⟩ = _ := q10
  have fn0 : (w1.drewN n).frozen? ⟨w.heap.size + 1, 0, none⟩ = _ := f10
  have qn1 : (w1.drewN n).cell? ⟨w.heap.size + 1, 1, none⟩ = _ := q11
  have fn1 : (w1.drewN n).frozen? ⟨w.heap.size + 1, 1, none⟩ = _ := f11
  have qn2 : (w1.drewN n).cell? ⟨w.heap.size + 1, 2, none⟩ = _ := q12
  have fn2 : (w1.drewN n).frozen? ⟨w.heap.size + 1, 2, none⟩ = _ := f12
  have qn3 : (w1.drewN n).cell? ⟨w.heap.size + 1, 3, none⟩ = _ := q13
  have fn3 : (w1.drewN n).frozen? ⟨w.heap.size + 1, 3, none⟩ = _ := f13
  go_wp2_with fail
  with_reducible refine (HF.out _ _).mono ?_; rintro e w2 ⟨rfl, b2⟩; have c2 : Below w.heap.size w w2 := bl_chain (by (repeat' (first | (with_reducible exact Below.refl _ _) | (with_reducible assumption) | (with_reducible refine Below.drew ?_) | (with_reducible refine below_drewN ?_ _) | (with_reducible refine Below.alloc ?_ ?_ _) | (with_reducible refine Below.setCell ?_ ?_ _) | exact Below.size (show Below w.heap.size w _ by assumption) | (simp; done) | (simp; omega)))) b2; have lt2 : w.heap.size + 1 < w2.heap.size := Nat.lt_of_lt_of_le (by first | assumption | (simp; done) | (simp; omega)) b2.size; have q20 : w2.cell? ⟨w.heap.size + 1, 0, none⟩ = some (.int .i64 0) := (b2.cell (p := ⟨w.heap.size + 1, 0, none⟩) ltn).trans qn0; have f20 : w2.frozen? ⟨w.heap.size + 1, 0, none⟩ = false := (b2.frozen (p := ⟨w.heap.size + 1, 0, none⟩) ltn).trans fn0; have q21 : w2.cell? ⟨w.heap.size + 1, 1, none⟩ = some (.float .f64 0) := (b2.cell (p := ⟨w.heap.size + 1, 1, none⟩) ltn).trans qn1; have f21 : w2.frozen? ⟨w.heap.size + 1, 1, none⟩ = false := (b2.frozen (p := ⟨w.heap.size + 1, 1, none⟩) ltn).trans fn1; have q22 : w2.cell? ⟨w.heap.size + 1, 2, none⟩ = some (.string ⟨#[]⟩) := (b2.cell (p := ⟨w.heap.size + 1, 2, none⟩) ltn).trans qn2; have f22 : w2.frozen? ⟨w.heap.size + 1, 2, none⟩ = false := (b2.frozen (p := ⟨w.heap.size + 1, 2, none⟩) ltn).trans fn2; have q23 : w2.cell? ⟨w.heap.size + 1, 3, none⟩ = some (.int .i64 0) := (b2.cell (p := ⟨w.heap.size + 1, 3, none⟩) ltn).trans qn3; have f23 : w2.frozen? ⟨w.heap.size + 1, 3, none⟩ = false := (b2.frozen (p := ⟨w.heap.size + 1, 3, none⟩) ltn).trans fn3; clear b2
  go_wp2
  (try simp only [Exit.inBlock, Exit.then])
  refine bodyPost_ret (v := .agg #[.int .i64 3, .float .f64 (r), .string ⟨#[]⟩, .int .i64 0]) ?_ rfl ⟨3, r, ⟨#[]⟩, 0, rfl, ⟨rfl, rfl, rfl, HFR.out⟩, by (repeat' (first | (with_reducible exact Below.refl _ _) | (with_reducible assumption) | (with_reducible refine Below.drew ?_) | (with_reducible refine below_drewN ?_ _) | (with_reducible refine Below.alloc ?_ ?_ _) | (with_reducible refine Below.setCell ?_ ?_ _) | exact Below.size (show Below w.heap.size w _ by assumption) | (simp; done) | (simp; omega)))⟩
  rw [cv_results_cell rfl]
  go_simp
set_option maxHeartbeats 1000000 in
set_option maxRecDepth 100000 in
theorem add_n (ka : Int) (xa : Nat) (sa : ByteArray) (ra : Int) (kb : Int) (xb : Nat) (sb : ByteArray) (rb : Int) (fa fb : Nat) (ha : ka ≠ 6) (hb : kb ≠ 6) (h4a : ka ≠ 4) (h4b : kb ≠ 4) (HA : Hid (NumIs ka xa sa ra fa)) (HB : Hid (NumIs kb xb sb rb fb)) (w : World) (hl : Hid (Laid w)) : Calls Tryz.prog 26 #[.agg #[.int .i64 ka, .float .f64 xa, .string sa, .int .i64 ra, .int .i64 kb, .float .f64 xb, .string sb, .int .i64 rb]] w fun e w' => ∃ kr xr sr rr, e = .returned (.agg #[.int .i64 kr, .float .f64 xr, .string sr, .int .i64 rr]) ∧ (kr = 3 ∧ sr = ⟨#[]⟩ ∧ rr = 0 ∧ FR (FloatKind.f64.format.add fa fb) xr) ∧ Below w.heap.size w w' := by
  have HN := Hid.mk' (fun W (hW : Hid (Laid W)) => numbers_h ka xa sa ra kb xb sb rb fa fb ha hb HA HB W hW)
  have HF := Hid.mk' (fun f W => op_number f W)
  have k1 : (ka == 4) = false := by simpa using h4a
  have k2 : (kb == 4) = false := by simpa using h4b
  clear h4a h4b
  clear ha hb HA HB
  go_enter Tryz.func26, Tryz.ntmps26
  go_wp2_with fail
  with_reducible refine (HN.out _ (Hid.mk' (hl.out.below (by (repeat' (first | (with_reducible exact Below.refl _ _) | (with_reducible assumption) | (with_reducible refine Below.drew ?_) | (with_reducible refine below_drewN ?_ _) | (with_reducible refine Below.alloc ?_ ?_ _) | (with_reducible refine Below.setCell ?_ ?_ _) | exact Below.size (show Below w.heap.size w _ by assumption) | (simp; done) | (simp; omega))))))).mono ?_; rintro e w1 ⟨rfl, b1⟩; have c1 : Below w.heap.size w w1 := bl_chain (by (repeat' (first | (with_reducible exact Below.refl _ _) | (with_reducible assumption) | (with_reducible refine Below.drew ?_) | (with_reducible refine below_drewN ?_ _) | (with_reducible refine Below.alloc ?_ ?_ _) | (with_reducible refine Below.setCell ?_ ?_ _) | exact Below.size (show Below w.heap.size w _ by assumption) | (simp; done) | (simp; omega)))) b1; have lt1 : w.heap.size + 1 < w1.heap.size := Nat.lt_of_lt_of_le (by first | assumption | (simp; done) | (simp; omega)) b1.size; have q10 : w1.cell? ⟨w.heap.size + 1, 0, none⟩ = some (.int .i64 0) := (b1.cell (p := ⟨w.heap.size + 1, 0, none⟩) (by simp)).trans (by simp); have f10 : w1.frozen? ⟨w.heap.size + 1, 0, none⟩ = false := (b1.frozen (p := ⟨w.heap.size + 1, 0, none⟩) (by simp)).trans (by simp); have q11 : w1.cell? ⟨w.heap.size + 1, 1, none⟩ = some (.float .f64 0) := (b1.cell (p := ⟨w.heap.size + 1, 1, none⟩) (by simp)).trans (by simp); have f11 : w1.frozen? ⟨w.heap.size + 1, 1, none⟩ = false := (b1.frozen (p := ⟨w.heap.size + 1, 1, none⟩) (by simp)).trans (by simp); have q12 : w1.cell? ⟨w.heap.size + 1, 2, none⟩ = some (.string ⟨#[]⟩) := (b1.cell (p := ⟨w.heap.size + 1, 2, none⟩) (by simp)).trans (by simp); have f12 : w1.frozen? ⟨w.heap.size + 1, 2, none⟩ = false := (b1.frozen (p := ⟨w.heap.size + 1, 2, none⟩) (by simp)).trans (by simp); have q13 : w1.cell? ⟨w.heap.size + 1, 3, none⟩ = some (.int .i64 0) := (b1.cell (p := ⟨w.heap.size + 1, 3, none⟩) (by simp)).trans (by simp); have f13 : w1.frozen? ⟨w.heap.size + 1, 3, none⟩ = false := (b1.frozen (p := ⟨w.heap.size + 1, 3, none⟩) (by simp)).trans (by simp); clear b1
  obtain ⟨r, n, hop, hr⟩ := fop_add fa fb w1
  have HFR := Hid.mk' hr
  clear hr
  have ltn : w.heap.size + 1 < (w1.drewN n).heap.size := lt1
  have qn0 : (w1.drewN n).cell? ⟨w.heap.size + 1, 0, none⟩ = _ := q10
  have fn0 : (w1.drewN n).frozen? ⟨w.heap.size + 1, 0, none⟩ = _ := f10
  have qn1 : (w1.drewN n).cell? ⟨w.heap.size + 1, 1, none⟩ = _ := q11
  have fn1 : (w1.drewN n).frozen? ⟨w.heap.size + 1, 1, none⟩ = _ := f11
  have qn2 : (w1.drewN n).cell? ⟨w.heap.size + 1, 2, none⟩ = _ := q12
  have fn2 : (w1.drewN n).frozen? ⟨w.heap.size + 1, 2, none⟩ = _ := f12
  have qn3 : (w1.drewN n).cell? ⟨w.heap.size + 1, 3, none⟩ = _ := q13
  have fn3 : (w1.drewN n).frozen? ⟨w.heap.size + 1, 3, none⟩ = _ := f13
  go_wp2_with fail
  with_reducible refine (HF.out _ _).mono ?_; rintro e w2 ⟨rfl, b2⟩; have c2 : Below w.heap.size w w2 := bl_chain (by (repeat' (first | (with_reducible exact Below.refl _ _) | (with_reducible assumption) | (with_reducible refine Below.drew ?_) | (with_reducible refine below_drewN ?_ _) | (with_reducible refine Below.alloc ?_ ?_ _) | (with_reducible refine Below.setCell ?_ ?_ _) | exact Below.size (show Below w.heap.size w _ by assumption) | (simp; done) | (simp; omega)))) b2; have lt2 : w.heap.size + 1 < w2.heap.size := Nat.lt_of_lt_of_le (by first | assumption | (simp; done) | (simp; omega)) b2.size; have q20 : w2.cell? ⟨w.heap.size + 1, 0, none⟩ = some (.int .i64 0) := (b2.cell (p := ⟨w.heap.size + 1, 0, none⟩) ltn).trans qn0; have f20 : w2.frozen? ⟨w.heap.size + 1, 0, none⟩ = false := (b2.frozen (p := ⟨w.heap.size + 1, 0, none⟩) ltn).trans fn0; have q21 : w2.cell? ⟨w.heap.size + 1, 1, none⟩ = some (.float .f64 0) := (b2.cell (p := ⟨w.heap.size + 1, 1, none⟩) ltn).trans qn1; have f21 : w2.frozen? ⟨w.heap.size + 1, 1, none⟩ = false := (b2.frozen (p := ⟨w.heap.size + 1, 1, none⟩) ltn).trans fn1; have q22 : w2.cell? ⟨w.heap.size + 1, 2, none⟩ = some (.string ⟨#[]⟩) := (b2.cell (p := ⟨w.heap.size + 1, 2, none⟩) ltn).trans qn2; have f22 : w2.frozen? ⟨w.heap.size + 1, 2, none⟩ = false := (b2.frozen (p := ⟨w.heap.size + 1, 2, none⟩) ltn).trans fn2; have q23 : w2.cell? ⟨w.heap.size + 1, 3, none⟩ = some (.int .i64 0) := (b2.cell (p := ⟨w.heap.size + 1, 3, none⟩) ltn).trans qn3; have f23 : w2.frozen? ⟨w.heap.size + 1, 3, none⟩ = false := (b2.frozen (p := ⟨w.heap.size + 1, 3, none⟩) ltn).trans fn3; clear b2
  go_wp2
  (try simp only [Exit.inBlock, Exit.then])
  refine bodyPost_ret (v := .agg #[.int .i64 3, .float .f64 (r), .string ⟨#[]⟩, .int .i64 0]) ?_ rfl ⟨3, r, ⟨#[]⟩, 0, rfl, ⟨rfl, rfl, rfl, HFR.out⟩, by (repeat' (first | (with_reducible exact Below.refl _ _) | (with_reducible assumption) | (with_reducible refine Below.drew ?_) | (with_reducible refine below_drewN ?_ _) | (with_reducible refine Below.alloc ?_ ?_ _) | (with_reducible refine Below.setCell ?_ ?_ _) | exact Below.size (show Below w.heap.size w _ by assumption) | (simp; done) | (simp; omega)))⟩
  rw [cv_results_cell rfl]
  go_simp
/-- What is written of a value. -/
def WritIs (ka : Int) (xa : Nat) (sa : ByteArray) (ra : Int) (t : ByteArray) : Prop := ∀ w, Hid (Laid w) → Calls Tryz.prog 81 #[.agg #[.int .i64 ka, .float .f64 xa, .string sa, .int .i64 ra]] w fun e w' => e = .returned (.string t) ∧ Below w.heap.size w w'
set_option maxHeartbeats 1000000 in
set_option maxRecDepth 100000 in
theorem writ_text (xa : Nat) (sa : ByteArray) (ra : Int) : WritIs 4 xa sa ra sa := by
  intro w hl
  clear hl
  go_enter Tryz.func81, Tryz.ntmps81
  go_wp2
  go_ret
  exact ⟨rfl, by (repeat' (first | (with_reducible exact Below.refl _ _) | (with_reducible assumption) | (with_reducible refine Below.drew ?_) | (with_reducible refine below_drewN ?_ _) | (with_reducible refine Below.alloc ?_ ?_ _) | (with_reducible refine Below.setCell ?_ ?_ _) | exact Below.size (show Below w.heap.size w _ by assumption) | (simp; done) | (simp; omega)))⟩
set_option maxHeartbeats 1000000 in
set_option maxRecDepth 100000 in
theorem writ_other (ka : Int) (xa : Nat) (sa : ByteArray) (ra : Int) (xl : xa < 18446744073709551616) (sl : (sa.size : Int) ≤ 140737488351232) (h4 : ka ≠ 4) (hk : kd ka ≤ 4) : WritIs ka xa sa ra (textV ka xa sa) := by
  intro w hl
  have HT := Hid.mk' (fun W (hW : Hid (Laid W)) => vtext ka xa sa ra W xl sl hW)
  rw [decide_eq_true hk] at HT
  have HY := Hid.mk' (fun z W => hold_yes z W)
  have k1 : (ka == 4) = false := by simpa using h4
  clear xl sl h4 hk
  go_enter Tryz.func81, Tryz.ntmps81
  go_wp2_with fail
  refine (HT.out _ (Hid.mk' (hl.out.below (by (repeat' (first | (with_reducible exact Below.refl _ _) | (with_reducible assumption) | (with_reducible refine Below.drew ?_) | (with_reducible refine below_drewN ?_ _) | (with_reducible refine Below.alloc ?_ ?_ _) | (with_reducible refine Below.setCell ?_ ?_ _) | exact Below.size (show Below w.heap.size w _ by assumption) | (simp; done) | (simp; omega))))))).mono ?_
  rintro e w1 ⟨rfl, b1⟩
  have c1 : Below w.heap.size w w1 := bl_chain (by (repeat' (first | (with_reducible exact Below.refl _ _) | (with_reducible assumption) | (with_reducible refine Below.drew ?_) | (with_reducible refine below_drewN ?_ _) | (with_reducible refine Below.alloc ?_ ?_ _) | (with_reducible refine Below.setCell ?_ ?_ _) | exact Below.size (show Below w.heap.size w _ by assumption) | (simp; done) | (simp; omega)))) b1
  clear b1
  go_wp2_with fail
  refine (HY.out _ _).mono ?_
  rintro e w2 ⟨rfl, hw2⟩
  rw [hw2]; clear hw2 w2
  go_wp2
  go_ret
  exact ⟨rfl, by (repeat' (first | (with_reducible exact Below.refl _ _) | (with_reducible assumption) | (with_reducible refine Below.drew ?_) | (with_reducible refine below_drewN ?_ _) | (with_reducible refine Below.alloc ?_ ?_ _) | (with_reducible refine Below.setCell ?_ ?_ _) | exact Below.size (show Below w.heap.size w _ by assumption) | (simp; done) | (simp; omega)))⟩
theorem rds_two (W : World) (a b : ByteArray) (t : TypeId) : RdS (W.alloc (.cells #[.string a, .string b] t)) (.slice (some ⟨W.heap.size, 0, none⟩) 2 2) [a, b] := by
  refine .inr ⟨_, 0, 2, rfl, by simp, by decide, by simp, fun j hj => ?_⟩
  match j, hj with
  | 0, _ => simp
  | 1, _ => simp
set_option maxHeartbeats 1000000 in
set_option maxRecDepth 100000 in
theorem joined_h (ka : Int) (xa : Nat) (sa : ByteArray) (ra : Int) (kb : Int) (xb : Nat) (sb : ByteArray) (rb : Int) (ta tb t : ByteArray) (HA : Hid (WritIs ka xa sa ra ta)) (HB : Hid (WritIs kb xb sb rb tb)) (HJ : Hid (∀ v W, RdS W v [ta, tb] → Calls Tryz.prog 80 #[v] W fun e w' => e = .returned (.tuple #[.string t, .int .i64 0]) ∧ Below W.heap.size W w')) (w : World) (hl : Hid (Laid w)) :
    Calls Tryz.prog 57 #[.agg #[.int .i64 ka, .float .f64 xa, .string sa, .int .i64 ra, .int .i64 kb, .float .f64 xb, .string sb, .int .i64 rb]] w fun e w' => e = .returned (.string t) ∧ Below w.heap.size w w' := by
  have HA := Hid.mk' (fun W (hW : Hid (Laid W)) => HA.out W hW)
  have HB := Hid.mk' (fun W (hW : Hid (Laid W)) => HB.out W hW)
  have HY := Hid.mk' (fun z W => hold_yes z W)
  go_enter Tryz.func57, Tryz.ntmps57
  go_wp2_with fail
  have P0 := CellP.new w ka xa sa ra kb xb sb rb
  have c0 : Below w.heap.size w (w.alloc (.cells #[.int .i64 ka, .float .f64 xa, .string sa, .int .i64 ra, .int .i64 kb, .float .f64 xb, .string sb, .int .i64 rb] 40)) := by (repeat' (first | (with_reducible exact Below.refl _ _) | (with_reducible assumption) | (with_reducible refine Below.drew ?_) | (with_reducible refine below_drewN ?_ _) | (with_reducible refine Below.alloc ?_ ?_ _) | (with_reducible refine Below.setCell ?_ ?_ _) | exact Below.size (show Below w.heap.size w _ by assumption) | (simp; done) | (simp; omega)))
  generalize w.alloc (.cells #[.int .i64 ka, .float .f64 xa, .string sa, .int .i64 ra, .int .i64 kb, .float .f64 xb, .string sb, .int .i64 rb] 40) = w0 at P0 c0 ⊢
  obtain ⟨-, p00, p01, p02, p03, p04, p05, p06, p07⟩ := id P0
  go_region_with (first | (go_at_call 81; first | (with_reducible refine (HA.out _ (Hid.mk' (hl.out.below (by (repeat' (first | (with_reducible exact Below.refl _ _) | (with_reducible assumption) | (with_reducible refine Below.drew ?_) | (with_reducible refine below_drewN ?_ _) | (with_reducible refine Below.alloc ?_ ?_ _) | (with_reducible refine Below.setCell ?_ ?_ _) | exact Below.size (show Below w.heap.size w _ by assumption) | (simp; done) | (simp; omega))))))).mono ?_; rintro e w2 ⟨rfl, b2⟩; have c2 : Below w.heap.size w w2 := bl_chain (by (repeat' (first | (with_reducible exact Below.refl _ _) | (with_reducible assumption) | (with_reducible refine Below.drew ?_) | (with_reducible refine below_drewN ?_ _) | (with_reducible refine Below.alloc ?_ ?_ _) | (with_reducible refine Below.setCell ?_ ?_ _) | exact Below.size (show Below w.heap.size w _ by assumption) | (simp; done) | (simp; omega)))) b2; have P2 : CellP w2 (w.heap.size) ka xa sa ra kb xb sb rb := CellP.below (by first | (with_reducible assumption) | (with_reducible refine CellP.drew ?_; assumption) | (with_reducible exact CellP.new _ _ _ _ _ _ _ _ _) | (with_reducible refine CellP.drew (CellP.new _ _ _ _ _ _ _ _ _)) | (constructor <;> first | (simp; done) | (simp; omega))) b2; obtain ⟨-, p20, p21, p22, p23, p24, p25, p26, p27⟩ := id P2; clear b2) | (with_reducible refine (HB.out _ (Hid.mk' (hl.out.below (by (repeat' (first | (with_reducible exact Below.refl _ _) | (with_reducible assumption) | (with_reducible refine Below.drew ?_) | (with_reducible refine below_drewN ?_ _) | (with_reducible refine Below.alloc ?_ ?_ _) | (with_reducible refine Below.setCell ?_ ?_ _) | exact Below.size (show Below w.heap.size w _ by assumption) | (simp; done) | (simp; omega))))))).mono ?_; rintro e w3 ⟨rfl, b3⟩; have c3 : Below w.heap.size w w3 := bl_chain (by (repeat' (first | (with_reducible exact Below.refl _ _) | (with_reducible assumption) | (with_reducible refine Below.drew ?_) | (with_reducible refine below_drewN ?_ _) | (with_reducible refine Below.alloc ?_ ?_ _) | (with_reducible refine Below.setCell ?_ ?_ _) | exact Below.size (show Below w.heap.size w _ by assumption) | (simp; done) | (simp; omega)))) b3; have P3 : CellP w3 (w.heap.size) ka xa sa ra kb xb sb rb := CellP.below (by first | (with_reducible assumption) | (with_reducible refine CellP.drew ?_; assumption) | (with_reducible exact CellP.new _ _ _ _ _ _ _ _ _) | (with_reducible refine CellP.drew (CellP.new _ _ _ _ _ _ _ _ _)) | (constructor <;> first | (simp; done) | (simp; omega))) b3; obtain ⟨-, p30, p31, p32, p33, p34, p35, p36, p37⟩ := id P3; clear b3)) | (go_at_call 80; with_reducible refine (HJ.out _ _ (rds_two _ _ _ _)).mono ?_; rintro e w4 ⟨rfl, b4⟩; have c4 : Below w.heap.size w w4 := bl_chain (by (repeat' (first | (with_reducible exact Below.refl _ _) | (with_reducible assumption) | (with_reducible refine Below.drew ?_) | (with_reducible refine below_drewN ?_ _) | (with_reducible refine Below.alloc ?_ ?_ _) | (with_reducible refine Below.setCell ?_ ?_ _) | exact Below.size (show Below w.heap.size w _ by assumption) | (simp; done) | (simp; omega)))) b4; clear b4))
  all_goals go_wp2_with fail
  all_goals refine (HY.out _ _).mono ?_
  all_goals rintro e w5 ⟨rfl, hw5⟩
  all_goals rw [hw5]; clear hw5 w5
  all_goals go_wp2
  all_goals go_ret
  all_goals exact ⟨rfl, by (repeat' (first | (with_reducible exact Below.refl _ _) | (with_reducible assumption) | (with_reducible refine Below.drew ?_) | (with_reducible refine below_drewN ?_ _) | (with_reducible refine Below.alloc ?_ ?_ _) | (with_reducible refine Below.setCell ?_ ?_ _) | exact Below.size (show Below w.heap.size w _ by assumption) | (simp; done) | (simp; omega)))⟩
end Go.Proofs.YtbkkkpfoaggejaaGreatDoor

namespace Go.Proofs.YtbkkkpfoaggejaaGreatDoor
set_option linter.unusedVariables false
set_option linter.unusedSimpArgs false
open Go.RowKit Go.Sort Fl


set_option maxHeartbeats 1000000 in
set_option maxRecDepth 100000 in
theorem add_t (ka : Int) (xa : Nat) (sa : ByteArray) (ra : Int) (kb : Int) (xb : Nat) (sb : ByteArray) (rb : Int) (ta tb t : ByteArray) (ha : ka ≠ 6) (hb : kb ≠ 6) (h4 : ka = 4 ∨ kb = 4) (HA : Hid (WritIs ka xa sa ra ta)) (HB : Hid (WritIs kb xb sb rb tb)) (HJ : Hid (∀ v W, RdS W v [ta, tb] → Calls Tryz.prog 80 #[v] W fun e w' => e = .returned (.tuple #[.string t, .int .i64 0]) ∧ Below W.heap.size W w')) (w : World) (hl : Hid (Laid w)) : Calls Tryz.prog 26 #[.agg #[.int .i64 ka, .float .f64 xa, .string sa, .int .i64 ra, .int .i64 kb, .float .f64 xb, .string sb, .int .i64 rb]] w fun e w' => ∃ kr xr sr rr, e = .returned (.agg #[.int .i64 kr, .float .f64 xr, .string sr, .int .i64 rr]) ∧ (kr = 4 ∧ xr = 0 ∧ sr = t ∧ rr = 0) ∧ Below w.heap.size w w' := by
  have HP := Hid.mk' (fun W => prims_ok ka xa sa ra kb xb sb rb ha hb W)
  have HJO := Hid.mk' (fun W (hW : Hid (Laid W)) => joined_h ka xa sa ra kb xb sb rb ta tb t HA HB HJ W hW)
  have HT := Hid.mk' (fun s W => op_text s W)
  clear ha hb HA HB HJ
  by_cases h : ka = 4
  · have k1 : (ka == 4) = true := by simpa using h
    clear h4 h
    go_enter Tryz.func26, Tryz.ntmps26
    go_wp2_with fail
    with_reducible refine (HP.out _).mono ?_; rintro e w1 ⟨rfl, b1⟩; have c1 : Below w.heap.size w w1 := bl_chain (by (repeat' (first | (with_reducible exact Below.refl _ _) | (with_reducible assumption) | (with_reducible refine Below.drew ?_) | (with_reducible refine below_drewN ?_ _) | (with_reducible refine Below.alloc ?_ ?_ _) | (with_reducible refine Below.setCell ?_ ?_ _) | exact Below.size (show Below w.heap.size w _ by assumption) | (simp; done) | (simp; omega)))) b1; have P1 : CellP w1 (w.heap.size) ka xa sa ra kb xb sb rb := CellP.below (by first | (with_reducible assumption) | (with_reducible refine CellP.drew ?_; assumption) | (with_reducible exact CellP.new _ _ _ _ _ _ _ _ _) | (with_reducible refine CellP.drew (CellP.new _ _ _ _ _ _ _ _ _)) | (constructor <;> first | (simp; done) | (simp; omega))) b1; obtain ⟨-, p10, p11, p12, p13, p14, p15, p16, p17⟩ := id P1; have lt1 : w.heap.size + 1 < w1.heap.size := Nat.lt_of_lt_of_le (by first | assumption | (simp; done) | (simp; omega)) b1.size; have q10 : w1.cell? ⟨w.heap.size + 1, 0, none⟩ = some (.int .i64 0) := (b1.cell (p := ⟨w.heap.size + 1, 0, none⟩) (by simp)).trans (by simp); have f10 : w1.frozen? ⟨w.heap.size + 1, 0, none⟩ = false := (b1.frozen (p := ⟨w.heap.size + 1, 0, none⟩) (by simp)).trans (by simp); have q11 : w1.cell? ⟨w.heap.size + 1, 1, none⟩ = some (.float .f64 0) := (b1.cell (p := ⟨w.heap.size + 1, 1, none⟩) (by simp)).trans (by simp); have f11 : w1.frozen? ⟨w.heap.size + 1, 1, none⟩ = false := (b1.frozen (p := ⟨w.heap.size + 1, 1, none⟩) (by simp)).trans (by simp); have q12 : w1.cell? ⟨w.heap.size + 1, 2, none⟩ = some (.string ⟨#[]⟩) := (b1.cell (p := ⟨w.heap.size + 1, 2, none⟩) (by simp)).trans (by simp); have f12 : w1.frozen? ⟨w.heap.size + 1, 2, none⟩ = false := (b1.frozen (p := ⟨w.heap.size + 1, 2, none⟩) (by simp)).trans (by simp); have q13 : w1.cell? ⟨w.heap.size + 1, 3, none⟩ = some (.int .i64 0) := (b1.cell (p := ⟨w.heap.size + 1, 3, none⟩) (by simp)).trans (by simp); have f13 : w1.frozen? ⟨w.heap.size + 1, 3, none⟩ = false := (b1.frozen (p := ⟨w.heap.size + 1, 3, none⟩) (by simp)).trans (by simp); clear b1
    go_wp2_with fail
    with_reducible refine (HJO.out _ (Hid.mk' (hl.out.below (by (repeat' (first | (with_reducible exact Below.refl _ _) | (with_reducible assumption) | (with_reducible refine Below.drew ?_) | (with_reducible refine below_drewN ?_ _) | (with_reducible refine Below.alloc ?_ ?_ _) | (with_reducible refine Below.setCell ?_ ?_ _) | exact Below.size (show Below w.heap.size w _ by assumption) | (simp; done) | (simp; omega))))))).mono ?_; rintro e w2 ⟨rfl, b2⟩; have c2 : Below w.heap.size w w2 := bl_chain (by (repeat' (first | (with_reducible exact Below.refl _ _) | (with_reducible assumption) | (with_reducible refine Below.drew ?_) | (with_reducible refine below_drewN ?_ _) | (with_reducible refine Below.alloc ?_ ?_ _) | (with_reducible refine Below.setCell ?_ ?_ _) | exact Below.size (show Below w.heap.size w _ by assumption) | (simp; done) | (simp; omega)))) b2; have lt2 : w.heap.size + 1 < w2.heap.size := Nat.lt_of_lt_of_le (by first | assumption | (simp; done) | (simp; omega)) b2.size; have q20 : w2.cell? ⟨w.heap.size + 1, 0, none⟩ = some (.int .i64 0) := (b2.cell (p := ⟨w.heap.size + 1, 0, none⟩) lt1).trans q10; have f20 : w2.frozen? ⟨w.heap.size + 1, 0, none⟩ = false := (b2.frozen (p := ⟨w.heap.size + 1, 0, none⟩) lt1).trans f10; have q21 : w2.cell? ⟨w.heap.size + 1, 1, none⟩ = some (.float .f64 0) := (b2.cell (p := ⟨w.heap.size + 1, 1, none⟩) lt1).trans q11; have f21 : w2.frozen? ⟨w.heap.size + 1, 1, none⟩ = false := (b2.frozen (p := ⟨w.heap.size + 1, 1, none⟩) lt1).trans f11; have q22 : w2.cell? ⟨w.heap.size + 1, 2, none⟩ = some (.string ⟨#[]⟩) := (b2.cell (p := ⟨w.heap.size + 1, 2, none⟩) lt1).trans q12; have f22 : w2.frozen? ⟨w.heap.size + 1, 2, none⟩ = false := (b2.frozen (p := ⟨w.heap.size + 1, 2, none⟩) lt1).trans f12; have q23 : w2.cell? ⟨w.heap.size + 1, 3, none⟩ = some (.int .i64 0) := (b2.cell (p := ⟨w.heap.size + 1, 3, none⟩) lt1).trans q13; have f23 : w2.frozen? ⟨w.heap.size + 1, 3, none⟩ = false := (b2.frozen (p := ⟨w.heap.size + 1, 3, none⟩) lt1).trans f13; clear b2
    go_wp2_with fail
    with_reducible refine (HT.out _ _).mono ?_; rintro e w3 ⟨rfl, b3⟩; have c3 : Below w.heap.size w w3 := bl_chain (by (repeat' (first | (with_reducible exact Below.refl _ _) | (with_reducible assumption) | (with_reducible refine Below.drew ?_) | (with_reducible refine below_drewN ?_ _) | (with_reducible refine Below.alloc ?_ ?_ _) | (with_reducible refine Below.setCell ?_ ?_ _) | exact Below.size (show Below w.heap.size w _ by assumption) | (simp; done) | (simp; omega)))) b3; have lt3 : w.heap.size + 1 < w3.heap.size := Nat.lt_of_lt_of_le (by first | assumption | (simp; done) | (simp; omega)) b3.size; have q30 : w3.cell? ⟨w.heap.size + 1, 0, none⟩ = some (.int .i64 0) := (b3.cell (p := ⟨w.heap.size + 1, 0, none⟩) lt2).trans q20; have f30 : w3.frozen? ⟨w.heap.size + 1, 0, none⟩ = false := (b3.frozen (p := ⟨w.heap.size + 1, 0, none⟩) lt2).trans f20; have q31 : w3.cell? ⟨w.heap.size + 1, 1, none⟩ = some (.float .f64 0) := (b3.cell (p := ⟨w.heap.size + 1, 1, none⟩) lt2).trans q21; have f31 : w3.frozen? ⟨w.heap.size + 1, 1, none⟩ = false := (b3.frozen (p := ⟨w.heap.size + 1, 1, none⟩) lt2).trans f21; have q32 : w3.cell? ⟨w.heap.size + 1, 2, none⟩ = some (.string ⟨#[]⟩) := (b3.cell (p := ⟨w.heap.size + 1, 2, none⟩) lt2).trans q22; have f32 : w3.frozen? ⟨w.heap.size + 1, 2, none⟩ = false := (b3.frozen (p := ⟨w.heap.size + 1, 2, none⟩) lt2).trans f22; have q33 : w3.cell? ⟨w.heap.size + 1, 3, none⟩ = some (.int .i64 0) := (b3.cell (p := ⟨w.heap.size + 1, 3, none⟩) lt2).trans q23; have f33 : w3.frozen? ⟨w.heap.size + 1, 3, none⟩ = false := (b3.frozen (p := ⟨w.heap.size + 1, 3, none⟩) lt2).trans f23; clear b3
    go_wp2
    (try simp only [Exit.inBlock, Exit.then])
    refine bodyPost_ret (v := .agg #[.int .i64 4, .float .f64 0, .string t, .int .i64 0]) ?_ rfl ⟨4, 0, t, 0, rfl, ⟨rfl, rfl, rfl, rfl⟩, by (repeat' (first | (with_reducible exact Below.refl _ _) | (with_reducible assumption) | (with_reducible refine Below.drew ?_) | (with_reducible refine below_drewN ?_ _) | (with_reducible refine Below.alloc ?_ ?_ _) | (with_reducible refine Below.setCell ?_ ?_ _) | exact Below.size (show Below w.heap.size w _ by assumption) | (simp; done) | (simp; omega)))⟩
    rw [cv_results_cell rfl]
    go_simp
  · have k1 : (ka == 4) = false := by simpa using h
    have k2 : (kb == 4) = true := by simpa using (h4.resolve_left h)
    clear h4 h
    go_enter Tryz.func26, Tryz.ntmps26
    go_wp2_with fail
    with_reducible refine (HP.out _).mono ?_; rintro e w1 ⟨rfl, b1⟩; have c1 : Below w.heap.size w w1 := bl_chain (by (repeat' (first | (with_reducible exact Below.refl _ _) | (with_reducible assumption) | (with_reducible refine Below.drew ?_) | (with_reducible refine below_drewN ?_ _) | (with_reducible refine Below.alloc ?_ ?_ _) | (with_reducible refine Below.setCell ?_ ?_ _) | exact Below.size (show Below w.heap.size w _ by assumption) | (simp; done) | (simp; omega)))) b1; have P1 : CellP w1 (w.heap.size) ka xa sa ra kb xb sb rb := CellP.below (by first | (with_reducible assumption) | (with_reducible refine CellP.drew ?_; assumption) | (with_reducible exact CellP.new _ _ _ _ _ _ _ _ _) | (with_reducible refine CellP.drew (CellP.new _ _ _ _ _ _ _ _ _)) | (constructor <;> first | (simp; done) | (simp; omega))) b1; obtain ⟨-, p10, p11, p12, p13, p14, p15, p16, p17⟩ := id P1; have lt1 : w.heap.size + 1 < w1.heap.size := Nat.lt_of_lt_of_le (by first | assumption | (simp; done) | (simp; omega)) b1.size; have q10 : w1.cell? ⟨w.heap.size + 1, 0, none⟩ = some (.int .i64 0) := (b1.cell (p := ⟨w.heap.size + 1, 0, none⟩) (by simp)).trans (by simp); have f10 : w1.frozen? ⟨w.heap.size + 1, 0, none⟩ = false := (b1.frozen (p := ⟨w.heap.size + 1, 0, none⟩) (by simp)).trans (by simp); have q11 : w1.cell? ⟨w.heap.size + 1, 1, none⟩ = some (.float .f64 0) := (b1.cell (p := ⟨w.heap.size + 1, 1, none⟩) (by simp)).trans (by simp); have f11 : w1.frozen? ⟨w.heap.size + 1, 1, none⟩ = false := (b1.frozen (p := ⟨w.heap.size + 1, 1, none⟩) (by simp)).trans (by simp); have q12 : w1.cell? ⟨w.heap.size + 1, 2, none⟩ = some (.string ⟨#[]⟩) := (b1.cell (p := ⟨w.heap.size + 1, 2, none⟩) (by simp)).trans (by simp); have f12 : w1.frozen? ⟨w.heap.size + 1, 2, none⟩ = false := (b1.frozen (p := ⟨w.heap.size + 1, 2, none⟩) (by simp)).trans (by simp); have q13 : w1.cell? ⟨w.heap.size + 1, 3, none⟩ = some (.int .i64 0) := (b1.cell (p := ⟨w.heap.size + 1, 3, none⟩) (by simp)).trans (by simp); have f13 : w1.frozen? ⟨w.heap.size + 1, 3, none⟩ = false := (b1.frozen (p := ⟨w.heap.size + 1, 3, none⟩) (by simp)).trans (by simp); clear b1
    go_wp2_with fail
    with_reducible refine (HJO.out _ (Hid.mk' (hl.out.below (by (repeat' (first | (with_reducible exact Below.refl _ _) | (with_reducible assumption) | (with_reducible refine Below.drew ?_) | (with_reducible refine below_drewN ?_ _) | (with_reducible refine Below.alloc ?_ ?_ _) | (with_reducible refine Below.setCell ?_ ?_ _) | exact Below.size (show Below w.heap.size w _ by assumption) | (simp; done) | (simp; omega))))))).mono ?_; rintro e w2 ⟨rfl, b2⟩; have c2 : Below w.heap.size w w2 := bl_chain (by (repeat' (first | (with_reducible exact Below.refl _ _) | (with_reducible assumption) | (with_reducible refine Below.drew ?_) | (with_reducible refine below_drewN ?_ _) | (with_reducible refine Below.alloc ?_ ?_ _) | (with_reducible refine Below.setCell ?_ ?_ _) | exact Below.size (show Below w.heap.size w _ by assumption) | (simp; done) | (simp; omega)))) b2; have lt2 : w.heap.size + 1 < w2.heap.size := Nat.lt_of_lt_of_le (by first | assumption | (simp; done) | (simp; omega)) b2.size; have q20 : w2.cell? ⟨w.heap.size + 1, 0, none⟩ = some (.int .i64 0) := (b2.cell (p := ⟨w.heap.size + 1, 0, none⟩) lt1).trans q10; have f20 : w2.frozen? ⟨w.heap.size + 1, 0, none⟩ = false := (b2.frozen (p := ⟨w.heap.size + 1, 0, none⟩) lt1).trans f10; have q21 : w2.cell? ⟨w.heap.size + 1, 1, none⟩ = some (.float .f64 0) := (b2.cell (p := ⟨w.heap.size + 1, 1, none⟩) lt1).trans q11; have f21 : w2.frozen? ⟨w.heap.size + 1, 1, none⟩ = false := (b2.frozen (p := ⟨w.heap.size + 1, 1, none⟩) lt1).trans f11; have q22 : w2.cell? ⟨w.heap.size + 1, 2, none⟩ = some (.string ⟨#[]⟩) := (b2.cell (p := ⟨w.heap.size + 1, 2, none⟩) lt1).trans q12; have f22 : w2.frozen? ⟨w.heap.size + 1, 2, none⟩ = false := (b2.frozen (p := ⟨w.heap.size + 1, 2, none⟩) lt1).trans f12; have q23 : w2.cell? ⟨w.heap.size + 1, 3, none⟩ = some (.int .i64 0) := (b2.cell (p := ⟨w.heap.size + 1, 3, none⟩) lt1).trans q13; have f23 : w2.frozen? ⟨w.heap.size + 1, 3, none⟩ = false := (b2.frozen (p := ⟨w.heap.size + 1, 3, none⟩) lt1).trans f13; clear b2
    go_wp2_with fail
    with_reducible refine (HT.out _ _).mono ?_; rintro e w3 ⟨rfl, b3⟩; have c3 : Below w.heap.size w w3 := bl_chain (by (repeat' (first | (with_reducible exact Below.refl _ _) | (with_reducible assumption) | (with_reducible refine Below.drew ?_) | (with_reducible refine below_drewN ?_ _) | (with_reducible refine Below.alloc ?_ ?_ _) | (with_reducible refine Below.setCell ?_ ?_ _) | exact Below.size (show Below w.heap.size w _ by assumption) | (simp; done) | (simp; omega)))) b3; have lt3 : w.heap.size + 1 < w3.heap.size := Nat.lt_of_lt_of_le (by first | assumption | (simp; done) | (simp; omega)) b3.size; have q30 : w3.cell? ⟨w.heap.size + 1, 0, none⟩ = some (.int .i64 0) := (b3.cell (p := ⟨w.heap.size + 1, 0, none⟩) lt2).trans q20; have f30 : w3.frozen? ⟨w.heap.size + 1, 0, none⟩ = false := (b3.frozen (p := ⟨w.heap.size + 1, 0, none⟩) lt2).trans f20; have q31 : w3.cell? ⟨w.heap.size + 1, 1, none⟩ = some (.float .f64 0) := (b3.cell (p := ⟨w.heap.size + 1, 1, none⟩) lt2).trans q21; have f31 : w3.frozen? ⟨w.heap.size + 1, 1, none⟩ = false := (b3.frozen (p := ⟨w.heap.size + 1, 1, none⟩) lt2).trans f21; have q32 : w3.cell? ⟨w.heap.size + 1, 2, none⟩ = some (.string ⟨#[]⟩) := (b3.cell (p := ⟨w.heap.size + 1, 2, none⟩) lt2).trans q22; have f32 : w3.frozen? ⟨w.heap.size + 1, 2, none⟩ = false := (b3.frozen (p := ⟨w.heap.size + 1, 2, none⟩) lt2).trans f22; have q33 : w3.cell? ⟨w.heap.size + 1, 3, none⟩ = some (.int .i64 0) := (b3.cell (p := ⟨w.heap.size + 1, 3, none⟩) lt2).trans q23; have f33 : w3.frozen? ⟨w.heap.size + 1, 3, none⟩ = false := (b3.frozen (p := ⟨w.heap.size + 1, 3, none⟩) lt2).trans f23; clear b3
    go_wp2
    (try simp only [Exit.inBlock, Exit.then])
    refine bodyPost_ret (v := .agg #[.int .i64 4, .float .f64 0, .string t, .int .i64 0]) ?_ rfl ⟨4, 0, t, 0, rfl, ⟨rfl, rfl, rfl, rfl⟩, by (repeat' (first | (with_reducible exact Below.refl _ _) | (with_reducible assumption) | (with_reducible refine Below.drew ?_) | (with_reducible refine below_drewN ?_ _) | (with_reducible refine Below.alloc ?_ ?_ _) | (with_reducible refine Below.setCell ?_ ?_ _) | exact Below.size (show Below w.heap.size w _ by assumption) | (simp; done) | (simp; omega)))⟩
    rw [cv_results_cell rfl]
    go_simp
set_option maxHeartbeats 1000000 in
set_option maxRecDepth 100000 in
theorem bin_plus_t (ka : Int) (xa : Nat) (sa : ByteArray) (ra : Int) (kb : Int) (xb : Nat) (sb : ByteArray) (rb : Int) (ta tb t : ByteArray) (ha : ka ≠ 6) (hb : kb ≠ 6) (h4 : ka = 4 ∨ kb = 4) (HA : Hid (WritIs ka xa sa ra ta)) (HB : Hid (WritIs kb xb sb rb tb)) (HJ : Hid (∀ v W, RdS W v [ta, tb] → Calls Tryz.prog 80 #[v] W fun e w' => e = .returned (.tuple #[.string t, .int .i64 0]) ∧ Below W.heap.size W w')) (w : World) (hl : Hid (Laid w)) : Calls Tryz.prog 7 #[.string ⟨#[43]⟩, .agg #[.int .i64 ka, .float .f64 xa, .string sa, .int .i64 ra], .agg #[.int .i64 kb, .float .f64 xb, .string sb, .int .i64 rb]] w fun e w' => ∃ kr xr sr rr, e = .returned (.tuple #[.agg #[.int .i64 kr, .float .f64 xr, .string sr, .int .i64 rr], .int .i64 0]) ∧ (kr = 4 ∧ xr = 0 ∧ sr = t ∧ rr = 0) ∧ Below w.heap.size w w' :=
  bin_sum _ 26 (enters_of Tryz.func26 (by kernel_rfl) rfl) ka xa sa ra kb xb sb rb (fun kr xr sr rr => (kr = 4 ∧ xr = 0 ∧ sr = t ∧ rr = 0)) (by decide) (Hid.mk' (fun W hW => add_t ka xa sa ra kb xb sb rb ta tb t ha hb h4 HA HB HJ W hW)) (by decide) w hl
set_option maxHeartbeats 1000000 in
set_option maxRecDepth 100000 in
theorem bin_plus_n (ka : Int) (xa : Nat) (sa : ByteArray) (ra : Int) (kb : Int) (xb : Nat) (sb : ByteArray) (rb : Int) (fa fb : Nat) (ha : ka ≠ 6) (hb : kb ≠ 6) (h4a : ka ≠ 4) (h4b : kb ≠ 4) (HA : Hid (NumIs ka xa sa ra fa)) (HB : Hid (NumIs kb xb sb rb fb)) (w : World) (hl : Hid (Laid w)) : Calls Tryz.prog 7 #[.string ⟨#[43]⟩, .agg #[.int .i64 ka, .float .f64 xa, .string sa, .int .i64 ra], .agg #[.int .i64 kb, .float .f64 xb, .string sb, .int .i64 rb]] w fun e w' => ∃ kr xr sr rr, e = .returned (.tuple #[.agg #[.int .i64 kr, .float .f64 xr, .string sr, .int .i64 rr], .int .i64 0]) ∧ (kr = 3 ∧ sr = ⟨#[]⟩ ∧ rr = 0 ∧ FR (FloatKind.f64.format.add fa fb) xr) ∧ Below w.heap.size w w' :=
  bin_sum _ 26 (enters_of Tryz.func26 (by kernel_rfl) rfl) ka xa sa ra kb xb sb rb (fun kr xr sr rr => (kr = 3 ∧ sr = ⟨#[]⟩ ∧ rr = 0 ∧ FR (FloatKind.f64.format.add fa fb) xr)) (by decide) (Hid.mk' (fun W hW => add_n ka xa sa ra kb xb sb rb fa fb ha hb h4a h4b HA HB W hW)) (by decide) w hl
set_option maxHeartbeats 1000000 in
set_option maxRecDepth 100000 in
theorem bin_minus_n (ka : Int) (xa : Nat) (sa : ByteArray) (ra : Int) (kb : Int) (xb : Nat) (sb : ByteArray) (rb : Int) (fa fb : Nat) (ha : ka ≠ 6) (hb : kb ≠ 6) (HA : Hid (NumIs ka xa sa ra fa)) (HB : Hid (NumIs kb xb sb rb fb)) (w : World) (hl : Hid (Laid w)) : Calls Tryz.prog 7 #[.string ⟨#[45]⟩, .agg #[.int .i64 ka, .float .f64 xa, .string sa, .int .i64 ra], .agg #[.int .i64 kb, .float .f64 xb, .string sb, .int .i64 rb]] w fun e w' => ∃ kr xr sr rr, e = .returned (.tuple #[.agg #[.int .i64 kr, .float .f64 xr, .string sr, .int .i64 rr], .int .i64 0]) ∧ (kr = 3 ∧ sr = ⟨#[]⟩ ∧ rr = 0 ∧ FR (FloatKind.f64.format.sub fa fb) xr) ∧ Below w.heap.size w w' :=
  bin_sum _ 27 (enters_of Tryz.func27 (by kernel_rfl) rfl) ka xa sa ra kb xb sb rb (fun kr xr sr rr => (kr = 3 ∧ sr = ⟨#[]⟩ ∧ rr = 0 ∧ FR (FloatKind.f64.format.sub fa fb) xr)) (by decide) (Hid.mk' (fun W hW => subtract_h ka xa sa ra kb xb sb rb fa fb ha hb HA HB W hW)) (by decide) w hl
set_option maxHeartbeats 1000000 in
set_option maxRecDepth 100000 in
theorem bin_times_n (ka : Int) (xa : Nat) (sa : ByteArray) (ra : Int) (kb : Int) (xb : Nat) (sb : ByteArray) (rb : Int) (fa fb : Nat) (ha : ka ≠ 6) (hb : kb ≠ 6) (HA : Hid (NumIs ka xa sa ra fa)) (HB : Hid (NumIs kb xb sb rb fb)) (w : World) (hl : Hid (Laid w)) : Calls Tryz.prog 7 #[.string ⟨#[42]⟩, .agg #[.int .i64 ka, .float .f64 xa, .string sa, .int .i64 ra], .agg #[.int .i64 kb, .float .f64 xb, .string sb, .int .i64 rb]] w fun e w' => ∃ kr xr sr rr, e = .returned (.tuple #[.agg #[.int .i64 kr, .float .f64 xr, .string sr, .int .i64 rr], .int .i64 0]) ∧ (kr = 3 ∧ sr = ⟨#[]⟩ ∧ rr = 0 ∧ FR (FloatKind.f64.format.mul fa fb) xr) ∧ Below w.heap.size w w' :=
  bin_sum _ 28 (enters_of Tryz.func28 (by kernel_rfl) rfl) ka xa sa ra kb xb sb rb (fun kr xr sr rr => (kr = 3 ∧ sr = ⟨#[]⟩ ∧ rr = 0 ∧ FR (FloatKind.f64.format.mul fa fb) xr)) (by decide) (Hid.mk' (fun W hW => multiply_h ka xa sa ra kb xb sb rb fa fb ha hb HA HB W hW)) (by decide) w hl
/-- The boxes of Unary: its value, its result, its error. -/
structure UnW (w : World) (b : Nat) (ka : Int) (xa : Nat) (sa : ByteArray) (ra : Int) : Prop where
  lt : b + 2 < w.heap.size
  c0 : w.cell? ⟨b, 0, none⟩ = some (.int .i64 ka)
  c1 : w.cell? ⟨b, 1, none⟩ = some (.float .f64 xa)
  c2 : w.cell? ⟨b, 2, none⟩ = some (.string sa)
  c3 : w.cell? ⟨b, 3, none⟩ = some (.int .i64 ra)
  o0 : w.cell? ⟨b + 1, 0, none⟩ = some (.int .i64 0)
  o1 : w.cell? ⟨b + 1, 1, none⟩ = some (.float .f64 0)
  o2 : w.cell? ⟨b + 1, 2, none⟩ = some (.string ⟨#[]⟩)
  o3 : w.cell? ⟨b + 1, 3, none⟩ = some (.int .i64 0)
  fo : ∀ i, w.frozen? ⟨b + 1, i, none⟩ = false
  e0 : w.cell? ⟨b + 1 + 1, 0, none⟩ = some (.int .i64 0)
  fe : w.frozen? ⟨b + 1 + 1, 0, none⟩ = false
theorem UnW.below {w : World} {b : Nat} {ka : Int} {xa : Nat} {sa : ByteArray} {ra : Int} {w' : World} (h : UnW w b ka xa sa ra) (hb : Below w.heap.size w w') : UnW w' b ka xa sa ra :=
  have l : b + 2 < w.heap.size := h.lt
  ⟨Nat.lt_of_lt_of_le h.lt hb.size, (hb.cell (p := ⟨b, 0, none⟩) (show b < w.heap.size by omega)).trans h.c0, (hb.cell (p := ⟨b, 1, none⟩) (show b < w.heap.size by omega)).trans h.c1, (hb.cell (p := ⟨b, 2, none⟩) (show b < w.heap.size by omega)).trans h.c2, (hb.cell (p := ⟨b, 3, none⟩) (show b < w.heap.size by omega)).trans h.c3, (hb.cell (p := ⟨b + 1, 0, none⟩) (show b + 1 < w.heap.size by omega)).trans h.o0, (hb.cell (p := ⟨b + 1, 1, none⟩) (show b + 1 < w.heap.size by omega)).trans h.o1, (hb.cell (p := ⟨b + 1, 2, none⟩) (show b + 1 < w.heap.size by omega)).trans h.o2, (hb.cell (p := ⟨b + 1, 3, none⟩) (show b + 1 < w.heap.size by omega)).trans h.o3, fun i => (hb.frozen (p := ⟨b + 1, i, none⟩) (show b + 1 < w.heap.size by omega)).trans (h.fo i), (hb.cell (p := ⟨b + 1 + 1, 0, none⟩) (show b + 1 + 1 < w.heap.size by omega)).trans h.e0, (hb.frozen (p := ⟨b + 1 + 1, 0, none⟩) (show b + 1 + 1 < w.heap.size by omega)).trans h.fe⟩
theorem UnW.drew {w : World} {b : Nat} {ka : Int} {xa : Nat} {sa : ByteArray} {ra : Int} (h : UnW w b ka xa sa ra) : UnW w.drew b ka xa sa ra := ⟨h.lt, h.c0, h.c1, h.c2, h.c3, h.o0, h.o1, h.o2, h.o3, h.fo, h.e0, h.fe⟩
theorem op_box (X : World) : (X.alloc (.cells #[.int .i64 0] 27)).cell? ⟨X.heap.size, 0, none⟩ = some (.int .i64 0) ∧ (X.alloc (.cells #[.int .i64 0] 27)).frozen? ⟨X.heap.size, 0, none⟩ = false := by constructor <;> simp
set_option maxHeartbeats 1000000 in
set_option maxRecDepth 100000 in
theorem UnW.new (w : World) (ka : Int) (xa : Nat) (sa : ByteArray) (ra : Int) : UnW (((w.alloc (.cells #[.int .i64 ka, .float .f64 xa, .string sa, .int .i64 ra] 26)).alloc (.cells #[.int .i64 0, .float .f64 0, .string ⟨#[]⟩, .int .i64 0] 26)).alloc (.cells #[.int .i64 0] 27)) w.heap.size ka xa sa ra := by
  have l1 : Below (w.alloc (.cells #[.int .i64 ka, .float .f64 xa, .string sa, .int .i64 ra] 26)).heap.size (w.alloc (.cells #[.int .i64 ka, .float .f64 xa, .string sa, .int .i64 ra] 26)) (((w.alloc (.cells #[.int .i64 ka, .float .f64 xa, .string sa, .int .i64 ra] 26)).alloc (.cells #[.int .i64 0, .float .f64 0, .string ⟨#[]⟩, .int .i64 0] 26)).alloc (.cells #[.int .i64 0] 27)) := ((Below.refl _ _).alloc (Nat.le_refl _) _).alloc (by simp) _
  have l2 : Below ((w.alloc (.cells #[.int .i64 ka, .float .f64 xa, .string sa, .int .i64 ra] 26)).alloc (.cells #[.int .i64 0, .float .f64 0, .string ⟨#[]⟩, .int .i64 0] 26)).heap.size ((w.alloc (.cells #[.int .i64 ka, .float .f64 xa, .string sa, .int .i64 ra] 26)).alloc (.cells #[.int .i64 0, .float .f64 0, .string ⟨#[]⟩, .int .i64 0] 26)) (((w.alloc (.cells #[.int .i64 ka, .float .f64 xa, .string sa, .int .i64 ra] 26)).alloc (.cells #[.int .i64 0, .float .f64 0, .string ⟨#[]⟩, .int .i64 0] 26)).alloc (.cells #[.int .i64 0] 27)) := (Below.refl _ _).alloc (Nat.le_refl _) _
  have s1 : (w.alloc (.cells #[.int .i64 ka, .float .f64 xa, .string sa, .int .i64 ra] 26)).heap.size = w.heap.size + 1 := by simp
  have s2 : ((w.alloc (.cells #[.int .i64 ka, .float .f64 xa, .string sa, .int .i64 ra] 26)).alloc (.cells #[.int .i64 0, .float .f64 0, .string ⟨#[]⟩, .int .i64 0] 26)).heap.size = w.heap.size + 1 + 1 := by simp
  constructor
  · simp
  · exact (l1.cell (p := ⟨w.heap.size, 0, none⟩) (by simp)).trans (by simp)
  · exact (l1.cell (p := ⟨w.heap.size, 1, none⟩) (by simp)).trans (by simp)
  · exact (l1.cell (p := ⟨w.heap.size, 2, none⟩) (by simp)).trans (by simp)
  · exact (l1.cell (p := ⟨w.heap.size, 3, none⟩) (by simp)).trans (by simp)
  · rw [← s1]; exact (l2.cell (p := ⟨(w.alloc (.cells #[.int .i64 ka, .float .f64 xa, .string sa, .int .i64 ra] 26)).heap.size, 0, none⟩) (by simp)).trans (by simp)
  · rw [← s1]; exact (l2.cell (p := ⟨(w.alloc (.cells #[.int .i64 ka, .float .f64 xa, .string sa, .int .i64 ra] 26)).heap.size, 1, none⟩) (by simp)).trans (by simp)
  · rw [← s1]; exact (l2.cell (p := ⟨(w.alloc (.cells #[.int .i64 ka, .float .f64 xa, .string sa, .int .i64 ra] 26)).heap.size, 2, none⟩) (by simp)).trans (by simp)
  · rw [← s1]; exact (l2.cell (p := ⟨(w.alloc (.cells #[.int .i64 ka, .float .f64 xa, .string sa, .int .i64 ra] 26)).heap.size, 3, none⟩) (by simp)).trans (by simp)
  · intro i; rw [← s1]; exact (l2.frozen (p := ⟨(w.alloc (.cells #[.int .i64 ka, .float .f64 xa, .string sa, .int .i64 ra] 26)).heap.size, i, none⟩) (by simp)).trans (by simp)
  · have q := op_box ((w.alloc (.cells #[.int .i64 ka, .float .f64 xa, .string sa, .int .i64 ra] 26)).alloc (.cells #[.int .i64 0, .float .f64 0, .string ⟨#[]⟩, .int .i64 0] 26)); rw [s2] at q; exact q.1
  · have q := op_box ((w.alloc (.cells #[.int .i64 ka, .float .f64 xa, .string sa, .int .i64 ra] 26)).alloc (.cells #[.int .i64 0, .float .f64 0, .string ⟨#[]⟩, .int .i64 0] 26)); rw [s2] at q; exact q.2
set_option maxHeartbeats 1000000 in
set_option maxRecDepth 100000 in
theorem UnW.put {w : World} {b : Nat} {ka : Int} {xa : Nat} {sa : ByteArray} {ra : Int} (h : UnW w b ka xa sa ra) (v0 v1 v2 v3 v4 : Value) : (((((w.setCell ⟨b + 1, 0, none⟩ v0).setCell ⟨b + 1, 1, none⟩ v1).setCell ⟨b + 1, 2, none⟩ v2).setCell ⟨b + 1, 3, none⟩ v3).setCell ⟨b + 1 + 1, 0, none⟩ v4).cell? ⟨b + 1, 0, none⟩ = some v0 ∧ (((((w.setCell ⟨b + 1, 0, none⟩ v0).setCell ⟨b + 1, 1, none⟩ v1).setCell ⟨b + 1, 2, none⟩ v2).setCell ⟨b + 1, 3, none⟩ v3).setCell ⟨b + 1 + 1, 0, none⟩ v4).cell? ⟨b + 1, 1, none⟩ = some v1 ∧ (((((w.setCell ⟨b + 1, 0, none⟩ v0).setCell ⟨b + 1, 1, none⟩ v1).setCell ⟨b + 1, 2, none⟩ v2).setCell ⟨b + 1, 3, none⟩ v3).setCell ⟨b + 1 + 1, 0, none⟩ v4).cell? ⟨b + 1, 2, none⟩ = some v2 ∧ (((((w.setCell ⟨b + 1, 0, none⟩ v0).setCell ⟨b + 1, 1, none⟩ v1).setCell ⟨b + 1, 2, none⟩ v2).setCell ⟨b + 1, 3, none⟩ v3).setCell ⟨b + 1 + 1, 0, none⟩ v4).cell? ⟨b + 1, 3, none⟩ = some v3 ∧ (((((w.setCell ⟨b + 1, 0, none⟩ v0).setCell ⟨b + 1, 1, none⟩ v1).setCell ⟨b + 1, 2, none⟩ v2).setCell ⟨b + 1, 3, none⟩ v3).setCell ⟨b + 1 + 1, 0, none⟩ v4).cell? ⟨b + 1 + 1, 0, none⟩ = some v4 := by
  refine ⟨?_, ?_, ?_, ?_, ?_⟩
  · exact (op_other _ ⟨b + 1 + 1, 0, none⟩ ⟨b + 1, 0, none⟩ v4 (by intro q; injection q with q1; omega)).trans ((op_other _ ⟨b + 1, 3, none⟩ ⟨b + 1, 0, none⟩ v3 (by intro q; cases q)).trans ((op_other _ ⟨b + 1, 2, none⟩ ⟨b + 1, 0, none⟩ v2 (by intro q; cases q)).trans ((op_other _ ⟨b + 1, 1, none⟩ ⟨b + 1, 0, none⟩ v1 (by intro q; cases q)).trans (op_same _ ⟨b + 1, 0, none⟩ v0 _ (h.o0)))))
  · exact (op_other _ ⟨b + 1 + 1, 0, none⟩ ⟨b + 1, 1, none⟩ v4 (by intro q; injection q with q1; omega)).trans ((op_other _ ⟨b + 1, 3, none⟩ ⟨b + 1, 1, none⟩ v3 (by intro q; cases q)).trans ((op_other _ ⟨b + 1, 2, none⟩ ⟨b + 1, 1, none⟩ v2 (by intro q; cases q)).trans (op_same _ ⟨b + 1, 1, none⟩ v1 _ ((op_other _ ⟨b + 1, 0, none⟩ ⟨b + 1, 1, none⟩ v0 (by intro q; cases q)).trans (h.o1)))))
  · exact (op_other _ ⟨b + 1 + 1, 0, none⟩ ⟨b + 1, 2, none⟩ v4 (by intro q; injection q with q1; omega)).trans ((op_other _ ⟨b + 1, 3, none⟩ ⟨b + 1, 2, none⟩ v3 (by intro q; cases q)).trans (op_same _ ⟨b + 1, 2, none⟩ v2 _ ((op_other _ ⟨b + 1, 1, none⟩ ⟨b + 1, 2, none⟩ v1 (by intro q; cases q)).trans ((op_other _ ⟨b + 1, 0, none⟩ ⟨b + 1, 2, none⟩ v0 (by intro q; cases q)).trans (h.o2)))))
  · exact (op_other _ ⟨b + 1 + 1, 0, none⟩ ⟨b + 1, 3, none⟩ v4 (by intro q; injection q with q1; omega)).trans (op_same _ ⟨b + 1, 3, none⟩ v3 _ ((op_other _ ⟨b + 1, 2, none⟩ ⟨b + 1, 3, none⟩ v2 (by intro q; cases q)).trans ((op_other _ ⟨b + 1, 1, none⟩ ⟨b + 1, 3, none⟩ v1 (by intro q; cases q)).trans ((op_other _ ⟨b + 1, 0, none⟩ ⟨b + 1, 3, none⟩ v0 (by intro q; cases q)).trans (h.o3)))))
  · exact op_same _ ⟨b + 1 + 1, 0, none⟩ v4 _ ((op_other _ ⟨b + 1, 3, none⟩ ⟨b + 1 + 1, 0, none⟩ v3 (by intro q; injection q with q1; omega)).trans ((op_other _ ⟨b + 1, 2, none⟩ ⟨b + 1 + 1, 0, none⟩ v2 (by intro q; injection q with q1; omega)).trans ((op_other _ ⟨b + 1, 1, none⟩ ⟨b + 1 + 1, 0, none⟩ v1 (by intro q; injection q with q1; omega)).trans ((op_other _ ⟨b + 1, 0, none⟩ ⟨b + 1 + 1, 0, none⟩ v0 (by intro q; injection q with q1; omega)).trans (h.e0)))))
set_option maxHeartbeats 1000000 in
set_option maxRecDepth 100000 in
theorem un_idle (p q : Addr) (w : World) :
    CallsD Tryz.prog 23 #[.pointer (some p), .pointer (some q)] .returning w fun e u' w' => e = .returned (.tuple #[]) ∧ u' = .returning ∧ w' = w := by
  refine callsD_of_wpS Tryz.func23 rfl fun c₀ cs hu => ?_
  apply wpS_seq
  apply wpS_region
  simp [wpOpsS, go_sem, recoverD, hu, Tryz.ntmps23, Exit.thenS]
  apply wpS_seq
  apply wpS_region
  simp [wpOpsS, go_sem, Exit.thenS]
  refine wpS_cond (t := false) (by simp [Act.eval, Array.replicate]) ?_
  simp only [Bool.false_eq_true, if_false]
  refine wpS_of_wp (wp_skip ?_)
  cases c₀
  simp_all [bodyPostS, results, Tryz.results23]
set_option maxHeartbeats 4000000 in
set_option maxRecDepth 100000 in
theorem un_sign (op : ByteArray) (k : Nat) (HE : ∀ (args : Array Value) (W : World), (callFunc k args).run Tryz.prog W = .ok (.enter k args) W) (ka : Int) (xa : Nat) (sa : ByteArray) (ra : Int) (Q : Int → Nat → ByteArray → Int → Prop) (hm : (op.data.toList, k) ∈ signsTab) (HM : Hid (∀ W, Hid (Laid W) → Calls Tryz.prog k #[.agg #[.int .i64 ka, .float .f64 xa, .string sa, .int .i64 ra]] W fun e w' => ∃ kr xr sr rr, e = .returned (.agg #[.int .i64 kr, .float .f64 xr, .string sr, .int .i64 rr]) ∧ Q kr xr sr rr ∧ Below W.heap.size W w')) (ho : op.size ≤ maxLen) (w : World) (hl : Hid (Laid w)) :
    Calls Tryz.prog 11 #[.string op, .agg #[.int .i64 ka, .float .f64 xa, .string sa, .int .i64 ra]] w fun e w' => ∃ kr xr sr rr, e = .returned (.tuple #[.agg #[.int .i64 kr, .float .f64 xr, .string sr, .int .i64 rr], .int .i64 0]) ∧ Q kr xr sr rr ∧ Below w.heap.size w w' := by
  have hmf : ∀ (fn : Fn) (first cap : Array Value) (w : World), (Instr.makeFunc fn first cap).run Tryz.prog w = .ok (.func fn first cap) w := fun _ _ _ _ => rfl
  have HS := Hid.mk' (fun W => signs_any W)
  have HLO := Hid.mk' (fun W m (h : MSigns W m) => h.look op k ho hm)
  clear hm ho
  go_enter_defers Tryz.func11, Tryz.ntmps11
  go_wp2_with fail
  refine (HS.out _).mono ?_
  rintro e w1 ⟨m1, rfl, hm1, hlt1, HM1, b1⟩
  have c1 : Below w.heap.size w w1 := bl_chain (by (repeat' (first | (with_reducible exact Below.refl _ _) | (with_reducible assumption) | (with_reducible refine Below.drew ?_) | (with_reducible refine below_drewN ?_ _) | (with_reducible refine Below.alloc ?_ ?_ _) | (with_reducible refine Below.setCell ?_ ?_ _) | exact Below.size (show Below w.heap.size w _ by assumption) | (simp; done) | (simp; omega)))) b1
  have B1 : UnW w1 w.heap.size ka xa sa ra := UnW.below (by first | (with_reducible assumption) | (with_reducible refine UnW.drew ?_; assumption) | exact UnW.new w _ _ _ _) b1; obtain ⟨-, p10, p11, p12, p13, o10, o11, o12, o13, of1, e10, ef1⟩ := id B1
  clear b1
  have HL1 := HLO.out _ _ HM1
  go_wp2_with fail
  refine (HM.out _ (Hid.mk' (hl.out.below (by (repeat' (first | (with_reducible exact Below.refl _ _) | (with_reducible assumption) | (with_reducible refine Below.drew ?_) | (with_reducible refine below_drewN ?_ _) | (with_reducible refine Below.alloc ?_ ?_ _) | (with_reducible refine Below.setCell ?_ ?_ _) | exact Below.size (show Below w.heap.size w _ by assumption) | (simp; done) | (simp; omega))))))).mono ?_
  rintro e w2 ⟨kr, xr, sr, rr, rfl, hq, b2⟩
  have c2 : Below w.heap.size w w2 := bl_chain (by (repeat' (first | (with_reducible exact Below.refl _ _) | (with_reducible assumption) | (with_reducible refine Below.drew ?_) | (with_reducible refine below_drewN ?_ _) | (with_reducible refine Below.alloc ?_ ?_ _) | (with_reducible refine Below.setCell ?_ ?_ _) | exact Below.size (show Below w.heap.size w _ by assumption) | (simp; done) | (simp; omega)))) b2
  have B2 : UnW w2 w.heap.size ka xa sa ra := UnW.below (by first | (with_reducible assumption) | (with_reducible refine UnW.drew ?_; assumption) | exact UnW.new w _ _ _ _) b2; obtain ⟨-, p20, p21, p22, p23, o20, o21, o22, o23, of2, e20, ef2⟩ := id B2
  clear b2
  have HQ := Hid.mk' hq
  clear hq
  go_wp2
  obtain ⟨y0, y1, y2, y3, y4⟩ := UnW.put B2 (.int .i64 kr) (.float .f64 xr) (.string sr) (.int .i64 rr) (.int .i64 0)
  clear o20 o21 o22 o23 e20
  refine leaves_cons (f := 23) (args := #[.pointer (some ⟨w.heap.size + 1, 0, none⟩), .pointer (some ⟨w.heap.size + 1 + 1, 0, none⟩)]) (by simp) (by simp [go_sem]) ?_
  refine (un_idle _ _ _).mono ?_
  rintro e u' w9 ⟨rfl, rfl, hw9⟩
  rw [hw9]
  clear hw9 w9
  refine ⟨.tuple #[.agg #[.int .i64 kr, .float .f64 xr, .string sr, .int .i64 rr], .int .i64 0], ?_, kr, xr, sr, rr, rfl, HQ.out, by (repeat' (first | (with_reducible exact Below.refl _ _) | (with_reducible assumption) | (with_reducible refine Below.drew ?_) | (with_reducible refine below_drewN ?_ _) | (with_reducible refine Below.alloc ?_ ?_ _) | (with_reducible refine Below.setCell ?_ ?_ _) | exact Below.size (show Below w.heap.size w _ by assumption) | (simp; done) | (simp; omega)))⟩
  simp [results, Tryz.results11, go_sem, y0, y1, y2, y3, y4]
set_option maxHeartbeats 1000000 in
set_option maxRecDepth 100000 in
theorem onumeric_h (ka : Int) (xa : Nat) (sa : ByteArray) (ra : Int) (fa : Nat) (ha : ka ≠ 6) (HA : Hid (NumIs ka xa sa ra fa)) (w : World) (hl : Hid (Laid w)) : Calls Tryz.prog 74 #[.agg #[.int .i64 ka, .float .f64 xa, .string sa, .int .i64 ra]] w fun e w' => e = .returned (.float .f64 fa) ∧ Below w.heap.size w w' := by
  have HP := Hid.mk' (fun W => prim_ok ka xa sa ra ha W)
  have HN := Hid.mk' (fun W (hW : Hid (Laid W)) => numeric_h ka xa sa ra fa HA W hW)
  clear ha HA
  go_enter Tryz.func74, Tryz.ntmps74
  go_wp2_with fail
  refine (HP.out _).mono ?_
  rintro e w1 ⟨rfl, b1⟩
  have c1 : Below w.heap.size w w1 := bl_chain (by (repeat' (first | (with_reducible exact Below.refl _ _) | (with_reducible assumption) | (with_reducible refine Below.drew ?_) | (with_reducible refine below_drewN ?_ _) | (with_reducible refine Below.alloc ?_ ?_ _) | (with_reducible refine Below.setCell ?_ ?_ _) | exact Below.size (show Below w.heap.size w _ by assumption) | (simp; done) | (simp; omega)))) b1
  have V1 : CellV w1 w.heap.size ka xa sa ra := CellV.below (by first | (with_reducible assumption) | (with_reducible refine CellV.drew ?_; assumption) | (constructor <;> first | (simp; done) | (simp; omega))) b1; obtain ⟨-, z10, z11, z12, z13⟩ := id V1
  clear b1
  go_wp2_with fail
  refine (HN.out _ (Hid.mk' (hl.out.below (by (repeat' (first | (with_reducible exact Below.refl _ _) | (with_reducible assumption) | (with_reducible refine Below.drew ?_) | (with_reducible refine below_drewN ?_ _) | (with_reducible refine Below.alloc ?_ ?_ _) | (with_reducible refine Below.setCell ?_ ?_ _) | exact Below.size (show Below w.heap.size w _ by assumption) | (simp; done) | (simp; omega))))))).mono ?_
  rintro e w2 ⟨rfl, b2⟩
  have c2 : Below w.heap.size w w2 := bl_chain (by (repeat' (first | (with_reducible exact Below.refl _ _) | (with_reducible assumption) | (with_reducible refine Below.drew ?_) | (with_reducible refine below_drewN ?_ _) | (with_reducible refine Below.alloc ?_ ?_ _) | (with_reducible refine Below.setCell ?_ ?_ _) | exact Below.size (show Below w.heap.size w _ by assumption) | (simp; done) | (simp; omega)))) b2
  clear b2
  go_wp2
  go_ret
  exact ⟨rfl, by (repeat' (first | (with_reducible exact Below.refl _ _) | (with_reducible assumption) | (with_reducible refine Below.drew ?_) | (with_reducible refine below_drewN ?_ _) | (with_reducible refine Below.alloc ?_ ?_ _) | (with_reducible refine Below.setCell ?_ ?_ _) | exact Below.size (show Below w.heap.size w _ by assumption) | (simp; done) | (simp; omega)))⟩
set_option maxHeartbeats 1000000 in
set_option maxRecDepth 100000 in
theorem flip_zero (w : World) (hl : Hid (Laid w)) : Calls Tryz.prog 53 #[.agg #[.int .i64 3, .float .f64 0, .string ⟨#[]⟩, .int .i64 0]] w fun e w' => ∃ kr xr sr rr, e = .returned (.agg #[.int .i64 kr, .float .f64 xr, .string sr, .int .i64 rr]) ∧ (xr = 13830554455654793216) ∧ Below w.heap.size w w' := by
  have HN := Hid.mk' (fun W (hW : Hid (Laid W)) => onumeric_h 3 0 ⟨#[]⟩ 0 0 (by decide) (Hid.mk' (number_n 0 ⟨#[]⟩ 0)) W hW)
  have HI := Hid.mk' (fun W => int32_any 0 W (by omega))
  rw [show wrap32 (u32 0) = 0 by decide +kernel] at HI
  have HF := Hid.mk' (fun f W => op_number f W)
  go_enter Tryz.func53, Tryz.ntmps53
  go_wp2_with fail
  with_reducible refine (HN.out _ (Hid.mk' (hl.out.below (by (repeat' (first | (with_reducible exact Below.refl _ _) | (with_reducible assumption) | (with_reducible refine Below.drew ?_) | (with_reducible refine below_drewN ?_ _) | (with_reducible refine Below.alloc ?_ ?_ _) | (with_reducible refine Below.setCell ?_ ?_ _) | exact Below.size (show Below w.heap.size w _ by assumption) | (simp; done) | (simp; omega))))))).mono ?_; rintro e w1 ⟨rfl, b1⟩; have c1 : Below w.heap.size w w1 := bl_chain (by (repeat' (first | (with_reducible exact Below.refl _ _) | (with_reducible assumption) | (with_reducible refine Below.drew ?_) | (with_reducible refine below_drewN ?_ _) | (with_reducible refine Below.alloc ?_ ?_ _) | (with_reducible refine Below.setCell ?_ ?_ _) | exact Below.size (show Below w.heap.size w _ by assumption) | (simp; done) | (simp; omega)))) b1; have lt1 : w.heap.size + 1 < w1.heap.size := Nat.lt_of_lt_of_le (by first | assumption | (simp; done) | (simp; omega)) b1.size; have q10 : w1.cell? ⟨w.heap.size + 1, 0, none⟩ = some (.int .i64 0) := (b1.cell (p := ⟨w.heap.size + 1, 0, none⟩) (by simp)).trans (by simp); have f10 : w1.frozen? ⟨w.heap.size + 1, 0, none⟩ = false := (b1.frozen (p := ⟨w.heap.size + 1, 0, none⟩) (by simp)).trans (by simp); have q11 : w1.cell? ⟨w.heap.size + 1, 1, none⟩ = some (.float .f64 0) := (b1.cell (p := ⟨w.heap.size + 1, 1, none⟩) (by simp)).trans (by simp); have f11 : w1.frozen? ⟨w.heap.size + 1, 1, none⟩ = false := (b1.frozen (p := ⟨w.heap.size + 1, 1, none⟩) (by simp)).trans (by simp); have q12 : w1.cell? ⟨w.heap.size + 1, 2, none⟩ = some (.string ⟨#[]⟩) := (b1.cell (p := ⟨w.heap.size + 1, 2, none⟩) (by simp)).trans (by simp); have f12 : w1.frozen? ⟨w.heap.size + 1, 2, none⟩ = false := (b1.frozen (p := ⟨w.heap.size + 1, 2, none⟩) (by simp)).trans (by simp); have q13 : w1.cell? ⟨w.heap.size + 1, 3, none⟩ = some (.int .i64 0) := (b1.cell (p := ⟨w.heap.size + 1, 3, none⟩) (by simp)).trans (by simp); have f13 : w1.frozen? ⟨w.heap.size + 1, 3, none⟩ = false := (b1.frozen (p := ⟨w.heap.size + 1, 3, none⟩) (by simp)).trans (by simp); clear b1
  go_wp2_with fail
  refine (HI.out _).mono ?_
  rintro e w8 ⟨rfl, hw8⟩
  rw [hw8]; clear hw8 w8
  go_wp2_with fail
  with_reducible refine (HF.out _ _).mono ?_; rintro e w2 ⟨rfl, b2⟩; have c2 : Below w.heap.size w w2 := bl_chain (by (repeat' (first | (with_reducible exact Below.refl _ _) | (with_reducible assumption) | (with_reducible refine Below.drew ?_) | (with_reducible refine below_drewN ?_ _) | (with_reducible refine Below.alloc ?_ ?_ _) | (with_reducible refine Below.setCell ?_ ?_ _) | exact Below.size (show Below w.heap.size w _ by assumption) | (simp; done) | (simp; omega)))) b2; have lt2 : w.heap.size + 1 < w2.heap.size := Nat.lt_of_lt_of_le (by first | assumption | (simp; done) | (simp; omega)) b2.size; have q20 : w2.cell? ⟨w.heap.size + 1, 0, none⟩ = some (.int .i64 0) := (b2.cell (p := ⟨w.heap.size + 1, 0, none⟩) lt1).trans q10; have f20 : w2.frozen? ⟨w.heap.size + 1, 0, none⟩ = false := (b2.frozen (p := ⟨w.heap.size + 1, 0, none⟩) lt1).trans f10; have q21 : w2.cell? ⟨w.heap.size + 1, 1, none⟩ = some (.float .f64 0) := (b2.cell (p := ⟨w.heap.size + 1, 1, none⟩) lt1).trans q11; have f21 : w2.frozen? ⟨w.heap.size + 1, 1, none⟩ = false := (b2.frozen (p := ⟨w.heap.size + 1, 1, none⟩) lt1).trans f11; have q22 : w2.cell? ⟨w.heap.size + 1, 2, none⟩ = some (.string ⟨#[]⟩) := (b2.cell (p := ⟨w.heap.size + 1, 2, none⟩) lt1).trans q12; have f22 : w2.frozen? ⟨w.heap.size + 1, 2, none⟩ = false := (b2.frozen (p := ⟨w.heap.size + 1, 2, none⟩) lt1).trans f12; have q23 : w2.cell? ⟨w.heap.size + 1, 3, none⟩ = some (.int .i64 0) := (b2.cell (p := ⟨w.heap.size + 1, 3, none⟩) lt1).trans q13; have f23 : w2.frozen? ⟨w.heap.size + 1, 3, none⟩ = false := (b2.frozen (p := ⟨w.heap.size + 1, 3, none⟩) lt1).trans f13; clear b2
  go_wp2
  (try simp only [Exit.inBlock, Exit.then])
  refine bodyPost_ret (v := .agg #[.int .i64 3, .float .f64 (13830554455654793216), .string ⟨#[]⟩, .int .i64 0]) ?_ rfl ⟨3, _, _, _, rfl, rfl, by (repeat' (first | (with_reducible exact Below.refl _ _) | (with_reducible assumption) | (with_reducible refine Below.drew ?_) | (with_reducible refine below_drewN ?_ _) | (with_reducible refine Below.alloc ?_ ?_ _) | (with_reducible refine Below.setCell ?_ ?_ _) | exact Below.size (show Below w.heap.size w _ by assumption) | (simp; done) | (simp; omega)))⟩
  rw [cv_results_cell rfl]
  go_simp
  kernel_rfl
set_option maxHeartbeats 1000000 in
set_option maxRecDepth 100000 in
theorem hint_plus (w : World) : Calls Tryz.prog 14 #[.string ⟨#[43]⟩] w fun e w' => e = .returned (.int .i64 1) ∧ Below w.heap.size w w' := by
  go_enter Tryz.func14, Tryz.ntmps14
  go_wp2
  go_ret
  exact ⟨rfl, by (repeat' (first | (with_reducible exact Below.refl _ _) | (with_reducible assumption) | (with_reducible refine Below.drew ?_) | (with_reducible refine below_drewN ?_ _) | (with_reducible refine Below.alloc ?_ ?_ _) | (with_reducible refine Below.setCell ?_ ?_ _) | exact Below.size (show Below w.heap.size w _ by assumption) | (simp; done) | (simp; omega)))⟩
end Go.Proofs.YtbkkkpfoaggejaaGreatDoor

namespace Go.Proofs.YtbkkkpfoaggejaaGreatDoor
set_option linter.unusedVariables false
set_option linter.unusedSimpArgs false
open Go.RowKit Go.Sort Fl

theorem op_asc_1 : ofFst (ofS ⟨#[49]⟩) = ⟨#[0, 49]⟩ := by
  have : ofS (Sb [49]) = .ok [0, 49] := by kernel_rfl
  show ofFst (ofS (Sb [49])) = _
  rw [this]; rfl
theorem op_asc_3 : ofFst (ofS ⟨#[51]⟩) = ⟨#[0, 51]⟩ := by
  have : ofS (Sb [51]) = .ok [0, 51] := by kernel_rfl
  show ofFst (ofS (Sb [51])) = _
  rw [this]; rfl
theorem op_asc_12 : ofFst (ofS ⟨#[49, 50]⟩) = ⟨#[0, 49, 0, 50]⟩ := by
  have : ofS (Sb [49, 50]) = .ok [0, 49, 0, 50] := by kernel_rfl
  show ofFst (ofS (Sb [49, 50])) = _
  rw [this]; rfl
theorem op_newV (w : World) (k : Int) (x : Nat) (s : ByteArray) (r : Int) : CellV (w.alloc (.cells #[.int .i64 k, .float .f64 x, .string s, .int .i64 r] 26)) w.heap.size k x s r := by constructor <;> first | (simp; done) | (simp; omega)
theorem op_allocV {w : World} {b : Nat} {k : Int} {x : Nat} {s : ByteArray} {r : Int} (h : CellV w b k x s r) (o : Obj) : CellV (w.alloc o) b k x s r := h.below ((Below.refl _ _).alloc (Nat.le_refl _) _)
theorem op_two : textV 3 4611686018427387904 ⟨#[]⟩ = ⟨#[0, 50]⟩ := by
  have e : showB 4611686018427387904 = [50] := by kernel_rfl
  unfold textV
  rw [show kd 3 = 3 from rfl, e]
  have : ofS (Sb [50]) = .ok [0, 50] := by kernel_rfl
  show ofFst (ofS (Sb [50])) = _
  rw [this]; rfl
theorem op_plus (w : World) (hl : Hid (Laid w)) : Calls Tryz.prog 7 #[.string ⟨#[43]⟩, .agg #[.int .i64 4, .float .f64 0, .string ⟨#[0, 49]⟩, .int .i64 0], .agg #[.int .i64 3, .float .f64 4611686018427387904, .string ⟨#[]⟩, .int .i64 0]] w fun e w' => ∃ kr xr sr rr, e = .returned (.tuple #[.agg #[.int .i64 kr, .float .f64 xr, .string sr, .int .i64 rr], .int .i64 0]) ∧ (kr = 4 ∧ xr = 0 ∧ sr = ⟨#[0, 49, 0, 50]⟩ ∧ rr = 0) ∧ Below w.heap.size w w' :=
  bin_plus_t 4 0 ⟨#[0, 49]⟩ 0 3 4611686018427387904 ⟨#[]⟩ 0 ⟨#[0, 49]⟩ ⟨#[0, 50]⟩ ⟨#[0, 49, 0, 50]⟩ (by decide) (by decide) (.inl rfl)
    (Hid.mk' (writ_text 0 ⟨#[0, 49]⟩ 0)) (Hid.mk' (op_two ▸ writ_other 3 4611686018427387904 ⟨#[]⟩ 0 (by decide) (by decide) (by decide) (by decide)))
    (Hid.mk' (fun v W h => by
      have q := join_yes [⟨#[0, 49]⟩, ⟨#[0, 50]⟩] (by decide) (by intro s hs; simp only [List.mem_cons, List.not_mem_nil, or_false] at hs; rcases hs with rfl | rfl <;> decide) v W h (by decide)
      have e : joinYes [⟨#[0, 49]⟩, ⟨#[0, 50]⟩] = .returned (.tuple #[.string ⟨#[0, 49, 0, 50]⟩, .int .i64 0]) := by kernel_rfl
      rw [e] at q
      exact q)) w hl
theorem op_minus (w : World) (hl : Hid (Laid w)) : Calls Tryz.prog 7 #[.string ⟨#[45]⟩, .agg #[.int .i64 4, .float .f64 0, .string ⟨#[0, 51]⟩, .int .i64 0], .agg #[.int .i64 3, .float .f64 4607182418800017408, .string ⟨#[]⟩, .int .i64 0]] w fun e w' => ∃ kr xr sr rr, e = .returned (.tuple #[.agg #[.int .i64 kr, .float .f64 xr, .string sr, .int .i64 rr], .int .i64 0]) ∧ (kr = 3 ∧ sr = ⟨#[]⟩ ∧ rr = 0 ∧ FR (FloatKind.f64.format.sub 4613937818241073152 4607182418800017408) xr) ∧ Below w.heap.size w w' :=
  bin_minus_n 4 0 ⟨#[0, 51]⟩ 0 3 4607182418800017408 ⟨#[]⟩ 0 4613937818241073152 4607182418800017408 (by decide) (by decide)
    (Hid.mk' (fun W hW => number_t ⟨#[0, 51]⟩ 4613937818241073152 (Hid.mk' (fun X hX => read_e3 X hX)) W (Hid.mk' hW.out.n))) (Hid.mk' (number_n 4607182418800017408 ⟨#[]⟩ 0)) w hl
theorem op_flip (w : World) (hl : Hid (Laid w)) : Calls Tryz.prog 11 #[.string ⟨#[126]⟩, .agg #[.int .i64 3, .float .f64 0, .string ⟨#[]⟩, .int .i64 0]] w fun e w' => ∃ kr xr sr rr, e = .returned (.tuple #[.agg #[.int .i64 kr, .float .f64 xr, .string sr, .int .i64 rr], .int .i64 0]) ∧ (xr = 13830554455654793216) ∧ Below w.heap.size w w' :=
  un_sign _ 53 (enters_of Tryz.func53 (by kernel_rfl) rfl) 3 0 ⟨#[]⟩ 0 (fun kr xr sr rr => xr = 13830554455654793216) (by decide) (Hid.mk' (fun W hW => flip_zero W hW)) (by decide) w hl
set_option maxHeartbeats 4000000 in
set_option maxRecDepth 100000 in
theorem awake19 (w : World) (hl : Hid (Laid w)) : Calls Tryz.prog 6 #[] w fun e w' => e = .returned (.bool true) ∧ Below w.heap.size w w' := by
  have c0 : Below w.heap.size w w := Below.refl _ _
  have HA1 := Hid.mk' (fun W => rasciiV_any ⟨#[49]⟩ ⟨#[0, 49]⟩ op_asc_1 W (by decide))
  have HA3 := Hid.mk' (fun W => rasciiV_any ⟨#[51]⟩ ⟨#[0, 51]⟩ op_asc_3 W (by decide))
  have HA12 := Hid.mk' (fun W => rasciiV_any ⟨#[49, 50]⟩ ⟨#[0, 49, 0, 50]⟩ op_asc_12 W (by decide))
  have HNM := Hid.mk' (fun f W => rnum_any f W)
  have HPL := Hid.mk' (fun W (hW : Hid (Laid W)) => op_plus W hW)
  have HMI := Hid.mk' (fun W (hW : Hid (Laid W)) => op_minus W hW)
  have HFL := Hid.mk' (fun W (hW : Hid (Laid W)) => op_flip W hW)
  have HHI := Hid.mk' (fun W => hint_plus W)
  have heq : ∀ W, (binOp .eql 26 (.agg #[.int .i64 4, .float .f64 0, .string ⟨#[0, 49, 0, 50]⟩, .int .i64 0]) (.agg #[.int .i64 4, .float .f64 0, .string ⟨#[0, 49, 0, 50]⟩, .int .i64 0])).run Tryz.prog W = .ok (.bool true) W := fun W => by kernel_rfl
  have q1 : (FloatKind.f64.format.order 4611686018427387904 4611686018427387904 == some Ordering.eq) = true := by decide
  have q2 : (FloatKind.f64.format.order 13830554455654793216 13830554455654793216 == some Ordering.eq) = true := by decide
  have q3 : FloatKind.f64.format.sub 4613937818241073152 4607182418800017408 = some 4611686018427387904 := by kernel_rfl
  go_enter Tryz.func6, Tryz.ntmps6
  go_wp2_with fail
  refine (HA1.out _).mono ?_
  rintro e w1 ⟨rfl, b1⟩
  have c1 : Below w.heap.size w w1 := bl_chain (by (repeat' (first | (with_reducible exact Below.refl _ _) | (with_reducible assumption) | (with_reducible refine Below.drew ?_) | (with_reducible refine below_drewN ?_ _) | (with_reducible refine Below.alloc ?_ ?_ _) | (with_reducible refine Below.setCell ?_ ?_ _) | exact Below.size (show Below w.heap.size w _ by assumption) | (simp; done) | (simp; omega)))) b1
  have hl1 : Hid (Laid w1) := Hid.mk' (hl.out.below c1)
  clear b1
  go_wp2_with fail
  refine (HNM.out _ _).mono ?_
  rintro e w2 ⟨rfl, b2⟩
  have c2 : Below w.heap.size w w2 := bl_chain (by (repeat' (first | (with_reducible exact Below.refl _ _) | (with_reducible assumption) | (with_reducible refine Below.drew ?_) | (with_reducible refine below_drewN ?_ _) | (with_reducible refine Below.alloc ?_ ?_ _) | (with_reducible refine Below.setCell ?_ ?_ _) | exact Below.size (show Below w.heap.size w _ by assumption) | (simp; done) | (simp; omega)))) b2
  have hl2 : Hid (Laid w2) := Hid.mk' (hl.out.below c2)
  clear b2
  go_wp2_with fail
  refine (HPL.out _ (Hid.mk' (hl.out.below (by (repeat' (first | (with_reducible exact Below.refl _ _) | (with_reducible assumption) | (with_reducible refine Below.drew ?_) | (with_reducible refine below_drewN ?_ _) | (with_reducible refine Below.alloc ?_ ?_ _) | (with_reducible refine Below.setCell ?_ ?_ _) | exact Below.size (show Below w.heap.size w _ by assumption) | (simp; done) | (simp; omega))))))).mono ?_
  rintro e w3 ⟨kr, xr, sr, rr, rfl, ⟨rfl, rfl, rfl, rfl⟩, b3⟩
  have c3 : Below w.heap.size w w3 := bl_chain (by (repeat' (first | (with_reducible exact Below.refl _ _) | (with_reducible assumption) | (with_reducible refine Below.drew ?_) | (with_reducible refine below_drewN ?_ _) | (with_reducible refine Below.alloc ?_ ?_ _) | (with_reducible refine Below.setCell ?_ ?_ _) | exact Below.size (show Below w.heap.size w _ by assumption) | (simp; done) | (simp; omega)))) b3
  have hl3 : Hid (Laid w3) := Hid.mk' (hl.out.below c3)
  clear b3
  go_wp2_with fail
  refine (HA3.out _).mono ?_
  rintro e w4 ⟨rfl, b4⟩
  have c4 : Below w.heap.size w w4 := bl_chain (by (repeat' (first | (with_reducible exact Below.refl _ _) | (with_reducible assumption) | (with_reducible refine Below.drew ?_) | (with_reducible refine below_drewN ?_ _) | (with_reducible refine Below.alloc ?_ ?_ _) | (with_reducible refine Below.setCell ?_ ?_ _) | exact Below.size (show Below w.heap.size w _ by assumption) | (simp; done) | (simp; omega)))) b4
  have hl4 : Hid (Laid w4) := Hid.mk' (hl.out.below c4)
  have BA4 : CellV w4 w3.heap.size 4 0 ⟨#[0, 49, 0, 50]⟩ 0 := CellV.below (by first | (with_reducible assumption) | (with_reducible exact op_newV _ _ _ _ _) | (with_reducible refine op_allocV ?_ _; assumption) | (with_reducible refine CellV.drew ?_; assumption)) b4
  obtain ⟨-, BA40, BA41, BA42, BA43⟩ := id BA4
  clear b4
  go_wp2_with fail
  refine (HNM.out _ _).mono ?_
  rintro e w5 ⟨rfl, b5⟩
  have c5 : Below w.heap.size w w5 := bl_chain (by (repeat' (first | (with_reducible exact Below.refl _ _) | (with_reducible assumption) | (with_reducible refine Below.drew ?_) | (with_reducible refine below_drewN ?_ _) | (with_reducible refine Below.alloc ?_ ?_ _) | (with_reducible refine Below.setCell ?_ ?_ _) | exact Below.size (show Below w.heap.size w _ by assumption) | (simp; done) | (simp; omega)))) b5
  have hl5 : Hid (Laid w5) := Hid.mk' (hl.out.below c5)
  have BA5 : CellV w5 w3.heap.size 4 0 ⟨#[0, 49, 0, 50]⟩ 0 := CellV.below (by first | (with_reducible assumption) | (with_reducible exact op_newV _ _ _ _ _) | (with_reducible refine op_allocV ?_ _; assumption) | (with_reducible refine CellV.drew ?_; assumption)) b5
  obtain ⟨-, BA50, BA51, BA52, BA53⟩ := id BA5
  clear b5
  go_wp2_with fail
  refine (HMI.out _ (Hid.mk' (hl.out.below (by (repeat' (first | (with_reducible exact Below.refl _ _) | (with_reducible assumption) | (with_reducible refine Below.drew ?_) | (with_reducible refine below_drewN ?_ _) | (with_reducible refine Below.alloc ?_ ?_ _) | (with_reducible refine Below.setCell ?_ ?_ _) | exact Below.size (show Below w.heap.size w _ by assumption) | (simp; done) | (simp; omega))))))).mono ?_
  rintro e w6 ⟨kr, xr, sr, rr, rfl, ⟨rfl, rfl, rfl, hf⟩, b6⟩
  have c6 : Below w.heap.size w w6 := bl_chain (by (repeat' (first | (with_reducible exact Below.refl _ _) | (with_reducible assumption) | (with_reducible refine Below.drew ?_) | (with_reducible refine below_drewN ?_ _) | (with_reducible refine Below.alloc ?_ ?_ _) | (with_reducible refine Below.setCell ?_ ?_ _) | exact Below.size (show Below w.heap.size w _ by assumption) | (simp; done) | (simp; omega)))) b6
  have hl6 : Hid (Laid w6) := Hid.mk' (hl.out.below c6)
  have BA6 : CellV w6 w3.heap.size 4 0 ⟨#[0, 49, 0, 50]⟩ 0 := CellV.below (by first | (with_reducible assumption) | (with_reducible exact op_newV _ _ _ _ _) | (with_reducible refine op_allocV ?_ _; assumption) | (with_reducible refine CellV.drew ?_; assumption)) b6
  obtain ⟨-, BA60, BA61, BA62, BA63⟩ := id BA6
  obtain rfl := hf.1 _ q3
  clear hf
  clear b6
  go_wp2_with fail
  refine (HNM.out _ _).mono ?_
  rintro e w7 ⟨rfl, b7⟩
  have c7 : Below w.heap.size w w7 := bl_chain (by (repeat' (first | (with_reducible exact Below.refl _ _) | (with_reducible assumption) | (with_reducible refine Below.drew ?_) | (with_reducible refine below_drewN ?_ _) | (with_reducible refine Below.alloc ?_ ?_ _) | (with_reducible refine Below.setCell ?_ ?_ _) | exact Below.size (show Below w.heap.size w _ by assumption) | (simp; done) | (simp; omega)))) b7
  have hl7 : Hid (Laid w7) := Hid.mk' (hl.out.below c7)
  have BA7 : CellV w7 w3.heap.size 4 0 ⟨#[0, 49, 0, 50]⟩ 0 := CellV.below (by first | (with_reducible assumption) | (with_reducible exact op_newV _ _ _ _ _) | (with_reducible refine op_allocV ?_ _; assumption) | (with_reducible refine CellV.drew ?_; assumption)) b7
  obtain ⟨-, BA70, BA71, BA72, BA73⟩ := id BA7
  have BB7 : CellV w7 w6.heap.size 3 4611686018427387904 ⟨#[]⟩ 0 := CellV.below (by first | (with_reducible assumption) | (with_reducible exact op_newV _ _ _ _ _) | (with_reducible refine op_allocV ?_ _; assumption) | (with_reducible refine CellV.drew ?_; assumption)) b7
  obtain ⟨-, BB70, BB71, BB72, BB73⟩ := id BB7
  clear b7
  go_wp2_with fail
  refine (HFL.out _ (Hid.mk' (hl.out.below (by (repeat' (first | (with_reducible exact Below.refl _ _) | (with_reducible assumption) | (with_reducible refine Below.drew ?_) | (with_reducible refine below_drewN ?_ _) | (with_reducible refine Below.alloc ?_ ?_ _) | (with_reducible refine Below.setCell ?_ ?_ _) | exact Below.size (show Below w.heap.size w _ by assumption) | (simp; done) | (simp; omega))))))).mono ?_
  rintro e w8 ⟨kc, xr, sc, rc, rfl, rfl, b8⟩
  have c8 : Below w.heap.size w w8 := bl_chain (by (repeat' (first | (with_reducible exact Below.refl _ _) | (with_reducible assumption) | (with_reducible refine Below.drew ?_) | (with_reducible refine below_drewN ?_ _) | (with_reducible refine Below.alloc ?_ ?_ _) | (with_reducible refine Below.setCell ?_ ?_ _) | exact Below.size (show Below w.heap.size w _ by assumption) | (simp; done) | (simp; omega)))) b8
  have hl8 : Hid (Laid w8) := Hid.mk' (hl.out.below c8)
  have BA8 : CellV w8 w3.heap.size 4 0 ⟨#[0, 49, 0, 50]⟩ 0 := CellV.below (by first | (with_reducible assumption) | (with_reducible exact op_newV _ _ _ _ _) | (with_reducible refine op_allocV ?_ _; assumption) | (with_reducible refine CellV.drew ?_; assumption)) b8
  obtain ⟨-, BA80, BA81, BA82, BA83⟩ := id BA8
  have BB8 : CellV w8 w6.heap.size 3 4611686018427387904 ⟨#[]⟩ 0 := CellV.below (by first | (with_reducible assumption) | (with_reducible exact op_newV _ _ _ _ _) | (with_reducible refine op_allocV ?_ _; assumption) | (with_reducible refine CellV.drew ?_; assumption)) b8
  obtain ⟨-, BB80, BB81, BB82, BB83⟩ := id BB8
  clear b8
  go_wp2_with fail
  have BA9 : CellV (w8.alloc (.cells #[.int .i64 kc, .float .f64 13830554455654793216, .string sc, .int .i64 rc] 26)) w3.heap.size 4 0 ⟨#[0, 49, 0, 50]⟩ 0 := op_allocV BA8 _
  have BB9 : CellV (w8.alloc (.cells #[.int .i64 kc, .float .f64 13830554455654793216, .string sc, .int .i64 rc] 26)) w6.heap.size 3 4611686018427387904 ⟨#[]⟩ 0 := op_allocV BB8 _
  have BC9 : CellV (w8.alloc (.cells #[.int .i64 kc, .float .f64 13830554455654793216, .string sc, .int .i64 rc] 26)) w8.heap.size kc 13830554455654793216 sc rc := op_newV _ _ _ _ _
  have c9 : Below w.heap.size w (w8.alloc (.cells #[.int .i64 kc, .float .f64 13830554455654793216, .string sc, .int .i64 rc] 26)) := by (repeat' (first | (with_reducible exact Below.refl _ _) | (with_reducible assumption) | (with_reducible refine Below.drew ?_) | (with_reducible refine below_drewN ?_ _) | (with_reducible refine Below.alloc ?_ ?_ _) | (with_reducible refine Below.setCell ?_ ?_ _) | exact Below.size (show Below w.heap.size w _ by assumption) | (simp; done) | (simp; omega)))
  generalize (w8.alloc (.cells #[.int .i64 kc, .float .f64 13830554455654793216, .string sc, .int .i64 rc] 26)) = w9 at BA9 BB9 BC9 c9 ⊢
  obtain ⟨-, BA90, BA91, BA92, BA93⟩ := id BA9
  obtain ⟨-, BB90, BB91, BB92, BB93⟩ := id BB9
  obtain ⟨-, BC90, BC91, BC92, BC93⟩ := id BC9
  go_region_held3 (fun w' => w'.cell? ⟨w3.heap.size, 0, none⟩ = some (.int .i64 4) ∧ w'.cell? ⟨w3.heap.size, 1, none⟩ = some (.float .f64 0) ∧ w'.cell? ⟨w3.heap.size, 2, none⟩ = some (.string ⟨#[0, 49, 0, 50]⟩) ∧ w'.cell? ⟨w3.heap.size, 3, none⟩ = some (.int .i64 0) ∧ w'.cell? ⟨w6.heap.size, 1, none⟩ = some (.float .f64 4611686018427387904) ∧ w'.cell? ⟨w8.heap.size, 1, none⟩ = some (.float .f64 13830554455654793216)) (go_keep) (first | (go_at_call 13; (with_reducible refine (HA12.out _).mono ?_; rintro e w10 ⟨rfl, b10⟩; have c10 : Below w.heap.size w w10 := bl_chain (by (repeat' (first | (with_reducible exact Below.refl _ _) | (with_reducible assumption) | (with_reducible refine Below.drew ?_) | (with_reducible refine below_drewN ?_ _) | (with_reducible refine Below.alloc ?_ ?_ _) | (with_reducible refine Below.setCell ?_ ?_ _) | exact Below.size (show Below w.heap.size w _ by assumption) | (simp; done) | (simp; omega)))) b10; have BA10 : CellV w10 w3.heap.size 4 0 ⟨#[0, 49, 0, 50]⟩ 0 := CellV.below (by first | (with_reducible assumption) | (with_reducible exact op_newV _ _ _ _ _) | (with_reducible refine op_allocV ?_ _; assumption) | (with_reducible refine CellV.drew ?_; assumption)) b10; obtain ⟨-, BA100, BA101, BA102, BA103⟩ := id BA10; have BB10 : CellV w10 w6.heap.size 3 4611686018427387904 ⟨#[]⟩ 0 := CellV.below (by first | (with_reducible assumption) | (with_reducible exact op_newV _ _ _ _ _) | (with_reducible refine op_allocV ?_ _; assumption) | (with_reducible refine CellV.drew ?_; assumption)) b10; obtain ⟨-, BB100, BB101, BB102, BB103⟩ := id BB10; have BC10 : CellV w10 w8.heap.size kc 13830554455654793216 sc rc := CellV.below (by first | (with_reducible assumption) | (with_reducible exact op_newV _ _ _ _ _) | (with_reducible refine op_allocV ?_ _; assumption) | (with_reducible refine CellV.drew ?_; assumption)) b10; obtain ⟨-, BC100, BC101, BC102, BC103⟩ := id BC10; clear b10)) | (go_at_call 14; (with_reducible refine (HHI.out _).mono ?_; rintro e w11 ⟨rfl, b11⟩; have c11 : Below w.heap.size w w11 := bl_chain (by (repeat' (first | (with_reducible exact Below.refl _ _) | (with_reducible assumption) | (with_reducible refine Below.drew ?_) | (with_reducible refine below_drewN ?_ _) | (with_reducible refine Below.alloc ?_ ?_ _) | (with_reducible refine Below.setCell ?_ ?_ _) | exact Below.size (show Below w.heap.size w _ by assumption) | (simp; done) | (simp; omega)))) b11; have BA11 : CellV w11 w3.heap.size 4 0 ⟨#[0, 49, 0, 50]⟩ 0 := CellV.below (by first | (with_reducible assumption) | (with_reducible exact op_newV _ _ _ _ _) | (with_reducible refine op_allocV ?_ _; assumption) | (with_reducible refine CellV.drew ?_; assumption)) b11; obtain ⟨-, BA110, BA111, BA112, BA113⟩ := id BA11; have BB11 : CellV w11 w6.heap.size 3 4611686018427387904 ⟨#[]⟩ 0 := CellV.below (by first | (with_reducible assumption) | (with_reducible exact op_newV _ _ _ _ _) | (with_reducible refine op_allocV ?_ _; assumption) | (with_reducible refine CellV.drew ?_; assumption)) b11; obtain ⟨-, BB110, BB111, BB112, BB113⟩ := id BB11; have BC11 : CellV w11 w8.heap.size kc 13830554455654793216 sc rc := CellV.below (by first | (with_reducible assumption) | (with_reducible exact op_newV _ _ _ _ _) | (with_reducible refine op_allocV ?_ _; assumption) | (with_reducible refine CellV.drew ?_; assumption)) b11; obtain ⟨-, BC110, BC111, BC112, BC113⟩ := id BC11; clear b11)))
  all_goals go_wp2
  all_goals go_ret
  all_goals exact ⟨rfl, by (repeat' (first | (with_reducible exact Below.refl _ _) | (with_reducible assumption) | (with_reducible refine Below.drew ?_) | (with_reducible refine below_drewN ?_ _) | (with_reducible refine Below.alloc ?_ ?_ _) | (with_reducible refine Below.setCell ?_ ?_ _) | exact Below.size (show Below w.heap.size w _ by assumption) | (simp; done) | (simp; omega)))⟩
end Go.Proofs.YtbkkkpfoaggejaaGreatDoor
