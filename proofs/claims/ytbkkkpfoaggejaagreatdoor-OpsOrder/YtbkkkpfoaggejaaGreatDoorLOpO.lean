/- OpsOrder: of two numbers that are numbers, and of two texts, just one of below, above and alike is so. Written by tools/mkopo.py. -/
import Derived.Test.YtbkkkpfoaggejaaGreatDoorOpF
import Derived.LoopN
namespace Go.Proofs.YtbkkkpfoaggejaaGreatDoor
set_option linter.unusedVariables false
set_option linter.unusedSimpArgs false
open Go.RowKit Go.Sort Fl

theorem cells2b {w : World} {ka : Int} {xa : Nat} {sa : ByteArray} {ra : Int} {o1 : Obj} : CellV ((w.alloc o1).alloc (.cells #[.int .i64 ka, .float .f64 xa, .string sa, .int .i64 ra] 26)) (w.heap.size + 1) ka xa sa ra := by
  have := op_newV (w.alloc o1) ka xa sa ra
  simpa using this
set_option maxHeartbeats 4000000 in
set_option maxRecDepth 100000 in
theorem ord_big (ka : Int) (xa : Nat) (sa : ByteArray) (ra : Int) (kb : Int) (xb : Nat) (sb : ByteArray) (rb : Int) (w : World) (hl : Hid (Laid w)) (za : (sa.size : Int) ≤ 140737488351232) (zb : (sb.size : Int) ≤ 140737488351232) (hbig : (3000 : Int) < (sa.size : Int) + (sb.size : Int)) : Calls Tryz.prog 5 #[.agg #[.int .i64 ka, .float .f64 xa, .string sa, .int .i64 ra], .agg #[.int .i64 kb, .float .f64 xb, .string sb, .int .i64 rb]] w fun e w' => e = .returned (.bool true) ∧ Below w.heap.size w w' := by
  have HW := Hid.mk' (fun W (hW : Hid (Laid W)) => awake19 W hW)
  go_enter Tryz.func5, Tryz.ntmps5
  go_wp2_with fail
  refine (HW.out _ (Hid.mk' (hl.out.below (by (repeat' (first | (with_reducible exact Below.refl _ _) | (with_reducible assumption) | (with_reducible refine Below.drew ?_) | (with_reducible refine below_drewN ?_ _) | (with_reducible refine Below.alloc ?_ ?_ _) | (with_reducible refine Below.setCell ?_ ?_ _) | exact Below.size (show Below w.heap.size w _ by assumption) | (simp; done) | (simp; omega))))))).mono ?_
  rintro e w1 ⟨rfl, b1⟩
  have c1 : Below w.heap.size w w1 := bl_chain (by (repeat' (first | (with_reducible exact Below.refl _ _) | (with_reducible assumption) | (with_reducible refine Below.drew ?_) | (with_reducible refine below_drewN ?_ _) | (with_reducible refine Below.alloc ?_ ?_ _) | (with_reducible refine Below.setCell ?_ ?_ _) | exact Below.size (show Below w.heap.size w _ by assumption) | (simp; done) | (simp; omega)))) b1
  have hl1 : Hid (Laid w1) := Hid.mk' (hl.out.below c1)
  have Va1 : CellV w1 w.heap.size ka xa sa ra := CellV.below (by first | (with_reducible assumption) | (with_reducible exact op_newV _ _ _ _ _) | (with_reducible refine op_allocV ?_ _; assumption) | (with_reducible exact op_allocV (op_newV _ _ _ _ _) _) | (with_reducible refine CellV.drew ?_; assumption) | (with_reducible exact cells2b)) b1
  obtain ⟨-, va10, va11, va12, va13⟩ := id Va1
  have Vb1 : CellV w1 (w.heap.size + 1) kb xb sb rb := CellV.below (by first | (with_reducible assumption) | (with_reducible exact op_newV _ _ _ _ _) | (with_reducible refine op_allocV ?_ _; assumption) | (with_reducible exact op_allocV (op_newV _ _ _ _ _) _) | (with_reducible refine CellV.drew ?_; assumption) | (with_reducible exact cells2b)) b1
  obtain ⟨-, vb10, vb11, vb12, vb13⟩ := id Vb1
  clear b1
  go_wp2
  go_ret
  exact ⟨rfl, by (repeat' (first | (with_reducible exact Below.refl _ _) | (with_reducible assumption) | (with_reducible refine Below.drew ?_) | (with_reducible refine below_drewN ?_ _) | (with_reducible refine Below.alloc ?_ ?_ _) | (with_reducible refine Below.setCell ?_ ?_ _) | exact Below.size (show Below w.heap.size w _ by assumption) | (simp; done) | (simp; omega)))⟩
set_option maxHeartbeats 4000000 in
set_option maxRecDepth 100000 in
theorem ord_kinds (ka : Int) (xa : Nat) (sa : ByteArray) (ra : Int) (kb : Int) (xb : Nat) (sb : ByteArray) (rb : Int) (w : World) (hl : Hid (Laid w)) (hsm : (sa.size : Int) + (sb.size : Int) ≤ 3000) (hk : ka ≠ kb) : Calls Tryz.prog 5 #[.agg #[.int .i64 ka, .float .f64 xa, .string sa, .int .i64 ra], .agg #[.int .i64 kb, .float .f64 xb, .string sb, .int .i64 rb]] w fun e w' => e = .returned (.bool true) ∧ Below w.heap.size w w' := by
  have k1 : (ka == kb) = false := by simpa using hk
  have k2 : (ka != kb) = true := by simpa using hk
  clear hk
  have hnl : decide ((3000 : Int) < (sa.size : Int) + (sb.size : Int)) = false := decide_eq_false (by omega)
  have HW := Hid.mk' (fun W (hW : Hid (Laid W)) => awake19 W hW)
  go_enter Tryz.func5, Tryz.ntmps5
  go_wp2_with fail
  refine (HW.out _ (Hid.mk' (hl.out.below (by (repeat' (first | (with_reducible exact Below.refl _ _) | (with_reducible assumption) | (with_reducible refine Below.drew ?_) | (with_reducible refine below_drewN ?_ _) | (with_reducible refine Below.alloc ?_ ?_ _) | (with_reducible refine Below.setCell ?_ ?_ _) | exact Below.size (show Below w.heap.size w _ by assumption) | (simp; done) | (simp; omega))))))).mono ?_
  rintro e w1 ⟨rfl, b1⟩
  have c1 : Below w.heap.size w w1 := bl_chain (by (repeat' (first | (with_reducible exact Below.refl _ _) | (with_reducible assumption) | (with_reducible refine Below.drew ?_) | (with_reducible refine below_drewN ?_ _) | (with_reducible refine Below.alloc ?_ ?_ _) | (with_reducible refine Below.setCell ?_ ?_ _) | exact Below.size (show Below w.heap.size w _ by assumption) | (simp; done) | (simp; omega)))) b1
  have hl1 : Hid (Laid w1) := Hid.mk' (hl.out.below c1)
  have Va1 : CellV w1 w.heap.size ka xa sa ra := CellV.below (by first | (with_reducible assumption) | (with_reducible exact op_newV _ _ _ _ _) | (with_reducible refine op_allocV ?_ _; assumption) | (with_reducible exact op_allocV (op_newV _ _ _ _ _) _) | (with_reducible refine CellV.drew ?_; assumption) | (with_reducible exact cells2b)) b1
  obtain ⟨-, va10, va11, va12, va13⟩ := id Va1
  have Vb1 : CellV w1 (w.heap.size + 1) kb xb sb rb := CellV.below (by first | (with_reducible assumption) | (with_reducible exact op_newV _ _ _ _ _) | (with_reducible refine op_allocV ?_ _; assumption) | (with_reducible exact op_allocV (op_newV _ _ _ _ _) _) | (with_reducible refine CellV.drew ?_; assumption) | (with_reducible exact cells2b)) b1
  obtain ⟨-, vb10, vb11, vb12, vb13⟩ := id Vb1
  clear b1
  go_wp2
  go_ret
  exact ⟨rfl, by (repeat' (first | (with_reducible exact Below.refl _ _) | (with_reducible assumption) | (with_reducible refine Below.drew ?_) | (with_reducible refine below_drewN ?_ _) | (with_reducible refine Below.alloc ?_ ?_ _) | (with_reducible refine Below.setCell ?_ ?_ _) | exact Below.size (show Below w.heap.size w _ by assumption) | (simp; done) | (simp; omega)))⟩
set_option maxHeartbeats 4000000 in
set_option maxRecDepth 100000 in
theorem ord_other (ka : Int) (xa : Nat) (sa : ByteArray) (ra : Int) (kb : Int) (xb : Nat) (sb : ByteArray) (rb : Int) (w : World) (hl : Hid (Laid w)) (hsm : (sa.size : Int) + (sb.size : Int) ≤ 3000) (hk : ka = kb) (h3 : ka ≠ 3) (h4 : ka ≠ 4) : Calls Tryz.prog 5 #[.agg #[.int .i64 ka, .float .f64 xa, .string sa, .int .i64 ra], .agg #[.int .i64 kb, .float .f64 xb, .string sb, .int .i64 rb]] w fun e w' => e = .returned (.bool true) ∧ Below w.heap.size w w' := by
  have k0 : (ka == kb) = true := by simpa using hk
  have k3 : (ka == 3) = false := by simpa using h3
  have k4 : (ka == 4) = false := by simpa using h4
  have m0 : (ka != kb) = false := by simpa using hk
  have m3 : (ka != 3) = true := by simpa using h3
  have m4 : (ka != 4) = true := by simpa using h4
  clear h3 h4 hk
  have hnl : decide ((3000 : Int) < (sa.size : Int) + (sb.size : Int)) = false := decide_eq_false (by omega)
  have HW := Hid.mk' (fun W (hW : Hid (Laid W)) => awake19 W hW)
  go_enter Tryz.func5, Tryz.ntmps5
  go_wp2_with fail
  refine (HW.out _ (Hid.mk' (hl.out.below (by (repeat' (first | (with_reducible exact Below.refl _ _) | (with_reducible assumption) | (with_reducible refine Below.drew ?_) | (with_reducible refine below_drewN ?_ _) | (with_reducible refine Below.alloc ?_ ?_ _) | (with_reducible refine Below.setCell ?_ ?_ _) | exact Below.size (show Below w.heap.size w _ by assumption) | (simp; done) | (simp; omega))))))).mono ?_
  rintro e w1 ⟨rfl, b1⟩
  have c1 : Below w.heap.size w w1 := bl_chain (by (repeat' (first | (with_reducible exact Below.refl _ _) | (with_reducible assumption) | (with_reducible refine Below.drew ?_) | (with_reducible refine below_drewN ?_ _) | (with_reducible refine Below.alloc ?_ ?_ _) | (with_reducible refine Below.setCell ?_ ?_ _) | exact Below.size (show Below w.heap.size w _ by assumption) | (simp; done) | (simp; omega)))) b1
  have hl1 : Hid (Laid w1) := Hid.mk' (hl.out.below c1)
  have Va1 : CellV w1 w.heap.size ka xa sa ra := CellV.below (by first | (with_reducible assumption) | (with_reducible exact op_newV _ _ _ _ _) | (with_reducible refine op_allocV ?_ _; assumption) | (with_reducible exact op_allocV (op_newV _ _ _ _ _) _) | (with_reducible refine CellV.drew ?_; assumption) | (with_reducible exact cells2b)) b1
  obtain ⟨-, va10, va11, va12, va13⟩ := id Va1
  have Vb1 : CellV w1 (w.heap.size + 1) kb xb sb rb := CellV.below (by first | (with_reducible assumption) | (with_reducible exact op_newV _ _ _ _ _) | (with_reducible refine op_allocV ?_ _; assumption) | (with_reducible exact op_allocV (op_newV _ _ _ _ _) _) | (with_reducible refine CellV.drew ?_; assumption) | (with_reducible exact cells2b)) b1
  obtain ⟨-, vb10, vb11, vb12, vb13⟩ := id Vb1
  clear b1
  go_wp2
  go_ret
  exact ⟨rfl, by (repeat' (first | (with_reducible exact Below.refl _ _) | (with_reducible assumption) | (with_reducible refine Below.drew ?_) | (with_reducible refine below_drewN ?_ _) | (with_reducible refine Below.alloc ?_ ?_ _) | (with_reducible refine Below.setCell ?_ ?_ _) | exact Below.size (show Below w.heap.size w _ by assumption) | (simp; done) | (simp; omega)))⟩
set_option maxHeartbeats 4000000 in
set_option maxRecDepth 100000 in
theorem ord_nan3 (xa : Nat) (sa : ByteArray) (ra : Int) (xb : Nat) (sb : ByteArray) (rb : Int) (w : World) (hl : Hid (Laid w)) (hsm : (sa.size : Int) + (sb.size : Int) ≤ 3000) (hxa : xa < 18446744073709551616) (hxb : xb < 18446744073709551616) (za : (sa.size : Int) ≤ 140737488351232) (zb : (sb.size : Int) ≤ 140737488351232) (hn : nan xa ∨ nan xb) : Calls Tryz.prog 5 #[.agg #[.int .i64 3, .float .f64 xa, .string sa, .int .i64 ra], .agg #[.int .i64 3, .float .f64 xb, .string sb, .int .i64 rb]] w fun e w' => e = .returned (.bool true) ∧ Below w.heap.size w w' := by
  have qa := eqf xa xa hxa hxa
  have qb := eqf xb xb hxb hxb
  rw [show decide (¬ nan xa ∧ ¬ nan xa ∧ key xa = key xa) = !decide (nan xa) by by_cases h : nan xa <;> simp [h]] at qa
  rw [show decide (¬ nan xb ∧ ¬ nan xb ∧ key xb = key xb) = !decide (nan xb) by by_cases h : nan xb <;> simp [h]] at qb
  have HAL := Hid.mk' (fun W => alike_any 4607182418800017408 4611686018427387904 W (by decide) (by decide))
  rw [show alike 4607182418800017408 4611686018427387904 = false by decide +kernel] at HAL
  clear hxa hxb za zb
  by_cases ha : nan xa
  · rw [decide_eq_true ha] at qa
    have qa2 : (FloatKind.f64.format.order xa xa != some Ordering.eq) = true := by unfold bne; rw [qa]; rfl
    clear hn ha qb
    have hnl : decide ((3000 : Int) < (sa.size : Int) + (sb.size : Int)) = false := decide_eq_false (by omega)
    have HW := Hid.mk' (fun W (hW : Hid (Laid W)) => awake19 W hW)
    go_enter Tryz.func5, Tryz.ntmps5
    go_wp2_with fail
    refine (HW.out _ (Hid.mk' (hl.out.below (by (repeat' (first | (with_reducible exact Below.refl _ _) | (with_reducible assumption) | (with_reducible refine Below.drew ?_) | (with_reducible refine below_drewN ?_ _) | (with_reducible refine Below.alloc ?_ ?_ _) | (with_reducible refine Below.setCell ?_ ?_ _) | exact Below.size (show Below w.heap.size w _ by assumption) | (simp; done) | (simp; omega))))))).mono ?_
    rintro e w1 ⟨rfl, b1⟩
    have c1 : Below w.heap.size w w1 := bl_chain (by (repeat' (first | (with_reducible exact Below.refl _ _) | (with_reducible assumption) | (with_reducible refine Below.drew ?_) | (with_reducible refine below_drewN ?_ _) | (with_reducible refine Below.alloc ?_ ?_ _) | (with_reducible refine Below.setCell ?_ ?_ _) | exact Below.size (show Below w.heap.size w _ by assumption) | (simp; done) | (simp; omega)))) b1
    have hl1 : Hid (Laid w1) := Hid.mk' (hl.out.below c1)
    have Va1 : CellV w1 w.heap.size 3 xa sa ra := CellV.below (by first | (with_reducible assumption) | (with_reducible exact op_newV _ _ _ _ _) | (with_reducible refine op_allocV ?_ _; assumption) | (with_reducible exact op_allocV (op_newV _ _ _ _ _) _) | (with_reducible refine CellV.drew ?_; assumption) | (with_reducible exact cells2b)) b1
    obtain ⟨-, va10, va11, va12, va13⟩ := id Va1
    have Vb1 : CellV w1 (w.heap.size + 1) 3 xb sb rb := CellV.below (by first | (with_reducible assumption) | (with_reducible exact op_newV _ _ _ _ _) | (with_reducible refine op_allocV ?_ _; assumption) | (with_reducible exact op_allocV (op_newV _ _ _ _ _) _) | (with_reducible refine CellV.drew ?_; assumption) | (with_reducible exact cells2b)) b1
    obtain ⟨-, vb10, vb11, vb12, vb13⟩ := id Vb1
    clear b1
    go_wp2
    go_ret
    exact ⟨rfl, by (repeat' (first | (with_reducible exact Below.refl _ _) | (with_reducible assumption) | (with_reducible refine Below.drew ?_) | (with_reducible refine below_drewN ?_ _) | (with_reducible refine Below.alloc ?_ ?_ _) | (with_reducible refine Below.setCell ?_ ?_ _) | exact Below.size (show Below w.heap.size w _ by assumption) | (simp; done) | (simp; omega)))⟩
  · have hb := hn.resolve_left ha
    rw [decide_eq_false ha] at qa
    rw [decide_eq_true hb] at qb
    have qa2 : (FloatKind.f64.format.order xa xa != some Ordering.eq) = false := by unfold bne; rw [qa]; rfl
    have qb2 : (FloatKind.f64.format.order xb xb != some Ordering.eq) = true := by unfold bne; rw [qb]; rfl
    clear hn ha hb
    have hnl : decide ((3000 : Int) < (sa.size : Int) + (sb.size : Int)) = false := decide_eq_false (by omega)
    have HW := Hid.mk' (fun W (hW : Hid (Laid W)) => awake19 W hW)
    go_enter Tryz.func5, Tryz.ntmps5
    go_wp2_with fail
    refine (HW.out _ (Hid.mk' (hl.out.below (by (repeat' (first | (with_reducible exact Below.refl _ _) | (with_reducible assumption) | (with_reducible refine Below.drew ?_) | (with_reducible refine below_drewN ?_ _) | (with_reducible refine Below.alloc ?_ ?_ _) | (with_reducible refine Below.setCell ?_ ?_ _) | exact Below.size (show Below w.heap.size w _ by assumption) | (simp; done) | (simp; omega))))))).mono ?_
    rintro e w1 ⟨rfl, b1⟩
    have c1 : Below w.heap.size w w1 := bl_chain (by (repeat' (first | (with_reducible exact Below.refl _ _) | (with_reducible assumption) | (with_reducible refine Below.drew ?_) | (with_reducible refine below_drewN ?_ _) | (with_reducible refine Below.alloc ?_ ?_ _) | (with_reducible refine Below.setCell ?_ ?_ _) | exact Below.size (show Below w.heap.size w _ by assumption) | (simp; done) | (simp; omega)))) b1
    have hl1 : Hid (Laid w1) := Hid.mk' (hl.out.below c1)
    have Va1 : CellV w1 w.heap.size 3 xa sa ra := CellV.below (by first | (with_reducible assumption) | (with_reducible exact op_newV _ _ _ _ _) | (with_reducible refine op_allocV ?_ _; assumption) | (with_reducible exact op_allocV (op_newV _ _ _ _ _) _) | (with_reducible refine CellV.drew ?_; assumption) | (with_reducible exact cells2b)) b1
    obtain ⟨-, va10, va11, va12, va13⟩ := id Va1
    have Vb1 : CellV w1 (w.heap.size + 1) 3 xb sb rb := CellV.below (by first | (with_reducible assumption) | (with_reducible exact op_newV _ _ _ _ _) | (with_reducible refine op_allocV ?_ _; assumption) | (with_reducible exact op_allocV (op_newV _ _ _ _ _) _) | (with_reducible refine CellV.drew ?_; assumption) | (with_reducible exact cells2b)) b1
    obtain ⟨-, vb10, vb11, vb12, vb13⟩ := id Vb1
    clear b1
    go_wp2
    go_ret
    exact ⟨rfl, by (repeat' (first | (with_reducible exact Below.refl _ _) | (with_reducible assumption) | (with_reducible refine Below.drew ?_) | (with_reducible refine below_drewN ?_ _) | (with_reducible refine Below.alloc ?_ ?_ _) | (with_reducible refine Below.setCell ?_ ?_ _) | exact Below.size (show Below w.heap.size w _ by assumption) | (simp; done) | (simp; omega)))⟩
set_option maxHeartbeats 4000000 in
set_option maxRecDepth 100000 in
theorem ord_nan4 (xa : Nat) (sa : ByteArray) (ra : Int) (xb : Nat) (sb : ByteArray) (rb : Int) (w : World) (hl : Hid (Laid w)) (hsm : (sa.size : Int) + (sb.size : Int) ≤ 3000) (hxa : xa < 18446744073709551616) (hxb : xb < 18446744073709551616) (za : (sa.size : Int) ≤ 140737488351232) (zb : (sb.size : Int) ≤ 140737488351232) (hn : nan xa ∨ nan xb) : Calls Tryz.prog 5 #[.agg #[.int .i64 4, .float .f64 xa, .string sa, .int .i64 ra], .agg #[.int .i64 4, .float .f64 xb, .string sb, .int .i64 rb]] w fun e w' => e = .returned (.bool true) ∧ Below w.heap.size w w' := by
  have qa := eqf xa xa hxa hxa
  have qb := eqf xb xb hxb hxb
  rw [show decide (¬ nan xa ∧ ¬ nan xa ∧ key xa = key xa) = !decide (nan xa) by by_cases h : nan xa <;> simp [h]] at qa
  rw [show decide (¬ nan xb ∧ ¬ nan xb ∧ key xb = key xb) = !decide (nan xb) by by_cases h : nan xb <;> simp [h]] at qb
  have HAL := Hid.mk' (fun W => alike_any 4607182418800017408 4611686018427387904 W (by decide) (by decide))
  rw [show alike 4607182418800017408 4611686018427387904 = false by decide +kernel] at HAL
  clear hxa hxb za zb
  by_cases ha : nan xa
  · rw [decide_eq_true ha] at qa
    have qa2 : (FloatKind.f64.format.order xa xa != some Ordering.eq) = true := by unfold bne; rw [qa]; rfl
    clear hn ha qb
    have hnl : decide ((3000 : Int) < (sa.size : Int) + (sb.size : Int)) = false := decide_eq_false (by omega)
    have HW := Hid.mk' (fun W (hW : Hid (Laid W)) => awake19 W hW)
    go_enter Tryz.func5, Tryz.ntmps5
    go_wp2_with fail
    refine (HW.out _ (Hid.mk' (hl.out.below (by (repeat' (first | (with_reducible exact Below.refl _ _) | (with_reducible assumption) | (with_reducible refine Below.drew ?_) | (with_reducible refine below_drewN ?_ _) | (with_reducible refine Below.alloc ?_ ?_ _) | (with_reducible refine Below.setCell ?_ ?_ _) | exact Below.size (show Below w.heap.size w _ by assumption) | (simp; done) | (simp; omega))))))).mono ?_
    rintro e w1 ⟨rfl, b1⟩
    have c1 : Below w.heap.size w w1 := bl_chain (by (repeat' (first | (with_reducible exact Below.refl _ _) | (with_reducible assumption) | (with_reducible refine Below.drew ?_) | (with_reducible refine below_drewN ?_ _) | (with_reducible refine Below.alloc ?_ ?_ _) | (with_reducible refine Below.setCell ?_ ?_ _) | exact Below.size (show Below w.heap.size w _ by assumption) | (simp; done) | (simp; omega)))) b1
    have hl1 : Hid (Laid w1) := Hid.mk' (hl.out.below c1)
    have Va1 : CellV w1 w.heap.size 4 xa sa ra := CellV.below (by first | (with_reducible assumption) | (with_reducible exact op_newV _ _ _ _ _) | (with_reducible refine op_allocV ?_ _; assumption) | (with_reducible exact op_allocV (op_newV _ _ _ _ _) _) | (with_reducible refine CellV.drew ?_; assumption) | (with_reducible exact cells2b)) b1
    obtain ⟨-, va10, va11, va12, va13⟩ := id Va1
    have Vb1 : CellV w1 (w.heap.size + 1) 4 xb sb rb := CellV.below (by first | (with_reducible assumption) | (with_reducible exact op_newV _ _ _ _ _) | (with_reducible refine op_allocV ?_ _; assumption) | (with_reducible exact op_allocV (op_newV _ _ _ _ _) _) | (with_reducible refine CellV.drew ?_; assumption) | (with_reducible exact cells2b)) b1
    obtain ⟨-, vb10, vb11, vb12, vb13⟩ := id Vb1
    clear b1
    go_wp2
    go_ret
    exact ⟨rfl, by (repeat' (first | (with_reducible exact Below.refl _ _) | (with_reducible assumption) | (with_reducible refine Below.drew ?_) | (with_reducible refine below_drewN ?_ _) | (with_reducible refine Below.alloc ?_ ?_ _) | (with_reducible refine Below.setCell ?_ ?_ _) | exact Below.size (show Below w.heap.size w _ by assumption) | (simp; done) | (simp; omega)))⟩
  · have hb := hn.resolve_left ha
    rw [decide_eq_false ha] at qa
    rw [decide_eq_true hb] at qb
    have qa2 : (FloatKind.f64.format.order xa xa != some Ordering.eq) = false := by unfold bne; rw [qa]; rfl
    have qb2 : (FloatKind.f64.format.order xb xb != some Ordering.eq) = true := by unfold bne; rw [qb]; rfl
    clear hn ha hb
    have hnl : decide ((3000 : Int) < (sa.size : Int) + (sb.size : Int)) = false := decide_eq_false (by omega)
    have HW := Hid.mk' (fun W (hW : Hid (Laid W)) => awake19 W hW)
    go_enter Tryz.func5, Tryz.ntmps5
    go_wp2_with fail
    refine (HW.out _ (Hid.mk' (hl.out.below (by (repeat' (first | (with_reducible exact Below.refl _ _) | (with_reducible assumption) | (with_reducible refine Below.drew ?_) | (with_reducible refine below_drewN ?_ _) | (with_reducible refine Below.alloc ?_ ?_ _) | (with_reducible refine Below.setCell ?_ ?_ _) | exact Below.size (show Below w.heap.size w _ by assumption) | (simp; done) | (simp; omega))))))).mono ?_
    rintro e w1 ⟨rfl, b1⟩
    have c1 : Below w.heap.size w w1 := bl_chain (by (repeat' (first | (with_reducible exact Below.refl _ _) | (with_reducible assumption) | (with_reducible refine Below.drew ?_) | (with_reducible refine below_drewN ?_ _) | (with_reducible refine Below.alloc ?_ ?_ _) | (with_reducible refine Below.setCell ?_ ?_ _) | exact Below.size (show Below w.heap.size w _ by assumption) | (simp; done) | (simp; omega)))) b1
    have hl1 : Hid (Laid w1) := Hid.mk' (hl.out.below c1)
    have Va1 : CellV w1 w.heap.size 4 xa sa ra := CellV.below (by first | (with_reducible assumption) | (with_reducible exact op_newV _ _ _ _ _) | (with_reducible refine op_allocV ?_ _; assumption) | (with_reducible exact op_allocV (op_newV _ _ _ _ _) _) | (with_reducible refine CellV.drew ?_; assumption) | (with_reducible exact cells2b)) b1
    obtain ⟨-, va10, va11, va12, va13⟩ := id Va1
    have Vb1 : CellV w1 (w.heap.size + 1) 4 xb sb rb := CellV.below (by first | (with_reducible assumption) | (with_reducible exact op_newV _ _ _ _ _) | (with_reducible refine op_allocV ?_ _; assumption) | (with_reducible exact op_allocV (op_newV _ _ _ _ _) _) | (with_reducible refine CellV.drew ?_; assumption) | (with_reducible exact cells2b)) b1
    obtain ⟨-, vb10, vb11, vb12, vb13⟩ := id Vb1
    clear b1
    go_wp2
    go_ret
    exact ⟨rfl, by (repeat' (first | (with_reducible exact Below.refl _ _) | (with_reducible assumption) | (with_reducible refine Below.drew ?_) | (with_reducible refine below_drewN ?_ _) | (with_reducible refine Below.alloc ?_ ?_ _) | (with_reducible refine Below.setCell ?_ ?_ _) | exact Below.size (show Below w.heap.size w _ by assumption) | (simp; done) | (simp; omega)))⟩
/-- Three operators that lie in a row. -/
structure S3 (w : World) (g : Nat) : Prop where
  lt : g < w.heap.size
  c0 : w.cell? ⟨g, 0, none⟩ = some (.string ⟨#[60]⟩)
  c1 : w.cell? ⟨g, 1, none⟩ = some (.string ⟨#[62]⟩)
  c2 : w.cell? ⟨g, 2, none⟩ = some (.string ⟨#[61, 61, 61]⟩)
theorem S3.below {w w' : World} {g : Nat} (h : S3 w g) (hb : Below w.heap.size w w') : S3 w' g :=
  ⟨Nat.lt_of_lt_of_le h.lt hb.size, (hb.cell (p := ⟨g, 0, none⟩) h.lt).trans h.c0, (hb.cell (p := ⟨g, 1, none⟩) h.lt).trans h.c1, (hb.cell (p := ⟨g, 2, none⟩) h.lt).trans h.c2⟩
theorem S3.alloc {w : World} {g : Nat} (h : S3 w g) (o : Obj) : S3 (w.alloc o) g := h.below ((Below.refl _ _).alloc (Nat.le_refl _) _)
theorem S3.new (w : World) (t : TypeId) : S3 (w.alloc (.cells #[.string ⟨#[60]⟩, .string ⟨#[62]⟩, .string ⟨#[61, 61, 61]⟩] t)) w.heap.size := by constructor <;> simp
theorem S3.drew {w : World} {g : Nat} (h : S3 w g) : S3 w.drew g := ⟨h.lt, h.c0, h.c1, h.c2⟩
set_option maxHeartbeats 4000000 in
set_option maxRecDepth 100000 in
theorem ord_main3 (xa : Nat) (sa : ByteArray) (ra : Int) (xb : Nat) (sb : ByteArray) (rb : Int) (w : World) (hl : Hid (Laid w)) (hsm : (sa.size : Int) + (sb.size : Int) ≤ 3000) (hxa : xa < 18446744073709551616) (hxb : xb < 18446744073709551616) (za : (sa.size : Int) ≤ 140737488351232) (zb : (sb.size : Int) ≤ 140737488351232) (hna : ¬ nan xa) (hnb : ¬ nan xb) (L G E : Bool) (hone : (L = true ∧ G = false ∧ E = false) ∨ (L = false ∧ G = true ∧ E = false) ∨ (L = false ∧ G = false ∧ E = true)) (HL : Hid (∀ W, Hid (Laid W) → Calls Tryz.prog 7 #[.string ⟨#[60]⟩, .agg #[.int .i64 3, .float .f64 xa, .string sa, .int .i64 ra], .agg #[.int .i64 3, .float .f64 xb, .string sb, .int .i64 rb]] W fun e w' => e = .returned (.tuple #[.agg #[.int .i64 2, .float .f64 (truthN L), .string ⟨#[]⟩, .int .i64 0], .int .i64 0]) ∧ Below W.heap.size W w')) (HG : Hid (∀ W, Hid (Laid W) → Calls Tryz.prog 7 #[.string ⟨#[62]⟩, .agg #[.int .i64 3, .float .f64 xa, .string sa, .int .i64 ra], .agg #[.int .i64 3, .float .f64 xb, .string sb, .int .i64 rb]] W fun e w' => e = .returned (.tuple #[.agg #[.int .i64 2, .float .f64 (truthN G), .string ⟨#[]⟩, .int .i64 0], .int .i64 0]) ∧ Below W.heap.size W w')) (HE : Hid (∀ W, Hid (Laid W) → Calls Tryz.prog 7 #[.string ⟨#[61, 61, 61]⟩, .agg #[.int .i64 3, .float .f64 xa, .string sa, .int .i64 ra], .agg #[.int .i64 3, .float .f64 xb, .string sb, .int .i64 rb]] W fun e w' => e = .returned (.tuple #[.agg #[.int .i64 2, .float .f64 (truthN E), .string ⟨#[]⟩, .int .i64 0], .int .i64 0]) ∧ Below W.heap.size W w')) : Calls Tryz.prog 5 #[.agg #[.int .i64 3, .float .f64 xa, .string sa, .int .i64 ra], .agg #[.int .i64 3, .float .f64 xb, .string sb, .int .i64 rb]] w fun e w' => e = .returned (.bool true) ∧ Below w.heap.size w w' := by
  have qa := eqf xa xa hxa hxa
  have qb := eqf xb xb hxb hxb
  rw [decide_eq_true (⟨hna, hna, rfl⟩ : ¬ nan xa ∧ ¬ nan xa ∧ key xa = key xa)] at qa
  rw [decide_eq_true (⟨hnb, hnb, rfl⟩ : ¬ nan xb ∧ ¬ nan xb ∧ key xb = key xb)] at qb
  have qa2 : (FloatKind.f64.format.order xa xa != some Ordering.eq) = false := by unfold bne; rw [qa]; rfl
  have qb2 : (FloatKind.f64.format.order xb xb != some Ordering.eq) = false := by unfold bne; rw [qb]; rfl
  have HAL := Hid.mk' (fun W => alike_any 4607182418800017408 4611686018427387904 W (by decide) (by decide))
  rw [show alike 4607182418800017408 4611686018427387904 = false by decide +kernel] at HAL
  have o1 : (FloatKind.f64.format.order 4607182418800017408 4607182418800017408 == some Ordering.eq) = true := by decide +kernel
  have o0 : (FloatKind.f64.format.order 0 4607182418800017408 == some Ordering.eq) = false := by decide +kernel
  clear hxa hxb za zb hna hnb
  have hnl : decide ((3000 : Int) < (sa.size : Int) + (sb.size : Int)) = false := decide_eq_false (by omega)
  have HW := Hid.mk' (fun W (hW : Hid (Laid W)) => awake19 W hW)
  go_enter Tryz.func5, Tryz.ntmps5
  go_wp2_with fail
  refine (HW.out _ (Hid.mk' (hl.out.below (by (repeat' (first | (with_reducible exact Below.refl _ _) | (with_reducible assumption) | (with_reducible refine Below.drew ?_) | (with_reducible refine below_drewN ?_ _) | (with_reducible refine Below.alloc ?_ ?_ _) | (with_reducible refine Below.setCell ?_ ?_ _) | exact Below.size (show Below w.heap.size w _ by assumption) | (simp; done) | (simp; omega))))))).mono ?_
  rintro e w1 ⟨rfl, b1⟩
  have c1 : Below w.heap.size w w1 := bl_chain (by (repeat' (first | (with_reducible exact Below.refl _ _) | (with_reducible assumption) | (with_reducible refine Below.drew ?_) | (with_reducible refine below_drewN ?_ _) | (with_reducible refine Below.alloc ?_ ?_ _) | (with_reducible refine Below.setCell ?_ ?_ _) | exact Below.size (show Below w.heap.size w _ by assumption) | (simp; done) | (simp; omega)))) b1
  have hl1 : Hid (Laid w1) := Hid.mk' (hl.out.below c1)
  have Va1 : CellV w1 w.heap.size 3 xa sa ra := CellV.below (by first | (with_reducible assumption) | (with_reducible exact op_newV _ _ _ _ _) | (with_reducible refine op_allocV ?_ _; assumption) | (with_reducible exact op_allocV (op_newV _ _ _ _ _) _) | (with_reducible refine CellV.drew ?_; assumption) | (with_reducible exact cells2b)) b1
  obtain ⟨-, va10, va11, va12, va13⟩ := id Va1
  have Vb1 : CellV w1 (w.heap.size + 1) 3 xb sb rb := CellV.below (by first | (with_reducible assumption) | (with_reducible exact op_newV _ _ _ _ _) | (with_reducible refine op_allocV ?_ _; assumption) | (with_reducible exact op_allocV (op_newV _ _ _ _ _) _) | (with_reducible refine CellV.drew ?_; assumption) | (with_reducible exact cells2b)) b1
  obtain ⟨-, vb10, vb11, vb12, vb13⟩ := id Vb1
  clear b1
  have lVa10 : ∀ o, (w1.alloc o).cell? ⟨w.heap.size, 0, none⟩ = some (.int .i64 3) := fun o => (op_allocV Va1 o).c0
  have lVa11 : ∀ o, (w1.alloc o).cell? ⟨w.heap.size, 1, none⟩ = some (.float .f64 xa) := fun o => (op_allocV Va1 o).c1
  have lVa12 : ∀ o, (w1.alloc o).cell? ⟨w.heap.size, 2, none⟩ = some (.string sa) := fun o => (op_allocV Va1 o).c2
  have lVa13 : ∀ o, (w1.alloc o).cell? ⟨w.heap.size, 3, none⟩ = some (.int .i64 ra) := fun o => (op_allocV Va1 o).c3
  have lVb10 : ∀ o, (w1.alloc o).cell? ⟨w.heap.size + 1, 0, none⟩ = some (.int .i64 3) := fun o => (op_allocV Vb1 o).c0
  have lVb11 : ∀ o, (w1.alloc o).cell? ⟨w.heap.size + 1, 1, none⟩ = some (.float .f64 xb) := fun o => (op_allocV Vb1 o).c1
  have lVb12 : ∀ o, (w1.alloc o).cell? ⟨w.heap.size + 1, 2, none⟩ = some (.string sb) := fun o => (op_allocV Vb1 o).c2
  have lVb13 : ∀ o, (w1.alloc o).cell? ⟨w.heap.size + 1, 3, none⟩ = some (.int .i64 rb) := fun o => (op_allocV Vb1 o).c3
  go_wp2_with (go_at_call 12; refine (HAL.out _).mono ?_; rintro e w9 ⟨rfl, hw9⟩; rw [hw9]; clear hw9 w9)
  refine wp_loop_rounds 4 ?_
  rcases hone with ⟨rfl, rfl, rfl⟩ | ⟨rfl, rfl, rfl⟩ | ⟨rfl, rfl, rfl⟩
  all_goals simp only [truthN, if_true, if_false, Bool.false_eq_true] at HL HG HE
  all_goals
    rw [rounds_succ]
    go_wp2_with fail
    refine (HL.out _ (Hid.mk' (hl1.out.below (by (repeat' (first | (with_reducible exact Below.refl _ _) | (with_reducible assumption) | (with_reducible refine Below.drew ?_) | (with_reducible refine below_drewN ?_ _) | (with_reducible refine Below.alloc ?_ ?_ _) | (with_reducible refine Below.setCell ?_ ?_ _) | exact Below.size (show Below w1.heap.size w1 _ by assumption) | (simp; done) | (simp; omega))))))).mono ?_
    rintro e w2 ⟨rfl, b2⟩
    have d2 : Below w1.heap.size w1 w2 := bl_chain (by (repeat' (first | (with_reducible exact Below.refl _ _) | (with_reducible assumption) | (with_reducible refine Below.drew ?_) | (with_reducible refine below_drewN ?_ _) | (with_reducible refine Below.alloc ?_ ?_ _) | (with_reducible refine Below.setCell ?_ ?_ _) | exact Below.size (show Below w1.heap.size w1 _ by assumption) | (simp; done) | (simp; omega)))) b2
    have c2 : Below w.heap.size w w2 := c1.trans (d2.mono c1.size)
    have Va2 : CellV w2 w.heap.size 3 xa sa ra := Va1.below d2
    obtain ⟨-, va20, va21, va22, va23⟩ := id Va2
    have Vb2 : CellV w2 (w.heap.size + 1) 3 xb sb rb := Vb1.below d2
    obtain ⟨-, vb20, vb21, vb22, vb23⟩ := id Vb2
    have T2 : S3 w2 w1.heap.size := S3.below (by first | (with_reducible assumption) | (with_reducible exact S3.new _ _) | (with_reducible refine S3.alloc ?_ _; assumption) | (with_reducible refine S3.drew ?_; assumption) | (with_reducible exact S3.drew (S3.new _ _))) b2
    obtain ⟨-, s20, s21, s22⟩ := id T2
    have lVa20 : ∀ o, (w2.alloc o).cell? ⟨w.heap.size, 0, none⟩ = some (.int .i64 3) := fun o => (op_allocV Va2 o).c0
    have lVa21 : ∀ o, (w2.alloc o).cell? ⟨w.heap.size, 1, none⟩ = some (.float .f64 xa) := fun o => (op_allocV Va2 o).c1
    have lVa22 : ∀ o, (w2.alloc o).cell? ⟨w.heap.size, 2, none⟩ = some (.string sa) := fun o => (op_allocV Va2 o).c2
    have lVa23 : ∀ o, (w2.alloc o).cell? ⟨w.heap.size, 3, none⟩ = some (.int .i64 ra) := fun o => (op_allocV Va2 o).c3
    have lVb20 : ∀ o, (w2.alloc o).cell? ⟨w.heap.size + 1, 0, none⟩ = some (.int .i64 3) := fun o => (op_allocV Vb2 o).c0
    have lVb21 : ∀ o, (w2.alloc o).cell? ⟨w.heap.size + 1, 1, none⟩ = some (.float .f64 xb) := fun o => (op_allocV Vb2 o).c1
    have lVb22 : ∀ o, (w2.alloc o).cell? ⟨w.heap.size + 1, 2, none⟩ = some (.string sb) := fun o => (op_allocV Vb2 o).c2
    have lVb23 : ∀ o, (w2.alloc o).cell? ⟨w.heap.size + 1, 3, none⟩ = some (.int .i64 rb) := fun o => (op_allocV Vb2 o).c3
    have lS20 : ∀ o, (w2.alloc o).cell? ⟨w1.heap.size, 0, none⟩ = some (.string ⟨#[60]⟩) := fun o => (T2.alloc o).c0
    have lS21 : ∀ o, (w2.alloc o).cell? ⟨w1.heap.size, 1, none⟩ = some (.string ⟨#[62]⟩) := fun o => (T2.alloc o).c1
    have lS22 : ∀ o, (w2.alloc o).cell? ⟨w1.heap.size, 2, none⟩ = some (.string ⟨#[61, 61, 61]⟩) := fun o => (T2.alloc o).c2
    clear b2
    go_wp2_with fail
  all_goals
    rw [rounds_succ]
    go_wp2_with fail
    refine (HG.out _ (Hid.mk' (hl1.out.below (by (repeat' (first | (with_reducible exact Below.refl _ _) | (with_reducible assumption) | (with_reducible refine Below.drew ?_) | (with_reducible refine below_drewN ?_ _) | (with_reducible refine Below.alloc ?_ ?_ _) | (with_reducible refine Below.setCell ?_ ?_ _) | exact Below.size (show Below w1.heap.size w1 _ by assumption) | (simp; done) | (simp; omega))))))).mono ?_
    rintro e w3 ⟨rfl, b3⟩
    have d3 : Below w1.heap.size w1 w3 := bl_chain (by (repeat' (first | (with_reducible exact Below.refl _ _) | (with_reducible assumption) | (with_reducible refine Below.drew ?_) | (with_reducible refine below_drewN ?_ _) | (with_reducible refine Below.alloc ?_ ?_ _) | (with_reducible refine Below.setCell ?_ ?_ _) | exact Below.size (show Below w1.heap.size w1 _ by assumption) | (simp; done) | (simp; omega)))) b3
    have c3 : Below w.heap.size w w3 := c1.trans (d3.mono c1.size)
    have Va3 : CellV w3 w.heap.size 3 xa sa ra := Va1.below d3
    obtain ⟨-, va30, va31, va32, va33⟩ := id Va3
    have Vb3 : CellV w3 (w.heap.size + 1) 3 xb sb rb := Vb1.below d3
    obtain ⟨-, vb30, vb31, vb32, vb33⟩ := id Vb3
    have T3 : S3 w3 w1.heap.size := S3.below (by first | (with_reducible assumption) | (with_reducible exact S3.new _ _) | (with_reducible refine S3.alloc ?_ _; assumption) | (with_reducible refine S3.drew ?_; assumption) | (with_reducible exact S3.drew (S3.new _ _))) b3
    obtain ⟨-, s30, s31, s32⟩ := id T3
    have lVa30 : ∀ o, (w3.alloc o).cell? ⟨w.heap.size, 0, none⟩ = some (.int .i64 3) := fun o => (op_allocV Va3 o).c0
    have lVa31 : ∀ o, (w3.alloc o).cell? ⟨w.heap.size, 1, none⟩ = some (.float .f64 xa) := fun o => (op_allocV Va3 o).c1
    have lVa32 : ∀ o, (w3.alloc o).cell? ⟨w.heap.size, 2, none⟩ = some (.string sa) := fun o => (op_allocV Va3 o).c2
    have lVa33 : ∀ o, (w3.alloc o).cell? ⟨w.heap.size, 3, none⟩ = some (.int .i64 ra) := fun o => (op_allocV Va3 o).c3
    have lVb30 : ∀ o, (w3.alloc o).cell? ⟨w.heap.size + 1, 0, none⟩ = some (.int .i64 3) := fun o => (op_allocV Vb3 o).c0
    have lVb31 : ∀ o, (w3.alloc o).cell? ⟨w.heap.size + 1, 1, none⟩ = some (.float .f64 xb) := fun o => (op_allocV Vb3 o).c1
    have lVb32 : ∀ o, (w3.alloc o).cell? ⟨w.heap.size + 1, 2, none⟩ = some (.string sb) := fun o => (op_allocV Vb3 o).c2
    have lVb33 : ∀ o, (w3.alloc o).cell? ⟨w.heap.size + 1, 3, none⟩ = some (.int .i64 rb) := fun o => (op_allocV Vb3 o).c3
    have lS30 : ∀ o, (w3.alloc o).cell? ⟨w1.heap.size, 0, none⟩ = some (.string ⟨#[60]⟩) := fun o => (T3.alloc o).c0
    have lS31 : ∀ o, (w3.alloc o).cell? ⟨w1.heap.size, 1, none⟩ = some (.string ⟨#[62]⟩) := fun o => (T3.alloc o).c1
    have lS32 : ∀ o, (w3.alloc o).cell? ⟨w1.heap.size, 2, none⟩ = some (.string ⟨#[61, 61, 61]⟩) := fun o => (T3.alloc o).c2
    clear b3
    go_wp2_with fail
  all_goals
    rw [rounds_succ]
    go_wp2_with fail
    refine (HE.out _ (Hid.mk' (hl1.out.below (by (repeat' (first | (with_reducible exact Below.refl _ _) | (with_reducible assumption) | (with_reducible refine Below.drew ?_) | (with_reducible refine below_drewN ?_ _) | (with_reducible refine Below.alloc ?_ ?_ _) | (with_reducible refine Below.setCell ?_ ?_ _) | exact Below.size (show Below w1.heap.size w1 _ by assumption) | (simp; done) | (simp; omega))))))).mono ?_
    rintro e w4 ⟨rfl, b4⟩
    have d4 : Below w1.heap.size w1 w4 := bl_chain (by (repeat' (first | (with_reducible exact Below.refl _ _) | (with_reducible assumption) | (with_reducible refine Below.drew ?_) | (with_reducible refine below_drewN ?_ _) | (with_reducible refine Below.alloc ?_ ?_ _) | (with_reducible refine Below.setCell ?_ ?_ _) | exact Below.size (show Below w1.heap.size w1 _ by assumption) | (simp; done) | (simp; omega)))) b4
    have c4 : Below w.heap.size w w4 := c1.trans (d4.mono c1.size)
    have Va4 : CellV w4 w.heap.size 3 xa sa ra := Va1.below d4
    obtain ⟨-, va40, va41, va42, va43⟩ := id Va4
    have Vb4 : CellV w4 (w.heap.size + 1) 3 xb sb rb := Vb1.below d4
    obtain ⟨-, vb40, vb41, vb42, vb43⟩ := id Vb4
    have T4 : S3 w4 w1.heap.size := S3.below (by first | (with_reducible assumption) | (with_reducible exact S3.new _ _) | (with_reducible refine S3.alloc ?_ _; assumption) | (with_reducible refine S3.drew ?_; assumption) | (with_reducible exact S3.drew (S3.new _ _))) b4
    obtain ⟨-, s40, s41, s42⟩ := id T4
    have lVa40 : ∀ o, (w4.alloc o).cell? ⟨w.heap.size, 0, none⟩ = some (.int .i64 3) := fun o => (op_allocV Va4 o).c0
    have lVa41 : ∀ o, (w4.alloc o).cell? ⟨w.heap.size, 1, none⟩ = some (.float .f64 xa) := fun o => (op_allocV Va4 o).c1
    have lVa42 : ∀ o, (w4.alloc o).cell? ⟨w.heap.size, 2, none⟩ = some (.string sa) := fun o => (op_allocV Va4 o).c2
    have lVa43 : ∀ o, (w4.alloc o).cell? ⟨w.heap.size, 3, none⟩ = some (.int .i64 ra) := fun o => (op_allocV Va4 o).c3
    have lVb40 : ∀ o, (w4.alloc o).cell? ⟨w.heap.size + 1, 0, none⟩ = some (.int .i64 3) := fun o => (op_allocV Vb4 o).c0
    have lVb41 : ∀ o, (w4.alloc o).cell? ⟨w.heap.size + 1, 1, none⟩ = some (.float .f64 xb) := fun o => (op_allocV Vb4 o).c1
    have lVb42 : ∀ o, (w4.alloc o).cell? ⟨w.heap.size + 1, 2, none⟩ = some (.string sb) := fun o => (op_allocV Vb4 o).c2
    have lVb43 : ∀ o, (w4.alloc o).cell? ⟨w.heap.size + 1, 3, none⟩ = some (.int .i64 rb) := fun o => (op_allocV Vb4 o).c3
    have lS40 : ∀ o, (w4.alloc o).cell? ⟨w1.heap.size, 0, none⟩ = some (.string ⟨#[60]⟩) := fun o => (T4.alloc o).c0
    have lS41 : ∀ o, (w4.alloc o).cell? ⟨w1.heap.size, 1, none⟩ = some (.string ⟨#[62]⟩) := fun o => (T4.alloc o).c1
    have lS42 : ∀ o, (w4.alloc o).cell? ⟨w1.heap.size, 2, none⟩ = some (.string ⟨#[61, 61, 61]⟩) := fun o => (T4.alloc o).c2
    clear b4
    go_wp2_with fail
  all_goals rw [rounds_succ]
  all_goals go_wp2
  all_goals go_ret
  all_goals exact ⟨rfl, by (repeat' (first | (with_reducible exact Below.refl _ _) | (with_reducible assumption) | (with_reducible refine Below.drew ?_) | (with_reducible refine below_drewN ?_ _) | (with_reducible refine Below.alloc ?_ ?_ _) | (with_reducible refine Below.setCell ?_ ?_ _) | exact Below.size (show Below w.heap.size w _ by assumption) | (simp; done) | (simp; omega)))⟩
set_option maxHeartbeats 4000000 in
set_option maxRecDepth 100000 in
theorem ord_main4 (xa : Nat) (sa : ByteArray) (ra : Int) (xb : Nat) (sb : ByteArray) (rb : Int) (w : World) (hl : Hid (Laid w)) (hsm : (sa.size : Int) + (sb.size : Int) ≤ 3000) (hxa : xa < 18446744073709551616) (hxb : xb < 18446744073709551616) (za : (sa.size : Int) ≤ 140737488351232) (zb : (sb.size : Int) ≤ 140737488351232) (hna : ¬ nan xa) (hnb : ¬ nan xb) (L G E : Bool) (hone : (L = true ∧ G = false ∧ E = false) ∨ (L = false ∧ G = true ∧ E = false) ∨ (L = false ∧ G = false ∧ E = true)) (HL : Hid (∀ W, Hid (Laid W) → Calls Tryz.prog 7 #[.string ⟨#[60]⟩, .agg #[.int .i64 4, .float .f64 xa, .string sa, .int .i64 ra], .agg #[.int .i64 4, .float .f64 xb, .string sb, .int .i64 rb]] W fun e w' => e = .returned (.tuple #[.agg #[.int .i64 2, .float .f64 (truthN L), .string ⟨#[]⟩, .int .i64 0], .int .i64 0]) ∧ Below W.heap.size W w')) (HG : Hid (∀ W, Hid (Laid W) → Calls Tryz.prog 7 #[.string ⟨#[62]⟩, .agg #[.int .i64 4, .float .f64 xa, .string sa, .int .i64 ra], .agg #[.int .i64 4, .float .f64 xb, .string sb, .int .i64 rb]] W fun e w' => e = .returned (.tuple #[.agg #[.int .i64 2, .float .f64 (truthN G), .string ⟨#[]⟩, .int .i64 0], .int .i64 0]) ∧ Below W.heap.size W w')) (HE : Hid (∀ W, Hid (Laid W) → Calls Tryz.prog 7 #[.string ⟨#[61, 61, 61]⟩, .agg #[.int .i64 4, .float .f64 xa, .string sa, .int .i64 ra], .agg #[.int .i64 4, .float .f64 xb, .string sb, .int .i64 rb]] W fun e w' => e = .returned (.tuple #[.agg #[.int .i64 2, .float .f64 (truthN E), .string ⟨#[]⟩, .int .i64 0], .int .i64 0]) ∧ Below W.heap.size W w')) : Calls Tryz.prog 5 #[.agg #[.int .i64 4, .float .f64 xa, .string sa, .int .i64 ra], .agg #[.int .i64 4, .float .f64 xb, .string sb, .int .i64 rb]] w fun e w' => e = .returned (.bool true) ∧ Below w.heap.size w w' := by
  have qa := eqf xa xa hxa hxa
  have qb := eqf xb xb hxb hxb
  rw [decide_eq_true (⟨hna, hna, rfl⟩ : ¬ nan xa ∧ ¬ nan xa ∧ key xa = key xa)] at qa
  rw [decide_eq_true (⟨hnb, hnb, rfl⟩ : ¬ nan xb ∧ ¬ nan xb ∧ key xb = key xb)] at qb
  have qa2 : (FloatKind.f64.format.order xa xa != some Ordering.eq) = false := by unfold bne; rw [qa]; rfl
  have qb2 : (FloatKind.f64.format.order xb xb != some Ordering.eq) = false := by unfold bne; rw [qb]; rfl
  have HAL := Hid.mk' (fun W => alike_any 4607182418800017408 4611686018427387904 W (by decide) (by decide))
  rw [show alike 4607182418800017408 4611686018427387904 = false by decide +kernel] at HAL
  have o1 : (FloatKind.f64.format.order 4607182418800017408 4607182418800017408 == some Ordering.eq) = true := by decide +kernel
  have o0 : (FloatKind.f64.format.order 0 4607182418800017408 == some Ordering.eq) = false := by decide +kernel
  clear hxa hxb za zb hna hnb
  have hnl : decide ((3000 : Int) < (sa.size : Int) + (sb.size : Int)) = false := decide_eq_false (by omega)
  have HW := Hid.mk' (fun W (hW : Hid (Laid W)) => awake19 W hW)
  go_enter Tryz.func5, Tryz.ntmps5
  go_wp2_with fail
  refine (HW.out _ (Hid.mk' (hl.out.below (by (repeat' (first | (with_reducible exact Below.refl _ _) | (with_reducible assumption) | (with_reducible refine Below.drew ?_) | (with_reducible refine below_drewN ?_ _) | (with_reducible refine Below.alloc ?_ ?_ _) | (with_reducible refine Below.setCell ?_ ?_ _) | exact Below.size (show Below w.heap.size w _ by assumption) | (simp; done) | (simp; omega))))))).mono ?_
  rintro e w1 ⟨rfl, b1⟩
  have c1 : Below w.heap.size w w1 := bl_chain (by (repeat' (first | (with_reducible exact Below.refl _ _) | (with_reducible assumption) | (with_reducible refine Below.drew ?_) | (with_reducible refine below_drewN ?_ _) | (with_reducible refine Below.alloc ?_ ?_ _) | (with_reducible refine Below.setCell ?_ ?_ _) | exact Below.size (show Below w.heap.size w _ by assumption) | (simp; done) | (simp; omega)))) b1
  have hl1 : Hid (Laid w1) := Hid.mk' (hl.out.below c1)
  have Va1 : CellV w1 w.heap.size 4 xa sa ra := CellV.below (by first | (with_reducible assumption) | (with_reducible exact op_newV _ _ _ _ _) | (with_reducible refine op_allocV ?_ _; assumption) | (with_reducible exact op_allocV (op_newV _ _ _ _ _) _) | (with_reducible refine CellV.drew ?_; assumption) | (with_reducible exact cells2b)) b1
  obtain ⟨-, va10, va11, va12, va13⟩ := id Va1
  have Vb1 : CellV w1 (w.heap.size + 1) 4 xb sb rb := CellV.below (by first | (with_reducible assumption) | (with_reducible exact op_newV _ _ _ _ _) | (with_reducible refine op_allocV ?_ _; assumption) | (with_reducible exact op_allocV (op_newV _ _ _ _ _) _) | (with_reducible refine CellV.drew ?_; assumption) | (with_reducible exact cells2b)) b1
  obtain ⟨-, vb10, vb11, vb12, vb13⟩ := id Vb1
  clear b1
  have lVa10 : ∀ o, (w1.alloc o).cell? ⟨w.heap.size, 0, none⟩ = some (.int .i64 4) := fun o => (op_allocV Va1 o).c0
  have lVa11 : ∀ o, (w1.alloc o).cell? ⟨w.heap.size, 1, none⟩ = some (.float .f64 xa) := fun o => (op_allocV Va1 o).c1
  have lVa12 : ∀ o, (w1.alloc o).cell? ⟨w.heap.size, 2, none⟩ = some (.string sa) := fun o => (op_allocV Va1 o).c2
  have lVa13 : ∀ o, (w1.alloc o).cell? ⟨w.heap.size, 3, none⟩ = some (.int .i64 ra) := fun o => (op_allocV Va1 o).c3
  have lVb10 : ∀ o, (w1.alloc o).cell? ⟨w.heap.size + 1, 0, none⟩ = some (.int .i64 4) := fun o => (op_allocV Vb1 o).c0
  have lVb11 : ∀ o, (w1.alloc o).cell? ⟨w.heap.size + 1, 1, none⟩ = some (.float .f64 xb) := fun o => (op_allocV Vb1 o).c1
  have lVb12 : ∀ o, (w1.alloc o).cell? ⟨w.heap.size + 1, 2, none⟩ = some (.string sb) := fun o => (op_allocV Vb1 o).c2
  have lVb13 : ∀ o, (w1.alloc o).cell? ⟨w.heap.size + 1, 3, none⟩ = some (.int .i64 rb) := fun o => (op_allocV Vb1 o).c3
  go_wp2_with (go_at_call 12; refine (HAL.out _).mono ?_; rintro e w9 ⟨rfl, hw9⟩; rw [hw9]; clear hw9 w9)
  refine wp_loop_rounds 4 ?_
  rcases hone with ⟨rfl, rfl, rfl⟩ | ⟨rfl, rfl, rfl⟩ | ⟨rfl, rfl, rfl⟩
  all_goals simp only [truthN, if_true, if_false, Bool.false_eq_true] at HL HG HE
  all_goals
    rw [rounds_succ]
    go_wp2_with fail
    refine (HL.out _ (Hid.mk' (hl1.out.below (by (repeat' (first | (with_reducible exact Below.refl _ _) | (with_reducible assumption) | (with_reducible refine Below.drew ?_) | (with_reducible refine below_drewN ?_ _) | (with_reducible refine Below.alloc ?_ ?_ _) | (with_reducible refine Below.setCell ?_ ?_ _) | exact Below.size (show Below w1.heap.size w1 _ by assumption) | (simp; done) | (simp; omega))))))).mono ?_
    rintro e w2 ⟨rfl, b2⟩
    have d2 : Below w1.heap.size w1 w2 := bl_chain (by (repeat' (first | (with_reducible exact Below.refl _ _) | (with_reducible assumption) | (with_reducible refine Below.drew ?_) | (with_reducible refine below_drewN ?_ _) | (with_reducible refine Below.alloc ?_ ?_ _) | (with_reducible refine Below.setCell ?_ ?_ _) | exact Below.size (show Below w1.heap.size w1 _ by assumption) | (simp; done) | (simp; omega)))) b2
    have c2 : Below w.heap.size w w2 := c1.trans (d2.mono c1.size)
    have Va2 : CellV w2 w.heap.size 4 xa sa ra := Va1.below d2
    obtain ⟨-, va20, va21, va22, va23⟩ := id Va2
    have Vb2 : CellV w2 (w.heap.size + 1) 4 xb sb rb := Vb1.below d2
    obtain ⟨-, vb20, vb21, vb22, vb23⟩ := id Vb2
    have T2 : S3 w2 w1.heap.size := S3.below (by first | (with_reducible assumption) | (with_reducible exact S3.new _ _) | (with_reducible refine S3.alloc ?_ _; assumption) | (with_reducible refine S3.drew ?_; assumption) | (with_reducible exact S3.drew (S3.new _ _))) b2
    obtain ⟨-, s20, s21, s22⟩ := id T2
    have lVa20 : ∀ o, (w2.alloc o).cell? ⟨w.heap.size, 0, none⟩ = some (.int .i64 4) := fun o => (op_allocV Va2 o).c0
    have lVa21 : ∀ o, (w2.alloc o).cell? ⟨w.heap.size, 1, none⟩ = some (.float .f64 xa) := fun o => (op_allocV Va2 o).c1
    have lVa22 : ∀ o, (w2.alloc o).cell? ⟨w.heap.size, 2, none⟩ = some (.string sa) := fun o => (op_allocV Va2 o).c2
    have lVa23 : ∀ o, (w2.alloc o).cell? ⟨w.heap.size, 3, none⟩ = some (.int .i64 ra) := fun o => (op_allocV Va2 o).c3
    have lVb20 : ∀ o, (w2.alloc o).cell? ⟨w.heap.size + 1, 0, none⟩ = some (.int .i64 4) := fun o => (op_allocV Vb2 o).c0
    have lVb21 : ∀ o, (w2.alloc o).cell? ⟨w.heap.size + 1, 1, none⟩ = some (.float .f64 xb) := fun o => (op_allocV Vb2 o).c1
    have lVb22 : ∀ o, (w2.alloc o).cell? ⟨w.heap.size + 1, 2, none⟩ = some (.string sb) := fun o => (op_allocV Vb2 o).c2
    have lVb23 : ∀ o, (w2.alloc o).cell? ⟨w.heap.size + 1, 3, none⟩ = some (.int .i64 rb) := fun o => (op_allocV Vb2 o).c3
    have lS20 : ∀ o, (w2.alloc o).cell? ⟨w1.heap.size, 0, none⟩ = some (.string ⟨#[60]⟩) := fun o => (T2.alloc o).c0
    have lS21 : ∀ o, (w2.alloc o).cell? ⟨w1.heap.size, 1, none⟩ = some (.string ⟨#[62]⟩) := fun o => (T2.alloc o).c1
    have lS22 : ∀ o, (w2.alloc o).cell? ⟨w1.heap.size, 2, none⟩ = some (.string ⟨#[61, 61, 61]⟩) := fun o => (T2.alloc o).c2
    clear b2
    go_wp2_with fail
  all_goals
    rw [rounds_succ]
    go_wp2_with fail
    refine (HG.out _ (Hid.mk' (hl1.out.below (by (repeat' (first | (with_reducible exact Below.refl _ _) | (with_reducible assumption) | (with_reducible refine Below.drew ?_) | (with_reducible refine below_drewN ?_ _) | (with_reducible refine Below.alloc ?_ ?_ _) | (with_reducible refine Below.setCell ?_ ?_ _) | exact Below.size (show Below w1.heap.size w1 _ by assumption) | (simp; done) | (simp; omega))))))).mono ?_
    rintro e w3 ⟨rfl, b3⟩
    have d3 : Below w1.heap.size w1 w3 := bl_chain (by (repeat' (first | (with_reducible exact Below.refl _ _) | (with_reducible assumption) | (with_reducible refine Below.drew ?_) | (with_reducible refine below_drewN ?_ _) | (with_reducible refine Below.alloc ?_ ?_ _) | (with_reducible refine Below.setCell ?_ ?_ _) | exact Below.size (show Below w1.heap.size w1 _ by assumption) | (simp; done) | (simp; omega)))) b3
    have c3 : Below w.heap.size w w3 := c1.trans (d3.mono c1.size)
    have Va3 : CellV w3 w.heap.size 4 xa sa ra := Va1.below d3
    obtain ⟨-, va30, va31, va32, va33⟩ := id Va3
    have Vb3 : CellV w3 (w.heap.size + 1) 4 xb sb rb := Vb1.below d3
    obtain ⟨-, vb30, vb31, vb32, vb33⟩ := id Vb3
    have T3 : S3 w3 w1.heap.size := S3.below (by first | (with_reducible assumption) | (with_reducible exact S3.new _ _) | (with_reducible refine S3.alloc ?_ _; assumption) | (with_reducible refine S3.drew ?_; assumption) | (with_reducible exact S3.drew (S3.new _ _))) b3
    obtain ⟨-, s30, s31, s32⟩ := id T3
    have lVa30 : ∀ o, (w3.alloc o).cell? ⟨w.heap.size, 0, none⟩ = some (.int .i64 4) := fun o => (op_allocV Va3 o).c0
    have lVa31 : ∀ o, (w3.alloc o).cell? ⟨w.heap.size, 1, none⟩ = some (.float .f64 xa) := fun o => (op_allocV Va3 o).c1
    have lVa32 : ∀ o, (w3.alloc o).cell? ⟨w.heap.size, 2, none⟩ = some (.string sa) := fun o => (op_allocV Va3 o).c2
    have lVa33 : ∀ o, (w3.alloc o).cell? ⟨w.heap.size, 3, none⟩ = some (.int .i64 ra) := fun o => (op_allocV Va3 o).c3
    have lVb30 : ∀ o, (w3.alloc o).cell? ⟨w.heap.size + 1, 0, none⟩ = some (.int .i64 4) := fun o => (op_allocV Vb3 o).c0
    have lVb31 : ∀ o, (w3.alloc o).cell? ⟨w.heap.size + 1, 1, none⟩ = some (.float .f64 xb) := fun o => (op_allocV Vb3 o).c1
    have lVb32 : ∀ o, (w3.alloc o).cell? ⟨w.heap.size + 1, 2, none⟩ = some (.string sb) := fun o => (op_allocV Vb3 o).c2
    have lVb33 : ∀ o, (w3.alloc o).cell? ⟨w.heap.size + 1, 3, none⟩ = some (.int .i64 rb) := fun o => (op_allocV Vb3 o).c3
    have lS30 : ∀ o, (w3.alloc o).cell? ⟨w1.heap.size, 0, none⟩ = some (.string ⟨#[60]⟩) := fun o => (T3.alloc o).c0
    have lS31 : ∀ o, (w3.alloc o).cell? ⟨w1.heap.size, 1, none⟩ = some (.string ⟨#[62]⟩) := fun o => (T3.alloc o).c1
    have lS32 : ∀ o, (w3.alloc o).cell? ⟨w1.heap.size, 2, none⟩ = some (.string ⟨#[61, 61, 61]⟩) := fun o => (T3.alloc o).c2
    clear b3
    go_wp2_with fail
  all_goals
    rw [rounds_succ]
    go_wp2_with fail
    refine (HE.out _ (Hid.mk' (hl1.out.below (by (repeat' (first | (with_reducible exact Below.refl _ _) | (with_reducible assumption) | (with_reducible refine Below.drew ?_) | (with_reducible refine below_drewN ?_ _) | (with_reducible refine Below.alloc ?_ ?_ _) | (with_reducible refine Below.setCell ?_ ?_ _) | exact Below.size (show Below w1.heap.size w1 _ by assumption) | (simp; done) | (simp; omega))))))).mono ?_
    rintro e w4 ⟨rfl, b4⟩
    have d4 : Below w1.heap.size w1 w4 := bl_chain (by (repeat' (first | (with_reducible exact Below.refl _ _) | (with_reducible assumption) | (with_reducible refine Below.drew ?_) | (with_reducible refine below_drewN ?_ _) | (with_reducible refine Below.alloc ?_ ?_ _) | (with_reducible refine Below.setCell ?_ ?_ _) | exact Below.size (show Below w1.heap.size w1 _ by assumption) | (simp; done) | (simp; omega)))) b4
    have c4 : Below w.heap.size w w4 := c1.trans (d4.mono c1.size)
    have Va4 : CellV w4 w.heap.size 4 xa sa ra := Va1.below d4
    obtain ⟨-, va40, va41, va42, va43⟩ := id Va4
    have Vb4 : CellV w4 (w.heap.size + 1) 4 xb sb rb := Vb1.below d4
    obtain ⟨-, vb40, vb41, vb42, vb43⟩ := id Vb4
    have T4 : S3 w4 w1.heap.size := S3.below (by first | (with_reducible assumption) | (with_reducible exact S3.new _ _) | (with_reducible refine S3.alloc ?_ _; assumption) | (with_reducible refine S3.drew ?_; assumption) | (with_reducible exact S3.drew (S3.new _ _))) b4
    obtain ⟨-, s40, s41, s42⟩ := id T4
    have lVa40 : ∀ o, (w4.alloc o).cell? ⟨w.heap.size, 0, none⟩ = some (.int .i64 4) := fun o => (op_allocV Va4 o).c0
    have lVa41 : ∀ o, (w4.alloc o).cell? ⟨w.heap.size, 1, none⟩ = some (.float .f64 xa) := fun o => (op_allocV Va4 o).c1
    have lVa42 : ∀ o, (w4.alloc o).cell? ⟨w.heap.size, 2, none⟩ = some (.string sa) := fun o => (op_allocV Va4 o).c2
    have lVa43 : ∀ o, (w4.alloc o).cell? ⟨w.heap.size, 3, none⟩ = some (.int .i64 ra) := fun o => (op_allocV Va4 o).c3
    have lVb40 : ∀ o, (w4.alloc o).cell? ⟨w.heap.size + 1, 0, none⟩ = some (.int .i64 4) := fun o => (op_allocV Vb4 o).c0
    have lVb41 : ∀ o, (w4.alloc o).cell? ⟨w.heap.size + 1, 1, none⟩ = some (.float .f64 xb) := fun o => (op_allocV Vb4 o).c1
    have lVb42 : ∀ o, (w4.alloc o).cell? ⟨w.heap.size + 1, 2, none⟩ = some (.string sb) := fun o => (op_allocV Vb4 o).c2
    have lVb43 : ∀ o, (w4.alloc o).cell? ⟨w.heap.size + 1, 3, none⟩ = some (.int .i64 rb) := fun o => (op_allocV Vb4 o).c3
    have lS40 : ∀ o, (w4.alloc o).cell? ⟨w1.heap.size, 0, none⟩ = some (.string ⟨#[60]⟩) := fun o => (T4.alloc o).c0
    have lS41 : ∀ o, (w4.alloc o).cell? ⟨w1.heap.size, 1, none⟩ = some (.string ⟨#[62]⟩) := fun o => (T4.alloc o).c1
    have lS42 : ∀ o, (w4.alloc o).cell? ⟨w1.heap.size, 2, none⟩ = some (.string ⟨#[61, 61, 61]⟩) := fun o => (T4.alloc o).c2
    clear b4
    go_wp2_with fail
  all_goals rw [rounds_succ]
  all_goals go_wp2
  all_goals go_ret
  all_goals exact ⟨rfl, by (repeat' (first | (with_reducible exact Below.refl _ _) | (with_reducible assumption) | (with_reducible refine Below.drew ?_) | (with_reducible refine below_drewN ?_ _) | (with_reducible refine Below.alloc ?_ ?_ _) | (with_reducible refine Below.setCell ?_ ?_ _) | exact Below.size (show Below w.heap.size w _ by assumption) | (simp; done) | (simp; omega)))⟩
theorem op_cmp_cases (a b : ByteArray) : (cmpK a b 0 < 0 ∧ ¬ cmpK b a 0 < 0 ∧ cmpK a b 0 ≠ 0) ∨ (¬ cmpK a b 0 < 0 ∧ cmpK b a 0 < 0 ∧ cmpK a b 0 ≠ 0) ∨ (¬ cmpK a b 0 < 0 ∧ ¬ cmpK b a 0 < 0 ∧ cmpK a b 0 = 0) := by
  have h : cmpK a b 0 = -1 ∨ cmpK a b 0 = 0 ∨ cmpK a b 0 = 1 := by unfold cmpK; exact cb_range _ _
  rw [cmp_swap a b]
  rcases h with h | h | h <;> rw [h]
  · exact .inl ⟨by decide, by simp [wrap64], by decide⟩
  · exact .inr (.inr ⟨by decide, by simp [wrap64], rfl⟩)
  · exact .inr (.inl ⟨by decide, by simp [wrap64], by decide⟩)
theorem ord_walk (ka : Int) (xa : Nat) (sa : ByteArray) (ra : Int) (kb : Int) (xb : Nat) (sb : ByteArray) (rb : Int) (w : World) (hl : Hid (Laid w)) (hxa : xa < 18446744073709551616) (hxb : xb < 18446744073709551616) (za : (sa.size : Int) ≤ 140737488351232) (zb : (sb.size : Int) ≤ 140737488351232) : Calls Tryz.prog 5 #[.agg #[.int .i64 ka, .float .f64 xa, .string sa, .int .i64 ra], .agg #[.int .i64 kb, .float .f64 xb, .string sb, .int .i64 rb]] w fun e w' => e = .returned (.bool true) ∧ Below w.heap.size w w' := by
  by_cases hbig : (3000 : Int) < (sa.size : Int) + (sb.size : Int)
  · exact ord_big ka xa sa ra kb xb sb rb w hl za zb hbig
  have hsm : (sa.size : Int) + (sb.size : Int) ≤ 3000 := by omega
  by_cases hk : ka = kb
  · by_cases h3 : ka = 3
    · subst h3
      subst hk
      by_cases hn : nan xa ∨ nan xb
      · exact ord_nan3 xa sa ra xb sb rb w hl hsm hxa hxb za zb hn
      · have hna : ¬ nan xa := fun h => hn (.inl h)
        have hnb : ¬ nan xb := fun h => hn (.inr h)
        refine ord_main3 xa sa ra xb sb rb w hl hsm hxa hxb za zb hna hnb (FloatKind.f64.format.order xa xb == some Ordering.lt) (FloatKind.f64.format.order xb xa == some Ordering.lt) (sameV 3 xa sa ra 3 xb sb rb 0) ?_
          (Hid.mk' (fun W (hW : Hid (Laid W)) => bin_cmp ⟨#[60]⟩ 36 (enters_of Tryz.func36 (by kernel_rfl) rfl) 3 xa sa ra 3 xb sb rb _ (by decide) (by decide) (Hid.mk' (fun X hX => below_h 3 xa sa ra 3 xb sb rb _ _ (Hid.mk' (less_n 3 xa sa ra 3 xb sb rb xa xb (by decide) (by decide) (by decide) hxa hxb (Hid.mk' (number_n xa sa ra)) (Hid.mk' (number_n xb sb rb)))) X hX)) (by decide) W hW))
          (Hid.mk' (fun W (hW : Hid (Laid W)) => bin_cmp ⟨#[62]⟩ 37 (enters_of Tryz.func37 (by kernel_rfl) rfl) 3 xa sa ra 3 xb sb rb _ (by decide) (by decide) (Hid.mk' (fun X hX => above_h 3 xa sa ra 3 xb sb rb _ _ (Hid.mk' (less_n 3 xb sb rb 3 xa sa ra xb xa (by decide) (by decide) (by decide) hxb hxa (Hid.mk' (number_n xb sb rb)) (Hid.mk' (number_n xa sa ra)))) X hX)) (by decide) W hW))
          (Hid.mk' (fun W (hW : Hid (Laid W)) => bin_cmp ⟨#[61, 61, 61]⟩ 32 (enters_of Tryz.func32 (by kernel_rfl) rfl) 3 xa sa ra 3 xb sb rb _ (by decide) (by decide) (Hid.mk' (fun X hX => same_h 3 xa sa ra 3 xb sb rb hxa hxb za zb X hX)) (by decide) W hW))
        have e1 : FloatKind.f64.format.order xa xb = some (compare (key xa) (key xb)) := order_key xa xb hxa hxb hna hnb
        have e2 : FloatKind.f64.format.order xb xa = some (compare (key xb) (key xa)) := order_key xb xa hxb hxa hnb hna
        have e3 : sameV 3 xa sa ra 3 xb sb rb 0 = decide (key xa = key xb) := by
          show sameB xa xb 0 = _
          unfold sameB
          simp [hna, hnb]
        rw [e1, e2, e3]
        rcases Int.lt_trichotomy (key xa) (key xb) with c | c | c
        · rw [Int.compare_eq_lt.2 c, Int.compare_eq_gt.2 c, decide_eq_false (by omega)]; exact .inl ⟨rfl, rfl, rfl⟩
        · rw [c]
          have ec : compare (key xb) (key xb) = .eq := by simp
          rw [ec, decide_eq_true rfl]; exact .inr (.inr ⟨rfl, rfl, rfl⟩)
        · rw [Int.compare_eq_gt.2 c, Int.compare_eq_lt.2 c, decide_eq_false (by omega)]; exact .inr (.inl ⟨rfl, rfl, rfl⟩)
    · by_cases h4 : ka = 4
      · subst h4
        subst hk
        by_cases hn : nan xa ∨ nan xb
        · exact ord_nan4 xa sa ra xb sb rb w hl hsm hxa hxb za zb hn
        · have hna : ¬ nan xa := fun h => hn (.inl h)
          have hnb : ¬ nan xb := fun h => hn (.inr h)
          refine ord_main4 xa sa ra xb sb rb w hl hsm hxa hxb za zb hna hnb (decide (cmpK sa sb 0 < 0)) (decide (cmpK sb sa 0 < 0)) (sameV 4 xa sa ra 4 xb sb rb 0) ?_
            (Hid.mk' (fun W (hW : Hid (Laid W)) => bin_cmp ⟨#[60]⟩ 36 (enters_of Tryz.func36 (by kernel_rfl) rfl) 4 xa sa ra 4 xb sb rb _ (by decide) (by decide) (Hid.mk' (fun X hX => below_h 4 xa sa ra 4 xb sb rb _ _ (Hid.mk' (less_t xa sa ra xb sb rb za zb)) X hX)) (by decide) W hW))
            (Hid.mk' (fun W (hW : Hid (Laid W)) => bin_cmp ⟨#[62]⟩ 37 (enters_of Tryz.func37 (by kernel_rfl) rfl) 4 xa sa ra 4 xb sb rb _ (by decide) (by decide) (Hid.mk' (fun X hX => above_h 4 xa sa ra 4 xb sb rb _ _ (Hid.mk' (less_t xb sb rb xa sa ra zb za)) X hX)) (by decide) W hW))
            (Hid.mk' (fun W (hW : Hid (Laid W)) => bin_cmp ⟨#[61, 61, 61]⟩ 32 (enters_of Tryz.func32 (by kernel_rfl) rfl) 4 xa sa ra 4 xb sb rb _ (by decide) (by decide) (Hid.mk' (fun X hX => same_h 4 xa sa ra 4 xb sb rb hxa hxb za zb X hX)) (by decide) W hW))
          have e3 : sameV 4 xa sa ra 4 xb sb rb 0 = (cmpK sa sb 0 == 0) := rfl
          rw [e3]
          rcases op_cmp_cases sa sb with ⟨c1, c2, c3⟩ | ⟨c1, c2, c3⟩ | ⟨c1, c2, c3⟩
          · exact .inl ⟨decide_eq_true c1, decide_eq_false c2, by simpa using c3⟩
          · exact .inr (.inl ⟨decide_eq_false c1, decide_eq_true c2, by simpa using c3⟩)
          · exact .inr (.inr ⟨decide_eq_false c1, decide_eq_false c2, by simpa using c3⟩)
      · exact ord_other ka xa sa ra kb xb sb rb w hl hsm hk h3 h4
  · exact ord_kinds ka xa sa ra kb xb sb rb w hl hsm hk
theorem ord_law (ka : Int) (xa : Nat) (sa : ByteArray) (ra : Int) (kb : Int) (xb : Nat) (sb : ByteArray) (rb : Int) (w : World) (hxa : xa < 18446744073709551616) (za : (sa.size : Int) ≤ 140737488351232) (hxb : xb < 18446744073709551616) (zb : (sb.size : Int) ≤ 140737488351232) (hl : Hid (Laid w)) : Calls Tryz.prog 5 #[.agg #[.int .i64 ka, .float .f64 xa, .string sa, .int .i64 ra], .agg #[.int .i64 kb, .float .f64 xb, .string sb, .int .i64 rb]] w fun e w' => e = .returned (.bool true) ∧ Below w.heap.size w w' :=
  ord_walk ka xa sa ra kb xb sb rb w hl hxa hxb za zb
end Go.Proofs.YtbkkkpfoaggejaaGreatDoor
