/- math.Frexp, math.Ldexp of positive finite numbers. -/
import Derived.Test.YtcdifnnbbppbgaaGreatDoorMf
namespace Go.Proofs.YtcdifnnbbppbgaaGreatDoor
set_option linter.unusedVariables false
open Go.RowKit Fl

theorem lt_eq (g h : Nat) (h1 : g < 9223372036854775808) (h2 : h < 9223372036854775808) (n1 : g ≤ 9218868437227405312) (n2 : h ≤ 9218868437227405312) : (FloatKind.f64.format.order g h == some Ordering.lt) = decide (g < h) := by
  rw [f64, order_key _ _ (by omega) (by omega) (by unfold nan; omega) (by unfold nan; omega)]
  have k1 : key g = (g : Int) := by unfold key; rw [if_neg (by omega)]; omega
  have k2 : key h = (h : Int) := by unfold key; rw [if_neg (by omega)]; omega
  rw [k1, k2]
  by_cases e : g < h
  · rw [decide_eq_true e, Int.compare_eq_lt.2 (by omega)]; rfl
  · have : compare (g : Int) (h : Int) ≠ .lt := fun q => e (by have := Int.compare_eq_lt.1 q; omega)
    rw [decide_eq_false e]
    generalize compare (g : Int) (h : Int) = o at this ⊢
    cases o <;> simp at this ⊢
theorem lt_c (g h : Nat) (h1 : g < 9223372036854775808) (n2 : h ≤ 9218868437227405312) : (FloatKind.f64.format.order g h == some Ordering.lt) = decide (g < h) := by
  by_cases n : g ≤ 9218868437227405312
  · exact lt_eq g h h1 (by omega) n n2
  · rw [f64, order_nan g h (by omega) (by omega) (.inl (by unfold nan; omega)), decide_eq_false (by omega)]; rfl
theorem eq_eq (g h : Nat) (h1 : g < 9223372036854775808) (h2 : h < 9223372036854775808) (n1 : g ≤ 9218868437227405312) (n2 : h ≤ 9218868437227405312) : (FloatKind.f64.format.order g h == some Ordering.eq) = decide (g = h) := by
  rw [f64, order_key _ _ (by omega) (by omega) (by unfold nan; omega) (by unfold nan; omega)]
  have k1 : key g = (g : Int) := by unfold key; rw [if_neg (by omega)]; omega
  have k2 : key h = (h : Int) := by unfold key; rw [if_neg (by omega)]; omega
  rw [k1, k2]
  by_cases e : g = h
  · rw [decide_eq_true e, Int.compare_eq_eq.2 (by omega)]; rfl
  · have : compare (g : Int) (h : Int) ≠ .eq := fun q => e (by have := Int.compare_eq_eq.1 q; omega)
    rw [decide_eq_false e]
    generalize compare (g : Int) (h : Int) = o at this ⊢
    cases o <;> simp at this ⊢

theorem run_mul (t : TypeId) (g h k : Nat) (W : World) (e : Ieee.double.mul g h = some k) : (binOp .mul t (.float .f64 g) (.float .f64 h)).run Tryz.prog W = .ok (.float .f64 k) W := run_float_arith W .mul t .f64 g h k e
theorem run_sub (t : TypeId) (g h k : Nat) (W : World) (e : Ieee.double.sub g h = some k) : (binOp .sub t (.float .f64 g) (.float .f64 h)).run Tryz.prog W = .ok (.float .f64 k) W := run_float_arith W .sub t .f64 g h k e
theorem run_add (t : TypeId) (g h k : Nat) (W : World) (e : Ieee.double.add g h = some k) : (binOp .add t (.float .f64 g) (.float .f64 h)).run Tryz.prog W = .ok (.float .f64 k) W := run_float_arith W .add t .f64 g h k e

theorem mul_pos (g h k : Nat) (hg : g < 9218868437227405312) (hh : h < 9218868437227405312) (hk : k < 9218868437227405312) (e : val g * val h = val k * 2 ^ 1074) : Ieee.double.mul g h = some k := mul_exact false false g h k hg hh hk e

theorem wrap64_id (z : Int) (h1 : -9223372036854775808 ≤ z) (h2 : z < 9223372036854775808) : wrap64 z = z := by unfold wrap64; omega
theorem u64_expo (k : Nat) (h : k < 9218868437227405312) : bits .and .u64 ((k : Int) / 4503599627370496) 2047 = ((k / 4503599627370496 : Nat) : Int) := by
  have e := u64_and_nat (k / 4503599627370496) 2047 (by omega) (by omega)
  have e2 : k / 4503599627370496 &&& 2047 = k / 4503599627370496 := by
    have := Nat.and_two_pow_sub_one_eq_mod (k / 4503599627370496) 11
    rw [show 2 ^ 11 - 1 = 2047 from rfl] at this
    rw [this]
    omega
  rw [e2] at e
  rw [← e]; rfl
theorem i64_expo (k : Nat) (h : k < 9218868437227405312) : bits .and .i64 ((k : Int) / 4503599627370496) 2047 = ((k / 4503599627370496 : Nat) : Int) := by
  have e2 : k / 4503599627370496 &&& 2047 = k / 4503599627370496 := by
    have := Nat.and_two_pow_sub_one_eq_mod (k / 4503599627370496) 11
    rw [show 2 ^ 11 - 1 = 2047 from rfl] at this
    rw [this]
    omega
  have e3 : ((k : Int) / 4503599627370496) = ((k / 4503599627370496 : Nat) : Int) := by omega
  rw [e3]
  show IntKind.i64.wrap ((BitVec.ofInt 64 ((k / 4503599627370496 : Nat) : Int) &&& BitVec.ofInt 64 ((2047 : Nat) : Int)).toNat : Int) = _
  rw [BitVec.toNat_and, ofInt_u64 _ (by omega), ofInt_u64 _ (by omega), IntKind.wrap_i64, e2]
  omega
theorem and_frac (k : Nat) (h : k < 9218868437227405312) : k &&& 9227875636482146303 = k % 4503599627370496 := by
  have e : (9227875636482146303 : Nat) = 9223372036854775808 ||| 4503599627370495 := by decide
  have e1 : k &&& 9223372036854775808 = 0 := by
    apply Nat.eq_of_testBit_eq
    intro i
    rw [Nat.testBit_and, Nat.zero_testBit]
    have : (9223372036854775808 : Nat) = 2 ^ 63 := rfl
    rw [this, Nat.testBit_two_pow]
    by_cases hi : 63 = i
    · subst hi
      rw [Nat.testBit_lt_two_pow (show k < 2 ^ 63 by omega)]; rfl
    · rw [decide_eq_false hi, Bool.and_false]
  have e2 := Nat.and_two_pow_sub_one_eq_mod k 52
  rw [e, Nat.and_or_distrib_left, e1, Nat.zero_or]
  exact e2
theorem u64_frac (k : Nat) (h : k < 9218868437227405312) : bits .andNot .u64 (k : Int) 9218868437227405312 = ((k % 4503599627370496 : Nat) : Int) := by
  have e := u64_andNot_nat k 9218868437227405312 (by omega) (by omega)
  rw [show (18446744073709551615 - 9218868437227405312 : Nat) = 9227875636482146303 from rfl, and_frac k h] at e
  exact e
theorem or_exp (e f : Nat) (hf : f < 4503599627370496) : f ||| e * 4503599627370496 = e * 4503599627370496 + f := by
  have q2 := Nat.two_pow_add_eq_or_of_lt (i := 52) (b := f) (by omega) e
  rw [Nat.or_comm, Nat.mul_comm e]
  rw [pow52] at q2
  rw [q2]
theorem u64_half (f : Nat) (hf : f < 4503599627370496) : bits .or .u64 (f : Int) 4602678819172646912 = ((4602678819172646912 + f : Nat) : Int) := by
  have q := u64_or_nat f 4602678819172646912 (by omega) (by omega)
  have q2 := or_exp 1022 f hf
  rw [show 1022 * 4503599627370496 = 4602678819172646912 from rfl] at q2
  rw [q2] at q
  exact q

end Go.Proofs.YtcdifnnbbppbgaaGreatDoor
