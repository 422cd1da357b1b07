/- Contracts of the small functions of package math that nums and the document's answers call. -/
import Derived.Test.YtbkkkpfoaggejaaGreatDoorProg
import Derived.Test.YtbkkkpfoaggejaaGreatDoorFl
import Derived.WalkKit
import Derived.WalkSpells
import Derived.WalkLawsBesides
import Derived.Deep.QuietTactic
import Derived.BigQuiet
namespace Go.Proofs.YtbkkkpfoaggejaaGreatDoor
set_option linter.unusedVariables false
open Go.RowKit

theorem Hid.mk' {p : Prop} (h : p) : Hid p := h
theorem ret_bool {a b : Bool} (h : a = b) : Ending.returned (.bool a) = .returned (.bool b) := by rw [h]
theorem ret_f {a b : Nat} (h : a = b) : Ending.returned (.float .f64 a) = .returned (.float .f64 b) := by rw [h]

@[go_sem] theorem call_bits (x : Nat) (w : World) : (callFunc 70 #[.float .f64 x]).run Tryz.prog w = .ok (.value (.int .u64 x)) w := by
  rw [run_callFunc_extern (e := Extern.MathFloatBits.float64bits) Tryz.func70 (by kernel_rfl) (by kernel_rfl) (by kernel_rfl) (by kernel_rfl)]
  rfl
@[go_sem] theorem call_frombits (x : Int) (w : World) : (callFunc 107 #[.int .u64 x]).run Tryz.prog w = .ok (.value (.float .f64 x.toNat)) w := by
  rw [run_callFunc_extern (e := Extern.MathFloatBits.float64frombits) Tryz.func107 (by kernel_rfl) (by kernel_rfl) (by kernel_rfl) (by kernel_rfl)]
  rfl

theorem u64_andNot_lit (x : Nat) (h : x < 18446744073709551616) : bits .andNot .u64 (x : Int) 9223372036854775808 = ((x &&& 9223372036854775807 : Nat) : Int) := u64_andNot_nat x 9223372036854775808 h (by decide)
theorem and_mask (x : Nat) (h : x < 18446744073709551616) : x &&& 9223372036854775807 = x % 9223372036854775808 := by
  have := Nat.and_two_pow_sub_one_eq_mod x 63
  simpa using this

set_option maxHeartbeats 400000 in
theorem abs_any (x : Nat) (w : World) (h : x < 18446744073709551616) :
    Calls Tryz.prog 108 #[.float .f64 x] w fun e w' => e = .returned (.float .f64 (x % 9223372036854775808)) ∧ w' = w := by
  go_enter Tryz.func108, Tryz.ntmps108
  go_wp2
  go_ret
  exact ⟨ret_f (by rw [u64_andNot_lit x h, and_mask x h]; rfl), rfl⟩

theorem f64 : FloatKind.f64.format = Ieee.double := rfl
open Fl in
theorem isnan_eq (x : Nat) (h : x < 18446744073709551616) : (FloatKind.f64.format.order x x != some Ordering.eq) = decide (nan x) := by
  rw [f64]
  by_cases hn : nan x
  · rw [order_nan x x h h (.inl hn)]; simp [hn]
  · rw [order_key x x h h hn hn]
    have : compare (key x) (key x) = .eq := Int.compare_eq_eq.2 rfl
    rw [this]; simp [hn]

set_option maxHeartbeats 400000 in
theorem isNaN_any (x : Nat) (w : World) (h : x < 18446744073709551616) :
    Calls Tryz.prog 84 #[.float .f64 x] w fun e w' => e = .returned (.bool (decide (Fl.nan x))) ∧ w' = w := by
  go_enter Tryz.func84, Tryz.ntmps84
  go_wp2
  go_ret
  exact ⟨ret_bool (isnan_eq x h), rfl⟩

set_option maxHeartbeats 400000 in
theorem bad_any (x : Nat) (w : World) (h : x < 18446744073709551616) :
    Calls Tryz.prog 46 #[.float .f64 x] w fun e w' => e = .returned (.bool (decide (Fl.nan x))) ∧ w' = w := by
  go_enter Tryz.func46, Tryz.ntmps46
  go_wp2
  go_ret
  exact ⟨ret_bool (isnan_eq x h), rfl⟩

open Fl in
theorem isinf_eq (x : Nat) : (FloatKind.f64.format.order (x % 9223372036854775808) 9218868437227405311 == some Ordering.gt) = decide (x % 9223372036854775808 = 9218868437227405312) := by
  rw [f64]
  by_cases hn : nan (x % 9223372036854775808)
  · rw [order_nan _ _ (by omega) (by omega) (.inl hn)]
    unfold nan at hn
    simp; omega
  · rw [order_key _ _ (by omega) (by omega) hn (by unfold nan; omega)]
    have k1 : key (x % 9223372036854775808) = ((x % 9223372036854775808 : Nat) : Int) := by unfold key; rw [if_neg (by omega)]; omega
    have k2 : key 9218868437227405311 = 9218868437227405311 := by unfold key; rw [if_neg (by omega)]; rfl
    rw [k1, k2]
    unfold nan at hn
    by_cases e : x % 9223372036854775808 = 9218868437227405312
    · have : compare ((x % 9223372036854775808 : Nat) : Int) 9218868437227405311 = .gt := Int.compare_eq_gt.2 (by omega)
      rw [this]; simp [e]
    · have : compare ((x % 9223372036854775808 : Nat) : Int) 9218868437227405311 ≠ .gt := fun h => by have := Int.compare_eq_gt.1 h; omega
      rw [decide_eq_false e]
      generalize compare ((x % 9223372036854775808 : Nat) : Int) 9218868437227405311 = o at this ⊢
      cases o <;> simp at this ⊢

set_option maxHeartbeats 400000 in
theorem isInf0_any (x : Nat) (w : World) (h : x < 18446744073709551616) :
    Calls Tryz.prog 86 #[.float .f64 x, .int .i64 0] w fun e w' => e = .returned (.bool (decide (x % 9223372036854775808 = 9218868437227405312))) ∧ w' = w := by
  go_enter Tryz.func86, Tryz.ntmps86
  go_wp2_with (go_at_call 108; refine (abs_any _ _ h).mono ?_; rintro e w1 ⟨rfl, hw1⟩; rw [hw1]; clear hw1 w1)
  go_ret
  exact ⟨ret_bool (isinf_eq x), rfl⟩

set_option maxHeartbeats 400000 in
theorem signbit_any (x : Nat) (w : World) (h : x < 18446744073709551616) :
    Calls Tryz.prog 47 #[.float .f64 x] w fun e w' => e = .returned (.bool (decide (9223372036854775808 ≤ x))) ∧ w' = w := by
  go_enter Tryz.func47, Tryz.ntmps47
  go_wp2
  go_ret
  refine ⟨ret_bool (decide_eq_decide.2 ?_), rfl⟩
  unfold wrap64
  omega

set_option maxHeartbeats 400000 in
theorem nan_any (w : World) :
    Calls Tryz.prog 85 #[] w fun e w' => e = .returned (.float .f64 9221120237041090561) ∧ w' = w := by
  go_enter Tryz.func85, Tryz.ntmps85
  go_wp2
  go_ret
  exact ⟨rfl, rfl⟩

set_option maxHeartbeats 400000 in
theorem inf_any (w : World) :
    Calls Tryz.prog 109 #[.int .i64 1] w fun e w' => e = .returned (.float .f64 9218868437227405312) ∧ w' = w := by
  go_enter Tryz.func109, Tryz.ntmps109
  go_wp2
  go_ret
  exact ⟨rfl, rfl⟩
end Go.Proofs.YtbkkkpfoaggejaaGreatDoor
