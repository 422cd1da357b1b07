/- Contracts of the small functions of package math that nums and the document's answers call. -/
import Derived.Test.YtcagfjogfbddeaaDoorProg
import Derived.Test.YtcagfjogfbddeaaDoorFl
import Derived.WalkKit
import Derived.WalkSpells
import Derived.WalkLawsBesides
import Derived.Deep.QuietTactic
import Derived.BigQuiet
namespace Go.Proofs.YtcagfjogfbddeaaDoor
set_option linter.unusedVariables false
open Go.RowKit

theorem Hid.mk' {p : Prop} (h : p) : Hid p := h
theorem ret_bool {a b : Bool} (h : a = b) : Ending.returned (.bool a) = .returned (.bool b) := by rw [h]
theorem ret_f {a b : Nat} (h : a = b) : Ending.returned (.float .f64 a) = .returned (.float .f64 b) := by rw [h]

theorem u64_andNot_lit (x : Nat) (h : x < 18446744073709551616) : bits .andNot .u64 (x : Int) 9223372036854775808 = ((x &&& 9223372036854775807 : Nat) : Int) := u64_andNot_nat x 9223372036854775808 h (by decide)
theorem and_mask (x : Nat) (h : x < 18446744073709551616) : x &&& 9223372036854775807 = x % 9223372036854775808 := by
  have := Nat.and_two_pow_sub_one_eq_mod x 63
  simpa using this

theorem f64 : FloatKind.f64.format = Ieee.double := rfl
open Fl in
theorem isnan_eq (x : Nat) (h : x < 18446744073709551616) : (FloatKind.f64.format.order x x != some Ordering.eq) = decide (nan x) := by
  rw [f64]
  by_cases hn : nan x
  · rw [order_nan x x h h (.inl hn)]; simp [hn]
  · rw [order_key x x h h hn hn]
    have : compare (key x) (key x) = .eq := Int.compare_eq_eq.2 rfl
    rw [this]; simp [hn]

open Fl in
theorem isinf_eq (x : Nat) : (FloatKind.f64.format.order (x % 9223372036854775808) 9218868437227405311 == some Ordering.gt) = decide (x % 9223372036854775808 = 9218868437227405312) := by
  rw [f64]
  by_cases hn : nan (x % 9223372036854775808)
  · rw [order_nan _ _ (by omega) (by omega) (.inl hn)]
    unfold nan at hn
    simp; omega
  · rw [order_key _ _ (by omega) (by omega) hn (by unfold nan; omega)]
    have k1 : key (x % 9223372036854775808) = ((x % 9223372036854775808 : Nat) : Int) := by unfold key; rw [if_neg (by omega)]; omega
    have k2 : key 9218868437227405311 = 9218868437227405311 := by unfold key; rw [if_neg (by omega)]; rfl
    rw [k1, k2]
    unfold nan at hn
    by_cases e : x % 9223372036854775808 = 9218868437227405312
    · have : compare ((x % 9223372036854775808 : Nat) : Int) 9218868437227405311 = .gt := Int.compare_eq_gt.2 (by omega)
      rw [this]; simp [e]
    · have : compare ((x % 9223372036854775808 : Nat) : Int) 9218868437227405311 ≠ .gt := fun h => by have := Int.compare_eq_gt.1 h; omega
      rw [decide_eq_false e]
      generalize compare ((x % 9223372036854775808 : Nat) : Int) 9218868437227405311 = o at this ⊢
      cases o <;> simp at this ⊢

end Go.Proofs.YtcagfjogfbddeaaDoor
