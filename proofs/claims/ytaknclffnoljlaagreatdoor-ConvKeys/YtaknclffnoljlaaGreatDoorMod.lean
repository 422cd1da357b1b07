/- math.Mod: the rest of a division, without rounding. -/
import Derived.Test.YtaknclffnoljlaaGreatDoorFrexp
namespace Go.Proofs.YtaknclffnoljlaaGreatDoor
set_option linter.unusedVariables false
open Go.RowKit Fl

set_option maxHeartbeats 400000 in
theorem ldexp_any (h d j : Nat) (w : World) (h0 : 1 ≤ h) (hh : h < 9218868437227405312) (hj : j < 9218868437227405312) (hv : val j = val h * 2 ^ d) :
    Calls Tryz.prog 127 #[.float .f64 h, .int .i64 d] w fun e w' => e = .returned (.float .f64 j) ∧ w' = w := by
  have HF := Hid.mk' (ldexp_low h d j w h0 hh hj hv)
  go_enter Tryz.func127, Tryz.ntmps127
  go_wp2_with (go_at_call 155; refine HF.out.mono ?_; rintro e w1 ⟨rfl, hw1⟩; rw [hw1]; clear hw1 w1)
  go_ret
  exact ⟨rfl, rfl⟩

theorem cmp0 (x : Nat) (hx : x < 18446744073709551616) (n : ¬ nan x) : Ieee.double.order x 0 = some (compare (key x) 0) := by
  rw [order_key x 0 hx (by omega) n (by unfold nan; omega)]
  rfl
theorem eq0 (x : Nat) (hx : x < 18446744073709551616) : (FloatKind.f64.format.order x 0 == some Ordering.eq) = decide (x % 9223372036854775808 = 0) := by
  rw [f64]
  by_cases n : nan x
  · rw [order_nan x 0 hx (by omega) (.inl n)]
    unfold nan at n
    rw [decide_eq_false (by omega)]; rfl
  · rw [cmp0 x hx n]
    by_cases e : x % 9223372036854775808 = 0
    · have : key x = 0 := by unfold key; split <;> omega
      rw [this, decide_eq_true e]; rfl
    · have : compare (key x) 0 ≠ .eq := fun q => e (by have := Int.compare_eq_eq.1 q; unfold key at this; split at this <;> omega)
      rw [decide_eq_false e]
      generalize compare (key x) 0 = o at this ⊢
      cases o <;> simp at this ⊢
theorem lt0 (x : Nat) (hx : x < 18446744073709551616) (n : ¬ nan x) : (FloatKind.f64.format.order x 0 == some Ordering.lt) = decide (9223372036854775808 < x) := by
  rw [f64, cmp0 x hx n]
  by_cases e : 9223372036854775808 < x
  · have : key x < 0 := by unfold key; rw [if_pos (by omega)]; omega
    rw [Int.compare_eq_lt.2 this, decide_eq_true e]; rfl
  · have : compare (key x) 0 ≠ .lt := fun q => e (by have := Int.compare_eq_lt.1 q; unfold key at this; split at this <;> omega)
    rw [decide_eq_false e]
    generalize compare (key x) 0 = o at this ⊢
    cases o <;> simp at this ⊢

@[go_sem] theorem run_negf (k : FloatKind) (b : Nat) (W : World) : (Op.unary .neg (.float k b)).run Tryz.prog W = .ok (.float k (Op.negFloat k b)) W := rfl
theorem neg_pos (g : Nat) (h : g < 9223372036854775808) : Op.negFloat .f64 g = 9223372036854775808 + g := xor_half g h
theorem neg_neg' (g : Nat) (h : g < 9223372036854775808) : Op.negFloat .f64 (9223372036854775808 + g) = g := xor_half' g h

theorem sub_pos (g j k : Nat) (hg : g < 9218868437227405312) (hj : j < 9218868437227405312) (hk : k < 9218868437227405312) (e : val k + val j = val g) : Ieee.double.sub g j = some k :=
  sub_exact false false false g j k hg hj hk (by unfold sv; simp; omega) (fun _ => rfl)
theorem ge_eq (g h : Nat) (n1 : g ≤ 9218868437227405312) (n2 : h ≤ 9218868437227405312) : (FloatKind.f64.format.order g h == some Ordering.gt || FloatKind.f64.format.order g h == some Ordering.eq) = decide (h ≤ g) := by
  rw [f64, order_key _ _ (by omega) (by omega) (by unfold nan; omega) (by unfold nan; omega)]
  have k1 : key g = (g : Int) := by unfold key; rw [if_neg (by omega)]; omega
  have k2 : key h = (h : Int) := by unfold key; rw [if_neg (by omega)]; omega
  rw [k1, k2]
  rcases Nat.lt_trichotomy g h with e | e | e
  · rw [decide_eq_false (by omega), Int.compare_eq_lt.2 (by omega)]; rfl
  · rw [decide_eq_true (by omega), Int.compare_eq_eq.2 (by omega)]; rfl
  · rw [decide_eq_true (by omega), Int.compare_eq_gt.2 (by omega)]; rfl

def fOf : Value → Nat
  | .float _ b => b
  | _ => 0

theorem ge_zero (Y : Nat) (h : 1 ≤ Y) (h2 : Y ≤ 9218868437227405312) : (FloatKind.f64.format.order 9223372036854775808 Y == some Ordering.gt || FloatKind.f64.format.order 9223372036854775808 Y == some Ordering.eq) = false := by
  rw [f64, order_key _ _ (by omega) (by omega) (by unfold nan; omega) (by unfold nan; omega)]
  have k1 : key 9223372036854775808 = 0 := by unfold key; rw [if_pos (by omega)]; omega
  have k2 : key Y = (Y : Int) := by unfold key; rw [if_neg (by omega)]; omega
  rw [k1, k2, Int.compare_eq_lt.2 (by omega)]; rfl

/-- A rung under the sign of x. -/
def sgn (x g : Nat) : Nat := if 9223372036854775808 ≤ x then 9223372036854775808 + g else g
theorem sgn_self (x : Nat) (hx : x < 18446744073709551616) : sgn x (x % 9223372036854775808) = x := by unfold sgn; split <;> omega

end Go.Proofs.YtaknclffnoljlaaGreatDoor
