/- math.Ldexp where what comes out is a normal number: the exponent alone changes. -/
import Derived.Test.YtighenikjedojaaGreatDoorFrexp
namespace Go.Proofs.YtighenikjedojaaGreatDoor
set_option linter.unusedVariables false
open Go.RowKit Fl

set_option maxHeartbeats 400000 in
theorem normalize_norm (h : Nat) (w : World) (h1 : 4503599627370496 ≤ h) (hh : h < 9218868437227405312) :
    Calls Tryz.prog 152 #[.float .f64 h] w fun e w' => e = .returned (.tuple #[.float .f64 h, .int .i64 0]) ∧ w' = w := by
  have HA := Hid.mk' (fun W => abs_any h W (by omega))
  rw [show h % 9223372036854775808 = h by omega] at HA
  have hlt : (FloatKind.f64.format.order h 4503599627370496 == some Ordering.lt) = false := by
    rw [f64, order_key _ _ (by omega) (by omega) (by unfold nan; omega) (by unfold nan; omega)]
    have k1 : key h = (h : Int) := by unfold key; rw [if_neg (by omega)]; omega
    have k2 : key 4503599627370496 = 4503599627370496 := by unfold key; rw [if_neg (by omega)]; rfl
    rw [k1, k2]
    have : compare (h : Int) 4503599627370496 ≠ .lt := fun q => by have := Int.compare_eq_lt.1 q; omega
    generalize compare (h : Int) 4503599627370496 = o at this ⊢
    cases o <;> simp at this ⊢
  go_enter Tryz.func152, Tryz.ntmps152
  go_wp2_with (go_at_call 18; refine (HA.out _).mono ?_; rintro e w1 ⟨rfl, hw1⟩; rw [hw1]; clear hw1 w1)
  go_ret2
  exact ⟨rfl, rfl⟩
theorem one_gen {a b D : Nat} (h : a = 2 ^ D) : a * b = b * 2 ^ D := by rw [h, Nat.mul_comm]
theorem one_mul (q : Nat) (hq : q < 9218868437227405312) : Ieee.double.mul 4607182418800017408 q = some q := by
  refine mul_pos 4607182418800017408 q q (by omega) hq hq ?_
  have v1 := val_pow' 1022 1074 rfl
  rw [show (1022 + 1) * 4503599627370496 = 4607182418800017408 from rfl] at v1
  exact one_gen (D := 1074) v1
set_option maxHeartbeats 1000000 in
set_option maxRecDepth 100000 in
theorem ldexp_in (h q : Nat) (d : Int) (w : World) (h1 : 4503599627370496 ≤ h) (hh : h < 9218868437227405312) (E : Nat) (hE : h / 4503599627370496 = E) (hd : 1 ≤ (E : Int) + d ∧ (E : Int) + d ≤ 2046) (hq : (q : Int) = ((E : Int) + d) * 4503599627370496 + (h % 4503599627370496 : Nat)) :
    Calls Tryz.prog 125 #[.float .f64 h, .int .i64 d] w fun e w' => e = .returned (.float .f64 q) ∧ w' = w := by
  have hmod : h % 9223372036854775808 = h := by omega
  have hc := eq_eq h 0 (by omega) (by omega) (by omega) (by omega)
  rw [decide_eq_false (by omega)] at hc
  have hinf : decide (h % 9223372036854775808 = 9218868437227405312) = false := by rw [decide_eq_false]; omega
  have hnan : decide (nan h) = false := by rw [decide_eq_false]; unfold nan; omega
  have hE2 : E ≤ 2046 := by omega
  have hX : wrap64 (d + wrap64 ((E : Int) - 1023)) = d + (E : Int) - 1023 := by
    rw [wrap64_id ((E : Int) - 1023) (by omega) (by omega), wrap64_id _ (by omega) (by omega)]
    omega
  have hex := i64_expo h hh
  rw [hE] at hex
  have hq1 : (bits .or .u64 (bits .andNot .u64 (h : Int) 9218868437227405312) ((d + ((E : Int) - 1023) + 1023) * 4503599627370496)).toNat = q := by
    obtain ⟨m, hm⟩ : ∃ m : Nat, d + (E : Int) = m := ⟨(d + (E : Int)).toNat, by omega⟩
    have e1 : (d + ((E : Int) - 1023) + 1023) * 4503599627370496 = ((m * 4503599627370496 : Nat) : Int) := by omega
    rw [e1, u64_frac h hh, u64_or_nat _ _ (by omega) (by omega), or_exp _ _ (by omega)]
    omega
  have HM := Hid.mk' (fun W => run_mul 22 4607182418800017408 q q W (one_mul q (by omega)))
  have HX := Hid.mk' hX
  have HQ1 := Hid.mk' hq1
  have hd2 : -1022 ≤ d + (E : Int) - 1023 := by omega
  have hd3 : d + (E : Int) - 1023 ≤ 1023 := by omega
  have hd4 : -2046 ≤ d ∧ d ≤ 2046 := by omega
  clear hX hq1 hq hE
  go_enter Tryz.func125, Tryz.ntmps125
  go_wp2_with (first | (go_at_call 16; refine (isInf0_any _ _ (by omega)).mono ?_; rintro e w1 ⟨rfl, hw1⟩; rw [hw1, hinf]; clear hw1 w1) | (go_at_call 15; refine (isNaN_any _ _ (by omega)).mono ?_; rintro e w1 ⟨rfl, hw1⟩; rw [hw1, hnan]; clear hw1 w1))
  refine (normalize_norm h _ h1 hh).mono ?_
  rintro e w1 ⟨rfl, hw1⟩; rw [hw1]; clear hw1 w1
  go_wp2
  rw [HQ1.out, HM.out]
  go_wp2
  go_ret
  exact ⟨rfl, rfl⟩
theorem ldexp_norm (h q : Nat) (d : Int) (w : World) (h1 : 4503599627370496 ≤ h) (hh : h < 9218868437227405312) (E : Nat) (hE : h / 4503599627370496 = E) (hd : 1 ≤ (E : Int) + d ∧ (E : Int) + d ≤ 2046) (hq : (q : Int) = ((E : Int) + d) * 4503599627370496 + (h % 4503599627370496 : Nat)) :
    Calls Tryz.prog 100 #[.float .f64 h, .int .i64 d] w fun e w' => e = .returned (.float .f64 q) ∧ w' = w := by
  have HL := Hid.mk' (fun W => ldexp_in h q d W h1 hh E hE hd hq)
  clear hq hE hd
  go_enter Tryz.func100, Tryz.ntmps100
  go_wp2_with (go_at_call 125; refine (HL.out _).mono ?_; rintro e w1 ⟨rfl, hw1⟩; rw [hw1]; clear hw1 w1)
  go_ret
  exact ⟨rfl, rfl⟩
end Go.Proofs.YtighenikjedojaaGreatDoor
