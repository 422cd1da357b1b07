/- nums.Pow, case by case. -/
import Derived.Test.YtilcpdnonppleaaNAwake
import Derived.Test.YtilcpdnonppleaaLen
namespace Go.Proofs.Ytilcpdnonppleaa
set_option linter.unusedVariables false
open Go.RowKit Fl

/-- As if the exponent were infinite. -/
def endless (A : Nat) (up : Bool) : Nat := if A = 4607182418800017408 then 9221120237041090561 else if decide (4607182418800017408 < A) = up then 9218868437227405312 else 0

set_option maxHeartbeats 1000000 in
theorem powEndless_any (a b : Nat) (w : World) (ha : a < 18446744073709551616) (na : ¬ nan a) (hb : b < 18446744073709551616) (nb : ¬ nan b) (hb0 : b % 9223372036854775808 ≠ 0) :
    Calls Try.prog 48 #[.float .f64 a, .float .f64 b] w fun e w' => e = .returned (.float .f64 (endless (a % 9223372036854775808) (decide (b < 9223372036854775808)))) ∧ w' = w := by
  have HA := Hid.mk' (fun W => abs_any a W ha)
  have hA : a % 9223372036854775808 ≤ 9218868437227405312 := by unfold nan at na; omega
  have h1 := eq_eq (a % 9223372036854775808) 4607182418800017408 (by omega) (by omega) hA (by omega)
  have h2 := gt_c (a % 9223372036854775808) 4607182418800017408 (by omega) hA (by omega)
  have h3 := gt_any b 0 hb nb (by omega)
  rw [show decide (b < 9223372036854775808 ∧ 0 < b) = decide (b < 9223372036854775808) from decide_eq_decide.2 (by omega)] at h3
  generalize decide (b < 9223372036854775808) = up at *
  generalize a % 9223372036854775808 = A at *
  unfold endless
  by_cases c1 : A = 4607182418800017408
  · rw [decide_eq_true c1] at h1
    rw [if_pos c1]
    clear c1
    go_enter Try.func48, Try.ntmps48
    go_wp2_with (first | (go_at_call 37; refine (HA.out _).mono ?_; rintro e w1 ⟨rfl, hw1⟩; rw [hw1]; clear hw1 w1) | (go_at_call 46; refine (nan_any _).mono ?_; rintro e w1 ⟨rfl, hw1⟩; rw [hw1]; clear hw1 w1))
    go_ret
    exact ⟨rfl, rfl⟩
  · rw [decide_eq_false c1] at h1
    rw [if_neg c1]
    generalize decide (4607182418800017408 < A) = gr at *
    by_cases c2 : gr = up
    · rw [if_pos c2]
      subst c2
      go_enter Try.func48, Try.ntmps48
      go_wp2_with (first | (go_at_call 37; refine (HA.out _).mono ?_; rintro e w1 ⟨rfl, hw1⟩; rw [hw1]; clear hw1 w1) | (go_at_call 52; refine (inf_any _).mono ?_; rintro e w1 ⟨rfl, hw1⟩; rw [hw1]; clear hw1 w1))
      go_ret
      exact ⟨rfl, rfl⟩
    · rw [if_neg c2]
      have c3 : (gr == up) = false := by simp [c2]
      clear c2
      go_enter Try.func48, Try.ntmps48
      go_wp2_with (first | (go_at_call 37; refine (HA.out _).mono ?_; rintro e w1 ⟨rfl, hw1⟩; rw [hw1]; clear hw1 w1))
      go_ret
      exact ⟨rfl, rfl⟩

theorem copysign_bits (f a : Nat) (hf : f < 9223372036854775808) (ha : a < 18446744073709551616) : (bits .or .u64 (bits .andNot .u64 (f : Int) 9223372036854775808) (bits .and .u64 (a : Int) 9223372036854775808)).toNat = sgn a f := by
  have e1 : bits .andNot .u64 (f : Int) 9223372036854775808 = ((f : Nat) : Int) := by
    rw [u64_andNot_lit f (by omega), and_mask f (by omega), Nat.mod_eq_of_lt hf]
  have e2 : a &&& 9223372036854775808 = if 9223372036854775808 ≤ a then 9223372036854775808 else 0 := by
    apply Nat.eq_of_testBit_eq
    intro i
    rw [Nat.testBit_and, show (9223372036854775808 : Nat) = 2 ^ 63 from rfl, Nat.testBit_two_pow]
    by_cases hi : 63 = i
    · subst hi
      rw [decide_eq_true rfl, Bool.and_true]
      by_cases h : 2 ^ 63 ≤ a
      · rw [if_pos h, Nat.testBit_two_pow_self]
        obtain ⟨k, hk⟩ : ∃ k, a = 2 ^ 63 + k := ⟨a - 2 ^ 63, by omega⟩
        have e63 : (2 : Nat) ^ 63 = 9223372036854775808 := rfl
        rw [hk, Nat.testBit_two_pow_add_eq, Nat.testBit_lt_two_pow (by omega)]; rfl
      · rw [if_neg h, Nat.zero_testBit, Nat.testBit_lt_two_pow (by omega)]
    · rw [decide_eq_false hi, Bool.and_false]
      split
      · rw [Nat.testBit_two_pow, decide_eq_false hi]
      · rw [Nat.zero_testBit]
  have e3 := u64_and_nat a 9223372036854775808 ha (by omega)
  rw [e2] at e3
  have e4 : bits .and .u64 (a : Int) 9223372036854775808 = (((if 9223372036854775808 ≤ a then 9223372036854775808 else 0) : Nat) : Int) := e3
  rw [e1, e4]
  unfold sgn
  by_cases h : 9223372036854775808 ≤ a
  · rw [if_pos h, if_pos h, u64_or_nat f 9223372036854775808 (by omega) (by omega)]
    have := Nat.two_pow_add_eq_or_of_lt (i := 63) (b := f) hf 1
    rw [Nat.or_comm, Int.toNat_natCast]
    rw [Nat.mul_one] at this
    exact this.symm
  · rw [if_neg h, if_neg h, u64_or_nat f 0 (by omega) (by omega), Nat.or_zero, Int.toNat_natCast]

set_option maxHeartbeats 400000 in
theorem copysign_any (f a : Nat) (w : World) (hf : f < 9223372036854775808) (ha : a < 18446744073709551616) :
    Calls Try.prog 68 #[.float .f64 f, .float .f64 a] w fun e w' => e = .returned (.float .f64 (sgn a f)) ∧ w' = w := by
  go_enter Try.func68, Try.ntmps68
  go_wp2
  go_ret
  exact ⟨ret_f (copysign_bits f a hf ha), rfl⟩

/-- What only the sign and whether the exponent is even count for. -/
def farS (A : Nat) (up : Bool) : Nat := if A = 4607182418800017408 then 4607182418800017408 else endless A up
def farV (a b : Nat) : Nat := if tr (b % 9223372036854775808) % 2 = 0 then farS (a % 9223372036854775808) (decide (b < 9223372036854775808)) else sgn a (farS (a % 9223372036854775808) (decide (b < 9223372036854775808)))
theorem farS_lt (A : Nat) (up : Bool) : farS A up < 9223372036854775808 := by
  unfold farS endless
  split
  · omega
  · split
    · omega
    · omega
theorem val_two : val 4611686018427387904 = 2 * 2 ^ 1074 := by
  have v1 := val_pow' 1023 1075 rfl
  rw [show (1023 + 1) * 4503599627370496 = 4611686018427387904 from rfl, ← pow_split (show 1 + 1074 = 1075 from rfl), show (2 : Nat) ^ 1 = 2 from rfl] at v1
  exact v1
/-- Whether a whole number is even. -/
theorem even_rest {x r : Nat} (h : RestIs x 4611686018427387904 r) (hx : x < 18446744073709551616) (hf : x % 9223372036854775808 < 9218868437227405312) (hw : val (x % 9223372036854775808) = tr (x % 9223372036854775808) * 2 ^ 1074) :
    ∃ g, r = sgn x g ∧ g < 9218868437227405312 ∧ val g = tr (x % 9223372036854775808) % 2 * 2 ^ 1074 := by
  obtain ⟨g, h1, h2, h3⟩ := h.fin hx hf (by omega) (by omega)
  exact ⟨g, h1, h2, mod_worth hw val_two h3⟩
theorem nz_gen {v m D : Nat} (h : v = m * 2 ^ D) : v = 0 ↔ m = 0 := by
  have := Nat.two_pow_pos D
  rw [h, Nat.mul_eq_zero]
  omega

set_option maxRecDepth 100000 in
set_option maxHeartbeats 1000000 in
theorem powFar_any (a b : Nat) (w : World) (ha : a < 18446744073709551616) (na : ¬ nan a) (hb : b < 18446744073709551616) (hB : b % 9223372036854775808 < 9218868437227405312) (hB0 : b % 9223372036854775808 ≠ 0) (hw : val (b % 9223372036854775808) = tr (b % 9223372036854775808) * 2 ^ 1074) :
    Calls Try.prog 62 #[.float .f64 a, .float .f64 b] w fun e w' => e = .returned (.float .f64 (farV a b)) ∧ w' = w := by
  have nb : ¬ nan b := by unfold nan; omega
  have HA := Hid.mk' (fun W => abs_any a W ha)
  have HE := Hid.mk' (fun W => powEndless_any a b W ha na hb nb hB0)
  have HM := Hid.mk' (fun W => Mod_is b 4611686018427387904 W hb (by omega))
  have hA : a % 9223372036854775808 ≤ 9218868437227405312 := by unfold nan at na; omega
  have h1 : (FloatKind.f64.format.order (a % 9223372036854775808) 4607182418800017408 != some Ordering.eq) = !decide (a % 9223372036854775808 = 4607182418800017408) := by
    rw [← eq_eq (a % 9223372036854775808) 4607182418800017408 (by omega) (by omega) hA (by omega)]; rfl
  have hS : farS (a % 9223372036854775808) (decide (b < 9223372036854775808)) = if a % 9223372036854775808 = 4607182418800017408 then 4607182418800017408 else endless (a % 9223372036854775808) (decide (b < 9223372036854775808)) := rfl
  have hSl := farS_lt (a % 9223372036854775808) (decide (b < 9223372036854775808))
  have HW := Hid.mk' hw
  have hV : farV a b = if tr (b % 9223372036854775808) % 2 = 0 then farS (a % 9223372036854775808) (decide (b < 9223372036854775808)) else sgn a (farS (a % 9223372036854775808) (decide (b < 9223372036854775808))) := rfl
  obtain ⟨S, hSe⟩ : ∃ S, farS (a % 9223372036854775808) (decide (b < 9223372036854775808)) = S := ⟨_, rfl⟩
  rw [hSe] at hS hSl hV
  rw [hV]
  clear hSe hV hw
  have HC := Hid.mk' (fun W => copysign_any S a W hSl ha)
  generalize endless (a % 9223372036854775808) (decide (b < 9223372036854775808)) = E at *
  generalize a % 9223372036854775808 = A at *
  by_cases c1 : A = 4607182418800017408
  · rw [decide_eq_true c1] at h1
    rw [if_pos c1] at hS
    subst hS
    clear c1
    go_enter Try.func62, Try.ntmps62
    go_wp2_with (first | (go_at_call 37; refine (HA.out _).mono ?_; rintro e w1 ⟨rfl, hw1⟩; rw [hw1]; clear hw1 w1))
    refine (HM.out _).mono ?_
    rintro e w1 ⟨⟨r, rfl, hr⟩, hw1⟩; rw [hw1]; clear hw1 w1
    obtain ⟨g, g1, g2, g3⟩ := even_rest hr hb hB HW.out
    have h0 := eq0 r hr.lt
    rw [show r % 9223372036854775808 = g by rw [g1]; exact sgn_mod b g (by omega), show decide (g = 0) = decide (tr (b % 9223372036854775808) % 2 = 0) from decide_eq_decide.2 ((val_zero g).symm.trans (nz_gen (D := 1074) g3))] at h0
    clear g1 g3 hr
    by_cases c2 : tr (b % 9223372036854775808) % 2 = 0
    · rw [decide_eq_true c2] at h0
      have C2 := Hid.mk' c2
      clear c2
      go_wp2
      go_ret
      exact ⟨by first | rfl | (rw [if_pos C2.out]; rfl), rfl⟩
    · rw [decide_eq_false c2] at h0
      have C2 := Hid.mk' c2
      clear c2
      go_wp2_with (go_at_call 68; refine (HC.out _).mono ?_; rintro e w1 ⟨rfl, hw1⟩; rw [hw1]; clear hw1 w1)
      go_ret
      exact ⟨by first | rfl | (rw [if_neg C2.out]; rfl), rfl⟩
  · rw [decide_eq_false c1] at h1
    rw [if_neg c1] at hS
    subst hS
    clear c1
    go_enter Try.func62, Try.ntmps62
    go_wp2_with (first | (go_at_call 37; refine (HA.out _).mono ?_; rintro e w1 ⟨rfl, hw1⟩; rw [hw1]; clear hw1 w1) | (go_at_call 48; refine (HE.out _).mono ?_; rintro e w1 ⟨rfl, hw1⟩; rw [hw1]; clear hw1 w1))
    refine (HM.out _).mono ?_
    rintro e w1 ⟨⟨r, rfl, hr⟩, hw1⟩; rw [hw1]; clear hw1 w1
    obtain ⟨g, g1, g2, g3⟩ := even_rest hr hb hB HW.out
    have h0 := eq0 r hr.lt
    rw [show r % 9223372036854775808 = g by rw [g1]; exact sgn_mod b g (by omega), show decide (g = 0) = decide (tr (b % 9223372036854775808) % 2 = 0) from decide_eq_decide.2 ((val_zero g).symm.trans (nz_gen (D := 1074) g3))] at h0
    clear g1 g3 hr
    by_cases c2 : tr (b % 9223372036854775808) % 2 = 0
    · rw [decide_eq_true c2] at h0
      have C2 := Hid.mk' c2
      clear c2
      go_wp2
      go_ret
      exact ⟨by first | rfl | (rw [if_pos C2.out]; rfl), rfl⟩
    · rw [decide_eq_false c2] at h0
      have C2 := Hid.mk' c2
      clear c2
      go_wp2_with (go_at_call 68; refine (HC.out _).mono ?_; rintro e w1 ⟨rfl, hw1⟩; rw [hw1]; clear hw1 w1)
      go_ret
      exact ⟨by first | rfl | (rw [if_neg C2.out]; rfl), rfl⟩

set_option maxHeartbeats 1000000 in
theorem powWhole_far (a b : Nat) (w : World) (ha : a < 18446744073709551616) (na : ¬ nan a) (hb : b < 18446744073709551616) (hB : b % 9223372036854775808 < 9218868437227405312) (hB1 : 4652218415073722368 < b % 9223372036854775808) (hw : val (b % 9223372036854775808) = tr (b % 9223372036854775808) * 2 ^ 1074) :
    Calls Try.prog 50 #[.float .f64 a, .float .f64 b] w fun e w' => e = .returned (.float .f64 (farV a b)) ∧ w' = w := by
  have HF := Hid.mk' (fun W => powFar_any a b W ha na hb hB (by omega) hw)
  have HA := Hid.mk' (fun W => abs_any b W hb)
  have hgt := gt_c (b % 9223372036854775808) 4652218415073722368 (by omega) (by omega) (by omega)
  rw [decide_eq_true hB1] at hgt
  clear hw
  go_enter Try.func50, Try.ntmps50
  go_wp2_with (first | (go_at_call 37; refine (HA.out _).mono ?_; rintro e w1 ⟨rfl, hw1⟩; rw [hw1]; clear hw1 w1) | (go_at_call 62; refine (HF.out _).mono ?_; rintro e w1 ⟨rfl, hw1⟩; rw [hw1]; clear hw1 w1))
  go_ret
  exact ⟨rfl, rfl⟩
end Go.Proofs.Ytilcpdnonppleaa
