/- math.Frexp, math.Ldexp of positive finite numbers. -/
import Derived.Test.YtbkkkpfoaggejaaGreatDoorMf
namespace Go.Proofs.YtbkkkpfoaggejaaGreatDoor
set_option linter.unusedVariables false
open Go.RowKit Fl

theorem lt_eq (g h : Nat) (h1 : g < 9223372036854775808) (h2 : h < 9223372036854775808) (n1 : g ≤ 9218868437227405312) (n2 : h ≤ 9218868437227405312) : (FloatKind.f64.format.order g h == some Ordering.lt) = decide (g < h) := by
  rw [f64, order_key _ _ (by omega) (by omega) (by unfold nan; omega) (by unfold nan; omega)]
  have k1 : key g = (g : Int) := by unfold key; rw [if_neg (by omega)]; omega
  have k2 : key h = (h : Int) := by unfold key; rw [if_neg (by omega)]; omega
  rw [k1, k2]
  by_cases e : g < h
  · rw [decide_eq_true e, Int.compare_eq_lt.2 (by omega)]; rfl
  · have : compare (g : Int) (h : Int) ≠ .lt := fun q => e (by have := Int.compare_eq_lt.1 q; omega)
    rw [decide_eq_false e]
    generalize compare (g : Int) (h : Int) = o at this ⊢
    cases o <;> simp at this ⊢
theorem lt_c (g h : Nat) (h1 : g < 9223372036854775808) (n2 : h ≤ 9218868437227405312) : (FloatKind.f64.format.order g h == some Ordering.lt) = decide (g < h) := by
  by_cases n : g ≤ 9218868437227405312
  · exact lt_eq g h h1 (by omega) n n2
  · rw [f64, order_nan g h (by omega) (by omega) (.inl (by unfold nan; omega)), decide_eq_false (by omega)]; rfl
theorem eq_eq (g h : Nat) (h1 : g < 9223372036854775808) (h2 : h < 9223372036854775808) (n1 : g ≤ 9218868437227405312) (n2 : h ≤ 9218868437227405312) : (FloatKind.f64.format.order g h == some Ordering.eq) = decide (g = h) := by
  rw [f64, order_key _ _ (by omega) (by omega) (by unfold nan; omega) (by unfold nan; omega)]
  have k1 : key g = (g : Int) := by unfold key; rw [if_neg (by omega)]; omega
  have k2 : key h = (h : Int) := by unfold key; rw [if_neg (by omega)]; omega
  rw [k1, k2]
  by_cases e : g = h
  · rw [decide_eq_true e, Int.compare_eq_eq.2 (by omega)]; rfl
  · have : compare (g : Int) (h : Int) ≠ .eq := fun q => e (by have := Int.compare_eq_eq.1 q; omega)
    rw [decide_eq_false e]
    generalize compare (g : Int) (h : Int) = o at this ⊢
    cases o <;> simp at this ⊢

theorem run_mul (t : TypeId) (g h k : Nat) (W : World) (e : Ieee.double.mul g h = some k) : (binOp .mul t (.float .f64 g) (.float .f64 h)).run Tryz.prog W = .ok (.float .f64 k) W := run_float_arith W .mul t .f64 g h k e
theorem run_sub (t : TypeId) (g h k : Nat) (W : World) (e : Ieee.double.sub g h = some k) : (binOp .sub t (.float .f64 g) (.float .f64 h)).run Tryz.prog W = .ok (.float .f64 k) W := run_float_arith W .sub t .f64 g h k e
theorem run_add (t : TypeId) (g h k : Nat) (W : World) (e : Ieee.double.add g h = some k) : (binOp .add t (.float .f64 g) (.float .f64 h)).run Tryz.prog W = .ok (.float .f64 k) W := run_float_arith W .add t .f64 g h k e

theorem mul_pos (g h k : Nat) (hg : g < 9218868437227405312) (hh : h < 9218868437227405312) (hk : k < 9218868437227405312) (e : val g * val h = val k * 2 ^ 1074) : Ieee.double.mul g h = some k := mul_exact false false g h k hg hh hk e

set_option maxHeartbeats 400000 in
theorem normalize_any (g : Nat) (w : World) (h0 : 1 ≤ g) (h : g < 9218868437227405312) :
    Calls Tryz.prog 158 #[.float .f64 g] w fun e w' => (∃ k n : Nat, e = .returned (.tuple #[.float .f64 k, .int .i64 (-(n : Int))]) ∧ n ≤ 52 ∧ 4503599627370496 ≤ k ∧ k < 9218868437227405312 ∧ val k = val g * 2 ^ n) ∧ w' = w := by
  have hmod : g % 9223372036854775808 = g := by omega
  have hc := lt_eq g 4503599627370496 (by omega) (by omega) (by omega) (by omega)
  by_cases hs : g < 4503599627370496
  · rw [decide_eq_true hs] at hc
    obtain ⟨k, hk1, hk2⟩ := rep (g * 2 ^ 52) g 52 rfl (by omega) (by
      have := log2_mul_pow g 52 (by omega)
      have := log2_le_of_lt (n := g) (k := 51) (by omega)
      omega)
    have hk3 : 4503599627370496 ≤ k := by
      apply Nat.not_lt.1
      intro hk3
      have := val_mono hk3
      rw [hk2, show val 4503599627370496 = 4503599627370496 * 2 ^ 0 from val_norm 0 0 (by omega)] at this
      omega
    have hvc := val_pow 1074
    rw [show (1074 + 1) * 4503599627370496 = 4841369599423283200 from rfl] at hvc
    have HM := Hid.mk' (fun W => run_mul 24 g 4841369599423283200 k W (mul_pos g _ k h (by omega) hk1 (by rw [hk2, hvc, pow52, val_sub g hs, Nat.mul_assoc])))
    go_enter Tryz.func158, Tryz.ntmps158
    go_wp2_with (first | (go_at_call 108; refine (abs_any _ _ (by omega)).mono ?_; rintro e w1 ⟨rfl, hw1⟩; rw [hw1, hmod]; clear hw1 w1) | rw [HM.out])
    go_ret2
    exact ⟨⟨k, 52, rfl, by omega, hk3, hk1, by rw [hk2, val_sub g hs]⟩, rfl⟩
  · rw [decide_eq_false hs] at hc
    go_enter Tryz.func158, Tryz.ntmps158
    go_wp2_with (go_at_call 108; refine (abs_any _ _ (by omega)).mono ?_; rintro e w1 ⟨rfl, hw1⟩; rw [hw1, hmod]; clear hw1 w1)
    go_ret2
    exact ⟨⟨g, 0, rfl, by omega, by omega, h, by simp⟩, rfl⟩

theorem wrap64_id (z : Int) (h1 : -9223372036854775808 ≤ z) (h2 : z < 9223372036854775808) : wrap64 z = z := by unfold wrap64; omega
theorem u64_expo (k : Nat) (h : k < 9218868437227405312) : bits .and .u64 ((k : Int) / 4503599627370496) 2047 = ((k / 4503599627370496 : Nat) : Int) := by
  have e := u64_and_nat (k / 4503599627370496) 2047 (by omega) (by omega)
  have e2 : k / 4503599627370496 &&& 2047 = k / 4503599627370496 := by
    have := Nat.and_two_pow_sub_one_eq_mod (k / 4503599627370496) 11
    rw [show 2 ^ 11 - 1 = 2047 from rfl] at this
    rw [this]
    omega
  rw [e2] at e
  rw [← e]; rfl
theorem i64_expo (k : Nat) (h : k < 9218868437227405312) : bits .and .i64 ((k : Int) / 4503599627370496) 2047 = ((k / 4503599627370496 : Nat) : Int) := by
  have e2 : k / 4503599627370496 &&& 2047 = k / 4503599627370496 := by
    have := Nat.and_two_pow_sub_one_eq_mod (k / 4503599627370496) 11
    rw [show 2 ^ 11 - 1 = 2047 from rfl] at this
    rw [this]
    omega
  have e3 : ((k : Int) / 4503599627370496) = ((k / 4503599627370496 : Nat) : Int) := by omega
  rw [e3]
  show IntKind.i64.wrap ((BitVec.ofInt 64 ((k / 4503599627370496 : Nat) : Int) &&& BitVec.ofInt 64 ((2047 : Nat) : Int)).toNat : Int) = _
  rw [BitVec.toNat_and, ofInt_u64 _ (by omega), ofInt_u64 _ (by omega), IntKind.wrap_i64, e2]
  omega
theorem and_frac (k : Nat) (h : k < 9218868437227405312) : k &&& 9227875636482146303 = k % 4503599627370496 := by
  have e : (9227875636482146303 : Nat) = 9223372036854775808 ||| 4503599627370495 := by decide
  have e1 : k &&& 9223372036854775808 = 0 := by
    apply Nat.eq_of_testBit_eq
    intro i
    rw [Nat.testBit_and, Nat.zero_testBit]
    have : (9223372036854775808 : Nat) = 2 ^ 63 := rfl
    rw [this, Nat.testBit_two_pow]
    by_cases hi : 63 = i
    · subst hi
      rw [Nat.testBit_lt_two_pow (show k < 2 ^ 63 by omega)]; rfl
    · rw [decide_eq_false hi, Bool.and_false]
  have e2 := Nat.and_two_pow_sub_one_eq_mod k 52
  rw [e, Nat.and_or_distrib_left, e1, Nat.zero_or]
  exact e2
theorem u64_frac (k : Nat) (h : k < 9218868437227405312) : bits .andNot .u64 (k : Int) 9218868437227405312 = ((k % 4503599627370496 : Nat) : Int) := by
  have e := u64_andNot_nat k 9218868437227405312 (by omega) (by omega)
  rw [show (18446744073709551615 - 9218868437227405312 : Nat) = 9227875636482146303 from rfl, and_frac k h] at e
  exact e
theorem or_exp (e f : Nat) (hf : f < 4503599627370496) : f ||| e * 4503599627370496 = e * 4503599627370496 + f := by
  have q2 := Nat.two_pow_add_eq_or_of_lt (i := 52) (b := f) (by omega) e
  rw [Nat.or_comm, Nat.mul_comm e]
  rw [pow52] at q2
  rw [q2]
theorem u64_half (f : Nat) (hf : f < 4503599627370496) : bits .or .u64 (f : Int) 4602678819172646912 = ((4602678819172646912 + f : Nat) : Int) := by
  have q := u64_or_nat f 4602678819172646912 (by omega) (by omega)
  have q2 := or_exp 1022 f hf
  rw [show 1022 * 4503599627370496 = 4602678819172646912 from rfl] at q2
  rw [q2] at q
  exact q

set_option maxHeartbeats 400000 in
theorem frexp_low (g : Nat) (w : World) (h0 : 1 ≤ g) (h : g < 9218868437227405312) :
    Calls Tryz.prog 140 #[.float .f64 g] w fun e w' => (∃ S E n : Nat, e = .returned (.tuple #[.float .f64 (4602678819172646912 + (S - 4503599627370496)), .int .i64 ((E : Int) - (n : Int) - 1021)]) ∧ n ≤ 52 ∧ E ≤ 2046 ∧ 4503599627370496 ≤ S ∧ S < 9007199254740992 ∧ S * 2 ^ E = val g * 2 ^ n) ∧ w' = w := by
  have hmod : g % 9223372036854775808 = g := by omega
  have hc := eq_eq g 0 (by omega) (by omega) (by omega) (by omega)
  rw [decide_eq_false (by omega)] at hc
  have hinf : decide (g % 9223372036854775808 = 9218868437227405312) = false := by rw [decide_eq_false]; omega
  have hnan : decide (nan g) = false := by rw [decide_eq_false]; unfold nan; omega
  go_enter Tryz.func140, Tryz.ntmps140
  go_wp2_with (first | (go_at_call 86; refine (isInf0_any _ _ (by omega)).mono ?_; rintro e w1 ⟨rfl, hw1⟩; rw [hw1, hinf]; clear hw1 w1) | (go_at_call 84; refine (isNaN_any _ _ (by omega)).mono ?_; rintro e w1 ⟨rfl, hw1⟩; rw [hw1, hnan]; clear hw1 w1) | (go_at_call 158; refine (normalize_any _ _ h0 h).mono ?_; rintro e w1 ⟨⟨k, n, rfl, hn, hk1, hk2, hk3⟩, hw1⟩; rw [hw1]; clear hw1 w1))
  rw [u64_expo k hk2, u64_frac k hk2, u64_half _ (by omega)]
  go_ret2
  obtain ⟨p1, p2, p3⟩ := norm_parts k hk1
  refine ⟨⟨sig k, ex k, n, ?_, hn, by omega, p2, p3, hk3⟩, rfl⟩
  have e1 : ((4602678819172646912 + k % 4503599627370496 : Nat) : Int).toNat = 4602678819172646912 + (sig k - 4503599627370496) := by rw [Int.toNat_natCast]; omega
  have e2 : wrap64 (-(n : Int) + wrap64 (wrap64 (wrap64 ((k / 4503599627370496 : Nat) : Int) - 1023) + 1)) = (ex k : Int) - (n : Int) - 1021 := by
    have e3 : k / 4503599627370496 = ex k + 1 := by omega
    have e4 : ex k < 2046 := by omega
    rw [e3, wrap64_id (ex k + 1 : Nat) (by omega) (by omega), wrap64_id (((ex k + 1 : Nat) : Int) - 1023) (by omega) (by omega), wrap64_id (((ex k + 1 : Nat) : Int) - 1023 + 1) (by omega) (by omega), wrap64_id _ (by omega) (by omega)]
    omega
  rw [e1, e2]
  rfl

set_option maxHeartbeats 400000 in
theorem frexp_any (g : Nat) (w : World) (h0 : 1 ≤ g) (h : g < 9218868437227405312) :
    Calls Tryz.prog 123 #[.float .f64 g] w fun e w' => (∃ S E n : Nat, e = .returned (.tuple #[.float .f64 (4602678819172646912 + (S - 4503599627370496)), .int .i64 ((E : Int) - (n : Int) - 1021)]) ∧ n ≤ 52 ∧ E ≤ 2046 ∧ 4503599627370496 ≤ S ∧ S < 9007199254740992 ∧ S * 2 ^ E = val g * 2 ^ n) ∧ w' = w := by
  have HF := Hid.mk' (frexp_low g w h0 h)
  go_enter Tryz.func123, Tryz.ntmps123
  go_wp2_with (go_at_call 140; refine HF.out.mono ?_; rintro e w1 ⟨⟨S, E, n, rfl, h1, h5, h2, h3, h4⟩, hw1⟩; rw [hw1]; clear hw1 w1)
  go_ret2
  exact ⟨⟨S, E, n, rfl, h1, h5, h2, h3, h4⟩, rfl⟩

set_option maxHeartbeats 400000 in
theorem frexp_inf (w : World) :
    Calls Tryz.prog 123 #[.float .f64 9218868437227405312] w fun e w' => e = .returned (.tuple #[.float .f64 9218868437227405312, .int .i64 0]) ∧ w' = w := by
  have hc := eq_eq 9218868437227405312 0 (by omega) (by omega) (by omega) (by omega)
  rw [decide_eq_false (by omega)] at hc
  have hinf : decide (9218868437227405312 % 9223372036854775808 = 9218868437227405312) = true := by rw [decide_eq_true]; omega
  have HF : Hid (Calls Tryz.prog 140 #[.float .f64 9218868437227405312] w fun e w' => e = .returned (.tuple #[.float .f64 9218868437227405312, .int .i64 0]) ∧ w' = w) := by
    show Calls _ _ _ _ _
    go_enter Tryz.func140, Tryz.ntmps140
    go_wp2_with (first | (go_at_call 86; refine (isInf0_any _ _ (by omega)).mono ?_; rintro e w1 ⟨rfl, hw1⟩; rw [hw1, hinf]; clear hw1 w1))
    go_ret2
    exact ⟨rfl, rfl⟩
  go_enter Tryz.func123, Tryz.ntmps123
  go_wp2_with (go_at_call 140; refine HF.out.mono ?_; rintro e w1 ⟨rfl, hw1⟩; rw [hw1]; clear hw1 w1)
  go_ret2
  exact ⟨rfl, rfl⟩

set_option maxHeartbeats 400000 in
theorem ldexp_low (h d j : Nat) (w : World) (h0 : 1 ≤ h) (hh : h < 9218868437227405312) (hj : j < 9218868437227405312) (hv : val j = val h * 2 ^ d) :
    Calls Tryz.prog 142 #[.float .f64 h, .int .i64 d] w fun e w' => e = .returned (.float .f64 j) ∧ w' = w := by
  have hmod : h % 9223372036854775808 = h := by omega
  have hc := eq_eq h 0 (by omega) (by omega) (by omega) (by omega)
  rw [decide_eq_false (by omega)] at hc
  have hinf : decide (h % 9223372036854775808 = 9218868437227405312) = false := by rw [decide_eq_false]; omega
  have hnan : decide (nan h) = false := by rw [decide_eq_false]; unfold nan; omega
  have hvh : val h ≠ 0 := fun e => by have := (val_zero h).1 e; omega
  have hlj : (val h).log2 + d ≤ 2097 := by
    have := val_inf_lt j hj
    rw [hv, log2_mul_pow _ _ hvh] at this
    exact this
  go_enter Tryz.func142, Tryz.ntmps142
  go_wp2_with (first | (go_at_call 86; refine (isInf0_any _ _ (by omega)).mono ?_; rintro e w1 ⟨rfl, hw1⟩; rw [hw1, hinf]; clear hw1 w1) | (go_at_call 84; refine (isNaN_any _ _ (by omega)).mono ?_; rintro e w1 ⟨rfl, hw1⟩; rw [hw1, hnan]; clear hw1 w1))
  refine (normalize_any _ _ h0 hh).mono ?_
  rintro e w1 ⟨⟨k, n, rfl, hn, hk1, hk2, hk3⟩, hw1⟩; rw [hw1]; clear hw1 w1
  obtain ⟨p1, p2, p3⟩ := norm_parts k hk1
  have hX : wrap64 ((d : Int) + -(n : Int) + wrap64 (bits .and .i64 ((k : Int) / 4503599627370496) 2047 - 1023)) = (d : Int) + (ex k : Int) - (n : Int) - 1022 := by
    have e3 : k / 4503599627370496 = ex k + 1 := by omega
    have e4 : ex k < 2046 := by omega
    rw [i64_expo k hk2, e3, wrap64_id (((ex k + 1 : Nat) : Int) - 1023) (by omega) (by omega), wrap64_id _ (by omega) (by omega)]
    omega
  have hk0 : k ≠ 0 := by omega
  have hlk : (val h).log2 + n = 52 + ex k := by
    have a1 := log2_mul_pow (val h) n hvh
    have a2 := val_log k hk0
    rw [← hk3] at a1
    rcases ex_cases k hk0 with ⟨_, _, a3, _⟩ | ⟨_, a3⟩
    · omega
    · omega
  have hfr := u64_frac k hk2
  have HFR := Hid.mk' hfr
  clear hfr
  by_cases hsub : d + ex k < n
  · obtain ⟨q, hq⟩ : ∃ q : Nat, q = (d + ex k + 54 - n) * 4503599627370496 + k % 4503599627370496 := ⟨_, rfl⟩
    have hq1 : (bits .or .u64 (bits .andNot .u64 (k : Int) 9218868437227405312) (((d : Int) + (ex k : Int) - (n : Int) - 1022 + 53 + 1023) * 4503599627370496)).toNat = q := by
      have e1 : ((d : Int) + (ex k : Int) - (n : Int) - 1022 + 53 + 1023) * 4503599627370496 = (((d + ex k + 54 - n) * 4503599627370496 : Nat) : Int) := by omega
      rw [e1, HFR.out, u64_or_nat _ _ (by omega) (by omega), or_exp _ _ (by omega), hq]
      exact Int.toNat_natCast _
    have HM := Hid.mk' (fun W => run_mul 24 4368491638549381120 q j W (mul_pos 4368491638549381120 q j (by omega) (by omega) hj (by
      have v1 := val_pow' 969 1021 rfl
      rw [show (969 + 1) * 4503599627370496 = 4368491638549381120 from rfl] at v1
      rw [hq]
      exact ld_worth (T := 1074) (e := 53) hk1 hk3 hv v1 (by omega) rfl)))
    have HX := Hid.mk' hX
    have HQ1 := Hid.mk' hq1
    clear p1 hq hq1 hX hv hk3
    go_wp2
    · exfalso; have := HX.out; omega
    · exfalso; have := HX.out; omega
    · exfalso; have := HX.out; omega
    · rw [HX.out, HQ1.out, HM.out]
      go_wp2
      go_ret
      exact ⟨rfl, rfl⟩
    · exfalso; have := HX.out; omega
  · obtain ⟨q, hq⟩ : ∃ q : Nat, q = (d + ex k + 1 - n) * 4503599627370496 + k % 4503599627370496 := ⟨_, rfl⟩
    have hq1 : (bits .or .u64 (bits .andNot .u64 (k : Int) 9218868437227405312) (((d : Int) + (ex k : Int) - (n : Int) - 1022 + 1023) * 4503599627370496)).toNat = q := by
      have e1 : ((d : Int) + (ex k : Int) - (n : Int) - 1022 + 1023) * 4503599627370496 = (((d + ex k + 1 - n) * 4503599627370496 : Nat) : Int) := by omega
      rw [e1, HFR.out, u64_or_nat _ _ (by omega) (by omega), or_exp _ _ (by omega), hq]
      exact Int.toNat_natCast _
    have HM := Hid.mk' (fun W => run_mul 24 4607182418800017408 q j W (mul_pos 4607182418800017408 q j (by omega) (by omega) hj (by
      have v1 := val_pow' 1022 1074 rfl
      rw [show (1022 + 1) * 4503599627370496 = 4607182418800017408 from rfl] at v1
      rw [hq]
      exact ld_worth (T := 1074) (e := 0) hk1 hk3 hv v1 (by omega) rfl)))
    have HX := Hid.mk' hX
    have HQ1 := Hid.mk' hq1
    clear p1 hq hq1 hX hv hk3
    go_wp2
    · exfalso; have := HX.out; omega
    · exfalso; have := HX.out; omega
    · exfalso; have := HX.out; omega
    · exfalso; have := HX.out; omega
    · rw [HX.out, HQ1.out, HM.out]
      go_wp2
      go_ret
      exact ⟨rfl, rfl⟩
end Go.Proofs.YtbkkkpfoaggejaaGreatDoor
