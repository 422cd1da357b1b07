/- lintellaw02.awake: the chapter's examples. -/
import Derived.Test.YtilcpdnonppleaaPow1
namespace Go.Proofs.Ytilcpdnonppleaa
set_option linter.unusedVariables false
open Go.RowKit Fl

/-- A whole number's worth, from its parts. -/
theorem whole_of (c e f n d : Nat) (hc : c = (e + 1) * 4503599627370496 + f) (hf : f < 4503599627370496) (hn : n * 2 ^ d = 4503599627370496 + f) (he : d + e = 1074) : val c = n * 2 ^ 1074 := by
  rw [hc, val_norm e f hf, ← hn, Nat.mul_assoc, pow_split he]
theorem tr_31 : tr 4746794007248502784 = 2147483648 := tr_of _ _ (whole_of _ 1053 0 2147483648 21 rfl (by omega) rfl rfl)
theorem tr_1 : tr 4607182418800017408 = 1 := tr_of _ _ (whole_of _ 1022 0 1 52 rfl (by omega) rfl rfl)
theorem tr_33 : tr 4629841154425225216 = 33 := tr_of _ _ (whole_of _ 1027 140737488355328 33 47 rfl (by omega) rfl rfl)
theorem u32_pos (x n : Nat) (h : x < 9218868437227405312) (ht : tr x = n) : u32 x = (n : Int) % 4294967296 := by
  unfold u32 tz
  rw [if_pos (by omega), if_neg (by omega), show x % 9223372036854775808 = x by omega, ht]
theorem u32_neg (x n : Nat) (h : x < 9218868437227405312) (ht : tr x = n) : u32 (9223372036854775808 + x) = -(n : Int) % 4294967296 := by
  unfold u32 tz
  rw [if_pos (by omega), if_pos (by omega), show (9223372036854775808 + x) % 9223372036854775808 = x by omega, ht]
theorem u_31 : u32 4746794007248502784 = 2147483648 := (u32_pos _ _ (by omega) tr_31).trans (by decide)
theorem u_m1 : u32 13830554455654793216 = 4294967295 := (u32_neg 4607182418800017408 1 (by omega) tr_1).trans (by decide)
theorem u_1 : u32 4607182418800017408 = 1 := (u32_pos _ _ (by omega) tr_1).trans (by decide)
theorem u_33 : u32 4629841154425225216 = 33 := (u32_pos _ _ (by omega) tr_33).trans (by decide)
theorem u_0 : u32 0 = 0 := (u32_pos 0 0 (by omega) tr_zero).trans (by decide)
theorem scaled (c e f n d D : Nat) (hc : c = (e + 1) * 4503599627370496 + f) (hf : f < 4503599627370496) (hn : n = (4503599627370496 + f) * 2 ^ d) (he : d + D = e) : val c = n * 2 ^ D := by
  rw [hc, val_norm e f hf, hn, Nat.mul_assoc, pow_split he]
theorem rest_gen {vx vy vg a b c D : Nat} (hx : vx = a * 2 ^ D) (hy : vy = b * 2 ^ D) (hg : vg = c * 2 ^ D) (h : a % b = c) : vg = vx % vy := by
  rw [hx, hy, hg, mul_mod_gen, h]
theorem rest_ex : RestIs 4617878467915022336 4611686018427387904 4609434218613702656 := by
  refine .inr ⟨by unfold nan; omega, 4609434218613702656, rfl, by omega, ?_⟩
  rw [show 4617878467915022336 % 9223372036854775808 = 4617878467915022336 from rfl, show 4611686018427387904 % 9223372036854775808 = 4611686018427387904 from rfl]
  exact rest_gen (D := 1022) (scaled 4617878467915022336 1024 1688849860263936 24769797950537728 2 1022 rfl (by omega) rfl rfl) (scaled 4611686018427387904 1023 0 9007199254740992 1 1022 rfl (by omega) rfl rfl) (scaled 4609434218613702656 1022 2251799813685248 6755399441055744 0 1022 rfl (by omega) rfl rfl) rfl
theorem pw_ex : pw 4611686018427387904 13830554455654793216 = 4602678819172646912 := by
  unfold pw
  rw [if_pos (by omega), show 13830554455654793216 % 9223372036854775808 = 4607182418800017408 from rfl, tr_1]
  have h1 := P_early (a := 4611686018427387904) (n := 1) 10 (by decide) (by omega)
  rw [P, h1, mul_one_one]
  decide

set_option maxRecDepth 100000 in
set_option maxHeartbeats 1000000 in
theorem awake_any (w : World) : Calls Try.prog 9 #[] w fun e w' => e = .returned (.bool true) ∧ w' = w := by
  have H1 := Hid.mk' (fun W => int32_any 4746794007248502784 W (by omega))
  rw [u_31, show wrap32 2147483648 = -2147483648 by unfold wrap32; omega] at H1
  have H2 := Hid.mk' (fun W => uint32_any 13830554455654793216 W (by omega))
  rw [u_m1] at H2
  have H3 := Hid.mk' (fun W => rem_is 4617878467915022336 4611686018427387904 W (by omega) (by omega))
  have hw1 : val (13830554455654793216 % 9223372036854775808) = tr (13830554455654793216 % 9223372036854775808) * 2 ^ 1074 := by
    rw [show 13830554455654793216 % 9223372036854775808 = 4607182418800017408 from rfl, tr_1]
    exact whole_of _ 1022 0 1 52 rfl (by omega) rfl rfl
  have ht1 : 1 ≤ tr (13830554455654793216 % 9223372036854775808) := by rw [show 13830554455654793216 % 9223372036854775808 = 4607182418800017408 from rfl, tr_1]; exact Nat.le_refl _
  have H4 := Hid.mk' (fun W => pow_whole 4611686018427387904 13830554455654793216 _ W (by omega) (by unfold nan; omega) (by omega) (by omega) ht1 hw1 (fun W => powWhole_small 4611686018427387904 13830554455654793216 W (by omega) (by unfold nan; omega) (by omega) (by omega) ht1))
  rw [pw_ex] at H4
  have H5 := Hid.mk' (fun W => left_any 4607182418800017408 4629841154425225216 W (by omega) (by omega))
  rw [u_1, u_33, show wrap32 (wrap32 1 * 2 ^ ((33 : Int) % 32).toNat) = 2 by (rw [show ((33 : Int) % 32).toNat = 1 from rfl]; unfold wrap32; omega), show floatOfInt .f64 2 = 4611686018427387904 by decide] at H5
  have H6 := Hid.mk' (fun W => over_any 13830554455654793216 0 W (by omega) (by omega))
  rw [u_m1, u_0, show (4294967295 : Int) / 2 ^ ((0 : Int) % 32).toNat = 4294967295 by decide, show floatOfInt .f64 4294967295 = 4751297606873776128 by decide] at H6
  have q1 : (FloatKind.f64.format.order 4609434218613702656 4609434218613702656 == some Ordering.eq) = true := by decide
  have q2 : (FloatKind.f64.format.order 4602678819172646912 4602678819172646912 == some Ordering.eq) = true := by decide
  have q3 : (FloatKind.f64.format.order 4611686018427387904 4611686018427387904 == some Ordering.eq) = true := by decide
  have q4 : (FloatKind.f64.format.order 4751297606873776128 4751297606873776128 == some Ordering.eq) = true := by decide
  clear hw1 ht1
  go_enter Try.func9, Try.ntmps9
  go_wp2_with (first | (go_at_call 10; refine (H1.out _).mono ?_; rintro e w1 ⟨rfl, hw1⟩; rw [hw1]; clear hw1 w1) | (go_at_call 12; refine (H2.out _).mono ?_; rintro e w1 ⟨rfl, hw1⟩; rw [hw1]; clear hw1 w1) | (go_at_call 29; refine (H3.out _).mono ?_; rintro e w1 ⟨⟨r, rfl, hr⟩, hw1⟩; rw [hw1]; clear hw1 w1; obtain rfl := hr.inj rest_ex; clear hr) | (go_at_call 31; refine (H4.out _).mono ?_; rintro e w1 ⟨rfl, hw1⟩; rw [hw1]; clear hw1 w1) | (go_at_call 21; refine (H5.out _).mono ?_; rintro e w1 ⟨rfl, hw1⟩; rw [hw1]; clear hw1 w1) | (go_at_call 25; refine (H6.out _).mono ?_; rintro e w1 ⟨rfl, hw1⟩; rw [hw1]; clear hw1 w1))
  go_ret
  exact ⟨rfl, rfl⟩
end Go.Proofs.Ytilcpdnonppleaa
