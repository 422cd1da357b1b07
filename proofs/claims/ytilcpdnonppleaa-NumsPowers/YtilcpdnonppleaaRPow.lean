/- lintelref02.Pow: the document's powers, case by case. -/
import Derived.Test.YtilcpdnonppleaaPow3
namespace Go.Proofs.Ytilcpdnonppleaa
set_option linter.unusedVariables false
open Go.RowKit Fl

set_option maxHeartbeats 1000000 in
set_option maxRecDepth 100000 in
theorem rpow_nanb (a b : Nat) (w : World) (ha : a < 18446744073709551616) (hb : b < 18446744073709551616) (nb : nan b) :
    Calls Try.prog 32 #[.float .f64 a, .float .f64 b] w fun e w' => e = .returned (.float .f64 9221120237041090561) ∧ w' = w := by
  have HNB := Hid.mk' (fun W => bad_any b W hb)
  have HNA := Hid.mk' (fun W => bad_any a W ha)
  have HI := Hid.mk' (fun W => wide_any b W hb)
  have h0 := eq0 b hb
  rw [decide_eq_true nb] at HNB
  go_enter Try.func32, Try.ntmps32
  go_wp2_with (first | (go_at_call 43; first | (refine (HNB.out _).mono ?_; rintro e w1 ⟨rfl, hw1⟩; rw [hw1]; clear hw1 w1) | (refine (HNA.out _).mono ?_; rintro e w1 ⟨rfl, hw1⟩; rw [hw1]; clear hw1 w1)) | (go_at_call 44; first | (refine (HI.out _).mono ?_; rintro e w1 ⟨rfl, hw1⟩; rw [hw1]; clear hw1 w1)) | (go_at_call 46; refine (nan_any _).mono ?_; rintro e w1 ⟨rfl, hw1⟩; rw [hw1]; clear hw1 w1))
  go_ret
  exact ⟨rfl, rfl⟩
set_option maxHeartbeats 1000000 in
set_option maxRecDepth 100000 in
theorem rpow_b0 (a b : Nat) (w : World) (ha : a < 18446744073709551616) (hb : b < 18446744073709551616) (nb : ¬ nan b) (hz : b % 9223372036854775808 = 0) :
    Calls Try.prog 32 #[.float .f64 a, .float .f64 b] w fun e w' => e = .returned (.float .f64 4607182418800017408) ∧ w' = w := by
  have HNB := Hid.mk' (fun W => bad_any b W hb)
  have HNA := Hid.mk' (fun W => bad_any a W ha)
  have HI := Hid.mk' (fun W => wide_any b W hb)
  have h0 := eq0 b hb
  rw [decide_eq_false nb] at HNB
  rw [decide_eq_true hz] at h0
  go_enter Try.func32, Try.ntmps32
  go_wp2_with (first | (go_at_call 43; first | (refine (HNB.out _).mono ?_; rintro e w1 ⟨rfl, hw1⟩; rw [hw1]; clear hw1 w1) | (refine (HNA.out _).mono ?_; rintro e w1 ⟨rfl, hw1⟩; rw [hw1]; clear hw1 w1)) | (go_at_call 44; first | (refine (HI.out _).mono ?_; rintro e w1 ⟨rfl, hw1⟩; rw [hw1]; clear hw1 w1)) | (go_at_call 46; refine (nan_any _).mono ?_; rintro e w1 ⟨rfl, hw1⟩; rw [hw1]; clear hw1 w1))
  go_ret
  exact ⟨rfl, rfl⟩
set_option maxHeartbeats 1000000 in
set_option maxRecDepth 100000 in
theorem rpow_nana (a b : Nat) (w : World) (ha : a < 18446744073709551616) (hb : b < 18446744073709551616) (nb : ¬ nan b) (hz : ¬ b % 9223372036854775808 = 0) (na : nan a) :
    Calls Try.prog 32 #[.float .f64 a, .float .f64 b] w fun e w' => e = .returned (.float .f64 9221120237041090561) ∧ w' = w := by
  have HNB := Hid.mk' (fun W => bad_any b W hb)
  have HNA := Hid.mk' (fun W => bad_any a W ha)
  have HI := Hid.mk' (fun W => wide_any b W hb)
  have h0 := eq0 b hb
  rw [decide_eq_false nb] at HNB
  rw [decide_eq_false hz] at h0
  rw [decide_eq_true na] at HNA
  go_enter Try.func32, Try.ntmps32
  go_wp2_with (first | (go_at_call 43; first | (refine (HNB.out _).mono ?_; rintro e w1 ⟨rfl, hw1⟩; rw [hw1]; clear hw1 w1) | (refine (HNA.out _).mono ?_; rintro e w1 ⟨rfl, hw1⟩; rw [hw1]; clear hw1 w1)) | (go_at_call 44; first | (refine (HI.out _).mono ?_; rintro e w1 ⟨rfl, hw1⟩; rw [hw1]; clear hw1 w1)) | (go_at_call 46; refine (nan_any _).mono ?_; rintro e w1 ⟨rfl, hw1⟩; rw [hw1]; clear hw1 w1))
  go_ret
  exact ⟨rfl, rfl⟩
set_option maxHeartbeats 1000000 in
set_option maxRecDepth 100000 in
theorem rpow_part (a b : Nat) (w : World) (ha : a < 18446744073709551616) (hb : b < 18446744073709551616) (na : ¬ nan a) (hB : b % 9223372036854775808 < 9218868437227405312) (hz : ¬ b % 9223372036854775808 = 0) (hh : b ≠ 4602678819172646912) (hp : ¬ val (b % 9223372036854775808) = tr (b % 9223372036854775808) * 2 ^ 1074) :
    Calls Try.prog 32 #[.float .f64 a, .float .f64 b] w fun e w' => e = .returned (.float .f64 9221120237041090561) ∧ w' = w := by
  have nb : ¬ nan b := by unfold nan; omega
  have HNB := Hid.mk' (fun W => bad_any b W hb)
  have HNA := Hid.mk' (fun W => bad_any a W ha)
  have HI := Hid.mk' (fun W => wide_any b W hb)
  have h0 := eq0 b hb
  rw [decide_eq_false nb] at HNB
  rw [decide_eq_false hz] at h0
  rw [decide_eq_false na] at HNA
  rw [decide_eq_false (by omega)] at HI
  have h5 := half_no b hb hh
  obtain ⟨k, hk, hv⟩ := tr_rep (b % 9223372036854775808) hB
  have HT := Hid.mk' (fun W => trunc_fin b k W hb hB hk hv)
  have hkB : k ≠ b % 9223372036854775808 := fun e => hp (by rw [e] at hv; exact hv)
  have hne : (FloatKind.f64.format.order (sgn b k) b != some Ordering.eq) = true := by
    have := eqf (sgn b k) b (sgn_lt b k (by omega)) hb
    rw [decide_eq_false (fun q => hkB (by
      have q2 := key_inj (sgn b k) b (sgn_lt b k (by omega)) hb (by first | exact (sgn_sign b k (by omega)).symm | exact sgn_sign b k (by omega)) q.2.2
      have q3 : sgn b k % 9223372036854775808 = k := sgn_mod b k (by omega)
      omega))] at this
    show (!_) = true
    rw [this]; rfl
  clear hv hp hh hkB
  go_enter Try.func32, Try.ntmps32
  go_wp2_with (first | (go_at_call 43; first | (refine (HNB.out _).mono ?_; rintro e w1 ⟨rfl, hw1⟩; rw [hw1]; clear hw1 w1) | (refine (HNA.out _).mono ?_; rintro e w1 ⟨rfl, hw1⟩; rw [hw1]; clear hw1 w1)) | (go_at_call 44; first | (refine (HI.out _).mono ?_; rintro e w1 ⟨rfl, hw1⟩; rw [hw1]; clear hw1 w1)) | (go_at_call 46; refine (nan_any _).mono ?_; rintro e w1 ⟨rfl, hw1⟩; rw [hw1]; clear hw1 w1) | (go_at_call 42; first | (refine (HT.out _).mono ?_; rintro e w1 ⟨rfl, hw1⟩; rw [hw1]; clear hw1 w1)))
  go_ret
  exact ⟨rfl, rfl⟩

set_option maxHeartbeats 1000000 in
theorem far_any (a : Nat) (up : Bool) (w : World) (ha : a < 18446744073709551616) (na : ¬ nan a) :
    Calls Try.prog 51 #[.float .f64 a, .bool up] w fun e w' => e = .returned (.float .f64 (endless (a % 9223372036854775808) up)) ∧ w' = w := by
  have HA := Hid.mk' (fun W => abs_any a W ha)
  have hA : a % 9223372036854775808 ≤ 9218868437227405312 := by unfold nan at na; omega
  have h1 := eq_eq (a % 9223372036854775808) 4607182418800017408 (by omega) (by omega) hA (by omega)
  have h2 := gt_c (a % 9223372036854775808) 4607182418800017408 (by omega) hA (by omega)
  generalize a % 9223372036854775808 = A at *
  unfold endless
  by_cases c1 : A = 4607182418800017408
  · rw [decide_eq_true c1] at h1
    rw [if_pos c1]
    clear c1
    go_enter Try.func51, Try.ntmps51
    go_wp2_with (first | (go_at_call 37; first | (refine (HA.out _).mono ?_; rintro e w1 ⟨rfl, hw1⟩; rw [hw1]; clear hw1 w1)) | (go_at_call 46; refine (nan_any _).mono ?_; rintro e w1 ⟨rfl, hw1⟩; rw [hw1]; clear hw1 w1))
    go_ret
    exact ⟨rfl, rfl⟩
  · rw [decide_eq_false c1] at h1
    rw [if_neg c1]
    generalize decide (4607182418800017408 < A) = gr at *
    by_cases c2 : gr = up
    · rw [if_pos c2]
      subst c2
      go_enter Try.func51, Try.ntmps51
      go_wp2_with (first | (go_at_call 37; first | (refine (HA.out _).mono ?_; rintro e w1 ⟨rfl, hw1⟩; rw [hw1]; clear hw1 w1)) | (go_at_call 52; refine (inf_any _).mono ?_; rintro e w1 ⟨rfl, hw1⟩; rw [hw1]; clear hw1 w1))
      go_ret
      exact ⟨rfl, rfl⟩
    · rw [if_neg c2]
      have c3 : (gr == up) = false := by simp [c2]
      clear c2
      go_enter Try.func51, Try.ntmps51
      go_wp2_with (first | (go_at_call 37; first | (refine (HA.out _).mono ?_; rintro e w1 ⟨rfl, hw1⟩; rw [hw1]; clear hw1 w1)))
      go_ret
      exact ⟨rfl, rfl⟩

set_option maxHeartbeats 1000000 in
set_option maxRecDepth 100000 in
theorem rpow_inf (a b : Nat) (w : World) (ha : a < 18446744073709551616) (hb : b < 18446744073709551616) (na : ¬ nan a) (hB : b % 9223372036854775808 = 9218868437227405312) :
    Calls Try.prog 32 #[.float .f64 a, .float .f64 b] w fun e w' => e = .returned (.float .f64 (endless (a % 9223372036854775808) (decide (b < 9223372036854775808)))) ∧ w' = w := by
  have nb : ¬ nan b := by unfold nan; omega
  have HNB := Hid.mk' (fun W => bad_any b W hb)
  have HNA := Hid.mk' (fun W => bad_any a W ha)
  have HI := Hid.mk' (fun W => wide_any b W hb)
  have h0 := eq0 b hb
  rw [decide_eq_false nb] at HNB
  rw [decide_eq_false (by omega)] at h0
  rw [decide_eq_false na] at HNA
  rw [decide_eq_true hB] at HI
  have h3 := gt_any b 0 hb nb (by omega)
  rw [show decide (b < 9223372036854775808 ∧ 0 < b) = decide (b < 9223372036854775808) from decide_eq_decide.2 (by omega)] at h3
  generalize decide (b < 9223372036854775808) = up at *
  have HE := Hid.mk' (fun W => far_any a up W ha na)
  go_enter Try.func32, Try.ntmps32
  go_wp2_with (first | (go_at_call 43; first | (refine (HNB.out _).mono ?_; rintro e w1 ⟨rfl, hw1⟩; rw [hw1]; clear hw1 w1) | (refine (HNA.out _).mono ?_; rintro e w1 ⟨rfl, hw1⟩; rw [hw1]; clear hw1 w1)) | (go_at_call 44; first | (refine (HI.out _).mono ?_; rintro e w1 ⟨rfl, hw1⟩; rw [hw1]; clear hw1 w1)) | (go_at_call 51; first | (refine (HE.out _).mono ?_; rintro e w1 ⟨rfl, hw1⟩; rw [hw1]; clear hw1 w1)))
  go_ret
  exact ⟨rfl, rfl⟩

set_option maxHeartbeats 1000000 in
set_option maxRecDepth 100000 in
theorem rpow_root (a : Nat) (w : World) (ha : a < 18446744073709551616) (na : ¬ nan a) :
    Calls Try.prog 32 #[.float .f64 a, .float .f64 4602678819172646912] w fun e w' => ∃ r n, e = .returned (.float .f64 r) ∧ RootIs a r ∧ w' = w.drewN n := by
  have HNB := Hid.mk' (fun W => bad_any 4602678819172646912 W (by omega))
  have HNA := Hid.mk' (fun W => bad_any a W ha)
  have HI := Hid.mk' (fun W => wide_any 4602678819172646912 W (by omega))
  have HJ := Hid.mk' (fun W => wide_any a W ha)
  have h0 := eq0 4602678819172646912 (by omega)
  rw [decide_eq_false (by unfold nan; omega)] at HNB
  rw [decide_eq_false (by omega)] at h0
  rw [decide_eq_false na] at HNA
  rw [decide_eq_false (by omega)] at HI
  have h5 := half_yes
  unfold nan at na
  by_cases c1 : a % 9223372036854775808 = 9218868437227405312
  · rw [decide_eq_true c1] at HJ
    have HR : Hid (RootIs a 9218868437227405312) := ⟨by omega, .inr (.inl ⟨c1, rfl⟩)⟩
    clear c1
    go_enter Try.func32, Try.ntmps32
    go_wp2_with (first | (go_at_call 43; first | (refine (HNB.out _).mono ?_; rintro e w1 ⟨rfl, hw1⟩; rw [hw1]; clear hw1 w1) | (refine (HNA.out _).mono ?_; rintro e w1 ⟨rfl, hw1⟩; rw [hw1]; clear hw1 w1)) | (go_at_call 44; first | (refine (HI.out _).mono ?_; rintro e w1 ⟨rfl, hw1⟩; rw [hw1]; clear hw1 w1) | (refine (HJ.out _).mono ?_; rintro e w1 ⟨rfl, hw1⟩; rw [hw1]; clear hw1 w1)) | (go_at_call 52; refine (inf_any _).mono ?_; rintro e w1 ⟨rfl, hw1⟩; rw [hw1]; clear hw1 w1))
    go_ret
    exact ⟨_, 0, rfl, HR.out, rfl⟩
  · rw [decide_eq_false c1] at HJ
    by_cases c2 : a % 9223372036854775808 = 0
    · have HR : Hid (RootIs a 0) := ⟨by omega, .inl ⟨c2, rfl⟩⟩
      have hq : Ieee.double.sqrt a = some a ∧ Ieee.double.add a 0 = some 0 := by
        have : a = 0 ∨ a = 9223372036854775808 := by omega
        rcases this with rfl | rfl
        · exact ⟨by decide, by decide⟩
        · exact ⟨by decide, by decide⟩
      have HS := Hid.mk' (fun W => sqrt_some_any a a W hq.1)
      have HP := Hid.mk' (fun W => run_add 22 a 0 0 W hq.2)
      clear c1 c2 hq
      go_enter Try.func32, Try.ntmps32
      go_wp2_with (first | (go_at_call 43; first | (refine (HNB.out _).mono ?_; rintro e w1 ⟨rfl, hw1⟩; rw [hw1]; clear hw1 w1) | (refine (HNA.out _).mono ?_; rintro e w1 ⟨rfl, hw1⟩; rw [hw1]; clear hw1 w1)) | (go_at_call 44; first | (refine (HI.out _).mono ?_; rintro e w1 ⟨rfl, hw1⟩; rw [hw1]; clear hw1 w1) | (refine (HJ.out _).mono ?_; rintro e w1 ⟨rfl, hw1⟩; rw [hw1]; clear hw1 w1)) | (go_at_call 53; first | (refine (HS.out _).mono ?_; rintro e w1 ⟨rfl, hw1⟩; rw [hw1]; clear hw1 w1)) | rw [HP.out])
      go_ret
      exact ⟨_, 0, rfl, HR.out, rfl⟩
    · by_cases c3 : a < 9223372036854775808
      · obtain ⟨r, r1, r2⟩ := sqrt_pos a (by omega) (by omega)
        have HR : Hid (RootIs a r) := ⟨by omega, .inr (.inr (.inl ⟨c2, by omega, c3, r1⟩))⟩
        have HS := Hid.mk' (fun W => sqrt_some_any a r W r1)
        have HP := Hid.mk' (fun W => run_add 22 r 0 r W (add_zero_pos r r2))
        clear c1 c2 r1
        go_enter Try.func32, Try.ntmps32
        go_wp2_with (first | (go_at_call 43; first | (refine (HNB.out _).mono ?_; rintro e w1 ⟨rfl, hw1⟩; rw [hw1]; clear hw1 w1) | (refine (HNA.out _).mono ?_; rintro e w1 ⟨rfl, hw1⟩; rw [hw1]; clear hw1 w1)) | (go_at_call 44; first | (refine (HI.out _).mono ?_; rintro e w1 ⟨rfl, hw1⟩; rw [hw1]; clear hw1 w1) | (refine (HJ.out _).mono ?_; rintro e w1 ⟨rfl, hw1⟩; rw [hw1]; clear hw1 w1)) | (go_at_call 53; first | (refine (HS.out _).mono ?_; rintro e w1 ⟨rfl, hw1⟩; rw [hw1]; clear hw1 w1)) | rw [HP.out])
        go_ret
        exact ⟨_, 0, rfl, HR.out, rfl⟩
      · have hsn := sqrt_neg a (by omega) (by omega) ha
        have HS := Hid.mk' (fun W => sqrt_none_any a W hsn)
        have HR : Hid (∀ r, r < 18446744073709551616 → nan r → RootIs a r) := fun r h1 h2 => ⟨h1, .inr (.inr (.inr ⟨c2, by omega, by omega, h2⟩))⟩
        clear c1 c2 c3
        go_enter Try.func32, Try.ntmps32
        go_wp2_with (first | (go_at_call 43; first | (refine (HNB.out _).mono ?_; rintro e w1 ⟨rfl, hw1⟩; rw [hw1]; clear hw1 w1) | (refine (HNA.out _).mono ?_; rintro e w1 ⟨rfl, hw1⟩; rw [hw1]; clear hw1 w1)) | (go_at_call 44; first | (refine (HI.out _).mono ?_; rintro e w1 ⟨rfl, hw1⟩; rw [hw1]; clear hw1 w1) | (refine (HJ.out _).mono ?_; rintro e w1 ⟨rfl, hw1⟩; rw [hw1]; clear hw1 w1)))
        refine (HS.out _).mono ?_
        rintro e w1 ⟨r, n, rfl, hr, hrn, hw1⟩
        rw [hw1]
        clear hw1 w1
        go_wp2_with fail
        obtain ⟨s, m, hs, hs1, hs2⟩ := add_nan r hr hrn (w.drewN n)
        rw [hs]
        go_wp2
        go_ret
        exact ⟨s, n + m, rfl, HR.out s hs1 hs2, by simp [World.drewN]⟩

end Go.Proofs.Ytilcpdnonppleaa
