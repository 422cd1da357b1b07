/- lintelref02.Pow: whole powers. -/
import Derived.Test.YtilcpdnonppleaaRPow
namespace Go.Proofs.Ytilcpdnonppleaa
set_option linter.unusedVariables false
open Go.RowKit Fl

theorem pw_neg {a b B : Nat} (h : 9223372036854775808 < b) (hB : b % 9223372036854775808 = B) : pw a b = divC one (P a (tr B) 11) := by unfold pw; rw [if_pos h, hB]
theorem pw_pos {a b B : Nat} (h : ¬ 9223372036854775808 < b) (hB : b % 9223372036854775808 = B) : pw a b = P a (tr B) 11 := by unfold pw; rw [if_neg h, hB]
theorem rbit_eq (n i : Nat) (hn : n < 9223372036854775808) : (((n : Int) / 2 ^ i).tmod 2 == 1) = decide (n / 2 ^ i % 2 = 1) := by
  have e1 : (n : Int) / 2 ^ i = ((n / 2 ^ i : Nat) : Int) := by rw [Int.natCast_ediv, Int.natCast_pow]; rfl
  rw [e1]
  generalize n / 2 ^ i = m
  have e2 : ((m : Nat) : Int).tmod 2 = ((m % 2 : Nat) : Int) := by rw [Int.tmod_eq_emod_of_nonneg (by omega)]; omega
  rw [e2]
  by_cases h : m % 2 = 1
  · rw [h]; rfl
  · rw [decide_eq_false h]
    have : m % 2 = 0 := by omega
    rw [this]; rfl

set_option maxHeartbeats 1000000 in
set_option maxRecDepth 100000 in
theorem rpow_small (a b : Nat) (w : World) (ha : a < 18446744073709551616) (hb : b < 18446744073709551616) (na : ¬ nan a) (hB : b % 9223372036854775808 ≤ 4652218415073722368) (ht : 1 ≤ tr (b % 9223372036854775808)) (hw : val (b % 9223372036854775808) = tr (b % 9223372036854775808) * 2 ^ 1074) :
    Calls Try.prog 32 #[.float .f64 a, .float .f64 b] w fun e w' => e = .returned (.float .f64 (pw a b)) ∧ w' = w := by
  have nb : ¬ nan b := by unfold nan; omega
  have hB0 : b % 9223372036854775808 ≠ 0 := fun e => by rw [e, tr_zero] at ht; omega
  have HNB := Hid.mk' (fun W => bad_any b W hb)
  have HNA := Hid.mk' (fun W => bad_any a W ha)
  have HI := Hid.mk' (fun W => wide_any b W hb)
  have h0 := eq0 b hb
  rw [decide_eq_false nb] at HNB
  rw [decide_eq_false hB0] at h0
  rw [decide_eq_false na] at HNA
  rw [decide_eq_false (by omega)] at HI
  have hbig : 4607182418800017408 ≤ b % 9223372036854775808 := by
    apply Nat.not_lt.1
    intro hlt
    have := tr_lt (b % 9223372036854775808) 1022 0 hlt rfl
    omega
  have h5 := half_no b hb (by omega)
  have HT := Hid.mk' (fun W => trunc_fin b (b % 9223372036854775808) W hb (by omega) (by omega) hw)
  rw [sgn_self b hb] at HT
  have hne := isnan_eq b hb
  rw [decide_eq_false nb] at hne
  have HAB := Hid.mk' (fun W => abs_any b W hb)
  have hl := lt0 b hb nb
  obtain ⟨B, hBe⟩ : ∃ B, b % 9223372036854775808 = B := ⟨_, rfl⟩
  rw [hBe] at HAB hB ht hw hbig
  have HM := Hid.mk' (fun W => Mod_is B 4611686018427387904 W (by omega) (by omega))
  have hgt := gt_c B 4652218415073722368 (by omega) (by omega) (by omega)
  rw [decide_eq_false (by omega)] at hgt
  clear hw
  have ht2 := tr_small _ hB
  have htz : tz B = ((tr B : Nat) : Int) := by unfold tz; rw [if_neg (by omega), show B % 9223372036854775808 = B by omega]
  have HC := Hid.mk' (fun W => run_ftoi 3 B .i64 W (by kernel_rfl) (by omega) (by omega) (by rw [htz]; show (-9223372036854775808 : Int) ≤ _; omega) (by rw [htz]; show _ ≤ (9223372036854775807 : Int); omega))
  rw [htz] at HC
  clear htz
  go_enter Try.func32, Try.ntmps32
  go_wp2_with (first | (go_at_call 43; first | (refine (HNB.out _).mono ?_; rintro e w1 ⟨rfl, hw1⟩; rw [hw1]; clear hw1 w1) | (refine (HNA.out _).mono ?_; rintro e w1 ⟨rfl, hw1⟩; rw [hw1]; clear hw1 w1)) | (go_at_call 44; first | (refine (HI.out _).mono ?_; rintro e w1 ⟨rfl, hw1⟩; rw [hw1]; clear hw1 w1)) | (go_at_call 42; first | (refine (HT.out _).mono ?_; rintro e w1 ⟨rfl, hw1⟩; rw [hw1]; clear hw1 w1)) | (go_at_call 37; first | (refine (HAB.out _).mono ?_; rintro e w1 ⟨rfl, hw1⟩; rw [hw1]; clear hw1 w1)))
  refine (HM.out _).mono ?_
  rintro e w1 ⟨⟨r, rfl, hr⟩, hw1⟩; rw [hw1]; clear hw1 w1
  go_wp2_with fail
  have hinv := P_inv (n := tr B) ha na 11
  have HQ := Hid.mk' (fun W => run_quo 22 4607182418800017408 (P a (tr B) 11) _ W (div_some _ hinv.1 hinv.2.1).1)
  clear hinv
  go_loopw [8, 9] (fun v c wr => ∃ j k : Nat, j + k = 11 ∧ c = .int .i64 ((k : Int) - 1) ∧ v = .float .f64 (P a (tr B) j) ∧ wr = w) (fun _ c _ => (intOf c + 1).toNat)
  case atStart => exact ⟨0, 11, rfl, rfl, rfl, rfl⟩
  case round =>
    obtain ⟨j, k, hjk, rfl, rfl, rfl⟩ := hrel
    cases k with
    | zero =>
      obtain rfl : j = 11 := by omega
      by_cases hneg : 9223372036854775808 < b
      · rw [decide_eq_true hneg] at hl
        have HNEG := Hid.mk' hneg
        clear hneg
        go_wp2_with (rw [HQ.out])
        go_ret
        exact ⟨by rw [pw_neg HNEG.out hBe]; rfl, rfl⟩
      · rw [decide_eq_false hneg] at hl
        have HNEG := Hid.mk' hneg
        clear hneg
        go_wp2
        go_ret
        exact ⟨by rw [pw_pos HNEG.out hBe]; rfl, rfl⟩
    | succ i =>
      have hc : (((i + 1 : Nat) : Int) - 1) = (i : Int) := by omega
      rw [hc]
      obtain ⟨m1, m2⟩ := (P_inv (n := tr B) ha na j).sq
      obtain ⟨m3, m4⟩ := m2.times ha na
      have hP : P a (tr B) (j + 1) = if tr B / 2 ^ i % 2 = 1 then mulC (mulC (P a (tr B) j) (P a (tr B) j)) a else mulC (P a (tr B) j) (P a (tr B) j) := by rw [P, show 10 - j = i by omega]
      have HM1 := Hid.mk' (fun W => run_mul 22 _ _ _ W m1)
      have HM2 := Hid.mk' (fun W => run_mul 22 _ _ _ W m3)
      go_wp2_with (first | rw [HM1.out] | rw [HM2.out] | rw [HC.out])
      · rename_i h
        rw [rbit_eq (tr B) i (by omega)] at h
        refine ⟨⟨j + 1, i, by omega, rfl, by rw [hP, if_pos (of_decide_eq_true h)], trivial⟩, ?_⟩
        simp [intOf]
      · rename_i h
        rw [rbit_eq (tr B) i (by omega)] at h
        refine ⟨⟨j + 1, i, by omega, rfl, by rw [hP, if_neg (of_decide_eq_false h)], trivial⟩, ?_⟩
        simp [intOf]

theorem rbit2 (i : Nat) : (((2 : Int) / 2 ^ i).tmod 2 == 1) = decide (2 / 2 ^ i % 2 = 1) := rbit_eq 2 i (by omega)
theorem rbit3 (i : Nat) : (((3 : Int) / 2 ^ i).tmod 2 == 1) = decide (3 / 2 ^ i % 2 = 1) := rbit_eq 3 i (by omega)
theorem tz_2 : tz 4611686018427387904 = ((2 : Nat) : Int) := by
  unfold tz; rw [if_neg (by omega), show (4611686018427387904 : Nat) % 9223372036854775808 = 4611686018427387904 from rfl, tr_of _ _ val_two]
theorem tz_3 : tz 4613937818241073152 = ((3 : Nat) : Int) := by
  unfold tz; rw [if_neg (by omega), show (4613937818241073152 : Nat) % 9223372036854775808 = 4613937818241073152 from rfl, tr_of _ _ (whole_of _ 1023 2251799813685248 3 51 rfl (by omega) rfl rfl)]
def Sp (a : Nat) : Prop := a = 0 ∨ a = 9223372036854775808 ∨ a = 9218868437227405312 ∨ a = 9223372036854775808 + 9218868437227405312 ∨ a = 4607182418800017408 ∨ a = 13830554455654793216
theorem special2 {a : Nat} (h : Sp a) : divC one (P a 2 11) = farS (a % 9223372036854775808) false ∧ P a 2 11 = farS (a % 9223372036854775808) true := by
  rcases h with rfl | rfl | rfl | rfl | rfl | rfl
  all_goals exact ⟨by decide +kernel, by decide +kernel⟩
theorem special3 {a : Nat} (h : Sp a) : divC one (P a 3 11) = sgn a (farS (a % 9223372036854775808) false) ∧ P a 3 11 = sgn a (farS (a % 9223372036854775808) true) := by
  rcases h with rfl | rfl | rfl | rfl | rfl | rfl
  all_goals exact ⟨by decide +kernel, by decide +kernel⟩
theorem far_neg2 {a b B : Nat} (hs : Sp a) (hp : tr B % 2 = 0) (h : 9223372036854775808 < b) (hB : b % 9223372036854775808 = B) : farV a b = divC one (P a 2 11) := by
  unfold farV; rw [hB, if_pos hp, decide_eq_false (by omega), (special2 hs).1]
theorem far_pos2 {a b B : Nat} (hs : Sp a) (hp : tr B % 2 = 0) (h : ¬ 9223372036854775808 < b) (hB : b % 9223372036854775808 = B) (hb0 : B ≠ 0) : farV a b = P a 2 11 := by
  unfold farV; rw [hB, if_pos hp, decide_eq_true (by omega), (special2 hs).2]
theorem far_neg3 {a b B : Nat} (hs : Sp a) (hp : tr B % 2 = 1) (h : 9223372036854775808 < b) (hB : b % 9223372036854775808 = B) : farV a b = divC one (P a 3 11) := by
  unfold farV; rw [hB, if_neg (by omega), decide_eq_false (by omega), (special3 hs).1]
theorem far_pos3 {a b B : Nat} (hs : Sp a) (hp : tr B % 2 = 1) (h : ¬ 9223372036854775808 < b) (hB : b % 9223372036854775808 = B) (hb0 : B ≠ 0) : farV a b = P a 3 11 := by
  unfold farV; rw [hB, if_neg (by omega), decide_eq_true (by omega), (special3 hs).2]
theorem one_val : val 4607182418800017408 = 1 * 2 ^ 1074 := whole_of _ 1022 0 1 52 rfl (by omega) rfl rfl
theorem eq_const (x c : Nat) (hx : x < 18446744073709551616) (nx : ¬ nan x) (hc : c < 18446744073709551616) (nc : ¬ nan c) (hc0 : c % 9223372036854775808 ≠ 0) : (FloatKind.f64.format.order x c == some Ordering.eq) = decide (x = c) := by
  rw [eqf x c hx hc]
  refine decide_eq_decide.2 ⟨fun h => ?_, fun h => by subst h; exact ⟨nx, nx, rfl⟩⟩
  have := h.2.2
  unfold key at this
  split at this <;> split at this <;> omega
set_option maxHeartbeats 2000000 in
set_option maxRecDepth 100000 in
theorem rpow_far (a b : Nat) (w : World) (ha : a < 18446744073709551616) (hb : b < 18446744073709551616) (na : ¬ nan a) (hB : b % 9223372036854775808 < 9218868437227405312) (hB1 : 4652218415073722368 < b % 9223372036854775808) (ht : 1 ≤ tr (b % 9223372036854775808)) (hw : val (b % 9223372036854775808) = tr (b % 9223372036854775808) * 2 ^ 1074) :
    Calls Try.prog 32 #[.float .f64 a, .float .f64 b] w fun e w' => e = .returned (.float .f64 (farV a b)) ∧ w' = w := by
  have nb : ¬ nan b := by unfold nan; omega
  have hB0 : b % 9223372036854775808 ≠ 0 := fun e => by rw [e, tr_zero] at ht; omega
  have HNB := Hid.mk' (fun W => bad_any b W hb)
  have HNA := Hid.mk' (fun W => bad_any a W ha)
  have HI := Hid.mk' (fun W => wide_any b W hb)
  have h0 := eq0 b hb
  rw [decide_eq_false nb] at HNB
  rw [decide_eq_false hB0] at h0
  rw [decide_eq_false na] at HNA
  rw [decide_eq_false (by omega)] at HI
  have hbig : 4607182418800017408 ≤ b % 9223372036854775808 := by
    apply Nat.not_lt.1
    intro hlt
    have := tr_lt (b % 9223372036854775808) 1022 0 hlt rfl
    omega
  have h5 := half_no b hb (by omega)
  have HT := Hid.mk' (fun W => trunc_fin b (b % 9223372036854775808) W hb (by omega) (by omega) hw)
  rw [sgn_self b hb] at HT
  have hne := isnan_eq b hb
  rw [decide_eq_false nb] at hne
  have HAB := Hid.mk' (fun W => abs_any b W hb)
  have hl := lt0 b hb nb
  obtain ⟨B, hBe⟩ : ∃ B, b % 9223372036854775808 = B := ⟨_, rfl⟩
  rw [hBe] at HAB hB ht hw hbig
  have HM := Hid.mk' (fun W => Mod_is B 4611686018427387904 W (by omega) (by omega))
  rw [hBe] at hB1
  have hgt := gt_c B 4652218415073722368 (by omega) (by omega) (by omega)
  rw [decide_eq_true (by omega)] at hgt
  have WA := Hid.mk' (fun W => wide_any a W ha)
  have ea0 : (FloatKind.f64.format.order a 0 != some Ordering.eq) = !decide (a % 9223372036854775808 = 0) := by rw [← eq0 a ha]; rfl
  have ea1 : (FloatKind.f64.format.order a 4607182418800017408 != some Ordering.eq) = !decide (a = 4607182418800017408) := by rw [← eq_const a 4607182418800017408 ha na (by omega) (by unfold nan; omega) (by omega)]; rfl
  have ea2 : (FloatKind.f64.format.order a 13830554455654793216 != some Ordering.eq) = !decide (a = 13830554455654793216) := by rw [← eq_const a 13830554455654793216 ha na (by omega) (by unfold nan; omega) (by omega)]; rfl
  have la := lt0 a ha na
  have hup := gt_any b 0 hb nb (by omega)
  rw [show decide (b < 9223372036854775808 ∧ 0 < b) = decide (b < 9223372036854775808) from decide_eq_decide.2 (by omega)] at hup
  have HF := Hid.mk' (fun W => far_any a (decide (b < 9223372036854775808)) W ha na)
  go_enter Try.func32, Try.ntmps32
  go_wp2_with (first | (go_at_call 43; first | (refine (HNB.out _).mono ?_; rintro e w1 ⟨rfl, hw1⟩; rw [hw1]; clear hw1 w1) | (refine (HNA.out _).mono ?_; rintro e w1 ⟨rfl, hw1⟩; rw [hw1]; clear hw1 w1)) | (go_at_call 44; first | (refine (HI.out _).mono ?_; rintro e w1 ⟨rfl, hw1⟩; rw [hw1]; clear hw1 w1)) | (go_at_call 42; first | (refine (HT.out _).mono ?_; rintro e w1 ⟨rfl, hw1⟩; rw [hw1]; clear hw1 w1)) | (go_at_call 37; first | (refine (HAB.out _).mono ?_; rintro e w1 ⟨rfl, hw1⟩; rw [hw1]; clear hw1 w1)))
  refine (HM.out _).mono ?_
  rintro e w1 ⟨⟨r, rfl, hr⟩, hw1⟩; rw [hw1]; clear hw1 w1
  obtain ⟨g, g1, g2, g3⟩ := even_rest hr (by omega) (by omega) (by rw [show B % 9223372036854775808 = B by omega]; exact hw)
  rw [show B % 9223372036854775808 = B by omega] at g3
  have hrg : r = g := by rw [g1]; unfold sgn; rw [if_neg (by omega)]
  have HR0 := Hid.mk' hr
  clear hw g1 hr
  have hodd : (tr B % 2 = 0 ∧ r = 0) ∨ (tr B % 2 = 1 ∧ r = 4607182418800017408) := by
    rcases Nat.mod_two_eq_zero_or_one (tr B) with h | h
    · refine .inl ⟨h, ?_⟩
      rw [hrg]
      exact (val_zero g).1 ((nz_gen (D := 1074) g3).2 h)
    · refine .inr ⟨h, ?_⟩
      rw [hrg]
      rw [h] at g3
      exact val_inj (g3.trans one_val.symm)
  clear g3 hrg g2 g
  by_cases hsp : Sp a
  · have HSP := Hid.mk' hsp
    by_cases c0 : a % 9223372036854775808 = 0
    · rw [decide_eq_true c0] at ea0
      clear c0 hsp
      rcases hodd with ⟨hpar, rfl⟩ | ⟨hpar, rfl⟩
      · have HPAR := Hid.mk' hpar
        clear hpar
        have HAD := Hid.mk' (fun W => run_add 22 0 4611686018427387904 4611686018427387904 W (by decide))
        have HC := Hid.mk' (fun W => run_ftoi 3 4611686018427387904 .i64 W (by kernel_rfl) (by omega) (by omega) (by rw [tz_2]; show (-9223372036854775808 : Int) ≤ _; omega) (by rw [tz_2]; show _ ≤ (9223372036854775807 : Int); omega))
        rw [tz_2] at HC
        go_wp2_with (first | (go_at_call 44; first | (refine (WA.out _).mono ?_; rintro e w1 ⟨rfl, hw1⟩; rw [hw1]; clear hw1 w1)))
        refine (HM.out _).mono ?_
        rintro e w1 ⟨⟨r2, rfl, hr2⟩, hw1⟩; rw [hw1]; clear hw1 w1
        obtain rfl := hr2.inj HR0.out
        clear hr2
        go_wp2_with (rw [HAD.out])
        have hinv := P_inv (n := 2) ha na 11
        have HQ := Hid.mk' (fun W => run_quo 22 4607182418800017408 (P a (2) 11) _ W (div_some _ hinv.1 hinv.2.1).1)
        clear hinv
        go_loopw [8, 9] (fun v c wr => ∃ j k : Nat, j + k = 11 ∧ c = .int .i64 ((k : Int) - 1) ∧ v = .float .f64 (P a (2) j) ∧ wr = w) (fun _ c _ => (intOf c + 1).toNat)
        case atStart => exact ⟨0, 11, rfl, rfl, rfl, rfl⟩
        case round =>
          obtain ⟨j, k, hjk, rfl, rfl, rfl⟩ := hrel
          cases k with
          | zero =>
            obtain rfl : j = 11 := by omega
            by_cases hneg : 9223372036854775808 < b
            · rw [decide_eq_true hneg] at hl
              have HNEG := Hid.mk' hneg
              clear hneg
              go_wp2_with (rw [HQ.out])
              go_ret
              exact ⟨by rw [far_neg2 HSP.out HPAR.out HNEG.out hBe]; rfl, rfl⟩
            · rw [decide_eq_false hneg] at hl
              have HNEG := Hid.mk' hneg
              clear hneg
              go_wp2
              go_ret
              exact ⟨by rw [far_pos2 HSP.out HPAR.out HNEG.out hBe (by omega)]; rfl, rfl⟩
          | succ i =>
            have hc : (((i + 1 : Nat) : Int) - 1) = (i : Int) := by omega
            rw [hc]
            obtain ⟨m1, m2⟩ := (P_inv (n := 2) ha na j).sq
            obtain ⟨m3, m4⟩ := m2.times ha na
            have hP : P a (2) (j + 1) = if 2 / 2 ^ i % 2 = 1 then mulC (mulC (P a (2) j) (P a (2) j)) a else mulC (P a (2) j) (P a (2) j) := by rw [P, show 10 - j = i by omega]
            have HM1 := Hid.mk' (fun W => run_mul 22 _ _ _ W m1)
            have HM2 := Hid.mk' (fun W => run_mul 22 _ _ _ W m3)
            go_wp2_with (first | rw [HM1.out] | rw [HM2.out] | rw [HC.out])
            · rename_i h
              rw [rbit2 i] at h
              refine ⟨⟨j + 1, i, by omega, rfl, by rw [hP, if_pos (of_decide_eq_true h)], trivial⟩, ?_⟩
              simp [intOf]
            · rename_i h
              rw [rbit2 i] at h
              refine ⟨⟨j + 1, i, by omega, rfl, by rw [hP, if_neg (of_decide_eq_false h)], trivial⟩, ?_⟩
              simp [intOf]
      · have HPAR := Hid.mk' hpar
        clear hpar
        have HAD := Hid.mk' (fun W => run_add 22 4607182418800017408 4611686018427387904 4613937818241073152 W (by decide))
        have HC := Hid.mk' (fun W => run_ftoi 3 4613937818241073152 .i64 W (by kernel_rfl) (by omega) (by omega) (by rw [tz_3]; show (-9223372036854775808 : Int) ≤ _; omega) (by rw [tz_3]; show _ ≤ (9223372036854775807 : Int); omega))
        rw [tz_3] at HC
        go_wp2_with (first | (go_at_call 44; first | (refine (WA.out _).mono ?_; rintro e w1 ⟨rfl, hw1⟩; rw [hw1]; clear hw1 w1)))
        refine (HM.out _).mono ?_
        rintro e w1 ⟨⟨r2, rfl, hr2⟩, hw1⟩; rw [hw1]; clear hw1 w1
        obtain rfl := hr2.inj HR0.out
        clear hr2
        go_wp2_with (rw [HAD.out])
        have hinv := P_inv (n := 3) ha na 11
        have HQ := Hid.mk' (fun W => run_quo 22 4607182418800017408 (P a (3) 11) _ W (div_some _ hinv.1 hinv.2.1).1)
        clear hinv
        go_loopw [8, 9] (fun v c wr => ∃ j k : Nat, j + k = 11 ∧ c = .int .i64 ((k : Int) - 1) ∧ v = .float .f64 (P a (3) j) ∧ wr = w) (fun _ c _ => (intOf c + 1).toNat)
        case atStart => exact ⟨0, 11, rfl, rfl, rfl, rfl⟩
        case round =>
          obtain ⟨j, k, hjk, rfl, rfl, rfl⟩ := hrel
          cases k with
          | zero =>
            obtain rfl : j = 11 := by omega
            by_cases hneg : 9223372036854775808 < b
            · rw [decide_eq_true hneg] at hl
              have HNEG := Hid.mk' hneg
              clear hneg
              go_wp2_with (rw [HQ.out])
              go_ret
              exact ⟨by rw [far_neg3 HSP.out HPAR.out HNEG.out hBe]; rfl, rfl⟩
            · rw [decide_eq_false hneg] at hl
              have HNEG := Hid.mk' hneg
              clear hneg
              go_wp2
              go_ret
              exact ⟨by rw [far_pos3 HSP.out HPAR.out HNEG.out hBe (by omega)]; rfl, rfl⟩
          | succ i =>
            have hc : (((i + 1 : Nat) : Int) - 1) = (i : Int) := by omega
            rw [hc]
            obtain ⟨m1, m2⟩ := (P_inv (n := 3) ha na j).sq
            obtain ⟨m3, m4⟩ := m2.times ha na
            have hP : P a (3) (j + 1) = if 3 / 2 ^ i % 2 = 1 then mulC (mulC (P a (3) j) (P a (3) j)) a else mulC (P a (3) j) (P a (3) j) := by rw [P, show 10 - j = i by omega]
            have HM1 := Hid.mk' (fun W => run_mul 22 _ _ _ W m1)
            have HM2 := Hid.mk' (fun W => run_mul 22 _ _ _ W m3)
            go_wp2_with (first | rw [HM1.out] | rw [HM2.out] | rw [HC.out])
            · rename_i h
              rw [rbit3 i] at h
              refine ⟨⟨j + 1, i, by omega, rfl, by rw [hP, if_pos (of_decide_eq_true h)], trivial⟩, ?_⟩
              simp [intOf]
            · rename_i h
              rw [rbit3 i] at h
              refine ⟨⟨j + 1, i, by omega, rfl, by rw [hP, if_neg (of_decide_eq_false h)], trivial⟩, ?_⟩
              simp [intOf]
    · rw [decide_eq_false c0] at ea0
      by_cases c1 : a % 9223372036854775808 = 9218868437227405312
      · rw [decide_eq_true c1] at WA
        clear c0 c1 hsp
        rcases hodd with ⟨hpar, rfl⟩ | ⟨hpar, rfl⟩
        · have HPAR := Hid.mk' hpar
          clear hpar
          have HAD := Hid.mk' (fun W => run_add 22 0 4611686018427387904 4611686018427387904 W (by decide))
          have HC := Hid.mk' (fun W => run_ftoi 3 4611686018427387904 .i64 W (by kernel_rfl) (by omega) (by omega) (by rw [tz_2]; show (-9223372036854775808 : Int) ≤ _; omega) (by rw [tz_2]; show _ ≤ (9223372036854775807 : Int); omega))
          rw [tz_2] at HC
          go_wp2_with (first | (go_at_call 44; first | (refine (WA.out _).mono ?_; rintro e w1 ⟨rfl, hw1⟩; rw [hw1]; clear hw1 w1)))
          refine (HM.out _).mono ?_
          rintro e w1 ⟨⟨r2, rfl, hr2⟩, hw1⟩; rw [hw1]; clear hw1 w1
          obtain rfl := hr2.inj HR0.out
          clear hr2
          go_wp2_with (rw [HAD.out])
          have hinv := P_inv (n := 2) ha na 11
          have HQ := Hid.mk' (fun W => run_quo 22 4607182418800017408 (P a (2) 11) _ W (div_some _ hinv.1 hinv.2.1).1)
          clear hinv
          go_loopw [8, 9] (fun v c wr => ∃ j k : Nat, j + k = 11 ∧ c = .int .i64 ((k : Int) - 1) ∧ v = .float .f64 (P a (2) j) ∧ wr = w) (fun _ c _ => (intOf c + 1).toNat)
          case atStart => exact ⟨0, 11, rfl, rfl, rfl, rfl⟩
          case round =>
            obtain ⟨j, k, hjk, rfl, rfl, rfl⟩ := hrel
            cases k with
            | zero =>
              obtain rfl : j = 11 := by omega
              by_cases hneg : 9223372036854775808 < b
              · rw [decide_eq_true hneg] at hl
                have HNEG := Hid.mk' hneg
                clear hneg
                go_wp2_with (rw [HQ.out])
                go_ret
                exact ⟨by rw [far_neg2 HSP.out HPAR.out HNEG.out hBe]; rfl, rfl⟩
              · rw [decide_eq_false hneg] at hl
                have HNEG := Hid.mk' hneg
                clear hneg
                go_wp2
                go_ret
                exact ⟨by rw [far_pos2 HSP.out HPAR.out HNEG.out hBe (by omega)]; rfl, rfl⟩
            | succ i =>
              have hc : (((i + 1 : Nat) : Int) - 1) = (i : Int) := by omega
              rw [hc]
              obtain ⟨m1, m2⟩ := (P_inv (n := 2) ha na j).sq
              obtain ⟨m3, m4⟩ := m2.times ha na
              have hP : P a (2) (j + 1) = if 2 / 2 ^ i % 2 = 1 then mulC (mulC (P a (2) j) (P a (2) j)) a else mulC (P a (2) j) (P a (2) j) := by rw [P, show 10 - j = i by omega]
              have HM1 := Hid.mk' (fun W => run_mul 22 _ _ _ W m1)
              have HM2 := Hid.mk' (fun W => run_mul 22 _ _ _ W m3)
              go_wp2_with (first | rw [HM1.out] | rw [HM2.out] | rw [HC.out])
              · rename_i h
                rw [rbit2 i] at h
                refine ⟨⟨j + 1, i, by omega, rfl, by rw [hP, if_pos (of_decide_eq_true h)], trivial⟩, ?_⟩
                simp [intOf]
              · rename_i h
                rw [rbit2 i] at h
                refine ⟨⟨j + 1, i, by omega, rfl, by rw [hP, if_neg (of_decide_eq_false h)], trivial⟩, ?_⟩
                simp [intOf]
        · have HPAR := Hid.mk' hpar
          clear hpar
          have HAD := Hid.mk' (fun W => run_add 22 4607182418800017408 4611686018427387904 4613937818241073152 W (by decide))
          have HC := Hid.mk' (fun W => run_ftoi 3 4613937818241073152 .i64 W (by kernel_rfl) (by omega) (by omega) (by rw [tz_3]; show (-9223372036854775808 : Int) ≤ _; omega) (by rw [tz_3]; show _ ≤ (9223372036854775807 : Int); omega))
          rw [tz_3] at HC
          go_wp2_with (first | (go_at_call 44; first | (refine (WA.out _).mono ?_; rintro e w1 ⟨rfl, hw1⟩; rw [hw1]; clear hw1 w1)))
          refine (HM.out _).mono ?_
          rintro e w1 ⟨⟨r2, rfl, hr2⟩, hw1⟩; rw [hw1]; clear hw1 w1
          obtain rfl := hr2.inj HR0.out
          clear hr2
          go_wp2_with (rw [HAD.out])
          have hinv := P_inv (n := 3) ha na 11
          have HQ := Hid.mk' (fun W => run_quo 22 4607182418800017408 (P a (3) 11) _ W (div_some _ hinv.1 hinv.2.1).1)
          clear hinv
          go_loopw [8, 9] (fun v c wr => ∃ j k : Nat, j + k = 11 ∧ c = .int .i64 ((k : Int) - 1) ∧ v = .float .f64 (P a (3) j) ∧ wr = w) (fun _ c _ => (intOf c + 1).toNat)
          case atStart => exact ⟨0, 11, rfl, rfl, rfl, rfl⟩
          case round =>
            obtain ⟨j, k, hjk, rfl, rfl, rfl⟩ := hrel
            cases k with
            | zero =>
              obtain rfl : j = 11 := by omega
              by_cases hneg : 9223372036854775808 < b
              · rw [decide_eq_true hneg] at hl
                have HNEG := Hid.mk' hneg
                clear hneg
                go_wp2_with (rw [HQ.out])
                go_ret
                exact ⟨by rw [far_neg3 HSP.out HPAR.out HNEG.out hBe]; rfl, rfl⟩
              · rw [decide_eq_false hneg] at hl
                have HNEG := Hid.mk' hneg
                clear hneg
                go_wp2
                go_ret
                exact ⟨by rw [far_pos3 HSP.out HPAR.out HNEG.out hBe (by omega)]; rfl, rfl⟩
            | succ i =>
              have hc : (((i + 1 : Nat) : Int) - 1) = (i : Int) := by omega
              rw [hc]
              obtain ⟨m1, m2⟩ := (P_inv (n := 3) ha na j).sq
              obtain ⟨m3, m4⟩ := m2.times ha na
              have hP : P a (3) (j + 1) = if 3 / 2 ^ i % 2 = 1 then mulC (mulC (P a (3) j) (P a (3) j)) a else mulC (P a (3) j) (P a (3) j) := by rw [P, show 10 - j = i by omega]
              have HM1 := Hid.mk' (fun W => run_mul 22 _ _ _ W m1)
              have HM2 := Hid.mk' (fun W => run_mul 22 _ _ _ W m3)
              go_wp2_with (first | rw [HM1.out] | rw [HM2.out] | rw [HC.out])
              · rename_i h
                rw [rbit3 i] at h
                refine ⟨⟨j + 1, i, by omega, rfl, by rw [hP, if_pos (of_decide_eq_true h)], trivial⟩, ?_⟩
                simp [intOf]
              · rename_i h
                rw [rbit3 i] at h
                refine ⟨⟨j + 1, i, by omega, rfl, by rw [hP, if_neg (of_decide_eq_false h)], trivial⟩, ?_⟩
                simp [intOf]
      · rw [decide_eq_false c1] at WA
        by_cases c2 : a = 4607182418800017408
        · rw [decide_eq_true c2] at ea1
          clear c0 c1 c2 hsp
          rcases hodd with ⟨hpar, rfl⟩ | ⟨hpar, rfl⟩
          · have HPAR := Hid.mk' hpar
            clear hpar
            have HAD := Hid.mk' (fun W => run_add 22 0 4611686018427387904 4611686018427387904 W (by decide))
            have HC := Hid.mk' (fun W => run_ftoi 3 4611686018427387904 .i64 W (by kernel_rfl) (by omega) (by omega) (by rw [tz_2]; show (-9223372036854775808 : Int) ≤ _; omega) (by rw [tz_2]; show _ ≤ (9223372036854775807 : Int); omega))
            rw [tz_2] at HC
            go_wp2_with (first | (go_at_call 44; first | (refine (WA.out _).mono ?_; rintro e w1 ⟨rfl, hw1⟩; rw [hw1]; clear hw1 w1)))
            refine (HM.out _).mono ?_
            rintro e w1 ⟨⟨r2, rfl, hr2⟩, hw1⟩; rw [hw1]; clear hw1 w1
            obtain rfl := hr2.inj HR0.out
            clear hr2
            go_wp2_with (rw [HAD.out])
            have hinv := P_inv (n := 2) ha na 11
            have HQ := Hid.mk' (fun W => run_quo 22 4607182418800017408 (P a (2) 11) _ W (div_some _ hinv.1 hinv.2.1).1)
            clear hinv
            go_loopw [8, 9] (fun v c wr => ∃ j k : Nat, j + k = 11 ∧ c = .int .i64 ((k : Int) - 1) ∧ v = .float .f64 (P a (2) j) ∧ wr = w) (fun _ c _ => (intOf c + 1).toNat)
            case atStart => exact ⟨0, 11, rfl, rfl, rfl, rfl⟩
            case round =>
              obtain ⟨j, k, hjk, rfl, rfl, rfl⟩ := hrel
              cases k with
              | zero =>
                obtain rfl : j = 11 := by omega
                by_cases hneg : 9223372036854775808 < b
                · rw [decide_eq_true hneg] at hl
                  have HNEG := Hid.mk' hneg
                  clear hneg
                  go_wp2_with (rw [HQ.out])
                  go_ret
                  exact ⟨by rw [far_neg2 HSP.out HPAR.out HNEG.out hBe]; rfl, rfl⟩
                · rw [decide_eq_false hneg] at hl
                  have HNEG := Hid.mk' hneg
                  clear hneg
                  go_wp2
                  go_ret
                  exact ⟨by rw [far_pos2 HSP.out HPAR.out HNEG.out hBe (by omega)]; rfl, rfl⟩
              | succ i =>
                have hc : (((i + 1 : Nat) : Int) - 1) = (i : Int) := by omega
                rw [hc]
                obtain ⟨m1, m2⟩ := (P_inv (n := 2) ha na j).sq
                obtain ⟨m3, m4⟩ := m2.times ha na
                have hP : P a (2) (j + 1) = if 2 / 2 ^ i % 2 = 1 then mulC (mulC (P a (2) j) (P a (2) j)) a else mulC (P a (2) j) (P a (2) j) := by rw [P, show 10 - j = i by omega]
                have HM1 := Hid.mk' (fun W => run_mul 22 _ _ _ W m1)
                have HM2 := Hid.mk' (fun W => run_mul 22 _ _ _ W m3)
                go_wp2_with (first | rw [HM1.out] | rw [HM2.out] | rw [HC.out])
                · rename_i h
                  rw [rbit2 i] at h
                  refine ⟨⟨j + 1, i, by omega, rfl, by rw [hP, if_pos (of_decide_eq_true h)], trivial⟩, ?_⟩
                  simp [intOf]
                · rename_i h
                  rw [rbit2 i] at h
                  refine ⟨⟨j + 1, i, by omega, rfl, by rw [hP, if_neg (of_decide_eq_false h)], trivial⟩, ?_⟩
                  simp [intOf]
          · have HPAR := Hid.mk' hpar
            clear hpar
            have HAD := Hid.mk' (fun W => run_add 22 4607182418800017408 4611686018427387904 4613937818241073152 W (by decide))
            have HC := Hid.mk' (fun W => run_ftoi 3 4613937818241073152 .i64 W (by kernel_rfl) (by omega) (by omega) (by rw [tz_3]; show (-9223372036854775808 : Int) ≤ _; omega) (by rw [tz_3]; show _ ≤ (9223372036854775807 : Int); omega))
            rw [tz_3] at HC
            go_wp2_with (first | (go_at_call 44; first | (refine (WA.out _).mono ?_; rintro e w1 ⟨rfl, hw1⟩; rw [hw1]; clear hw1 w1)))
            refine (HM.out _).mono ?_
            rintro e w1 ⟨⟨r2, rfl, hr2⟩, hw1⟩; rw [hw1]; clear hw1 w1
            obtain rfl := hr2.inj HR0.out
            clear hr2
            go_wp2_with (rw [HAD.out])
            have hinv := P_inv (n := 3) ha na 11
            have HQ := Hid.mk' (fun W => run_quo 22 4607182418800017408 (P a (3) 11) _ W (div_some _ hinv.1 hinv.2.1).1)
            clear hinv
            go_loopw [8, 9] (fun v c wr => ∃ j k : Nat, j + k = 11 ∧ c = .int .i64 ((k : Int) - 1) ∧ v = .float .f64 (P a (3) j) ∧ wr = w) (fun _ c _ => (intOf c + 1).toNat)
            case atStart => exact ⟨0, 11, rfl, rfl, rfl, rfl⟩
            case round =>
              obtain ⟨j, k, hjk, rfl, rfl, rfl⟩ := hrel
              cases k with
              | zero =>
                obtain rfl : j = 11 := by omega
                by_cases hneg : 9223372036854775808 < b
                · rw [decide_eq_true hneg] at hl
                  have HNEG := Hid.mk' hneg
                  clear hneg
                  go_wp2_with (rw [HQ.out])
                  go_ret
                  exact ⟨by rw [far_neg3 HSP.out HPAR.out HNEG.out hBe]; rfl, rfl⟩
                · rw [decide_eq_false hneg] at hl
                  have HNEG := Hid.mk' hneg
                  clear hneg
                  go_wp2
                  go_ret
                  exact ⟨by rw [far_pos3 HSP.out HPAR.out HNEG.out hBe (by omega)]; rfl, rfl⟩
              | succ i =>
                have hc : (((i + 1 : Nat) : Int) - 1) = (i : Int) := by omega
                rw [hc]
                obtain ⟨m1, m2⟩ := (P_inv (n := 3) ha na j).sq
                obtain ⟨m3, m4⟩ := m2.times ha na
                have hP : P a (3) (j + 1) = if 3 / 2 ^ i % 2 = 1 then mulC (mulC (P a (3) j) (P a (3) j)) a else mulC (P a (3) j) (P a (3) j) := by rw [P, show 10 - j = i by omega]
                have HM1 := Hid.mk' (fun W => run_mul 22 _ _ _ W m1)
                have HM2 := Hid.mk' (fun W => run_mul 22 _ _ _ W m3)
                go_wp2_with (first | rw [HM1.out] | rw [HM2.out] | rw [HC.out])
                · rename_i h
                  rw [rbit3 i] at h
                  refine ⟨⟨j + 1, i, by omega, rfl, by rw [hP, if_pos (of_decide_eq_true h)], trivial⟩, ?_⟩
                  simp [intOf]
                · rename_i h
                  rw [rbit3 i] at h
                  refine ⟨⟨j + 1, i, by omega, rfl, by rw [hP, if_neg (of_decide_eq_false h)], trivial⟩, ?_⟩
                  simp [intOf]
        · rw [decide_eq_false c2] at ea1
          have c3 : a = 13830554455654793216 := by unfold Sp at hsp; omega
          rw [decide_eq_true c3] at ea2
          clear c0 c1 c2 c3 hsp
          rcases hodd with ⟨hpar, rfl⟩ | ⟨hpar, rfl⟩
          · have HPAR := Hid.mk' hpar
            clear hpar
            have HAD := Hid.mk' (fun W => run_add 22 0 4611686018427387904 4611686018427387904 W (by decide))
            have HC := Hid.mk' (fun W => run_ftoi 3 4611686018427387904 .i64 W (by kernel_rfl) (by omega) (by omega) (by rw [tz_2]; show (-9223372036854775808 : Int) ≤ _; omega) (by rw [tz_2]; show _ ≤ (9223372036854775807 : Int); omega))
            rw [tz_2] at HC
            go_wp2_with (first | (go_at_call 44; first | (refine (WA.out _).mono ?_; rintro e w1 ⟨rfl, hw1⟩; rw [hw1]; clear hw1 w1)))
            refine (HM.out _).mono ?_
            rintro e w1 ⟨⟨r2, rfl, hr2⟩, hw1⟩; rw [hw1]; clear hw1 w1
            obtain rfl := hr2.inj HR0.out
            clear hr2
            go_wp2_with (rw [HAD.out])
            have hinv := P_inv (n := 2) ha na 11
            have HQ := Hid.mk' (fun W => run_quo 22 4607182418800017408 (P a (2) 11) _ W (div_some _ hinv.1 hinv.2.1).1)
            clear hinv
            go_loopw [8, 9] (fun v c wr => ∃ j k : Nat, j + k = 11 ∧ c = .int .i64 ((k : Int) - 1) ∧ v = .float .f64 (P a (2) j) ∧ wr = w) (fun _ c _ => (intOf c + 1).toNat)
            case atStart => exact ⟨0, 11, rfl, rfl, rfl, rfl⟩
            case round =>
              obtain ⟨j, k, hjk, rfl, rfl, rfl⟩ := hrel
              cases k with
              | zero =>
                obtain rfl : j = 11 := by omega
                by_cases hneg : 9223372036854775808 < b
                · rw [decide_eq_true hneg] at hl
                  have HNEG := Hid.mk' hneg
                  clear hneg
                  go_wp2_with (rw [HQ.out])
                  go_ret
                  exact ⟨by rw [far_neg2 HSP.out HPAR.out HNEG.out hBe]; rfl, rfl⟩
                · rw [decide_eq_false hneg] at hl
                  have HNEG := Hid.mk' hneg
                  clear hneg
                  go_wp2
                  go_ret
                  exact ⟨by rw [far_pos2 HSP.out HPAR.out HNEG.out hBe (by omega)]; rfl, rfl⟩
              | succ i =>
                have hc : (((i + 1 : Nat) : Int) - 1) = (i : Int) := by omega
                rw [hc]
                obtain ⟨m1, m2⟩ := (P_inv (n := 2) ha na j).sq
                obtain ⟨m3, m4⟩ := m2.times ha na
                have hP : P a (2) (j + 1) = if 2 / 2 ^ i % 2 = 1 then mulC (mulC (P a (2) j) (P a (2) j)) a else mulC (P a (2) j) (P a (2) j) := by rw [P, show 10 - j = i by omega]
                have HM1 := Hid.mk' (fun W => run_mul 22 _ _ _ W m1)
                have HM2 := Hid.mk' (fun W => run_mul 22 _ _ _ W m3)
                go_wp2_with (first | rw [HM1.out] | rw [HM2.out] | rw [HC.out])
                · rename_i h
                  rw [rbit2 i] at h
                  refine ⟨⟨j + 1, i, by omega, rfl, by rw [hP, if_pos (of_decide_eq_true h)], trivial⟩, ?_⟩
                  simp [intOf]
                · rename_i h
                  rw [rbit2 i] at h
                  refine ⟨⟨j + 1, i, by omega, rfl, by rw [hP, if_neg (of_decide_eq_false h)], trivial⟩, ?_⟩
                  simp [intOf]
          · have HPAR := Hid.mk' hpar
            clear hpar
            have HAD := Hid.mk' (fun W => run_add 22 4607182418800017408 4611686018427387904 4613937818241073152 W (by decide))
            have HC := Hid.mk' (fun W => run_ftoi 3 4613937818241073152 .i64 W (by kernel_rfl) (by omega) (by omega) (by rw [tz_3]; show (-9223372036854775808 : Int) ≤ _; omega) (by rw [tz_3]; show _ ≤ (9223372036854775807 : Int); omega))
            rw [tz_3] at HC
            go_wp2_with (first | (go_at_call 44; first | (refine (WA.out _).mono ?_; rintro e w1 ⟨rfl, hw1⟩; rw [hw1]; clear hw1 w1)))
            refine (HM.out _).mono ?_
            rintro e w1 ⟨⟨r2, rfl, hr2⟩, hw1⟩; rw [hw1]; clear hw1 w1
            obtain rfl := hr2.inj HR0.out
            clear hr2
            go_wp2_with (rw [HAD.out])
            have hinv := P_inv (n := 3) ha na 11
            have HQ := Hid.mk' (fun W => run_quo 22 4607182418800017408 (P a (3) 11) _ W (div_some _ hinv.1 hinv.2.1).1)
            clear hinv
            go_loopw [8, 9] (fun v c wr => ∃ j k : Nat, j + k = 11 ∧ c = .int .i64 ((k : Int) - 1) ∧ v = .float .f64 (P a (3) j) ∧ wr = w) (fun _ c _ => (intOf c + 1).toNat)
            case atStart => exact ⟨0, 11, rfl, rfl, rfl, rfl⟩
            case round =>
              obtain ⟨j, k, hjk, rfl, rfl, rfl⟩ := hrel
              cases k with
              | zero =>
                obtain rfl : j = 11 := by omega
                by_cases hneg : 9223372036854775808 < b
                · rw [decide_eq_true hneg] at hl
                  have HNEG := Hid.mk' hneg
                  clear hneg
                  go_wp2_with (rw [HQ.out])
                  go_ret
                  exact ⟨by rw [far_neg3 HSP.out HPAR.out HNEG.out hBe]; rfl, rfl⟩
                · rw [decide_eq_false hneg] at hl
                  have HNEG := Hid.mk' hneg
                  clear hneg
                  go_wp2
                  go_ret
                  exact ⟨by rw [far_pos3 HSP.out HPAR.out HNEG.out hBe (by omega)]; rfl, rfl⟩
              | succ i =>
                have hc : (((i + 1 : Nat) : Int) - 1) = (i : Int) := by omega
                rw [hc]
                obtain ⟨m1, m2⟩ := (P_inv (n := 3) ha na j).sq
                obtain ⟨m3, m4⟩ := m2.times ha na
                have hP : P a (3) (j + 1) = if 3 / 2 ^ i % 2 = 1 then mulC (mulC (P a (3) j) (P a (3) j)) a else mulC (P a (3) j) (P a (3) j) := by rw [P, show 10 - j = i by omega]
                have HM1 := Hid.mk' (fun W => run_mul 22 _ _ _ W m1)
                have HM2 := Hid.mk' (fun W => run_mul 22 _ _ _ W m3)
                go_wp2_with (first | rw [HM1.out] | rw [HM2.out] | rw [HC.out])
                · rename_i h
                  rw [rbit3 i] at h
                  refine ⟨⟨j + 1, i, by omega, rfl, by rw [hP, if_pos (of_decide_eq_true h)], trivial⟩, ?_⟩
                  simp [intOf]
                · rename_i h
                  rw [rbit3 i] at h
                  refine ⟨⟨j + 1, i, by omega, rfl, by rw [hP, if_neg (of_decide_eq_false h)], trivial⟩, ?_⟩
                  simp [intOf]
  · have hA0 : a % 9223372036854775808 ≠ 0 := fun q => hsp (by unfold Sp; omega)
    have hAi : a % 9223372036854775808 ≠ 9218868437227405312 := fun q => hsp (by unfold Sp; omega)
    have h1 : a ≠ 4607182418800017408 := fun q => hsp (by unfold Sp; omega)
    have h2 : a ≠ 13830554455654793216 := fun q => hsp (by unfold Sp; omega)
    rw [decide_eq_false hA0] at ea0
    rw [decide_eq_false hAi] at WA
    rw [decide_eq_false h1] at ea1
    rw [decide_eq_false h2] at ea2
    have hS : farS (a % 9223372036854775808) (decide (b < 9223372036854775808)) = endless (a % 9223372036854775808) (decide (b < 9223372036854775808)) := by unfold farS; rw [if_neg (by omega)]
    have hSl := farS_lt (a % 9223372036854775808) (decide (b < 9223372036854775808))
    have hV : farV a b = if tr B % 2 = 0 then farS (a % 9223372036854775808) (decide (b < 9223372036854775808)) else sgn a (farS (a % 9223372036854775808) (decide (b < 9223372036854775808))) := by unfold farV; rw [hBe]
    rw [hS] at hV hSl
    obtain ⟨S, hSe⟩ : ∃ S, endless (a % 9223372036854775808) (decide (b < 9223372036854775808)) = S := ⟨_, rfl⟩
    rw [hSe] at hV hSl HF
    have HV := Hid.mk' hV
    have hng := neg_pos S hSl
    clear hV hS hSe hsp h1 h2
    obtain ⟨up, hue⟩ : ∃ up, decide (b < 9223372036854775808) = up := ⟨_, rfl⟩
    rw [hue] at HF hup
    clear hue
    rcases hodd with ⟨hpar, rfl⟩ | ⟨hpar, rfl⟩
    · have HPAR := Hid.mk' hpar
      have ho : (FloatKind.f64.format.order 0 4607182418800017408 == some Ordering.eq) = false := by decide
      clear hpar
      by_cases hneg : 9223372036854775808 < a
      · rw [decide_eq_true hneg] at la
        go_wp2_with (first | (go_at_call 44; first | (refine (WA.out _).mono ?_; rintro e w1 ⟨rfl, hw1⟩; rw [hw1]; clear hw1 w1)) | (go_at_call 51; first | (refine (HF.out _).mono ?_; rintro e w1 ⟨rfl, hw1⟩; rw [hw1]; clear hw1 w1)))
        go_ret
        exact ⟨by rw [HV.out, if_pos HPAR.out]; rfl, rfl⟩
      · rw [decide_eq_false hneg] at la
        go_wp2_with (first | (go_at_call 44; first | (refine (WA.out _).mono ?_; rintro e w1 ⟨rfl, hw1⟩; rw [hw1]; clear hw1 w1)) | (go_at_call 51; first | (refine (HF.out _).mono ?_; rintro e w1 ⟨rfl, hw1⟩; rw [hw1]; clear hw1 w1)))
        go_ret
        exact ⟨by rw [HV.out, if_pos HPAR.out]; rfl, rfl⟩
    · have HPAR := Hid.mk' hpar
      have ho : (FloatKind.f64.format.order 4607182418800017408 4607182418800017408 == some Ordering.eq) = true := by decide
      clear hpar
      by_cases hneg : 9223372036854775808 < a
      · rw [decide_eq_true hneg] at la
        have hsg : sgn a S = 9223372036854775808 + S := by unfold sgn; rw [if_pos (by omega)]
        have HSG := Hid.mk' hsg
        clear hsg
        go_wp2_with (first | (go_at_call 44; first | (refine (WA.out _).mono ?_; rintro e w1 ⟨rfl, hw1⟩; rw [hw1]; clear hw1 w1)) | (go_at_call 51; first | (refine (HF.out _).mono ?_; rintro e w1 ⟨rfl, hw1⟩; rw [hw1]; clear hw1 w1)))
        go_ret
        exact ⟨by rw [HV.out, if_neg (by rw [HPAR.out]; decide), HSG.out, ← hng]; rfl, rfl⟩
      · rw [decide_eq_false hneg] at la
        have hsg : sgn a S = S := by unfold sgn; rw [if_neg (by omega)]
        have HSG := Hid.mk' hsg
        clear hsg
        go_wp2_with (first | (go_at_call 44; first | (refine (WA.out _).mono ?_; rintro e w1 ⟨rfl, hw1⟩; rw [hw1]; clear hw1 w1)) | (go_at_call 51; first | (refine (HF.out _).mono ?_; rintro e w1 ⟨rfl, hw1⟩; rw [hw1]; clear hw1 w1)))
        go_ret
        exact ⟨by rw [HV.out, if_neg (by rw [HPAR.out]; decide), HSG.out]; rfl, rfl⟩
end Go.Proofs.Ytilcpdnonppleaa
