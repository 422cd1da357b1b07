/- nums.product and the whole powers. -/
import Derived.Test.YtilcpdnonppleaaPow0
namespace Go.Proofs.Ytilcpdnonppleaa
set_option linter.unusedVariables false
open Go.RowKit Fl

theorem bitLen_all : ∀ n : Fin 1025, n.val < 1 ∨ (1 ≤ Lib.bitLen n.val ∧ Lib.bitLen n.val ≤ 11 ∧ n.val < 2 ^ Lib.bitLen n.val) := by decide +kernel
theorem bitLen_pos (n : Nat) (h : 1 ≤ n) (h2 : n ≤ 1024) : 1 ≤ Lib.bitLen n ∧ Lib.bitLen n ≤ 11 ∧ n < 2 ^ Lib.bitLen n :=
  (bitLen_all ⟨n, by omega⟩).resolve_left (by simp; omega)

theorem bit_eq (n i : Nat) (hn : n < 18446744073709551616) : (bits .and .u64 ((n : Int) / 2 ^ i) 1 == 1) = decide (n / 2 ^ i % 2 = 1) := by
  have e1 : (n : Int) / 2 ^ i = ((n / 2 ^ i : Nat) : Int) := by rw [Int.natCast_ediv, Int.natCast_pow]; rfl
  have hle : n / 2 ^ i ≤ n := Nat.div_le_self _ _
  have e2 := u64_and_nat (n / 2 ^ i) 1 (by omega) (by omega)
  rw [Nat.and_one_is_mod] at e2
  rw [e1, show (1 : Int) = ((1 : Nat) : Int) from rfl, e2]
  by_cases h : n / 2 ^ i % 2 = 1
  · rw [h]; rfl
  · rw [decide_eq_false h]
    have : n / 2 ^ i % 2 = 0 := by omega
    rw [this]; rfl

set_option maxRecDepth 100000 in
set_option maxHeartbeats 1000000 in
theorem product_any (a n : Nat) (w : World) (ha : a < 18446744073709551616) (na : ¬ nan a) (hn1 : 1 ≤ n) (hn2 : n ≤ 1024) :
    Calls Try.prog 63 #[.float .f64 a, .int .u64 n] w fun e w' => e = .returned (.float .f64 (P a n 11)) ∧ w' = w := by
  have HL := Hid.mk' (fun W => len_any (n : Int) W (by omega) (by omega))
  obtain ⟨b1, b2, b3⟩ := bitLen_pos n hn1 hn2
  rw [Int.toNat_natCast] at HL
  obtain ⟨L, hL⟩ : ∃ L, Lib.bitLen n = L := ⟨_, rfl⟩
  rw [hL] at HL b1 b2 b3
  have hst := P_early (a := a) (n := n) (11 - L) (by rw [show 11 - (11 - L) = L by omega]; exact b3) (by omega)
  go_enter Try.func63, Try.ntmps63
  go_wp2_with (go_at_call 69; refine (HL.out _).mono ?_; rintro e w1 ⟨rfl, hw1⟩; rw [hw1]; clear hw1 w1)
  have HST := Hid.mk' hst
  clear hst hL b3 HL
  go_loopw [5, 6] (fun v c wr => ∃ j k : Nat, j + k = 11 ∧ c = .int .i64 ((k : Int) - 1) ∧ v = .float .f64 (P a n j) ∧ wr = w) (fun _ c _ => (intOf c + 1).toNat)
  case atStart => exact ⟨11 - L, L, by omega, rfl, by rw [HST.out]; rfl, rfl⟩
  case round =>
    obtain ⟨j, k, hjk, rfl, rfl, rfl⟩ := hrel
    cases k with
    | zero =>
      obtain rfl : j = 11 := by omega
      go_wp2
      go_ret
      exact ⟨rfl, rfl⟩
    | succ i =>
      have hc : (((i + 1 : Nat) : Int) - 1) = (i : Int) := by omega
      rw [hc]
      obtain ⟨m1, m2⟩ := (P_inv (n := n) ha na j).sq
      obtain ⟨m3, m4⟩ := m2.times ha na
      have hP : P a n (j + 1) = if n / 2 ^ i % 2 = 1 then mulC (mulC (P a n j) (P a n j)) a else mulC (P a n j) (P a n j) := by rw [P, show 10 - j = i by omega]
      have HM1 := Hid.mk' (fun W => run_mul 22 _ _ _ W m1)
      have HM2 := Hid.mk' (fun W => run_mul 22 _ _ _ W m3)
      go_wp2_with (first | rw [HM1.out] | rw [HM2.out])
      · rename_i h
        rw [bit_eq n i (by omega)] at h
        refine ⟨⟨j + 1, i, by omega, rfl, by rw [hP, if_pos (of_decide_eq_true h)], trivial⟩, ?_⟩
        simp [intOf]
      · rename_i h
        rw [bit_eq n i (by omega)] at h
        refine ⟨⟨j + 1, i, by omega, rfl, by rw [hP, if_neg (of_decide_eq_false h)], trivial⟩, ?_⟩
        simp [intOf]

def divC (p q : Nat) : Nat := (Ieee.double.div p q).getD 9221120237041090561
theorem read_one : Ieee.double.read one = .number false 4503599627370496 (-52) := by decide
theorem div_some (p : Nat) (hp : p < 18446744073709551616) (np : ¬ nan p) : Ieee.double.div one p = some (divC one p) ∧ divC one p < 18446744073709551616 ∧ ¬ nan (divC one p) := by
  have key : ∃ d, (Ieee.double.read one).quotient (Ieee.double.fractionBits + 2) (Ieee.double.read p) = some d ∧ d.isNaN = false := by
    rw [read_one]
    rcases read_cases p hp np with ⟨s, m, i, e, z, f⟩ | ⟨s, e, z⟩
    · rw [e]
      unfold Ieee.Datum.quotient
      dsimp only
      by_cases h : m = 0
      · rw [if_pos h, if_neg (by decide)]
        exact ⟨_, rfl, rfl⟩
      · rw [if_neg h]
        exact ⟨_, rfl, rfl⟩
    · rw [e]
      exact ⟨_, rfl, rfl⟩
  obtain ⟨d, h, hd⟩ := key
  have hm : Ieee.double.div one p = some (Ieee.double.write d) := by unfold Ieee.Format.div; rw [h]; rfl
  have hc : divC one p = Ieee.double.write d := by unfold divC; rw [hm]; rfl
  rw [hc]
  exact ⟨hm, write_ok d hd⟩
theorem run_quo (t : TypeId) (g h k : Nat) (W : World) (e : Ieee.double.div g h = some k) : (binOp .quo t (.float .f64 g) (.float .f64 h)).run Try.prog W = .ok (.float .f64 k) W := run_float_arith W .quo t .f64 g h k e

/-- A power to a whole number of no more than 1024. -/
def pw (a b : Nat) : Nat := if 9223372036854775808 < b then divC one (P a (tr (b % 9223372036854775808)) 11) else P a (tr (b % 9223372036854775808)) 11
theorem gt_c (g h : Nat) (h1 : g < 9223372036854775808) (n1 : g ≤ 9218868437227405312) (n2 : h ≤ 9218868437227405312) : (FloatKind.f64.format.order g h == some Ordering.gt) = decide (h < g) := by
  rw [f64, order_key _ _ (by omega) (by omega) (by unfold nan; omega) (by unfold nan; omega)]
  have k1 : key g = (g : Int) := by unfold key; rw [if_neg (by omega)]; omega
  have k2 : key h = (h : Int) := by unfold key; rw [if_neg (by omega)]; omega
  rw [k1, k2]
  by_cases e : h < g
  · rw [decide_eq_true e, Int.compare_eq_gt.2 (by omega)]; rfl
  · have : compare (g : Int) (h : Int) ≠ .gt := fun q => e (by have := Int.compare_eq_gt.1 q; omega)
    rw [decide_eq_false e]
    generalize compare (g : Int) (h : Int) = o at this ⊢
    cases o <;> simp at this ⊢
theorem tr_le_gen {v k D : Nat} (h : v ≤ 2 ^ k * 2 ^ D) : v / 2 ^ D ≤ 2 ^ k := Nat.div_le_of_le_mul (by rw [Nat.mul_comm]; exact h)
theorem tr_small (B : Nat) (h : B ≤ 4652218415073722368) : tr B ≤ 1024 := by
  have h1 := val_le.2 h
  have v1 := val_pow' 1032 1084 rfl
  rw [show (1032 + 1) * 4503599627370496 = 4652218415073722368 from rfl, ← pow_split (show 10 + 1074 = 1084 from rfl)] at v1
  rw [v1] at h1
  exact tr_le_gen (v := val B) (k := 10) (D := 1074) h1

set_option maxRecDepth 100000 in
set_option maxHeartbeats 1000000 in
theorem powWhole_small (a b : Nat) (w : World) (ha : a < 18446744073709551616) (na : ¬ nan a) (hb : b < 18446744073709551616) (hB : b % 9223372036854775808 ≤ 4652218415073722368) (ht : 1 ≤ tr (b % 9223372036854775808)) :
    Calls Try.prog 50 #[.float .f64 a, .float .f64 b] w fun e w' => e = .returned (.float .f64 (pw a b)) ∧ w' = w := by
  have hgt := gt_c (b % 9223372036854775808) 4652218415073722368 (by omega) (by omega) (by omega)
  rw [decide_eq_false (by omega)] at hgt
  have ht2 := tr_small _ hB
  have hl := lt0 b hb (by unfold nan; omega)
  obtain ⟨B, hBe⟩ : ∃ B, b % 9223372036854775808 = B := ⟨_, rfl⟩
  have HA := Hid.mk' (fun W => abs_any b W hb)
  rw [hBe] at HA hB hgt ht ht2
  have htz : tz B = ((tr B : Nat) : Int) := by unfold tz; rw [if_neg (by omega), show B % 9223372036854775808 = B by omega]
  have HC := Hid.mk' (fun W => run_ftoi 43 B .u64 W (by kernel_rfl) (by omega) (by omega) (by rw [htz]; show (0 : Int) ≤ _; omega) (by rw [htz]; show _ ≤ (18446744073709551615 : Int); omega))
  rw [htz] at HC
  have HP := Hid.mk' (fun W => product_any a (tr B) W ha na ht ht2)
  have hinv := P_inv (n := tr B) ha na 11
  have hpw : pw a b = if 9223372036854775808 < b then divC one (P a (tr B) 11) else P a (tr B) 11 := by unfold pw; rw [hBe]
  have HQ := Hid.mk' (fun W => run_quo 22 4607182418800017408 (P a (tr B) 11) _ W (div_some _ hinv.1 hinv.2.1).1)
  clear htz hBe hinv
  by_cases hneg : 9223372036854775808 < b
  · rw [decide_eq_true hneg] at hl
    rw [if_pos hneg] at hpw
    rw [hpw]
    clear hpw
    go_enter Try.func50, Try.ntmps50
    go_wp2_with (first | (go_at_call 37; refine (HA.out _).mono ?_; rintro e w1 ⟨rfl, hw1⟩; rw [hw1]; clear hw1 w1) | (go_at_call 63; refine (HP.out _).mono ?_; rintro e w1 ⟨rfl, hw1⟩; rw [hw1]; clear hw1 w1) | rw [HC.out] | rw [HQ.out])
    go_ret
    exact ⟨rfl, rfl⟩
  · rw [decide_eq_false hneg] at hl
    rw [if_neg hneg] at hpw
    rw [hpw]
    clear hpw
    go_enter Try.func50, Try.ntmps50
    go_wp2_with (first | (go_at_call 37; refine (HA.out _).mono ?_; rintro e w1 ⟨rfl, hw1⟩; rw [hw1]; clear hw1 w1) | (go_at_call 63; refine (HP.out _).mono ?_; rintro e w1 ⟨rfl, hw1⟩; rw [hw1]; clear hw1 w1) | rw [HC.out])
    go_ret
    exact ⟨rfl, rfl⟩

set_option maxRecDepth 100000 in
set_option maxHeartbeats 1000000 in
/-- To a whole number nums.Pow is powWhole. -/
theorem pow_whole (a b r : Nat) (w : World) (ha : a < 18446744073709551616) (na : ¬ nan a) (hb : b < 18446744073709551616) (hB : b % 9223372036854775808 < 9218868437227405312) (ht : 1 ≤ tr (b % 9223372036854775808)) (hw : val (b % 9223372036854775808) = tr (b % 9223372036854775808) * 2 ^ 1074)
    (H : ∀ W, Calls Try.prog 50 #[.float .f64 a, .float .f64 b] W fun e w' => e = .returned (.float .f64 r) ∧ w' = W) :
    Calls Try.prog 31 #[.float .f64 a, .float .f64 b] w fun e w' => e = .returned (.float .f64 r) ∧ w' = w := by
  have nb : ¬ nan b := by unfold nan; omega
  have hB0 : b % 9223372036854775808 ≠ 0 := fun e => by rw [e, tr_zero] at ht; omega
  have HNB := Hid.mk' (fun W => isNaN_any b W hb)
  rw [decide_eq_false nb] at HNB
  have HNA := Hid.mk' (fun W => isNaN_any a W ha)
  rw [decide_eq_false na] at HNA
  have HI := Hid.mk' (fun W => isInf0_any b W hb)
  rw [decide_eq_false (by omega)] at HI
  have h0 := eq0 b hb
  rw [decide_eq_false hB0] at h0
  have h5 := eqf b 4602678819172646912 hb (by omega)
  have hbig : 4607182418800017408 ≤ b % 9223372036854775808 := by
    apply Nat.not_lt.1
    intro hlt
    have := tr_lt (b % 9223372036854775808) 1022 0 hlt rfl
    omega
  rw [decide_eq_false (show ¬ (¬ nan b ∧ ¬ nan 4602678819172646912 ∧ key b = key 4602678819172646912) from fun h => by
    have k2 : key 4602678819172646912 = 4602678819172646912 := by unfold key; rw [if_neg (by omega)]; rfl
    have := h.2.2
    rw [k2] at this
    unfold key at this
    split at this <;> omega)] at h5
  have HT := Hid.mk' (fun W => trunc_fin b (b % 9223372036854775808) W hb hB hB hw)
  rw [sgn_self b hb] at HT
  have hne := isnan_eq b hb
  rw [decide_eq_false nb] at hne
  have HH := Hid.mk' H
  clear hw ht hbig hB0 hB
  go_enter Try.func31, Try.ntmps31
  go_wp2_with (first | (go_at_call 39; first | (refine (HNB.out _).mono ?_; rintro e w1 ⟨rfl, hw1⟩; rw [hw1]; clear hw1 w1) | (refine (HNA.out _).mono ?_; rintro e w1 ⟨rfl, hw1⟩; rw [hw1]; clear hw1 w1)) | (go_at_call 47; refine (HI.out _).mono ?_; rintro e w1 ⟨rfl, hw1⟩; rw [hw1]; clear hw1 w1) | (go_at_call 42; refine (HT.out _).mono ?_; rintro e w1 ⟨rfl, hw1⟩; rw [hw1]; clear hw1 w1) | (go_at_call 50; refine (HH.out _).mono ?_; rintro e w1 ⟨rfl, hw1⟩; rw [hw1]; clear hw1 w1))
  go_ret
  exact ⟨rfl, rfl⟩
end Go.Proofs.Ytilcpdnonppleaa
