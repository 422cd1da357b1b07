/- What is shown of a whole number below 2^32 is its decimal digits (the table of powers of ten is exact there); its word; lintelref04.Of: the document's key of an index. -/
import Derived.Test.YtcdifnnbbppbgaaGreatDoorShowU
import Derived.Test.YtcdifnnbbppbgaaGreatDoorRShowA
import Derived.Test.YtcdifnnbbppbgaaGreatDoorKRIx
namespace Go.Proofs.YtcdifnnbbppbgaaGreatDoor
set_option linter.unusedVariables false
open Go.RowKit Fl

theorem orU64 (a b : Nat) (ha : a < 18446744073709551616) (hb : b < 18446744073709551616) : bits .or .u64 (a : Int) (b : Int) = ((a ||| b : Nat) : Int) := by
  show IntKind.u64.wrap ((BitVec.ofInt 64 (a : Int) ||| BitVec.ofInt 64 (b : Int)).toNat : Int) = _
  have h1 : (BitVec.ofInt 64 (a : Int)).toNat = a := by rw [BitVec.toNat_ofInt]; omega
  have h2 : (BitVec.ofInt 64 (b : Int)).toNat = b := by rw [BitVec.toNat_ofInt]; omega
  have h3 : a ||| b < 2 ^ 64 := Nat.or_lt_two_pow (by omega) (by omega)
  rw [BitVec.toNat_or, h1, h2, IntKind.wrap_u64]
  omega
/-- Or with 1. -/
theorem or_one (a : Nat) : a ||| 1 = a + 1 - a % 2 := by
  apply Nat.eq_of_testBit_eq
  intro i
  rcases Nat.mod_two_eq_zero_or_one a with h | h
  · have e : a + 1 - a % 2 = 2 * (a / 2) + 1 := by omega
    rw [Nat.testBit_or, e]
    cases i with
    | zero => simp [Nat.testBit_zero]
    | succ i =>
      rw [Nat.testBit_succ, Nat.testBit_succ, Nat.testBit_succ, show (2 * (a / 2) + 1) / 2 = a / 2 by omega]
      simp
  · have e : a + 1 - a % 2 = a := by omega
    rw [Nat.testBit_or, e]
    cases i with
    | zero => simp [Nat.testBit_zero, h]
    | succ i => simp [Nat.testBit_succ]
/-- uscale where the table's row is exact: what is below is cut off, and told by the last bit. -/
theorem usc_exact (V k : Nat) (hV : V < 18446744073709551616 * 18446744073709551616) (hk : k < 64) (hM : V % 18446744073709551616 ≠ 1) :
    ∃ q r : Nat, V = q * 2 ^ (64 + k) + r ∧ r < 2 ^ (64 + k) ∧ uscI (V / 18446744073709551616) (V % 18446744073709551616) 0 k = ((if r = 0 then q else q + 1 - q % 2 : Nat) : Int) := by
  unfold uscI
  obtain ⟨A, hA⟩ : ∃ A, V / 18446744073709551616 = A := ⟨_, rfl⟩
  obtain ⟨M, hMM⟩ : ∃ M, V % 18446744073709551616 = M := ⟨_, rfl⟩
  have hAl : A < 18446744073709551616 := by omega
  have hMl : M < 18446744073709551616 := by omega
  have hVA : V = A * 18446744073709551616 + M := by omega
  rw [hMM] at hM
  rw [hA, hMM]
  clear hA hMM hV
  obtain ⟨E, hE⟩ : ∃ E, 2 ^ k = E := ⟨_, rfl⟩
  have hEp : 0 < E := hE ▸ Nat.two_pow_pos k
  have hp : 2 ^ (64 + k) = 18446744073709551616 * E := by rw [Nat.pow_add, hE]
  have hEi : ((2 : Int) ^ k) = ((E : Nat) : Int) := by rw [← hE]; push_cast; rfl
  obtain ⟨Q, R, hQE, hml, hQ⟩ : ∃ Q R, Q * E + R = A ∧ R < E ∧ A / E = Q := ⟨A / E, A % E, by rw [Nat.mul_comm]; exact Nat.div_add_mod A E, Nat.mod_lt A hEp, rfl⟩
  have hq0 : ((A : Int) / 2 ^ k) = (Q : Int) := by rw [hEi, ← hQ]; push_cast; rfl
  have hQl : Q ≤ A := by rw [← hQ]; exact Nat.div_le_self _ _
  have hw1 : IntKind.u64.wrap ((A : Int) / 2 ^ k * 2 ^ k) = ((Q * E : Nat) : Int) := by
    rw [hq0, IntKind.wrap_u64, hEi, show (Q : Int) * (E : Int) = ((Q * E : Nat) : Int) by push_cast; rfl]
    generalize Q * E = z at hQE ⊢
    omega
  refine ⟨Q, R * 18446744073709551616 + M, ?_, ?_, ?_⟩
  · rw [hp, hVA, ← hQE]
    rw [Nat.add_mul, Nat.mul_comm 18446744073709551616 E, ← Nat.mul_assoc]
    generalize Q * E = z
    omega
  · rw [hp]
    omega
  · rw [hw1]
    generalize hz : Q * E = z at hQE ⊢
    by_cases hr : R = 0
    · have c1 : ((z : Int) != (A : Int)) = false := by
        rw [bne_eq_false_iff_eq]; omega
      rw [c1, if_neg (by decide)]
      have c2 : (decide (M < 0)) = false := by simp
      rw [c2]
      have e1 : IntKind.u64.wrap ((A : Int) - ((false.toNat : Nat) : Int)) = (A : Int) := by
        rw [IntKind.wrap_u64]; show ((A : Int) - 0) % 18446744073709551616 = A; omega
      have e2 : IntKind.u64.wrap ((M : Int) - ((0 : Nat) : Int)) = (M : Int) := by
        rw [IntKind.wrap_u64]; show ((M : Int) - 0) % 18446744073709551616 = M; omega
      rw [e1, e2, hq0]
      by_cases hm : M = 0
      · subst hm; subst hr
        rw [Nat.zero_mul, Nat.zero_add, if_pos rfl]
        have e := orU64 Q 0 (by omega) (by omega)
        rw [Nat.or_zero] at e
        simpa using e
      · have c3 : (decide (1 < (M : Int))) = true := by simp; omega
        rw [c3, if_neg (by omega)]
        have e := orU64 Q 1 (by omega) (by omega)
        rw [or_one] at e
        exact e
    · have c1 : ((z : Int) != (A : Int)) = true := by
        rw [bne_iff_ne]; omega
      rw [c1, if_pos rfl, hq0, if_neg (by omega)]
      have e := orU64 Q 1 (by omega) (by omega)
      rw [or_one] at e
      exact e
theorem us_exact (x i k : Nat) (hx : x < 18446744073709551616) (hh : hiT i < 18446744073709551616) (hlo : loT i = 0) (hk : k < 64) (hM : x * hiT i % 18446744073709551616 ≠ 1) :
    ∃ q r : Nat, x * hiT i = q * 2 ^ (64 + k) + r ∧ r < 2 ^ (64 + k) ∧ usT x i k = ((if r = 0 then q else q + 1 - q % 2 : Nat) : Int) := by
  unfold usT
  rw [hlo, Nat.mul_zero, Nat.zero_div]
  exact usc_exact _ k (Nat.mul_lt_mul'' hx hh) hk hM

/-- What is asked of a binade: the power p, the row's factor, the shift. -/
def wOk (k i kk t : Nat) : Bool :=
  decide (349 ≤ i) && decide (i ≤ 366) && decide (loT i = 0) && decide (kk < 64) && decide (k + kk ≤ 60) && decide (hiT i = 10 ^ (i - 348) * 2 ^ (3 + k + kk)) &&
  decide (2 ≤ 10 ^ (i - 348) * 1024 / 2 ^ (61 - k)) && decide (10 ^ (i - 348) * 1024 / 2 ^ (61 - k) ≤ 30) && decide (2 ^ (61 - k) ≤ t * 10 ^ (i - 348)) && decide (10 ^ (i - 348) < 2 ^ (58 - k)) && decide (hiT i < 18446744073709551616)
theorem wOk_mid : ∀ k, k < 32 → wOk k (ffMidI ((k : Int) - 63)) (ffK ((k : Int) - 63) (ffMidI ((k : Int) - 63))) 1024 = true := by decide +kernel
theorem wOk_skew : ∀ k, k < 32 → wOk k (ffSkewI ((k : Int) - 63)) (ffK ((k : Int) - 63) (ffSkewI ((k : Int) - 63))) 512 = true := by decide +kernel

theorem wOk_out {k i kk t : Nat} (h : wOk k i kk t = true) : 349 ≤ i ∧ i ≤ 366 ∧ loT i = 0 ∧ kk < 64 ∧ k + kk ≤ 60 ∧ hiT i = 10 ^ (i - 348) * 2 ^ (3 + k + kk) ∧ 2 ≤ 10 ^ (i - 348) * 1024 / 2 ^ (61 - k) ∧ 10 ^ (i - 348) * 1024 / 2 ^ (61 - k) ≤ 30 ∧ 2 ^ (61 - k) ≤ t * 10 ^ (i - 348) ∧ 10 ^ (i - 348) < 2 ^ (58 - k) ∧ hiT i < 18446744073709551616 := by
  simp only [wOk, Bool.and_eq_true, decide_eq_true_eq] at h
  obtain ⟨⟨⟨⟨⟨⟨⟨⟨⟨⟨a, b⟩, c⟩, d⟩, e⟩, f⟩, g⟩, h⟩, i⟩, j⟩, l⟩ := h
  exact ⟨a, b, c, d, e, f, g, h, i, j, l⟩
/-- usT where the row is exact, at x: four times x * P / 2 ^ (63 - k). -/
theorem us_at (x k i kk P : Nat) (hx : x < 18446744073709551616) (h8 : x % 4 = 0) (hh : hiT i < 18446744073709551616) (hlo : loT i = 0) (hk : kk < 64) (hkk : k + kk ≤ 60) (hP : hiT i = P * 2 ^ (3 + k + kk)) :
    ∃ q r : Nat, x * P = q * 2 ^ (61 - k) + r ∧ r < 2 ^ (61 - k) ∧ usT x i kk = ((if r = 0 then q else q + 1 - q % 2 : Nat) : Int) := by
  have hM : x * hiT i % 18446744073709551616 ≠ 1 := by
    intro h
    obtain ⟨y, rfl⟩ : ∃ y, x = 4 * y := ⟨x / 4, by omega⟩
    rw [Nat.mul_assoc] at h
    omega
  obtain ⟨q, r, e1, e2, e3⟩ := us_exact x i kk hx hh hlo hk hM
  have hS : 2 ^ (64 + kk) = 2 ^ (61 - k) * 2 ^ (3 + k + kk) := by rw [← Nat.pow_add]; congr 1; omega
  obtain ⟨S, hSS⟩ : ∃ S, 2 ^ (3 + k + kk) = S := ⟨_, rfl⟩
  have hSp : 0 < S := hSS ▸ Nat.two_pow_pos _
  rw [hSS] at hS hP
  obtain ⟨T, hTT⟩ : ∃ T, 2 ^ (61 - k) = T := ⟨_, rfl⟩
  rw [hTT] at hS ⊢
  rw [hS] at e1 e2
  rw [hP, ← Nat.mul_assoc, ← Nat.mul_assoc] at e1
  have hr : r = (x * P - q * T) * S := by rw [Nat.sub_mul]; omega
  obtain ⟨r', hr'⟩ : ∃ r', x * P - q * T = r' := ⟨_, rfl⟩
  rw [hr'] at hr
  have hle : q * T ≤ x * P := by
    have : q * T * S ≤ x * P * S := by omega
    exact Nat.le_of_mul_le_mul_right this hSp
  refine ⟨q, r', by omega, ?_, ?_⟩
  · rw [hr] at e2
    exact Nat.lt_of_mul_lt_mul_right e2
  · rw [e3, hr]
    by_cases z : r' = 0
    · rw [z, Nat.zero_mul]
    · rw [if_neg z, if_neg (Nat.pos_iff_ne_zero.1 (Nat.mul_pos (Nat.pos_of_ne_zero z) hSp))]
/-- The two ends' digits: the whole number's own stand between them. -/
theorem whole_pair (n k i kk t od : Nat) (hn1 : 2 ^ k ≤ n) (hn2 : n < 2 ^ (k + 1)) (hk : k < 32) (ht : t = 1024 ∨ t = 512) (hod : od ≤ 1) (h : wOk k i kk t = true) :
    ffPair (n * 2 ^ (63 - k) - t) (n * 2 ^ (63 - k) + 1024) (n * 2 ^ (63 - k)) i kk od = (((n * 10 ^ (i - 349) : Nat) : Int), -((i : Int) - 349)) := by
  obtain ⟨i1, i2, hlo, k1, k2, hP, c1, c2, c3, c4, hh⟩ := wOk_out h
  obtain ⟨P, hPP⟩ : ∃ P, 10 ^ (i - 348) = P := ⟨_, rfl⟩
  have hP10 : P = 10 ^ (i - 349) * 10 := by rw [← hPP, ← Nat.pow_succ, show (i - 349).succ = i - 348 from by omega]
  rw [hPP] at hP c1 c2 c3 c4
  obtain ⟨T, hT⟩ : ∃ T, 2 ^ (61 - k) = T := ⟨_, rfl⟩
  have hTp : 0 < T := hT ▸ Nat.two_pow_pos _
  have hT4 : 2 ^ (63 - k) = 4 * T := by rw [← hT, show 63 - k = (61 - k) + 2 by omega, Nat.pow_add, Nat.mul_comm]
  rw [hT] at c1 c2 c3
  obtain ⟨Z, hZ⟩ : ∃ Z, 10 ^ (i - 349) = Z := ⟨_, rfl⟩
  rw [hZ] at hP10 ⊢
  have hNP : n * P < 2 ^ 59 := by
    have a := Nat.mul_lt_mul'' hn2 c4
    rw [← Nat.pow_add, show k + 1 + (58 - k) = 59 by omega] at a
    exact a
  have hm : n * 2 ^ (63 - k) < 18446744073709551616 - 2048 ∧ 2048 ≤ n * 2 ^ (63 - k) := by
    have a : n + 1 ≤ 2 ^ (k + 1) := hn2
    have b := Nat.mul_le_mul_right (2 ^ (63 - k)) a
    rw [← Nat.pow_add, show k + 1 + (63 - k) = 64 by omega] at b
    have c := Nat.mul_le_mul_right (2 ^ (63 - k)) hn1
    rw [← Nat.pow_add, show k + (63 - k) = 63 by omega] at c
    have d : 2 ^ 32 ≤ 2 ^ (63 - k) := Nat.pow_le_pow_right (by decide) (by omega)
    rw [Nat.add_mul] at b
    omega
  have hm4 : n * 2 ^ (63 - k) = n * T * 4 := by rw [hT4, Nat.mul_comm 4 T, Nat.mul_assoc]
  rw [hm4] at hm ⊢
  obtain ⟨q1, r1, a1, a2, a3⟩ := us_at (n * T * 4 - t) k i kk P (by omega) (by omega) hh hlo k1 k2 hP
  obtain ⟨q2, r2, b1, b2, b3⟩ := us_at (n * T * 4 + 1024) k i kk P (by omega) (by omega) hh hlo k1 k2 hP
  rw [hT] at a1 a2 b1 b2
  obtain ⟨N, hN⟩ : ∃ N, n * P = N := ⟨_, rfl⟩
  have hNN : n * T * 4 * P = 4 * N * T := by rw [← hN]; rw [Nat.mul_right_comm n T 4, Nat.mul_right_comm (n * 4) T P, Nat.mul_right_comm n 4 P, Nat.mul_comm (n * P) 4]
  have hN10 : N = n * Z * 10 := by rw [← hN, hP10, Nat.mul_assoc]
  rw [hN] at hNP
  -- below
  have hq1 : q1 + 1 ≤ 4 * N := by
    have e : q1 * T < 4 * N * T := by
      have : (n * T * 4 - t) * P + t * P = n * T * 4 * P := by rw [← Nat.add_mul, Nat.sub_add_cancel (by omega)]
      have tp : 0 < t * P := by omega
      omega
    exact Nat.lt_of_mul_lt_mul_right e
  -- above
  have hq2 : q2 = 4 * N + P * 1024 / T := by
    have : (n * T * 4 + 1024) * P = 4 * N * T + P * 1024 := by rw [Nat.add_mul, hNN, Nat.mul_comm 1024 P]
    rw [this] at b1
    have d := Nat.div_add_mod (P * 1024) T
    have d2 := Nat.mod_lt (P * 1024) hTp
    have f : (4 * N + P * 1024 / T) * T + P * 1024 % T = q2 * T + r2 := by
      rw [Nat.add_mul, Nat.mul_comm (P * 1024 / T) T]; omega
    have g : ((4 * N + P * 1024 / T) * T + P * 1024 % T) / T = (q2 * T + r2) / T := by rw [f]
    rw [Nat.add_comm (_ * T), Nat.add_mul_div_right _ _ hTp, Nat.div_eq_of_lt d2, Nat.add_comm (q2 * T), Nat.add_mul_div_right _ _ hTp, Nat.div_eq_of_lt b2] at g
    omega
  have hmin : shMin (n * T * 4 - t) i kk od ≤ (N : Int) := by
    unfold shMin
    rw [a3]
    split <;> omega
  have hmax : (N : Int) ≤ shMax (n * T * 4 + 1024) i kk od ∧ shMax (n * T * 4 + 1024) i kk od ≤ (N : Int) + 9 := by
    unfold shMax
    rw [b3]
    split <;> omega
  unfold ffPair shD shQ
  have hc : shMin (n * T * 4 - t) i kk od ≤ shMax (n * T * 4 + 1024) i kk od / 10 * 10 := by omega
  rw [if_pos hc, if_pos hc]
  refine Prod.ext ?_ ?_
  · show shMax (n * T * 4 + 1024) i kk od / 10 = ((n * Z : Nat) : Int)
    omega
  · show -((i : Int) - 348 - 1) = -((i : Int) - 349)
    omega

/-- The word of a whole number from 2 ^ k on. -/
def wordW (n k : Nat) : Nat := (k + 1023) * 4503599627370496 + (n - 2 ^ k) * 2 ^ (52 - k)
theorem wordW_parts (n k : Nat) (hn1 : 2 ^ k ≤ n) (hn2 : n < 2 ^ (k + 1)) (hk : k < 32) :
    wordW n k % 4503599627370496 = (n - 2 ^ k) * 2 ^ (52 - k) ∧ wordW n k / 4503599627370496 = k + 1023 ∧ ffM (wordW n k) = n * 2 ^ (63 - k) ∧ ffE (wordW n k) = (k : Int) - 63 := by
  have e1 : 2 ^ k * 2 ^ (52 - k) = 4503599627370496 := by rw [← Nat.pow_add, show k + (52 - k) = 52 by omega]
  have hl : (n - 2 ^ k) * 2 ^ (52 - k) < 4503599627370496 := by
    have a : n - 2 ^ k < 2 ^ k := by rw [Nat.pow_succ] at hn2; omega
    have b := (Nat.mul_lt_mul_right (Nat.two_pow_pos (52 - k))).2 a
    omega
  have hs : (n - 2 ^ k) * 2 ^ (52 - k) + 4503599627370496 = n * 2 ^ (52 - k) := by
    rw [← e1, ← Nat.add_mul, Nat.sub_add_cancel hn1]
  have hw : wordW n k = (k + 1023) * 4503599627370496 + (n - 2 ^ k) * 2 ^ (52 - k) := rfl
  have hge : ¬ wordW n k < 4503599627370496 := by omega
  have q1 : wordW n k % 4503599627370496 = (n - 2 ^ k) * 2 ^ (52 - k) := by omega
  have q2 : wordW n k / 4503599627370496 = k + 1023 := by omega
  refine ⟨q1, q2, ?_, ?_⟩
  · unfold ffM
    rw [if_neg hge, q1, hs, Nat.mul_assoc, show (2048 : Nat) = 2 ^ 11 from rfl, ← Nat.pow_add, show 52 - k + 11 = 63 - k by omega]
  · unfold ffE
    rw [if_neg hge, q2]
    omega
theorem whole_ffS (n k : Nat) (hn1 : 2 ^ k ≤ n) (hn2 : n < 2 ^ (k + 1)) (hk : k < 32) : ∃ z : Nat, ffS (wordW n k) = (((n * 10 ^ z : Nat) : Int), -(z : Int)) ∧ z ≤ 17 := by
  obtain ⟨q1, q2, hM, hE⟩ := wordW_parts n k hn1 hn2 hk
  have hge : ¬ wordW n k < 4503599627370496 := by omega
  have fin : ∀ i kk t od : Nat, (t = 1024 ∨ t = 512) → od ≤ 1 → wOk k i kk t = true → ∃ z : Nat, ffPair (n * 2 ^ (63 - k) - t) (n * 2 ^ (63 - k) + 1024) (n * 2 ^ (63 - k)) i kk od = (((n * 10 ^ z : Nat) : Int), -(z : Int)) ∧ z ≤ 17 := fun i kk t od ht ho hok => by
    obtain ⟨i1, i2, _⟩ := wOk_out hok
    refine ⟨i - 349, ?_, by omega⟩
    rw [whole_pair n k i kk t od hn1 hn2 hk ht ho hok]
    refine Prod.ext rfl ?_
    show -((i : Int) - 349) = -((i - 349 : Nat) : Int)
    omega
  unfold ffS
  rw [if_neg hge, hM, hE]
  split
  · exact fin _ _ 512 _ (.inr rfl) (by omega) (wOk_skew k hk)
  · exact fin _ _ 1024 _ (.inl rfl) (by omega) (wOk_mid k hk)
theorem nDigits_ten (n : Nat) (h : 0 < n) : ∀ z, Lib.nDigits (n * 10 ^ z) = Lib.nDigits n + z
  | 0 => by rw [Nat.pow_zero, Nat.mul_one]; rfl
  | z + 1 => by
    have p : 0 < n * 10 ^ z := Nat.mul_pos h (Nat.pow_pos (by decide))
    rw [Nat.pow_succ, ← Nat.mul_assoc, Lib.nDigits_big (by omega), Nat.mul_div_cancel _ (by decide), nDigits_ten n h z]
    omega
theorem pow_le_nDigits (n : Nat) (h : 0 < n) : 10 ^ (Lib.nDigits n - 1) ≤ n := by
  induction n using Nat.strongRecOn with
  | ind n ih =>
    by_cases h10 : n < 10
    · rw [Lib.nDigits_small h10]; show 10 ^ 0 ≤ n; rw [Nat.pow_zero]; exact h
    · have := ih (n / 10) (by omega) (by omega)
      have p := Lib.nDigits_pos (n / 10)
      rw [Lib.nDigits_big h10, Nat.add_sub_cancel, show Lib.nDigits (n / 10) = Lib.nDigits (n / 10) - 1 + 1 by omega, Nat.pow_succ]
      omega
theorem trim_spec (d nd : Nat) : ∀ m, (∀ j, trimTo d nd m ≤ j → j < m → dgN d nd j = 48) ∧ (trimTo d nd m = 0 ∨ dgN d nd (trimTo d nd m - 1) ≠ 48)
  | 0 => ⟨fun j _ h => absurd h (by omega), .inl rfl⟩
  | m + 1 => by
    obtain ⟨h1, h2⟩ := trim_spec d nd m
    by_cases h : dgN d nd m = 48
    · have e : trimTo d nd (m + 1) = trimTo d nd m := by rw [trimTo, if_pos h]
      rw [e]
      refine ⟨fun j a b => ?_, h2⟩
      by_cases hj : j = m
      · rw [hj]; exact h
      · exact h1 j a (by omega)
    · have e : trimTo d nd (m + 1) = m + 1 := by rw [trimTo, if_neg h]
      rw [e]
      exact ⟨fun j a b => by omega, .inr (by simpa using h)⟩
theorem trim_fill (d nd L : Nat) (h : trimTo d nd nd ≤ L) (hL : L ≤ nd) : (List.range (trimTo d nd nd)).map (dgN d nd) ++ List.replicate (L - trimTo d nd nd) 48 = (List.range L).map (dgN d nd) := by
  have hs := (trim_spec d nd nd).1
  generalize trimTo d nd nd = T at h hs ⊢
  apply List.ext_getElem
  · simp; omega
  · intro j h1 h2
    simp only [List.length_map, List.length_range] at h2
    by_cases hj : j < T
    · rw [List.getElem_append_left (by simpa using hj)]
      simp
    · rw [List.getElem_append_right (by simpa using (by omega : T ≤ j))]
      simp only [List.getElem_replicate, List.getElem_map, List.getElem_range]
      exact (hs j (by omega) (by omega)).symm
theorem laid_plain (D : List UInt8) (T L : Nat) (hl : D.length = T) (hT : T ≤ L) (h1 : 1 ≤ L) (h2 : L ≤ 10) (R : List UInt8) (h : D ++ zs (L - T) = R) : laidB D (L : Int) = R := by
  unfold laidB
  rw [hl]
  have c1 : ¬ ((L : Int) < -5 ∨ 21 < (L : Int)) := by omega
  have c2 : ¬ ((L : Int) ≤ 0) := by omega
  have c3 : ¬ ((L : Int) < (T : Int)) := by omega
  rw [if_neg c1, if_neg c2, if_neg c3, show ((L : Int) - (T : Int)).toNat = L - T by omega]
  exact h
theorem pos_whole (n k : Nat) (hn1 : 2 ^ k ≤ n) (hn2 : n < 2 ^ (k + 1)) (hk : k < 32) (hL : Lib.nDigits n ≤ 10) : posB (wordW n k) = Lib.decDigits n := by
  obtain ⟨z, hS, hz⟩ := whole_ffS n k hn1 hn2 hk
  have hn : 0 < n := Nat.lt_of_lt_of_le (Nat.two_pow_pos k) hn1
  have hd : (ffS (wordW n k)).1.toNat = n * 10 ^ z := by rw [hS]; rfl
  have hq : (ffS (wordW n k)).2 = -(z : Int) := by rw [hS]
  obtain ⟨L, hLL⟩ : ∃ L, Lib.nDigits n = L := ⟨_, rfl⟩
  have hL1 : 1 ≤ L := hLL ▸ Lib.nDigits_pos n
  have hzp : 0 < 10 ^ z := Nat.pow_pos (by decide)
  have hdp : 0 < n * 10 ^ z := Nat.mul_pos hn hzp
  have hnd : ndN (n * 10 ^ z) = L + z := by unfold ndN; rw [if_neg (by omega), nDigits_ten n hn z, hLL]
  have hdig : ∀ t, t < L → dgN (n * 10 ^ z) (L + z) t = 48 + n / 10 ^ (L - 1 - t) % 10 := fun t ht => by
    unfold dgN
    rw [show L + z - 1 - t = z + (L - 1 - t) by omega, Nat.pow_add, ← Nat.div_div_eq_div_mul, Nat.mul_div_cancel _ hzp]
  have hzero : ∀ t, L ≤ t → t < L + z → dgN (n * 10 ^ z) (L + z) t = 48 := fun t h1 h2 => by
    unfold dgN
    obtain ⟨y, hy⟩ : ∃ y, z = (L + z - 1 - t) + (y + 1) := ⟨z - (L + z - 1 - t) - 1, by omega⟩
    have e : n * 10 ^ z = n * 10 ^ y * 10 * 10 ^ (L + z - 1 - t) := by
      conv => lhs; rw [hy]
      rw [Nat.pow_add, Nat.pow_succ, Nat.mul_comm (10 ^ (L + z - 1 - t)), ← Nat.mul_assoc, ← Nat.mul_assoc]
    rw [e, Nat.mul_div_cancel _ (Nat.pow_pos (by decide)), Nat.mul_mod_left]
  obtain ⟨hs1, hs2⟩ := trim_spec (n * 10 ^ z) (L + z) (L + z)
  have hT0 := trimTo_le (n * 10 ^ z) (L + z) (L + z)
  have hTL : trimTo (n * 10 ^ z) (L + z) (L + z) ≤ L := by
    rcases hs2 with h | h
    · omega
    · refine Classical.byContradiction fun hc => h (hzero _ (by omega) (by omega))
  have hT1 : trimTo (n * 10 ^ z) (L + z) (L + z) ≠ 0 := fun h0 => by
    have a := hs1 0 (by omega) (by omega)
    rw [hdig 0 (by omega)] at a
    have b := pow_le_nDigits n hn
    have c := Lib.lt_pow_nDigits n
    rw [hLL] at b c
    have e : n / 10 ^ (L - 1 - 0) < 10 := by
      rw [Nat.div_lt_iff_lt_mul (Nat.pow_pos (by decide)), Nat.mul_comm, ← Nat.pow_succ, show (L - 1 - 0).succ = L by omega]
      exact c
    have f : 1 ≤ n / 10 ^ (L - 1 - 0) := by
      rw [Nat.le_div_iff_mul_le (Nat.pow_pos (by decide)), Nat.one_mul]
      exact b
    omega
  have hfill := trim_fill (n * 10 ^ z) (L + z) L hTL (by omega)
  have hdl : digL (n * 10 ^ z) = (List.range (trimTo (n * 10 ^ z) (L + z) (L + z))).map (dgN (n * 10 ^ z) (L + z)) := by unfold digL; rw [hnd]
  have hne : digL (n * 10 ^ z) ≠ [] := by rw [hdl]; simpa using hT1
  have hlen : (digL (n * 10 ^ z)).length = trimTo (n * 10 ^ z) (L + z) (L + z) := by rw [hdl]; simp
  have hX : shX (wordW n k) + 1 = (L : Int) := by
    unfold shX; rw [hd, if_neg hne, hnd, hq]; omega
  have hD : shDs (wordW n k) = digL (n * 10 ^ z) := by unfold shDs; rw [hd, if_neg hne]
  have hul : (u8s (shDs (wordW n k))).length = trimTo (n * 10 ^ z) (L + z) (L + z) := by rw [hD]; unfold u8s; rw [List.length_map, hlen]
  have hrep : ∀ y : Nat, zs y = u8s (List.replicate y 48) := fun y => by
    unfold zs u8s
    rw [List.map_replicate]
    rfl
  have hdec : u8s ((List.range L).map (dgN (n * 10 ^ z) (L + z))) = Lib.decDigits n := by
    rw [Lib.decDigits_eq, hLL]
    unfold u8s
    rw [List.map_map]
    apply List.map_congr_left
    intro t ht
    rw [List.mem_range] at ht
    show Nat.toUInt8 (dgN (n * 10 ^ z) (L + z) t) = Lib.dg n (L - 1 - t)
    rw [hdig t ht]
    rfl
  rw [← hdl] at hfill
  rw [← hfill] at hdec
  rw [hLL] at hL
  clear hdl hlen hfill hne hT0 hs1 hs2 hzero hdig hdp hzp hS hd hq
  unfold posB
  rw [hX, hD]
  rw [hD] at hul
  have happ : u8s (digL (n * 10 ^ z) ++ List.replicate (L - trimTo (n * 10 ^ z) (L + z) (L + z)) 48) = u8s (digL (n * 10 ^ z)) ++ zs (L - trimTo (n * 10 ^ z) (L + z) (L + z)) := by
    rw [hrep]; exact List.map_append ..
  rw [happ] at hdec
  exact laid_plain _ _ L hul hTL hL1 hL _ hdec

theorem pow_gen (n a b D : Nat) (h : a + b = D) : n * 2 ^ a * 2 ^ b = n * 2 ^ D := by rw [Nat.mul_assoc, ← Nat.pow_add, h]
theorem wordW_lt (n k : Nat) (hn1 : 2 ^ k ≤ n) (hn2 : n < 2 ^ (k + 1)) (hk : k < 32) : 4503599627370496 ≤ wordW n k ∧ wordW n k < 9218868437227405312 := by
  obtain ⟨q1, q2, _, _⟩ := wordW_parts n k hn1 hn2 hk
  omega
theorem val_word (n k : Nat) (hn1 : 2 ^ k ≤ n) (hn2 : n < 2 ^ (k + 1)) (hk : k < 32) : val (wordW n k) = n * 2 ^ 1074 := by
  obtain ⟨q1, q2, _, _⟩ := wordW_parts n k hn1 hn2 hk
  obtain ⟨g1, _⟩ := wordW_lt n k hn1 hn2 hk
  have hs : sig (wordW n k) = n * 2 ^ (52 - k) := by
    unfold sig
    rw [if_neg (by omega), q1]
    have e1 : 2 ^ k * 2 ^ (52 - k) = 4503599627370496 := by rw [← Nat.pow_add, show k + (52 - k) = 52 by omega]
    rw [← e1, ← Nat.add_mul, Nat.add_sub_cancel' hn1]
  have he : ex (wordW n k) = k + 1022 := by
    unfold ex
    rw [if_neg (by omega), q2]
    omega
  unfold val
  rw [hs, he]
  exact pow_gen n (52 - k) (k + 1022) 1074 (by omega)
theorem float_whole (n k : Nat) (hn1 : 2 ^ k ≤ n) (hn2 : n < 2 ^ (k + 1)) (hk : k < 32) : floatOfInt .f64 (n : Int) = wordW n k := by
  have h := nearest_exact false n 0 (wordW n k) 1074 0 (wordW_lt n k hn1 hn2 hk).2 (by decide) (by rw [val_word n k hn1 hn2 hk, Nat.pow_zero, Nat.mul_one])
  rw [word_eq] at h
  have e : floatOfInt .f64 (n : Int) = Ieee.double.nearest (decide ((n : Int) < 0)) (n : Int).natAbs 0 := rfl
  rw [e, show decide ((n : Int) < 0) = false from by simp, Int.natAbs_natCast, h]
  rfl
theorem whole_log (n : Nat) (h0 : 0 < n) (h1 : n < 4294967296) : 2 ^ n.log2 ≤ n ∧ n < 2 ^ (n.log2 + 1) ∧ n.log2 < 32 := by
  obtain ⟨a, b⟩ := (Nat.log2_eq_iff (by omega)).1 (rfl : n.log2 = n.log2)
  exact ⟨a, b, (Nat.log2_lt (by omega)).2 h1⟩
/-- What is shown of a whole number below 2^32. -/
theorem showB_whole (n : Nat) (h1 : n < 4294967296) : floatOfInt .f64 (n : Int) < 18446744073709551616 ∧ showB (floatOfInt .f64 (n : Int)) = Lib.decDigits n := by
  by_cases h0 : n = 0
  · subst h0
    have e : floatOfInt .f64 ((0 : Nat) : Int) = 0 := by kernel_rfl
    rw [e, Lib.decDigits_one (by decide)]
    exact ⟨by decide, by kernel_rfl⟩
  · obtain ⟨a, b, c⟩ := whole_log n (by omega) h1
    have hL := nDigits_le n 10 (by omega)
    rw [float_whole n _ a b c]
    obtain ⟨g1, g2⟩ := wordW_lt n _ a b c
    have hp := pos_whole n _ a b c (by omega)
    refine ⟨by omega, ?_⟩
    unfold showB unsB
    have c1 : ¬ (9223372036854775808 < wordW n n.log2 ∧ ¬ nan (wordW n n.log2)) := by omega
    have c2 : ¬ nan (wordW n n.log2) := by unfold nan; omega
    have c3 : ¬ (wordW n n.log2 = 9218868437227405312) := by omega
    have c4 : ¬ (wordW n n.log2 % 9223372036854775808 = 0) := by omega
    rw [if_neg c1, if_neg c2, if_neg c3, if_neg c4]
    exact hp
set_option maxHeartbeats 1000000 in
theorem rkeyOf_any (u : Nat) (hu : u < 4294967296) (w : World) (hl : Hid (LaidF w)) :
    Calls Tryz.prog 9 #[.int .u32 u] w fun e w' => e = .returned (.agg #[.string (keyT u), .int .i64 0]) ∧ Below w.heap.size w w' := by
  obtain ⟨hx, hb⟩ := showB_whole u hu
  have HS := Hid.mk' (fun W hW => rshow_any _ W hx hW)
  rw [hb] at HS
  have hk : ofFst (ofS (Sb (Lib.decDigits u))) = keyT u := by
    rw [asc _ (fun c hc => by have := dec_digit u c hc; omega)]
    rfl
  rw [hk] at HS
  have HP : Hid (Hid (LaidF (w.alloc (.cells #[.string ⟨#[]⟩, .int .i64 0] 29)))) := Hid.mk' (Hid.mk' (hl.out.below ((Below.refl _ _).alloc (Nat.le_refl _) _)))
  clear hb hk
  go_enter Tryz.func9, Tryz.ntmps9
  go_wp2_with fail
  refine (HS.out _ HP.out).mono ?_
  rintro e w1 ⟨rfl, b1⟩
  have c0 := (b1.cell (p := ⟨w.heap.size, 0, none⟩) (by simp)).trans (World.cell?_alloc_new _ _ _ _)
  have c1 := (b1.cell (p := ⟨w.heap.size, 1, none⟩) (by simp)).trans (World.cell?_alloc_new _ _ _ _)
  have f0 := (b1.frozen (p := ⟨w.heap.size, 0, none⟩) (by simp)).trans (World.frozen?_alloc_new _ _ _ _)
  have f1 := (b1.frozen (p := ⟨w.heap.size, 1, none⟩) (by simp)).trans (World.frozen?_alloc_new _ _ _ _)
  simp only [List.getElem?_toArray, List.getElem?_cons_zero, List.getElem?_cons_succ] at c0 c1
  go_wp2
  (try simp only [Exit.inBlock, Exit.then])
  refine bodyPost_ret (v := .agg #[.string (keyT u), .int .i64 0]) ?_ rfl ⟨rfl, ?_⟩
  · rw [results_cell rfl]
    go_simp
  · have b0 : RowKit.Below w.heap.size w (w.alloc (.cells #[.string ⟨#[]⟩, .int .i64 0] 29)) := (Below.refl _ _).alloc (Nat.le_refl _) _
    have b3 := b0.trans (b1.mono b0.size)
    repeat' (first | exact b3 | refine RowKit.Below.setCell ?_ (by simp) _)

theorem key_max : idxB (keyT 4294967295) = false := by
  cases h : idxB (keyT 4294967295) with
  | false => rfl
  | true =>
    have a := idx_key _ h
    rw [key_even] at a
    have b := congrArg (fun s => dv (uns s)) a
    simp only [uns_key, du_dv] at b
    have c := idxN_lt (keyT 4294967295)
    omega
theorem key_small (i : Nat) (hi : i < 4294967296) : ((keyT i).size : Int) ≤ 100 := by
  have h := nDigits_le i 10 (by omega)
  have e : (keyT i).size / 2 = (du i).length := key_size i
  have e2 : (du i).length = Lib.nDigits i := by unfold du; rw [List.length_map, Lib.decDigits_length]
  omega

set_option maxHeartbeats 2000000 in
set_option maxRecDepth 100000 in
theorem index_walk (s : ByteArray) (i : Nat) (hi : i < 4294967296) (w : World) (hs : (s.size : Int) ≤ 140737488351232) (hl : LaidF w) :
    Calls Tryz.prog 3 #[.string s, .int .u32 i] w fun e w' => e = .returned (.bool true) ∧ Below w.heap.size w w' := by
  have HL := Hid.mk' hl
  have HA := Hid.mk' (awake_any w hl.u64p)
  have hks := key_small i hi
  have HI := Hid.mk' (fun W => index_any s W hs)
  have HR := Hid.mk' (fun W => rindex_any s W hs)
  have HK := Hid.mk' (fun W (h : LaidF W) => of_key i hi W h.u64p)
  have HO := Hid.mk' (fun W (h : LaidF W) => rkeyOf_any i hi W (Hid.mk' h))
  have HS := Hid.mk' (fun W => same_any (keyT i) (keyT i) 0 0 W (by omega) (by omega))
  have hsame : sameK (keyT i, 0) (keyT i, 0) = true := by
    rw [same_cls]
  rw [hsame] at HS
  have HI2 := Hid.mk' (fun W => index_any (keyT i) W (by omega))
  have e1 : idxE s = .returned (.tuple #[.int .u32 (idxN s), .bool (idxB s)]) := rfl
  have e2 : idxE (keyT i) = .returned (.tuple #[.int .u32 (idxN (keyT i)), .bool (idxB (keyT i))]) := rfl
  rw [e1] at HI HR
  rw [e2] at HI2
  obtain ⟨N, hN⟩ : ∃ N, idxN s = N := ⟨_, rfl⟩
  obtain ⟨B, hB⟩ : ∃ B, idxB s = B := ⟨_, rfl⟩
  rw [hN, hB] at HI HR
  clear e1 e2 hsame hl hN hB
  go_enter Tryz.func3, Tryz.ntmps3
  go_wp2_with fail
  refine (HA.out).mono ?_
  rintro e w1 ⟨rfl, b1⟩
  by_cases hlen : (1000 : Int) < (s.size : Int)
  · go_wp2
    go_ret
    exact ⟨rfl, b1⟩
  · go_wp2_with fail
    refine (HI.out _).mono ?_
    rintro e w2 ⟨rfl, nn, hw2⟩
    have b2 : Below w1.heap.size w1 w2 := by rw [hw2]; exact (kept_drewN _ 0 w1 nn).1
    clear hw2
    go_wp2_with fail
    refine (HR.out _).mono ?_
    rintro e w3 ⟨rfl, b3⟩
    have B3 : Below w.heap.size w w3 := (b1.trans (b2.mono b1.size)).trans (b3.mono (b1.trans (b2.mono b1.size)).size)
    have HL3 := Hid.mk' (HL.out.below B3)
    clear b1 b2 b3 HI HR HA
    have hv : (i = 4294967295 ∧ idxB (keyT i) = false) ∨ (i ≠ 4294967295 ∧ idxB (keyT i) = true ∧ idxN (keyT i) = i) := by
      by_cases he : i = 4294967295
      · subst he; exact .inl ⟨rfl, key_max⟩
      · exact .inr ⟨he, key_idx i (by omega)⟩
    obtain ⟨KT, hKT⟩ : ∃ KT, keyT i = KT := ⟨_, rfl⟩
    rw [hKT] at HK HO HS HI2 hv
    clear hKT hks
    have hfd : ∀ W, (Instr.field 29 (.agg #[.string KT, .int .i64 0]) 0).run Tryz.prog W = .ok (.string KT) W := fun W => by kernel_rfl
    have hF : Hid (∀ W, Below w.heap.size w W → LaidF W) := Hid.mk' (fun W h => HL.out.below h)
    rcases hv with ⟨q1, q2⟩ | ⟨q1, q2, q3⟩
    · rw [q2] at HI2
      subst q1
      go_wp2_with fail
      refine (HK.out _ (hF.out _ B3)).mono ?_
      rintro e w4 ⟨rfl, b4⟩
      have B4 : Below w.heap.size w w4 := B3.trans (b4.mono B3.size)
      go_wp2_with fail
      refine (HO.out _ (hF.out _ B4)).mono ?_
      rintro e w5 ⟨rfl, b5⟩
      have B5 : Below w.heap.size w w5 := B4.trans (b5.mono B4.size)
      go_wp2_with fail
      refine (HS.out _).mono ?_
      rintro e w6 ⟨rfl, b6⟩
      have B6 : Below w.heap.size w w6 := B5.trans (b6.mono B5.size)
      go_wp2_with fail
      refine (HK.out _ (hF.out _ B6)).mono ?_
      rintro e w7 ⟨rfl, b7⟩
      have B7 : Below w.heap.size w w7 := B6.trans (b7.mono B6.size)
      clear b4 b5 b6 b7 B3 B4 B5 B6
      go_wp2_with fail
      refine (HI2.out _).mono ?_
      rintro e w8 ⟨rfl, n8, hw8⟩
      have B8 : Below w.heap.size w w8 := B7.trans ((by rw [hw8]; exact (kept_drewN _ 0 w7 n8).1 : Below w7.heap.size w7 w8).mono B7.size)
      clear hw8
      go_wp2
      go_ret
      exact ⟨rfl, B8⟩
    · rw [q2, q3] at HI2
      have z1 : ¬ (i : Int) = 4294967295 := by omega
      go_wp2_with fail
      refine (HK.out _ (hF.out _ B3)).mono ?_
      rintro e w4 ⟨rfl, b4⟩
      have B4 : Below w.heap.size w w4 := B3.trans (b4.mono B3.size)
      go_wp2_with fail
      refine (HO.out _ (hF.out _ B4)).mono ?_
      rintro e w5 ⟨rfl, b5⟩
      have B5 : Below w.heap.size w w5 := B4.trans (b5.mono B4.size)
      go_wp2_with fail
      refine (HS.out _).mono ?_
      rintro e w6 ⟨rfl, b6⟩
      have B6 : Below w.heap.size w w6 := B5.trans (b6.mono B5.size)
      go_wp2_with fail
      refine (HK.out _ (hF.out _ B6)).mono ?_
      rintro e w7 ⟨rfl, b7⟩
      have B7 : Below w.heap.size w w7 := B6.trans (b7.mono B6.size)
      clear b4 b5 b6 b7 B3 B4 B5 B6
      go_wp2_with fail
      refine (HI2.out _).mono ?_
      rintro e w8 ⟨rfl, n8, hw8⟩
      have B8 : Below w.heap.size w w8 := B7.trans ((by rw [hw8]; exact (kept_drewN _ 0 w7 n8).1 : Below w7.heap.size w7 w8).mono B7.size)
      clear hw8
      go_wp2
      go_ret
      exact ⟨rfl, B8⟩
theorem index_all (s : ByteArray) (z : Int) (w : World) (hs : s.size ≤ 140737488351232) (hz : (Lit.int .u32 z).wf = true) (hl : LaidF w) :
    Calls Tryz.prog 3 #[.string s, .int .u32 z] w fun e w' => e = .returned (.bool true) ∧ Below w.heap.size w w' := by
  have h : 0 ≤ z ∧ z ≤ 4294967295 := by simpa [Lit.wf, IntKind.min, IntKind.max, IntKind.signed, IntKind.bits] using hz
  obtain ⟨i, rfl⟩ : ∃ i : Nat, z = (i : Int) := ⟨z.toNat, by omega⟩
  exact index_walk s i (by omega) w (by omega) hl
end Go.Proofs.YtcdifnnbbppbgaaGreatDoor
