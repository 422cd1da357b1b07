/- The float nearest to a whole number, by its highest bits and a sticky one: plain. Whole numbers as words, how they grow by a digit, and their highest bits: plain. Digits to a base as bytes; how hex digits are taken in; how what is taken in is rounded: plain. How what was read of hex digits is brought to 55 bits, and rounded: plain. -/
import Derived.Test.YtighenikjedojaaGreatDoorFl
import Derived.Laws.Cover2
namespace Go.Proofs.YtighenikjedojaaGreatDoor
set_option linter.unusedVariables false
namespace Fl
open Ieee

/-- Cut by d bits, to the nearest, between two the even one. -/
def rnd (n d : Nat) : Nat := n / 2 ^ d + (if 2 ^ d < 2 * (n % 2 ^ d) ∨ (2 ^ d = 2 * (n % 2 ^ d) ∧ n / 2 ^ d % 2 = 1) then 1 else 0)
theorem cut_even (neg : Bool) (n d : Nat) (h : d ≤ n.log2 + 2) : Toward.even.cut neg n d = rnd n d := by
  unfold Toward.cut rnd
  simp only [Nat.min_eq_left h, Nat.one_shiftLeft]
  congr 1
  by_cases c : 2 ^ d < 2 * (n % 2 ^ d) ∨ (2 ^ d = 2 * (n % 2 ^ d) ∧ n / 2 ^ d % 2 = 1)
  · rw [if_pos c]
    have : (decide (2 ^ d < 2 * (n % 2 ^ d)) || (2 ^ d == 2 * (n % 2 ^ d) && n / 2 ^ d % 2 == 1)) = true := by
      simpa using c
    rw [this]; rfl
  · rw [if_neg c]
    have : (decide (2 ^ d < 2 * (n % 2 ^ d)) || (2 ^ d == 2 * (n % 2 ^ d) && n / 2 ^ d % 2 == 1)) = false := by
      rw [← Bool.not_eq_true]
      intro q
      exact c (by simpa using q)
    rw [this]; rfl
theorem rnd_scale (n s d : Nat) : rnd (n * 2 ^ s) (d + s) = rnd n d := by
  have hp : 0 < 2 ^ s := Nat.two_pow_pos s
  have e1 : n * 2 ^ s / 2 ^ (d + s) = n / 2 ^ d := by rw [Nat.pow_add, Nat.mul_div_mul_right _ _ hp]
  have e2 : n * 2 ^ s % 2 ^ (d + s) = n % 2 ^ d * 2 ^ s := by rw [Nat.pow_add, Nat.mul_mod_mul_right]
  unfold rnd
  rw [e1, e2, Nat.pow_add]
  congr 1
  have e3 : 2 * (n % 2 ^ d * 2 ^ s) = 2 * (n % 2 ^ d) * 2 ^ s := by rw [Nat.mul_assoc]
  rw [e3]
  have q1 : 2 ^ d * 2 ^ s < 2 * (n % 2 ^ d) * 2 ^ s ↔ 2 ^ d < 2 * (n % 2 ^ d) := Nat.mul_lt_mul_right hp
  have q2 : 2 ^ d * 2 ^ s = 2 * (n % 2 ^ d) * 2 ^ s ↔ 2 ^ d = 2 * (n % 2 ^ d) := ⟨fun q => Nat.eq_of_mul_eq_mul_right hp q, fun q => congrArg (· * 2 ^ s) q⟩
  simp only [q1, q2]
/-- Cut by d bits, the lowest bit that is left tells of those that are not. -/
def st (N d : Nat) : Nat := N / 2 ^ d / 2 * 2 + (if N / 2 ^ d % 2 = 1 ∨ N % 2 ^ d ≠ 0 then 1 else 0)
theorem st_div2 (N d : Nat) : st N d / 2 = N / 2 ^ d / 2 := by unfold st; split <;> omega
theorem st_mod2 (N d : Nat) : st N d % 2 = if N / 2 ^ d % 2 = 1 ∨ N % 2 ^ d ≠ 0 then 1 else 0 := by unfold st; split <;> omega
theorem st_zero (N : Nat) : st N 0 = N := by
  unfold st
  rw [Nat.pow_zero, Nat.div_one, Nat.mod_one]
  by_cases h : N % 2 = 1
  · rw [if_pos (.inl h)]; omega
  · rw [if_neg (by omega)]; omega
theorem rnd_st (N d j : Nat) (hj : 2 ≤ j) : rnd (st N d) j = rnd N (d + j) := by
  obtain ⟨k, rfl⟩ : ∃ k, j = k + 2 := ⟨j - 2, by omega⟩
  have ha : 0 < 2 ^ d := Nat.two_pow_pos d
  have hc : 0 < 2 ^ k := Nat.two_pow_pos k
  have hb : (2 : Nat) ^ (k + 2) = 2 * (2 * 2 ^ k) := by rw [Nat.pow_add]; omega
  have hr : N % 2 ^ d < 2 ^ d := Nat.mod_lt _ ha
  have e1 : st N d / 2 ^ (k + 2) = N / 2 ^ d / 2 / (2 * 2 ^ k) := by rw [hb, ← Nat.div_div_eq_div_mul, st_div2]
  have e2 : st N d % 2 ^ (k + 2) = st N d % 2 + 2 * (N / 2 ^ d / 2 % (2 * 2 ^ k)) := by rw [hb, Nat.mod_mul, st_div2]
  have e3 : N / 2 ^ (d + (k + 2)) = N / 2 ^ d / 2 / (2 * 2 ^ k) := by rw [Nat.pow_add, hb, ← Nat.div_div_eq_div_mul, ← Nat.div_div_eq_div_mul]
  have e4 : N % 2 ^ (d + (k + 2)) = N % 2 ^ d + 2 ^ d * (N / 2 ^ d % 2 + 2 * (N / 2 ^ d / 2 % (2 * 2 ^ k))) := by
    rw [Nat.pow_add, hb, Nat.mod_mul, Nat.mod_mul (a := 2)]
  unfold rnd
  rw [e1, e2, e3, e4, Nat.pow_add 2 d (k + 2), hb, st_mod2]
  congr 1
  generalize N / 2 ^ d / 2 / (2 * 2 ^ k) = z
  generalize N / 2 ^ d / 2 % (2 * 2 ^ k) = y
  have hp : N / 2 ^ d % 2 < 2 := Nat.mod_lt _ (by omega)
  generalize N / 2 ^ d % 2 = p at *
  generalize N % 2 ^ d = r at *
  generalize 2 ^ d = a at *
  generalize 2 ^ k = c at *
  by_cases r0 : r = 0
  · subst r0
    have t1 : (if p = 1 ∨ 0 ≠ 0 then 1 else 0) = p := by
      by_cases q : p = 1
      · rw [if_pos (.inl q), q]
      · rw [if_neg (by omega)]; omega
    rw [t1, Nat.zero_add, show 2 * (a * (p + 2 * y)) = a * (2 * (p + 2 * y)) by rw [Nat.mul_left_comm]]
    have q1 : a * (2 * (2 * c)) < a * (2 * (p + 2 * y)) ↔ 2 * (2 * c) < 2 * (p + 2 * y) := Nat.mul_lt_mul_left ha
    have q2 : a * (2 * (2 * c)) = a * (2 * (p + 2 * y)) ↔ 2 * (2 * c) = 2 * (p + 2 * y) := ⟨fun q => Nat.eq_of_mul_eq_mul_left ha q, fun q => by rw [q]⟩
    simp only [q1, q2]
  · have t1 : (if p = 1 ∨ r ≠ 0 then 1 else 0) = 1 := if_pos (.inr r0)
    rw [t1]
    have key : (2 * (2 * c) < 2 * (1 + 2 * y) ↔ c ≤ y) := by omega
    have k2 : ¬ (2 * (2 * c) = 2 * (1 + 2 * y)) := by omega
    have k3 : a * (2 * (2 * c)) < 2 * (r + a * (p + 2 * y)) ↔ c ≤ y := by
      have f1 : a * (2 * (2 * c)) = 2 * (a * (2 * c)) := by rw [Nat.mul_left_comm]
      rw [f1, Nat.mul_lt_mul_left (by omega)]
      constructor
      · intro h
        rcases Nat.lt_or_ge y c with q | q
        · have := Nat.mul_le_mul_left a (show p + 2 * y + 1 ≤ 2 * c by omega)
          rw [Nat.mul_add, Nat.mul_one] at this
          omega
        · exact q
      · intro h
        have := Nat.mul_le_mul_left a (show 2 * c ≤ p + 2 * y by omega)
        omega
    have k4 : ¬ (a * (2 * (2 * c)) = 2 * (r + a * (p + 2 * y))) := by
      have f1 : a * (2 * (2 * c)) = 2 * (a * (2 * c)) := by rw [Nat.mul_left_comm]
      rw [f1]
      intro h
      rcases Nat.lt_or_ge (p + 2 * y) (2 * c) with q | q
      · have := Nat.mul_le_mul_left a (show p + 2 * y + 1 ≤ 2 * c by omega)
        rw [Nat.mul_add, Nat.mul_one] at this
        omega
      · have := Nat.mul_le_mul_left a q
        omega
    simp only [key, k2, k3, k4]
/-- What is kept of a whole number: 53 bits. -/
def kept (N : Nat) : Nat := rnd (N * 2 ^ (52 - N.log2)) (N.log2 - 52)
/-- The float nearest to a whole number. -/
def NF (N : Nat) : Nat := if N = 0 then 0 else min ((N.log2 + 1022) * 4503599627370496 + kept N) 9218868437227405312
theorem nearest_NF (N : Nat) : double.nearest false N 0 = NF N := by
  have hlp : double.leastPlace = -1074 := by decide
  have hfb : (double.fractionBits : Int) = 52 := by decide
  have hbin : double.binade = 4503599627370496 := by decide
  have hinf : double.infRung = 9218868437227405312 := by decide
  unfold Format.nearest NF
  by_cases h : N = 0
  · rw [if_pos h, if_pos h]; rfl
  · rw [if_neg h, if_neg h, hlp, hfb, hbin, hinf]
    have e0 : max (0 + (N.log2 : Int) - 52) (-1074) = (N.log2 : Int) - 52 := by omega
    simp only [e0]
    rw [show (0 - ((N.log2 : Int) - 52)).toNat = 52 - N.log2 by omega, show ((N.log2 : Int) - 52 - 0).toNat = N.log2 - 52 by omega, show ((N.log2 : Int) - 52 - -1074).toNat = N.log2 + 1022 by omega, Nat.shiftLeft_eq, cut_even _ _ _ (by rw [log2_mul_pow _ _ h]; omega), word_eq]
    unfold kept
    simp
/-- The highest bits, k + 1 of them, the lowest one sticky. -/
def hi (N k : Nat) : Nat := if k ≤ N.log2 then st N (N.log2 - k) else N * 2 ^ (k - N.log2)
theorem kept_hi (N k : Nat) (hk : 54 ≤ k) : kept N = rnd (hi N k) (k - 52) := by
  unfold kept hi
  by_cases h : k ≤ N.log2
  · rw [if_pos h, rnd_st _ _ _ (by omega), show N.log2 - k + (k - 52) = N.log2 - 52 by omega, show 52 - N.log2 = 0 by omega, Nat.pow_zero, Nat.mul_one]
  · rw [if_neg h]
    by_cases h2 : 52 ≤ N.log2
    · rw [show 52 - N.log2 = 0 by omega, Nat.pow_zero, Nat.mul_one]
      have := rnd_scale N (k - N.log2) (N.log2 - 52)
      rw [show N.log2 - 52 + (k - N.log2) = k - 52 by omega] at this
      exact this.symm
    · have := rnd_scale (N * 2 ^ (52 - N.log2)) (k - 52) 0
      rw [Nat.mul_assoc, ← Nat.pow_add, show 52 - N.log2 + (k - 52) = k - N.log2 by omega, Nat.zero_add] at this
      rw [this, show N.log2 - 52 = 0 by omega]
/-- Sticky bits one behind the other. -/
theorem st_st (N a b : Nat) : st (st N a) b = st N (a + b) := by
  cases b with
  | zero => rw [st_zero, Nat.add_zero]
  | succ b =>
    have hb : (2 : Nat) ^ (b + 1) = 2 * 2 ^ b := by rw [Nat.pow_succ, Nat.mul_comm]
    have e1 : st N a / 2 ^ (b + 1) = N / 2 ^ (a + (b + 1)) := by
      rw [hb, ← Nat.div_div_eq_div_mul, st_div2, Nat.div_div_eq_div_mul, Nat.div_div_eq_div_mul, ← hb, ← Nat.pow_add]
    have e2 : st N a % 2 ^ (b + 1) = st N a % 2 + 2 * (N / 2 ^ a / 2 % 2 ^ b) := by rw [hb, Nat.mod_mul, st_div2]
    have e3 : N % 2 ^ (a + (b + 1)) = N % 2 ^ a + 2 ^ a * (N / 2 ^ a % 2 + 2 * (N / 2 ^ a / 2 % 2 ^ b)) := by
      rw [Nat.pow_add, hb, Nat.mod_mul, Nat.mod_mul (a := 2)]
    have e4 : st N a % 2 ^ (b + 1) ≠ 0 ↔ N % 2 ^ (a + (b + 1)) ≠ 0 := by
      rw [e2, e3, st_mod2]
      have ha : 0 < 2 ^ a := Nat.two_pow_pos a
      have hm := Nat.mod_lt (N / 2 ^ a) (show 2 > 0 by omega)
      generalize N / 2 ^ a / 2 % 2 ^ b = y
      generalize N / 2 ^ a % 2 = p at *
      generalize N % 2 ^ a = r
      have hz : 2 ^ a * (p + 2 * y) = 0 ↔ p + 2 * y = 0 := by
        rw [Nat.mul_eq_zero]; omega
      generalize 2 ^ a * (p + 2 * y) = t at *
      by_cases q : p = 1 ∨ r ≠ 0
      · rw [if_pos q]; omega
      · rw [if_neg q]; omega
    unfold st at e4 ⊢
    unfold st at e1
    rw [e1]
    simp only [e4]
/-- One step down. -/
theorem st_step (N a : Nat) : st N a / 2 ||| st N a % 2 = st N (a + 1) := by
  rw [← st_st N a 1]
  generalize st N a = x
  unfold st
  rw [Nat.pow_one]
  apply Nat.eq_of_testBit_eq
  intro i
  rw [Nat.testBit_or]
  cases i with
  | zero =>
    rw [Nat.testBit_zero, Nat.testBit_zero, Nat.testBit_zero, Bool.eq_iff_iff, Bool.or_eq_true]
    simp only [decide_eq_true_eq]
    by_cases q : x / 2 % 2 = 1 ∨ x % 2 ≠ 0
    · rw [if_pos q]; omega
    · rw [if_neg q]; omega
  | succ i =>
    rw [Nat.testBit_succ, Nat.testBit_succ, Nat.testBit_succ, show x % 2 / 2 = 0 by omega, Nat.zero_testBit, Bool.or_false]
    congr 1
    split <;> omega
/-- With a sticky bit put in. -/
theorem st_or (N d : Nat) : N / 2 ^ d ||| (if N % 2 ^ d ≠ 0 then 1 else 0) = st N d := by
  unfold st
  generalize N / 2 ^ d = x
  apply Nat.eq_of_testBit_eq
  intro i
  rw [Nat.testBit_or]
  cases i with
  | zero =>
    rw [Nat.testBit_zero, Nat.testBit_zero, Nat.testBit_zero, Bool.eq_iff_iff, Bool.or_eq_true]
    simp only [decide_eq_true_eq]
    generalize N % 2 ^ d = r
    by_cases q : r = 0
    · subst q
      by_cases q : x % 2 = 1
      · rw [if_neg (by omega), if_pos (.inl q)]; omega
      · rw [if_neg (by omega), if_neg (by omega)]; omega
    · rw [if_pos q, if_pos (.inr q)]; omega
  | succ i =>
    rw [Nat.testBit_succ, Nat.testBit_succ, Nat.testBit_succ]
    have e : (if N % 2 ^ d ≠ 0 then 1 else 0) / 2 = 0 := by split <;> rfl
    rw [e, Nat.zero_testBit, Bool.or_false]
    congr 1
    split <;> omega
theorem kept_bounds (N : Nat) (h : N ≠ 0) : 4503599627370496 ≤ kept N ∧ kept N ≤ 9007199254740992 := by
  have key : ∀ n d, n ≠ 0 → n.log2 = 52 + d → 4503599627370496 ≤ rnd n d ∧ rnd n d ≤ 9007199254740992 := fun n d hn hl => by
    obtain ⟨h1, h2⟩ := (Nat.log2_eq_iff hn).1 hl
    have hp : 0 < 2 ^ d := Nat.two_pow_pos d
    have q1 : 2 ^ 52 ≤ n / 2 ^ d := by rw [Nat.le_div_iff_mul_le hp, ← Nat.pow_add]; exact h1
    have q2 : n / 2 ^ d < 2 ^ 53 := by
      rw [Nat.div_lt_iff_lt_mul hp, ← Nat.pow_add]
      rw [show 53 + d = 52 + d + 1 by omega]; exact h2
    unfold rnd
    split <;> omega
  unfold kept
  by_cases h2 : 52 ≤ N.log2
  · rw [show 52 - N.log2 = 0 by omega, Nat.pow_zero, Nat.mul_one]
    exact key N _ h (by omega)
  · refine key _ _ (Nat.mul_ne_zero h (by have := Nat.two_pow_pos (52 - N.log2); omega)) ?_
    rw [log2_mul_pow _ _ h]; omega
end Fl
end Go.Proofs.YtighenikjedojaaGreatDoor

namespace Go.Proofs.YtighenikjedojaaGreatDoor
set_option linter.unusedVariables false
namespace Fl

/-- The words of a whole number to a base, the lowest ahead, the highest not 0. -/
structure IsW (B N : Nat) (l : List Nat) : Prop where
  lt : N < B ^ l.length
  ge : 0 < l.length → B ^ (l.length - 1) ≤ N
  get : ∀ j, j < l.length → l.getD j 0 = N / B ^ j % B
theorem isW_nil (B : Nat) : IsW B 0 [] := ⟨by simp, fun h => by simp at h, fun j h => by simp at h⟩
theorem IsW.nil {B N : Nat} {l : List Nat} (h : IsW B N l) (e : l.length = 0) : N = 0 := by
  have := h.lt; rw [e, Nat.pow_zero] at this; omega
theorem IsW.pos {B N : Nat} {l : List Nat} (h : IsW B N l) (hB : 0 < B) (e : 0 < l.length) : 0 < N := Nat.lt_of_lt_of_le (Nat.pow_pos hB) (h.ge e)
/-- The carry into a word. -/
def cry (B N b c i : Nat) : Nat := (N % B ^ i * b + c) / B ^ i
theorem cry_zero (B N b c : Nat) : cry B N b c 0 = c := by unfold cry; rw [Nat.pow_zero, Nat.mod_one, Nat.zero_mul, Nat.zero_add, Nat.div_one]
theorem cry_lt (B N b c i : Nat) (hB : 0 < B) (hc : c < b) : cry B N b c i < b := by
  have hP : 0 < B ^ i := Nat.pow_pos hB
  have hm := Nat.mod_lt N hP
  unfold cry
  rw [Nat.div_lt_iff_lt_mul hP]
  generalize N % B ^ i = r at *
  have := Nat.mul_le_mul_right b (show r + 1 ≤ B ^ i by omega)
  rw [Nat.add_mul, Nat.one_mul] at this
  rw [Nat.mul_comm b]
  omega
theorem cry_step (B N b c i : Nat) (hB : 0 < B) : (N / B ^ i % B * b + cry B N b c i) % B = (N * b + c) / B ^ i % B ∧ (N / B ^ i % B * b + cry B N b c i) / B = cry B N b c (i + 1) := by
  have hP : 0 < B ^ i := Nat.pow_pos hB
  have e1 : N % B ^ (i + 1) = N % B ^ i + B ^ i * (N / B ^ i % B) := by rw [Nat.pow_succ, Nat.mod_mul]
  have e2 : N / B ^ i % B * b + cry B N b c i = (N % B ^ (i + 1) * b + c) / B ^ i := by
    unfold cry
    rw [e1, show (N % B ^ i + B ^ i * (N / B ^ i % B)) * b + c = N % B ^ i * b + c + B ^ i * (N / B ^ i % B * b) by rw [Nat.add_mul, Nat.mul_assoc]; omega, Nat.add_mul_div_left _ _ hP]
    omega
  rw [e2]
  constructor
  · have e3 : N * b + c = N % B ^ (i + 1) * b + c + B ^ i * (B * (N / B ^ (i + 1) * b)) := by
      have := Nat.mod_add_div N (B ^ (i + 1))
      have f : N * b = (N % B ^ (i + 1) + B ^ (i + 1) * (N / B ^ (i + 1))) * b := by rw [this]
      rw [f, Nat.add_mul, Nat.pow_succ]
      have g : B ^ i * B * (N / (B ^ i * B)) * b = B ^ i * (B * (N / (B ^ i * B) * b)) := by simp only [Nat.mul_assoc]
      rw [g]
      omega
    rw [e3, Nat.add_mul_div_left _ _ hP, Nat.add_mul_mod_self_left]
  · unfold cry
    rw [Nat.pow_succ, Nat.div_div_eq_div_mul]
/-- The words while some are done. -/
def wdo (B N b c i n : Nat) : List Nat := (List.range n).map fun j => if j < i then (N * b + c) / B ^ j % B else N / B ^ j % B
theorem wdo_length (B N b c i n : Nat) : (wdo B N b c i n).length = n := by simp [wdo]
theorem wdo_get (B N b c i n j : Nat) (h : j < n) : (wdo B N b c i n).getD j 0 = if j < i then (N * b + c) / B ^ j % B else N / B ^ j % B := by
  unfold wdo
  rw [List.getD_eq_getElem?_getD, List.getElem?_map, List.getElem?_range h]
  rfl
theorem list_ext_getD {l m : List Nat} (h : l.length = m.length) (hg : ∀ j, j < l.length → l.getD j 0 = m.getD j 0) : l = m := by
  refine List.ext_getElem h fun j h1 h2 => ?_
  have := hg j h1
  rw [List.getD_eq_getElem?_getD, List.getD_eq_getElem?_getD, List.getElem?_eq_getElem h1, List.getElem?_eq_getElem h2] at this
  exact this
theorem IsW.wdo {B N : Nat} {l : List Nat} (h : IsW B N l) (b c : Nat) : l = wdo B N b c 0 l.length :=
  list_ext_getD (wdo_length ..).symm fun j hj => by rw [h.get j hj, wdo_get _ _ _ _ _ _ _ hj, if_neg (by omega)]
theorem wdo_step (B N b c i n : Nat) (h : i < n) : (wdo B N b c i n).set i ((N * b + c) / B ^ i % B) = wdo B N b c (i + 1) n := by
  refine list_ext_getD (by simp [wdo_length]) fun j hj => ?_
  rw [List.length_set, wdo_length] at hj
  rw [wdo_get _ _ _ _ _ _ _ hj, List.getD_eq_getElem?_getD, List.getElem?_set]
  by_cases e : i = j
  · subst e
    rw [if_pos rfl, if_pos (by rw [wdo_length]; exact h), if_pos (by omega)]
    rfl
  · rw [if_neg e, ← List.getD_eq_getElem?_getD, wdo_get _ _ _ _ _ _ _ hj]
    by_cases q : j < i
    · rw [if_pos q, if_pos (by omega)]
    · rw [if_neg q, if_neg (by omega)]
theorem IsW.cry_end {B N : Nat} {l : List Nat} (h : IsW B N l) (b c : Nat) : cry B N b c l.length = (N * b + c) / B ^ l.length := by
  unfold cry; rw [Nat.mod_eq_of_lt h.lt]
theorem IsW.same {B N : Nat} {l : List Nat} (h : IsW B N l) (b c : Nat) (hb : 1 ≤ b) (hB : 0 < B) (hc : cry B N b c l.length = 0) : IsW B (N * b + c) (Fl.wdo B N b c l.length l.length) := by
  rw [h.cry_end, Nat.div_eq_zero_iff] at hc
  have hP : 0 < B ^ l.length := Nat.pow_pos hB
  refine ⟨by rw [wdo_length]; omega, fun q => ?_, fun j hj => ?_⟩
  · rw [wdo_length] at q ⊢
    have := h.ge q
    have := Nat.mul_le_mul_left N hb
    omega
  · rw [wdo_length] at hj
    rw [wdo_get _ _ _ _ _ _ _ hj, if_pos hj]
theorem IsW.more {B N : Nat} {l : List Nat} (h : IsW B N l) (b c : Nat) (hb : c < b) (hbB : b ≤ B) (hc : cry B N b c l.length ≠ 0) : IsW B (N * b + c) (Fl.wdo B N b c l.length l.length ++ [cry B N b c l.length]) := by
  have hB : 0 < B := by omega
  have hlt := cry_lt B N b c l.length hB hb
  have hP : 0 < B ^ l.length := Nat.pow_pos hB
  have he := h.cry_end b c
  have hq : (N * b + c) / B ^ l.length < B := by omega
  refine ⟨?_, fun q => ?_, fun j hj => ?_⟩
  · rw [List.length_append, wdo_length, List.length_singleton, Nat.pow_succ]
    rw [Nat.div_lt_iff_lt_mul hP] at hq
    rw [Nat.mul_comm (B ^ l.length) B]; exact hq
  · rw [List.length_append, wdo_length, List.length_singleton, Nat.add_sub_cancel]
    rw [he] at hc
    rcases Nat.lt_or_ge (N * b + c) (B ^ l.length) with q | q
    · exact absurd (Nat.div_eq_of_lt q) hc
    · exact q
  · rw [List.length_append, wdo_length, List.length_singleton] at hj
    by_cases e : j < l.length
    · rw [List.getD_eq_getElem?_getD, List.getElem?_append_left (by rw [wdo_length]; exact e), ← List.getD_eq_getElem?_getD, wdo_get _ _ _ _ _ _ _ e, if_pos e]
    · have e2 : j = l.length := by omega
      subst e2
      rw [List.getD_eq_getElem?_getD, List.getElem?_append_right (by rw [wdo_length]; exact Nat.le_refl _), wdo_length, Nat.sub_self, he, Nat.mod_eq_of_lt hq]
      rfl
/-- Lower words are 0. -/
theorem low_zero (B N i : Nat) (hB : 0 < B) : N % B ^ i = 0 ↔ ∀ j, j < i → N / B ^ j % B = 0 := by
  induction i with
  | zero => simp [Nat.mod_one]
  | succ i ih =>
    have e1 : N % B ^ (i + 1) = N % B ^ i + B ^ i * (N / B ^ i % B) := by rw [Nat.pow_succ, Nat.mod_mul]
    have hP : 0 < B ^ i := Nat.pow_pos hB
    have e2 : B ^ i * (N / B ^ i % B) = 0 ↔ N / B ^ i % B = 0 := by rw [Nat.mul_eq_zero]; omega
    rw [e1]
    constructor
    · intro h j hj
      have h1 : N % B ^ i = 0 := Nat.eq_zero_of_add_eq_zero_right h
      have h2 : B ^ i * (N / B ^ i % B) = 0 := Nat.eq_zero_of_add_eq_zero_left h
      by_cases q : j = i
      · subst q; exact e2.1 h2
      · exact ih.1 h1 j (by omega)
    · intro h
      rw [ih.2 fun j hj => h j (by omega), e2.2 (h i (by omega))]
section
abbrev W64 : Nat := 18446744073709551616
theorem W64_pow (n : Nat) : W64 ^ n = 2 ^ (64 * n) := by rw [Nat.pow_mul]
theorem top_div (N n s : Nat) (hs : s < 64) : N / 2 ^ (64 * (n + 1) - s) = 2 ^ s * (N / W64 ^ (n + 1)) + N / W64 ^ n % W64 / 2 ^ (64 - s) := by
  have e0 : 2 ^ (64 * (n + 1) - s) = W64 ^ n * 2 ^ (64 - s) := by rw [W64_pow, ← Nat.pow_add]; congr 1; omega
  have e1 : W64 = 2 ^ (64 - s) * 2 ^ s := by rw [← Nat.pow_add, show 64 - s + s = 64 by omega]
  rw [e0, ← Nat.div_div_eq_div_mul, Nat.pow_succ, ← Nat.div_div_eq_div_mul N]
  generalize N / W64 ^ n = M
  have e2 : M = M % W64 + 2 ^ (64 - s) * (2 ^ s * (M / W64)) := by
    rw [← Nat.mul_assoc, ← e1]; exact (Nat.mod_add_div M W64).symm
  have e3 : M / 2 ^ (64 - s) = (M % W64 + 2 ^ (64 - s) * (2 ^ s * (M / W64))) / 2 ^ (64 - s) := by rw [← e2]
  rw [e3, Nat.add_mul_div_left _ _ (Nat.two_pow_pos _), Nat.add_comm]
theorem top_mod (N n s : Nat) (hs : s < 64) : N % 2 ^ (64 * (n + 1) - s) ≠ 0 ↔ N % W64 ^ n ≠ 0 ∨ N / W64 ^ n % W64 % 2 ^ (64 - s) ≠ 0 := by
  have e0 : 2 ^ (64 * (n + 1) - s) = W64 ^ n * 2 ^ (64 - s) := by rw [W64_pow, ← Nat.pow_add]; congr 1; omega
  have e1 : W64 = 2 ^ (64 - s) * 2 ^ s := by rw [← Nat.pow_add, show 64 - s + s = 64 by omega]
  have e2 : N / W64 ^ n % W64 % 2 ^ (64 - s) = N / W64 ^ n % 2 ^ (64 - s) := Nat.mod_mod_of_dvd _ ⟨2 ^ s, e1⟩
  have hP : 0 < W64 ^ n := Nat.pow_pos (by decide)
  rw [e0, Nat.mod_mul, e2]
  have e3 : W64 ^ n * (N / W64 ^ n % 2 ^ (64 - s)) = 0 ↔ N / W64 ^ n % 2 ^ (64 - s) = 0 := by rw [Nat.mul_eq_zero]; omega
  generalize W64 ^ n * (N / W64 ^ n % 2 ^ (64 - s)) = t at *
  generalize N / W64 ^ n % 2 ^ (64 - s) = u at *
  generalize N % W64 ^ n = v at *
  omega
/-- The highest 64 bits, the lowest of them sticky, out of words. -/
theorem top_hi (N n s : Nat) (hs : s < 64) (hL : N.log2 = 64 * (n + 1) + 63 - s) :
    (2 ^ s * (N / W64 ^ (n + 1)) ||| N / W64 ^ n % W64 / 2 ^ (64 - s)) ||| (if N % W64 ^ n ≠ 0 ∨ N / W64 ^ n % W64 % 2 ^ (64 - s) ≠ 0 then 1 else 0) = hi N 63 := by
  have hA : N / W64 ^ n % W64 / 2 ^ (64 - s) < 2 ^ s := by
    rw [Nat.div_lt_iff_lt_mul (Nat.two_pow_pos _), ← Nat.pow_add, show s + (64 - s) = 64 by omega]
    exact Nat.mod_lt _ (by decide)
  rw [← Nat.two_pow_add_eq_or_of_lt hA, ← top_div N n s hs]
  simp only [← top_mod N n s hs]
  rw [st_or]
  unfold hi
  rw [if_pos (by omega), show N.log2 - 63 = 64 * (n + 1) - s by omega]
theorem hi_one (N s : Nat) (hL : N.log2 = 63 - s) (hs : s < 64) : N * 2 ^ s = hi N 63 := by
  unfold hi
  by_cases h : s = 0
  · subst h
    rw [if_pos (by omega), show N.log2 - 63 = 0 by omega, st_zero, Nat.pow_zero, Nat.mul_one]
  · rw [if_neg (by omega), show 63 - N.log2 = s by omega]
theorem hi_log (N k : Nat) (h : N ≠ 0) (hk : 1 ≤ k) : (hi N k).log2 = k := by
  unfold hi
  by_cases q : k ≤ N.log2
  · rw [if_pos q]
    obtain ⟨h1, h2⟩ := (Nat.log2_eq_iff h).1 rfl
    have hp : 0 < 2 ^ (N.log2 - k) := Nat.two_pow_pos _
    have q1 : 2 ^ k ≤ N / 2 ^ (N.log2 - k) := by rw [Nat.le_div_iff_mul_le hp, ← Nat.pow_add, show k + (N.log2 - k) = N.log2 by omega]; exact h1
    have q2 : N / 2 ^ (N.log2 - k) < 2 ^ (k + 1) := by rw [Nat.div_lt_iff_lt_mul hp, ← Nat.pow_add, show k + 1 + (N.log2 - k) = N.log2 + 1 by omega]; exact h2
    have e := st_div2 N (N.log2 - k)
    generalize N / 2 ^ (N.log2 - k) = x at *
    generalize st N (N.log2 - k) = y at *
    obtain ⟨j, rfl⟩ : ∃ j, k = j + 1 := ⟨k - 1, by omega⟩
    have p1 : (2 : Nat) ^ (j + 1) = 2 * 2 ^ j := by rw [Nat.pow_succ, Nat.mul_comm]
    have p2 : (2 : Nat) ^ (j + 1 + 1) = 2 * (2 * 2 ^ j) := by rw [Nat.pow_succ, Nat.pow_succ]; omega
    have hj : 0 < 2 ^ j := Nat.two_pow_pos j
    rw [Nat.log2_eq_iff (by omega), p1, p2]
    omega
  · rw [if_neg q, log2_mul_pow _ _ h]; omega
/-- The highest 64 bits as a float: its bits. -/
theorem NF_hi (N : Nat) (h : N ≠ 0) : NF (hi N 63) = 4886405595696988160 + kept N := by
  have hl := hi_log N 63 h (by omega)
  have h0 : hi N 63 ≠ 0 := by
    intro q
    rw [q] at hl
    simp at hl
  have hk : kept (hi N 63) = kept N := by
    have e := kept_hi (hi N 63) 63 (by omega)
    rw [kept_hi N 63 (by omega), e]
    have : hi (hi N 63) 63 = hi N 63 := by
      show (if 63 ≤ (hi N 63).log2 then st (hi N 63) ((hi N 63).log2 - 63) else hi N 63 * 2 ^ (63 - (hi N 63).log2)) = _
      rw [if_pos (by omega), hl, Nat.sub_self, st_zero]
    rw [this]
  have hb := kept_bounds N h
  unfold NF
  rw [if_neg h0, hl, hk]
  omega
theorem NF_val (N : Nat) (h : N ≠ 0) : NF N = min ((N.log2 + 1022) * 4503599627370496 + kept N) 9218868437227405312 := by unfold NF; rw [if_neg h]
theorem NF_far (N : Nat) (h : 1024 ≤ N.log2) : NF N = 9218868437227405312 := by
  have h0 : N ≠ 0 := by rintro rfl; simp at h
  have hb := kept_bounds N h0
  rw [NF_val N h0]
  omega
theorem NF_lt (N : Nat) : NF N ≤ 9218868437227405312 := by
  unfold NF
  split <;> omega
theorem far_log (N n : Nat) (h : W64 ^ n ≤ N) : 64 * n ≤ N.log2 := by
  rw [W64_pow] at h
  have h0 : N ≠ 0 := by
    have := Nat.two_pow_pos (64 * n)
    omega
  exact (Nat.le_log2 h0).2 h
end
end Fl
end Go.Proofs.YtighenikjedojaaGreatDoor

namespace Go.Proofs.YtighenikjedojaaGreatDoor
set_option linter.unusedVariables false
namespace Fl

/-- A digit's byte, with small letters. -/
def dgc (d : Nat) : Nat := if d < 10 then 48 + d else 87 + d
/-- So many hex digits of a number. -/
def hexds : Nat → Nat → List Nat
  | 0, _ => []
  | n + 1, v => hexds n (v / 16) ++ [dgc (v % 16)]
theorem hexds_length (n v : Nat) : (hexds n v).length = n := by
  induction n generalizing v with
  | zero => rfl
  | succ n ih => unfold hexds; rw [List.length_append, ih]; rfl
theorem hexds_get (n v j : Nat) (h : j < n) : (hexds n v).getD j 0 = dgc (v / 16 ^ (n - 1 - j) % 16) := by
  induction n generalizing v with
  | zero => omega
  | succ n ih =>
    unfold hexds
    rw [List.getD_eq_getElem?_getD]
    by_cases e : j < n
    · rw [List.getElem?_append_left (by rw [hexds_length]; exact e), ← List.getD_eq_getElem?_getD, ih _ e, show n + 1 - 1 - j = n - 1 - j + 1 by omega, Nat.pow_succ, Nat.mul_comm _ 16, Nat.div_div_eq_div_mul]
    · have e2 : j = n := by omega
      subst e2
      rw [List.getElem?_append_right (by rw [hexds_length]; exact Nat.le_refl _), hexds_length, Nat.sub_self, show j + 1 - 1 - j = 0 by omega, Nat.pow_zero, Nat.div_one]
      rfl
theorem hexds_add (a b v : Nat) : hexds (a + b) v = hexds a (v / 16 ^ b) ++ hexds b v := by
  induction b generalizing v with
  | zero => rw [Nat.add_zero, Nat.pow_zero, Nat.div_one]; show _ = _ ++ []; rw [List.append_nil]
  | succ b ih =>
    show hexds (a + b) (v / 16) ++ [dgc (v % 16)] = _
    rw [ih, Nat.div_div_eq_div_mul, Nat.pow_succ, Nat.mul_comm 16]
    show _ = _ ++ (hexds b (v / 16) ++ [dgc (v % 16)])
    rw [List.append_assoc]
theorem hexds_mod (n v : Nat) : hexds n (v % 16 ^ n) = hexds n v := by
  induction n generalizing v with
  | zero => rfl
  | succ n ih =>
    unfold hexds
    have e1 : v % 16 ^ (n + 1) = v % 16 + 16 * (v / 16 % 16 ^ n) := by rw [Nat.pow_succ, Nat.mul_comm, Nat.mod_mul]
    have e2 : v % 16 ^ (n + 1) / 16 = v / 16 % 16 ^ n := by rw [e1]; omega
    have e3 : v % 16 ^ (n + 1) % 16 = v % 16 := by rw [e1]; omega
    rw [e2, e3, ih]
/-- Digits to a base, ahead of what is there. -/
def fdsF : Nat → Nat → Nat → List Nat → List Nat
  | 0, _, _, acc => acc
  | f + 1, b, u, acc => if u < b then dgc u :: acc else fdsF f b (u / b) (dgc (u % b) :: acc)
def fds (b u : Nat) : List Nat := fdsF 64 b u []
theorem fds_hex (n f h r : Nat) (acc : List Nat) (h0 : 0 < h) (h1 : h < 16) (hr : r < 16 ^ n) (hf : n < f) : fdsF f 16 (h * 16 ^ n + r) acc = dgc h :: (hexds n r ++ acc) := by
  induction n generalizing f r acc with
  | zero =>
    obtain ⟨g, rfl⟩ : ∃ g, f = g + 1 := ⟨f - 1, by omega⟩
    rw [Nat.pow_zero] at *
    have : r = 0 := by omega
    subst this
    unfold fdsF
    rw [Nat.mul_one, Nat.add_zero, if_pos h1]
    rfl
  | succ n ih =>
    obtain ⟨g, rfl⟩ : ∃ g, f = g + 1 := ⟨f - 1, by omega⟩
    have hp : 0 < 16 ^ n := Nat.pow_pos (by omega)
    have e0 : h * 16 ^ (n + 1) = 16 * (h * 16 ^ n) := by rw [Nat.pow_succ, ← Nat.mul_assoc, Nat.mul_comm]
    have e1 : (h * 16 ^ (n + 1) + r) / 16 = h * 16 ^ n + r / 16 := by rw [e0]; omega
    have e2 : (h * 16 ^ (n + 1) + r) % 16 = r % 16 := by rw [e0]; omega
    have e3 : ¬ h * 16 ^ (n + 1) + r < 16 := by
      have := Nat.mul_le_mul (show 1 ≤ h by omega) (show 1 ≤ 16 ^ n by omega)
      rw [e0]; omega
    have e4 : r / 16 < 16 ^ n := by rw [Nat.div_lt_iff_lt_mul (by omega), ← Nat.pow_succ]; exact hr
    unfold fdsF
    rw [if_neg e3, e1, e2, ih g (r / 16) _ e4 (by omega)]
    show _ = dgc h :: ((hexds n (r / 16) ++ [dgc (r % 16)]) ++ acc)
    rw [List.append_assoc]
    rfl
/-- What reading hex digits holds: the number V so far, how many digits, how many of them in the mantissa M, whether others were not 0. -/
structure RF (V nd m M : Nat) (tr : Bool) : Prop where
  m16 : m = min nd 16
  lt : V < 16 ^ nd
  ge : 0 < nd → 16 ^ (nd - 1) ≤ V
  mant : M = V / 16 ^ (nd - m)
  trunc : tr = decide (V % 16 ^ (nd - m) ≠ 0)
theorem RF.start : RF 0 0 0 0 false := ⟨rfl, by simp, fun h => by omega, by simp, by simp⟩
theorem RF.zero {V nd m M : Nat} {tr : Bool} (h : RF V nd m M tr) (e : nd = 0) : V = 0 ∧ m = 0 ∧ M = 0 ∧ tr = false := by
  obtain ⟨h1, h2, h3, h4, h5⟩ := h
  subst e
  rw [Nat.pow_zero] at h2
  have : V = 0 := by omega
  subst this
  exact ⟨rfl, by omega, by simpa using h4, by simpa using h5⟩
theorem RF.pos {V nd m M : Nat} {tr : Bool} (h : RF V nd m M tr) (e : 0 < nd) : 0 < V := Nat.lt_of_lt_of_le (Nat.pow_pos (by omega)) (h.ge e)
theorem RF.len {V nd m M d : Nat} {tr : Bool} (h : RF V nd m M tr) (hd : d < 16) (hz : 0 < nd ∨ 0 < d) : V * 16 + d < 16 ^ (nd + 1) ∧ 16 ^ nd ≤ V * 16 + d := by
  have := h.lt
  rw [Nat.pow_succ]
  refine ⟨by omega, ?_⟩
  by_cases e : nd = 0
  · subst e; rw [Nat.pow_zero]; omega
  · have := h.ge (by omega)
    have e2 : 16 ^ nd = 16 ^ (nd - 1) * 16 := by rw [← Nat.pow_succ]; congr 1; omega
    omega
theorem RF.few {V nd m M d : Nat} {tr : Bool} (h : RF V nd m M tr) (hd : d < 16) (hz : 0 < nd ∨ 0 < d) (hm : m < 16) : RF (V * 16 + d) (nd + 1) (m + 1) (M * 16 + d) tr ∧ M * 16 + d < 18446744073709551616 := by
  have hl := h.len hd hz
  have hm' : m = nd := by have := h.m16; omega
  have e1 : M = V := by rw [h.mant, hm', Nat.sub_self, Nat.pow_zero, Nat.div_one]
  have e2 : tr = false := by rw [h.trunc, hm', Nat.sub_self, Nat.pow_zero, Nat.mod_one]; rfl
  refine ⟨⟨by omega, hl.1, fun _ => hl.2, ?_, ?_⟩, ?_⟩
  · rw [hm', Nat.sub_self, Nat.pow_zero, Nat.div_one, e1]
  · rw [hm', Nat.sub_self, Nat.pow_zero, Nat.mod_one, e2]; rfl
  · rw [e1]
    have : 16 ^ (nd + 1) ≤ 16 ^ 16 := Nat.pow_le_pow_right (by omega) (by omega)
    have := hl.1
    omega
theorem RF.many {V nd m M d : Nat} {tr : Bool} (h : RF V nd m M tr) (hd : d < 16) (hm : ¬ m < 16) : RF (V * 16 + d) (nd + 1) m M (tr || decide (d ≠ 0)) := by
  have h16 := h.m16
  have hl := h.len hd (.inl (by omega))
  obtain ⟨k, hk⟩ : ∃ k, nd = m + k := ⟨nd - m, by omega⟩
  have e1 : nd + 1 - m = k + 1 := by omega
  have e0 : nd - m = k := by omega
  refine ⟨by omega, hl.1, fun _ => hl.2, ?_, ?_⟩
  · rw [h.mant, e1, e0, Nat.pow_succ, Nat.mul_comm (16 ^ k) 16, ← Nat.div_div_eq_div_mul, show (V * 16 + d) / 16 = V by omega]
  · have e2 : (V * 16 + d) % 16 ^ (k + 1) = d + 16 * (V % 16 ^ k) := by
      rw [Nat.pow_succ, Nat.mul_comm (16 ^ k) 16, Nat.mod_mul, show (V * 16 + d) % 16 = d by omega, show (V * 16 + d) / 16 = V by omega]
    rw [h.trunc, e1, e0, e2, Bool.eq_iff_iff, Bool.or_eq_true, decide_eq_true_eq, decide_eq_true_eq, decide_eq_true_eq]
    omega
theorem RF.mlt {V nd m M : Nat} {tr : Bool} (h : RF V nd m M tr) : M < 18446744073709551616 := by
  have h16 := h.m16
  have hl := h.lt
  rw [h.mant, Nat.div_lt_iff_lt_mul (Nat.pow_pos (by omega))]
  have : (18446744073709551616 : Nat) = 16 ^ 16 := rfl
  rw [this, ← Nat.pow_add]
  exact Nat.lt_of_lt_of_le hl (Nat.pow_le_pow_right (by omega) (by omega))
theorem p16 (n : Nat) : 16 ^ n = 2 ^ (4 * n) := by rw [Nat.pow_mul]
/-- The mantissa's bits. -/
theorem RF.log {V nd m M : Nat} {tr : Bool} (h : RF V nd m M tr) (hV : V ≠ 0) : M ≠ 0 ∧ V.log2 = M.log2 + 4 * (nd - m) := by
  have hp : 0 < 2 ^ (4 * (nd - m)) := Nat.two_pow_pos _
  have hn : 0 < nd := by
    rcases Nat.eq_zero_or_pos nd with q | q
    · exact absurd (h.zero q).1 hV
    · exact q
  have hM : M = V / 2 ^ (4 * (nd - m)) := by rw [h.mant, p16]
  have hle : 2 ^ (4 * (nd - m)) ≤ V := by
    rw [← p16]
    exact Nat.le_trans (Nat.pow_le_pow_right (by omega) (by have := h.m16; omega)) (h.ge hn)
  have hM0 : M ≠ 0 := by
    rw [hM]
    have := (Nat.le_div_iff_mul_le hp (x := 1) (y := V)).2 (by omega)
    omega
  refine ⟨hM0, ?_⟩
  obtain ⟨h1, h2⟩ := (Nat.log2_eq_iff hM0).1 rfl
  rw [Nat.log2_eq_iff hV]
  have q1 : 2 ^ M.log2 ≤ V / 2 ^ (4 * (nd - m)) := by rw [← hM]; exact h1
  have q2 : V / 2 ^ (4 * (nd - m)) < 2 ^ (M.log2 + 1) := by rw [← hM]; exact h2
  rw [Nat.le_div_iff_mul_le hp, ← Nat.pow_add] at q1
  rw [Nat.div_lt_iff_lt_mul hp, ← Nat.pow_add] at q2
  exact ⟨q1, by rw [show M.log2 + 4 * (nd - m) + 1 = M.log2 + 1 + 4 * (nd - m) by omega]; exact q2⟩
/-- What was not taken in lies far below. -/
theorem RF.great {V nd m M : Nat} {tr : Bool} (h : RF V nd m M tr) (ht : tr = true) : 60 ≤ M.log2 := by
  have h16 := h.m16
  have hm : m < nd := by
    rcases Nat.lt_or_ge m nd with q | q
    · exact q
    · have := h.trunc
      rw [ht, show nd - m = 0 by omega, Nat.pow_zero, Nat.mod_one] at this
      simp at this
  have hV : V ≠ 0 := by have := h.pos (by omega); omega
  have h1 := (h.log hV).2
  have h2 : 4 * (nd - 1) ≤ V.log2 := by
    rw [Nat.le_log2 hV, ← p16]; exact h.ge (by omega)
  omega
/-- Few bits: they are all there. -/
theorem RF.low {V nd m M : Nat} {tr : Bool} (h : RF V nd m M tr) (hV : V ≠ 0) (hl : M.log2 ≤ 54) : tr = false ∧ M * 2 ^ (54 - M.log2) = hi V 54 := by
  have ht : tr = false := by
    cases q : tr
    · rfl
    · have := h.great q; omega
  refine ⟨ht, ?_⟩
  have hz : V % 16 ^ (nd - m) = 0 := by
    have := h.trunc
    rw [ht] at this
    have := of_decide_eq_false this.symm
    omega
  have e1 : V = M * 2 ^ (4 * (nd - m)) := by
    rw [h.mant, p16, Nat.div_mul_cancel (Nat.dvd_of_mod_eq_zero (by rw [← p16]; exact hz))]
  have hL := (h.log hV).2
  generalize 4 * (nd - m) = e at *
  unfold hi
  by_cases q : 54 ≤ V.log2
  · rw [if_pos q]
    have f : V.log2 - 54 + (54 - M.log2) = e := by omega
    have g : V = M * 2 ^ (54 - M.log2) * 2 ^ (V.log2 - 54) := by
      rw [Nat.mul_assoc, ← Nat.pow_add, show 54 - M.log2 + (V.log2 - 54) = e by omega]; exact e1
    generalize V.log2 - 54 = d at *
    unfold st
    have g1 : V / 2 ^ d = M * 2 ^ (54 - M.log2) := by
      conv => lhs; rw [g]
      exact Nat.mul_div_cancel _ (Nat.two_pow_pos d)
    have g2 : V % 2 ^ d = 0 := by
      conv => lhs; rw [g]
      exact Nat.mul_mod_left _ _
    rw [g1, g2]
    generalize M * 2 ^ (54 - M.log2) = x
    by_cases c : x % 2 = 1
    · rw [if_pos (.inl c)]; omega
    · rw [if_neg (by omega)]; omega
  · rw [if_neg q]
    conv => rhs; rw [e1]
    rw [Nat.mul_assoc, ← Nat.pow_add]
    congr 2
    rw [← e1]
    omega
theorem RF.st {V nd m M : Nat} {tr : Bool} (h : RF V nd m M tr) : (M ||| (if tr then 1 else 0)) = Fl.st V (4 * (nd - m)) := by
  rw [← st_or, ← p16, h.mant]
  congr 1
  rw [h.trunc]
  simp
theorem hi_st (V d : Nat) (h : V.log2 = 54 + d) : Fl.st V d = hi V 54 := by
  unfold hi; rw [if_pos (by omega), show V.log2 - 54 = d by omega]
theorem rnd2 (X : Nat) : rnd X 2 = X / 4 + (if (X % 4 ||| X / 4 % 2) = 3 then 1 else 0) := by
  unfold rnd
  rw [show (2 : Nat) ^ 2 = 4 from rfl]
  congr 1
  have h1 : X % 4 = 0 ∨ X % 4 = 1 ∨ X % 4 = 2 ∨ X % 4 = 3 := by omega
  have h2 : X / 4 % 2 = 0 ∨ X / 4 % 2 = 1 := by omega
  rcases h1 with e | e | e | e <;> rcases h2 with f | f <;> rw [e, f] <;> rfl
end Fl
end Go.Proofs.YtighenikjedojaaGreatDoor

namespace Go.Proofs.YtighenikjedojaaGreatDoor
set_option linter.unusedVariables false
namespace Fl

/-- A mantissa on its way to 55 bits, with its exponent. -/
def LP (V e0 Z : Nat) (E : Int) : Prop := Z < 18446744073709551616 ∧ ((Z = hi V 54 ∧ E = (V.log2 : Int) - 2) ∨ ∃ c, e0 + c + 54 < V.log2 ∧ Z = st V (e0 + c) ∧ E = (e0 : Int) + c + 52)
theorem st_as_hi (V d k : Nat) (h : V.log2 = k + d) : st V d = hi V k := by
  unfold hi; rw [if_pos (by omega), show V.log2 - k = d by omega]
theorem hi_bounds (V k : Nat) (h : V ≠ 0) (hk : 1 ≤ k) : 2 ^ k ≤ hi V k ∧ hi V k < 2 ^ (k + 1) := by
  have hl := hi_log V k h hk
  have h0 : hi V k ≠ 0 := by
    intro q
    rw [q] at hl
    simp at hl
    omega
  exact (Nat.log2_eq_iff h0).1 hl
theorem st_bounds (V d k : Nat) (h : V ≠ 0) (hk : 1 ≤ k) (hL : V.log2 = k + d) : 2 ^ k ≤ st V d ∧ st V d < 2 ^ (k + 1) := by
  rw [st_as_hi V d k hL]; exact hi_bounds V k h hk
theorem LP.more {V e0 Z : Nat} {E : Int} (h : LP V e0 Z E) (hV : V ≠ 0) (hZ : ¬ Z < 36028797018963968) : LP V e0 (Z / 2 ||| Z % 2) (E + 1) ∧ E < (V.log2 : Int) - 2 := by
  obtain ⟨h1, ⟨rfl, h2⟩ | ⟨c, h2, rfl, h4⟩⟩ := h
  · have := (hi_bounds V 54 hV (by omega)).2
    exact absurd this hZ
  · rw [st_step]
    refine ⟨⟨?_, ?_⟩, by omega⟩
    · have e := st_step V (e0 + c)
      rw [← e]
      exact Nat.or_lt_two_pow (n := 64) (by omega) (by omega)
    · by_cases q : e0 + (c + 1) + 54 < V.log2
      · exact .inr ⟨c + 1, q, rfl, by omega⟩
      · refine .inl ⟨?_, by omega⟩
        rw [show e0 + c + 1 = e0 + (c + 1) by omega]
        exact st_as_hi V _ 54 (by omega)
theorem LP.done {V e0 Z : Nat} {E : Int} (h : LP V e0 Z E) (hV : V ≠ 0) (hZ : Z < 36028797018963968) : Z = hi V 54 ∧ E = (V.log2 : Int) - 2 := by
  obtain ⟨h1, ⟨rfl, h2⟩ | ⟨c, h2, rfl, h4⟩⟩ := h
  · exact ⟨rfl, h2⟩
  · obtain ⟨k, hk⟩ : ∃ k, V.log2 = k + (e0 + c) := ⟨V.log2 - (e0 + c), by omega⟩
    have := (st_bounds V (e0 + c) k hV (by omega) hk).1
    have h3 : 2 ^ 55 ≤ 2 ^ k := Nat.pow_le_pow_right (by omega) (by omega)
    omega
/-- From what was read. -/
theorem RF.high {V nd m M : Nat} {tr : Bool} (h : RF V nd m M tr) (hV : V ≠ 0) (hl : ¬ M.log2 ≤ 54) : LP V (4 * (nd - m)) (M ||| (if tr then 1 else 0)) (((4 * (nd - m) : Nat) : Int) + 52) := by
  have h1 := h.mlt
  refine ⟨?_, .inr ⟨0, ?_, ?_, by omega⟩⟩
  · refine Nat.or_lt_two_pow (n := 64) h1 ?_
    split <;> decide
  · have := (h.log hV).2; omega
  · rw [Nat.add_zero]; exact h.st
theorem RF.lowLP {V nd m M : Nat} {tr : Bool} (h : RF V nd m M tr) (hV : V ≠ 0) (hl : M.log2 ≤ 54) : LP V (4 * (nd - m)) (M * 2 ^ (54 - M.log2)) (((4 * (nd - m) : Nat) : Int) + 52 - ((54 - M.log2 : Nat) : Int)) := by
  have h2 := (h.low hV hl).2
  have h3 := (h.log hV).2
  have h4 := (hi_bounds V 54 hV (by omega)).2
  refine ⟨by rw [h2]; exact Nat.lt_trans h4 (by decide), .inl ⟨h2, ?_⟩⟩
  omega
/-- The end of it: 53 bits and an exponent. -/
theorem NF_end (V K : Nat) (X E : Nat) (hV : V ≠ 0) (hX : X = hi V 54) (hE : E = V.log2) :
    4503599627370496 ≤ X / 4 ∧ X / 4 < 9007199254740992 ∧ kept V = X / 4 + (if (X % 4 ||| X / 4 % 2) = 3 then 1 else 0) := by
  have hb := hi_bounds V 54 hV (by omega)
  rw [← hX] at hb
  refine ⟨by omega, by omega, ?_⟩
  rw [kept_hi V 54 (by omega), ← hX, rnd2]
end Fl
end Go.Proofs.YtighenikjedojaaGreatDoor
