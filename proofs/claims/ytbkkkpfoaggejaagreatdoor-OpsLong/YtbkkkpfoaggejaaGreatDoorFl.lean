/- Floats as plain numbers: what the lower bits of a word of 64 bits are worth, in units of the least number. -/
import Derived.Laws.FloatBits
namespace Go.Proofs.YtbkkkpfoaggejaaGreatDoor
namespace Fl
open Ieee

def sig (g : Nat) : Nat := if g < 4503599627370496 then g else 4503599627370496 + g % 4503599627370496
def ex (g : Nat) : Nat := if g < 4503599627370496 then 0 else g / 4503599627370496 - 1
def val (g : Nat) : Nat := sig g * 2 ^ ex g

theorem sig_lt (g : Nat) : sig g < 2 ^ 53 := by unfold sig; split <;> omega
theorem sig_ex (g : Nat) : ex g * 4503599627370496 + sig g = g := by unfold sig ex; split <;> omega
theorem sig_zero (g : Nat) : sig g = 0 ↔ g = 0 := by unfold sig; split <;> omega
theorem val_zero (g : Nat) : val g = 0 ↔ g = 0 := by
  unfold val
  rw [Nat.mul_eq_zero, sig_zero]
  have : 0 < 2 ^ ex g := Nat.two_pow_pos _
  omega
theorem ex_cases (g : Nat) (h : g ≠ 0) : (ex g = 0 ∧ sig g = g ∧ g < 4503599627370496 ∧ (sig g).log2 < 52) ∨ (4503599627370496 ≤ g ∧ (sig g).log2 = 52) := by
  unfold ex sig
  split
  · refine .inl ⟨rfl, rfl, by assumption, ?_⟩
    rw [Nat.log2_lt h]
    assumption
  · refine .inr ⟨by omega, ?_⟩
    rw [Nat.log2_eq_iff (by omega)]
    omega

theorem log2_mul_pow (m a : Nat) (h : m ≠ 0) : (m * 2 ^ a).log2 = m.log2 + a := by
  have hp : 0 < 2 ^ a := Nat.two_pow_pos _
  have h0 : m * 2 ^ a ≠ 0 := Nat.mul_ne_zero h (by omega)
  rw [Nat.log2_eq_iff h0]
  obtain ⟨h1, h2⟩ := (Nat.log2_eq_iff h).1 rfl
  constructor
  · rw [Nat.pow_add]; exact Nat.mul_le_mul_right _ h1
  · rw [show m.log2 + a + 1 = (m.log2 + 1) + a by omega, Nat.pow_add]; exact Nat.mul_lt_mul_of_pos_right h2 hp

theorem cut_exact (neg : Bool) (M d : Nat) (h : M ≠ 0) : Toward.even.cut neg (M * 2 ^ d) d = M := by
  have hp : 0 < 2 ^ d := Nat.two_pow_pos _
  have e : min d ((M * 2 ^ d).log2 + 2) = d := by rw [log2_mul_pow _ _ h]; omega
  unfold Toward.cut
  simp only [e, Nat.one_shiftLeft, Nat.mul_div_cancel _ hp, Nat.mul_mod_left]
  have : (2 ^ d == 2 * 0) = false := by simp
  simp

theorem two_pow_le_of_log {n k : Nat} (h : n ≠ 0) (hk : k ≤ n.log2) : 2 ^ k ≤ n := (Nat.le_log2 h).1 hk

theorem nearest_exact (neg : Bool) (mag : Nat) (place : Int) (g a b : Nat) (hg : g < 9218868437227405312) (hpl : place = -1074 + a - b) (h : mag * 2 ^ a = val g * 2 ^ b) : double.nearest neg mag place = double.word neg g := by
  have hpa : 0 < 2 ^ a := Nat.two_pow_pos _
  have hpb : 0 < 2 ^ b := Nat.two_pow_pos _
  have hlp : double.leastPlace = -1074 := by decide
  have hfb : (double.fractionBits : Int) = 52 := by decide
  have hbin : double.binade = 4503599627370496 := by decide
  have hinf : double.infRung = 9218868437227405312 := by decide
  unfold Format.nearest
  by_cases h0 : mag = 0
  · rw [if_pos h0]
    have : val g = 0 := by
      rw [h0, Nat.zero_mul] at h
      exact (Nat.mul_eq_zero.1 h.symm).resolve_right (by omega)
    rw [(val_zero g).1 this]
  · rw [if_neg h0]
    have hg0 : g ≠ 0 := by
      rintro rfl
      have hv : val 0 = 0 := (val_zero 0).2 rfl
      rw [hv, Nat.zero_mul] at h
      exact h0 ((Nat.mul_eq_zero.1 h).resolve_right (by omega))
    have hs0 : sig g ≠ 0 := fun e => hg0 ((sig_zero g).1 e)
    have hl : mag.log2 + a = (sig g).log2 + (ex g + b) := by
      rw [← log2_mul_pow _ _ h0, h, ← log2_mul_pow _ _ hs0, Nat.pow_add, ← Nat.mul_assoc]
      rfl
    have hlast : max (place + (mag.log2 : Int) - (double.fractionBits : Int)) double.leastPlace = -1074 + (ex g : Int) := by
      rw [hlp, hfb]
      rcases ex_cases g hg0 with ⟨h1, _, _, h2⟩ | ⟨_, h2⟩ <;> omega
    dsimp only
    rw [hlast, hlp, hbin, hinf]
    have e1 : (-1074 + (ex g : Int) - -1074).toNat = ex g := by omega
    rw [e1]
    have hk : Toward.even.cut neg (mag <<< (place - (-1074 + (ex g : Int))).toNat) (-1074 + (ex g : Int) - place).toNat = sig g := by
      have hmul : mag * 2 ^ a = sig g * 2 ^ (ex g + b) := by rw [h, Nat.pow_add, ← Nat.mul_assoc]; rfl
      by_cases hab : ex g + b ≤ a
      · have e2 : (place - (-1074 + (ex g : Int))).toNat = a - (ex g + b) := by omega
        have e3 : (-1074 + (ex g : Int) - place).toNat = 0 := by omega
        rw [e2, e3, Nat.shiftLeft_eq]
        have e4 : mag * 2 ^ (a - (ex g + b)) = sig g := by
          have hp : 0 < 2 ^ (ex g + b) := Nat.two_pow_pos _
          apply Nat.eq_of_mul_eq_mul_right hp
          rw [Nat.mul_assoc, ← Nat.pow_add, Nat.sub_add_cancel hab, hmul]
        rw [e4]
        have := cut_exact neg (sig g) 0 hs0
        rwa [Nat.pow_zero, Nat.mul_one] at this
      · have e2 : (place - (-1074 + (ex g : Int))).toNat = 0 := by omega
        have e3 : (-1074 + (ex g : Int) - place).toNat = ex g + b - a := by omega
        rw [e2, e3, Nat.shiftLeft_zero]
        have e4 : mag = sig g * 2 ^ (ex g + b - a) := by
          apply Nat.eq_of_mul_eq_mul_right hpa
          rw [hmul, Nat.mul_assoc, ← Nat.pow_add, Nat.sub_add_cancel (by omega)]
        rw [e4]
        exact cut_exact neg (sig g) _ hs0
    rw [hk, sig_ex, Nat.min_eq_left (by omega)]

theorem log2_le_of_lt {n k : Nat} (h : n < 2 ^ (k + 1)) : n.log2 ≤ k := by
  by_cases h0 : n = 0
  · subst h0; simp
  · have := (Nat.log2_lt h0).2 h
    omega

theorem val_log (g : Nat) (h : g ≠ 0) : (val g).log2 = (sig g).log2 + ex g := log2_mul_pow _ _ (fun e => h ((sig_zero g).1 e))
theorem val_inf_lt (g : Nat) (h : g < 9218868437227405312) : (val g).log2 ≤ 2097 := by
  by_cases h0 : g = 0
  · subst h0; rw [(val_zero 0).2 rfl]; simp
  · rw [val_log g h0]
    have h1 := log2_le_of_lt (n := sig g) (k := 52) (sig_lt g)
    have h2 : ex g ≤ 2045 := by unfold ex; split <;> omega
    omega
theorem pow_split {a b c : Nat} (h : a + b = c) : 2 ^ a * 2 ^ b = 2 ^ c := by rw [← Nat.pow_add, h]

theorem rep (N M E : Nat) (h : N = M * 2 ^ E) (hM : M < 2 ^ 53) (hN : N.log2 ≤ 2097) : ∃ g, g < 9218868437227405312 ∧ val g = N := by
  by_cases hs : N < 4503599627370496
  · exact ⟨N, by omega, by unfold val sig ex; rw [if_pos hs, if_pos hs]; simp⟩
  · have hN0 : N ≠ 0 := by omega
    have hM0 : M ≠ 0 := by rintro rfl; simp at h; omega
    have hL : N.log2 = M.log2 + E := by rw [h, log2_mul_pow _ _ hM0]
    have hM2 : M.log2 ≤ 52 := log2_le_of_lt hM
    have hN2 := hN
    have hN3 : 52 ≤ N.log2 := (Nat.le_log2 hN0).2 (by omega)
    obtain ⟨d, hd⟩ : ∃ d, E = (N.log2 - 52) + d := ⟨E - (N.log2 - 52), by omega⟩
    obtain ⟨k, hk⟩ : ∃ k, N.log2 = k + 52 := ⟨N.log2 - 52, by omega⟩
    have hS : N = (M * 2 ^ d) * 2 ^ k := by
      rw [Nat.mul_assoc, ← Nat.pow_add, show d + k = E by omega]; exact h
    obtain ⟨S, hSd⟩ : ∃ S, S = M * 2 ^ d := ⟨_, rfl⟩
    rw [← hSd] at hS
    have hS0 : S ≠ 0 := by rintro rfl; simp at hS; omega
    have hSl : S.log2 = 52 := by
      have := log2_mul_pow S k hS0
      rw [← hS] at this
      omega
    obtain ⟨s1, s2⟩ := (Nat.log2_eq_iff hS0).1 hSl
    have q1 : 4503599627370496 ≤ S := s1
    have q2 : S < 9007199254740992 := s2
    refine ⟨(k + 1) * 4503599627370496 + (S - 4503599627370496), by omega, ?_⟩
    have e1 : sig ((k + 1) * 4503599627370496 + (S - 4503599627370496)) = S := by unfold sig; rw [if_neg (by omega)]; omega
    have e2 : ex ((k + 1) * 4503599627370496 + (S - 4503599627370496)) = k := by unfold ex; rw [if_neg (by omega)]; omega
    unfold val
    rw [e1, e2, ← hS]

theorem val_mono {g h : Nat} (hgh : g < h) : val g < val h := by
  have hp : 0 < 2 ^ ex h := Nat.two_pow_pos _
  by_cases e : ex g = ex h
  · have a := sig_ex g
    have b := sig_ex h
    unfold val
    rw [e]
    exact Nat.mul_lt_mul_of_pos_right (by rw [e] at a; omega) hp
  · have hle : ex g < ex h := by
      have : ex g ≤ ex h := by unfold ex; split <;> split <;> omega
      omega
    have h1 := sig_lt g
    have h2 : 4503599627370496 ≤ sig h := by
      have : ¬ h < 4503599627370496 := by intro hh; unfold ex at hle; rw [if_pos hh] at hle; omega
      unfold sig; rw [if_neg this]; omega
    calc val g < 2 ^ 53 * 2 ^ ex g := Nat.mul_lt_mul_of_pos_right h1 (Nat.two_pow_pos _)
      _ = 4503599627370496 * 2 ^ (ex g + 1) := by rw [Nat.pow_succ]; omega
      _ ≤ 4503599627370496 * 2 ^ ex h := Nat.mul_le_mul_left _ (Nat.pow_le_pow_right (by omega) hle)
      _ ≤ val h := Nat.mul_le_mul_right _ h2
theorem val_lt {g h : Nat} : val g < val h ↔ g < h := by
  refine ⟨fun hv => ?_, val_mono⟩
  rcases Nat.lt_trichotomy g h with h1 | h1 | h1
  · exact h1
  · subst h1; omega
  · have := val_mono h1; omega
theorem val_le {g h : Nat} : val g ≤ val h ↔ g ≤ h := by
  rw [← Nat.not_lt, ← Nat.not_lt, val_lt]
theorem val_inj {g h : Nat} (e : val g = val h) : g = h := by
  have a := (val_le (g := g) (h := h)).1 (by omega)
  have b := (val_le (g := h) (h := g)).1 (by omega)
  omega

theorem word_eq (neg : Bool) (g : Nat) : double.word neg g = if neg then 9223372036854775808 + g else g := by
  have : double.signWeight = 9223372036854775808 := by decide
  unfold Format.word
  rw [this]

theorem read_word (neg : Bool) (g : Nat) (h : g < 9218868437227405312) : double.read (double.word neg g) = .number neg (sig g) (-1074 + (ex g : Int)) := by
  have hw : double.signWeight = 9223372036854775808 := by decide
  have hlp : double.leastPlace = -1074 := by decide
  have hbin : double.binade = 4503599627370496 := by decide
  have hinf : double.infRung = 9218868437227405312 := by decide
  have e1 : double.word neg g % 9223372036854775808 = g := by rw [word_eq]; split <;> omega
  have e2 : (double.word neg g / 9223372036854775808 % 2 == 1) = neg := by
    rw [word_eq]
    cases neg
    · have : g / 9223372036854775808 = 0 := by omega
      simp [this]
    · have : (9223372036854775808 + g) / 9223372036854775808 = 1 := by omega
      simp [this]
  unfold Format.read
  rw [hw, hlp, hbin, hinf]
  dsimp only
  rw [e1, e2]
  unfold sig ex
  split
  · simp
  · rfl

theorem read_inf (neg : Bool) : double.read (double.word neg 9218868437227405312) = .infinity neg := by cases neg <;> decide

theorem read_nan (neg : Bool) (g : Nat) (h : 9218868437227405312 < g) (h2 : g < 9223372036854775808) : double.read (double.word neg g) = .nan neg (g - 9218868437227405312) := by
  have hw : double.signWeight = 9223372036854775808 := by decide
  have hbin : double.binade = 4503599627370496 := by decide
  have hinf : double.infRung = 9218868437227405312 := by decide
  have e1 : double.word neg g % 9223372036854775808 = g := by rw [word_eq]; split <;> omega
  have e2 : (double.word neg g / 9223372036854775808 % 2 == 1) = neg := by
    rw [word_eq]
    cases neg
    · have : g / 9223372036854775808 = 0 := by omega
      simp [this]
    · have : (9223372036854775808 + g) / 9223372036854775808 = 1 := by omega
      simp [this]
  unfold Format.read
  rw [hw, hbin, hinf]
  dsimp only
  rw [e1, e2, if_neg (by omega), if_neg (by omega), if_neg (by omega)]

theorem word_parts (x : Nat) (h : x < 18446744073709551616) : x = double.word (decide (9223372036854775808 ≤ x)) (x % 9223372036854775808) := by
  rw [word_eq]
  by_cases hx : 9223372036854775808 ≤ x
  · simp [hx]; omega
  · simp [hx]; omega
theorem word_inj {a b : Bool} {g h : Nat} (hg : g < 9223372036854775808) (hh : h < 9223372036854775808) (e : double.word a g = double.word b h) : a = b ∧ g = h := by
  rw [word_eq, word_eq] at e
  cases a <;> cases b <;> simp at e <;> first | (exact ⟨rfl, by omega⟩) | (exfalso; omega)

/-- The signed worth. -/
def sv (neg : Bool) (g : Nat) : Int := if neg then -(val g : Int) else (val g : Int)

theorem signed_eq (neg : Bool) (g : Nat) (base : Int) (hb : -1074 ≤ base) (hbe : base ≤ -1074 + (ex g : Int)) : signed neg (sig g) (-1074 + (ex g : Int) - base).toNat * (2 ^ (base + 1074).toNat : Nat) = sv neg g := by
  have e : sig g * 2 ^ (-1074 + (ex g : Int) - base).toNat * 2 ^ (base + 1074).toNat = val g := by
    rw [Nat.mul_assoc, ← Nat.pow_add, show (-1074 + (ex g : Int) - base).toNat + (base + 1074).toNat = ex g by omega]; rfl
  unfold signed sv
  rw [Nat.shiftLeft_eq]
  cases neg
  · simp only [Bool.false_eq_true, if_false]
    rw [← Int.natCast_mul, e]
  · simp only [if_true]
    rw [Int.neg_mul, ← Int.natCast_mul, e]

theorem order_fin (s t : Bool) (g h : Nat) (hg : g < 9218868437227405312) (hh : h < 9218868437227405312) : double.order (double.word s g) (double.word t h) = some (compare (sv s g) (sv t h)) := by
  unfold Format.order
  rw [read_word _ _ hg, read_word _ _ hh]
  unfold Datum.order
  dsimp only
  have b1 := signed_eq s g (min (-1074 + (ex g : Int)) (-1074 + (ex h : Int))) (by omega) (by omega)
  have b2 := signed_eq t h (min (-1074 + (ex g : Int)) (-1074 + (ex h : Int))) (by omega) (by omega)
  obtain ⟨P, hP⟩ : ∃ P : Nat, 2 ^ (min (-1074 + (ex g : Int)) (-1074 + (ex h : Int)) + 1074).toNat = P := ⟨_, rfl⟩
  have hp : (0 : Int) < (P : Int) := by have := Nat.two_pow_pos (min (-1074 + (ex g : Int)) (-1074 + (ex h : Int)) + 1074).toNat; omega
  rw [hP] at b1 b2
  congr 1
  rw [← b1, ← b2]
  generalize signed s (sig g) (-1074 + (ex g : Int) - min (-1074 + (ex g : Int)) (-1074 + (ex h : Int))).toNat = X
  generalize signed t (sig h) (-1074 + (ex h : Int) - min (-1074 + (ex g : Int)) (-1074 + (ex h : Int))).toNat = Y
  rcases Int.lt_trichotomy X Y with c | c | c
  · rw [Int.compare_eq_lt.2 c, Int.compare_eq_lt.2 (Int.mul_lt_mul_of_pos_right c hp)]
  · subst c; simp
  · rw [Int.compare_eq_gt.2 c, Int.compare_eq_gt.2 (Int.mul_lt_mul_of_pos_right c hp)]

/-- A sum of finite numbers that is itself a number of the format: told without rounding. -/
theorem sum_exact (s t u : Bool) (g h k : Nat) (hg : g < 9218868437227405312) (hh : h < 9218868437227405312) (hk : k < 9218868437227405312) (e : sv s g + sv t h = sv u k) (hz : k = 0 → u = (s && t)) :
    double.add (double.word s g) (double.word t h) = some (double.word u k) := by
  unfold Format.add
  rw [read_word _ _ hg, read_word _ _ hh]
  unfold Datum.sum
  dsimp only
  have b1 := signed_eq s g (min (-1074 + (ex g : Int)) (-1074 + (ex h : Int))) (by omega) (by omega)
  have b2 := signed_eq t h (min (-1074 + (ex g : Int)) (-1074 + (ex h : Int))) (by omega) (by omega)
  obtain ⟨base, hbase⟩ : ∃ base, min (-1074 + (ex g : Int)) (-1074 + (ex h : Int)) = base := ⟨_, rfl⟩
  rw [hbase] at b1 b2 ⊢
  have hb1 : -1074 ≤ base := by omega
  obtain ⟨P, hP⟩ : ∃ P : Nat, 2 ^ (base + 1074).toNat = P := ⟨_, rfl⟩
  have hp : (0 : Int) < (P : Int) := by have := Nat.two_pow_pos (base + 1074).toNat; omega
  rw [hP] at b1 b2
  generalize hX : signed s (sig g) (-1074 + (ex g : Int) - base).toNat = X at b1 ⊢
  generalize hY : signed t (sig h) (-1074 + (ex h : Int) - base).toNat = Y at b2 ⊢
  have hT : (X + Y) * (P : Int) = sv u k := by rw [Int.add_mul, b1, b2, e]
  simp only [Option.map_some, Option.some.injEq]
  unfold Format.write
  dsimp only
  have habs : (X + Y).natAbs * P = val k := by
    have h1 : ((X + Y) * (P : Int)).natAbs = (X + Y).natAbs * P := by rw [Int.natAbs_mul]; simp
    rw [← h1, hT]
    unfold sv
    cases u <;> simp
  have hn : (if X + Y = 0 then (s && t) else decide (X + Y < 0)) = u := by
    by_cases h0 : X + Y = 0
    · rw [if_pos h0]
      rw [h0] at habs
      simp at habs
      exact (hz ((val_zero k).1 habs.symm)).symm
    · rw [if_neg h0]
      have hv : 0 < val k := by
        have : 0 < (X + Y).natAbs := by omega
        have hP0 : 0 < P := by omega
        have := Nat.mul_pos this hP0
        omega
      cases u
      · have : sv false k = (val k : Int) := rfl
        rw [this] at hT
        simp only [decide_eq_false_iff_not, Int.not_lt]
        apply Int.not_lt.1
        intro hl
        have := Int.mul_neg_of_neg_of_pos hl hp
        omega
      · have : sv true k = -(val k : Int) := rfl
        rw [this] at hT
        simp only [decide_eq_true_eq]
        apply Int.not_le.1
        intro hl
        have := Int.mul_nonneg hl (Int.le_of_lt hp)
        omega
  rw [hn]
  refine nearest_exact u _ base k (base + 1074).toNat 0 hk (by omega) ?_
  rw [hP, habs]; simp

theorem opposite_word (t : Bool) (h : Nat) (hh : h < 9218868437227405312) : (double.read (double.word t h)).opposite = double.read (double.word (!t) h) := by
  rw [read_word _ _ hh, read_word _ _ hh]; rfl
theorem sub_exact (s t u : Bool) (g h k : Nat) (hg : g < 9218868437227405312) (hh : h < 9218868437227405312) (hk : k < 9218868437227405312) (e : sv s g - sv t h = sv u k) (hz : k = 0 → u = (s && !t)) :
    double.sub (double.word s g) (double.word t h) = some (double.word u k) := by
  unfold Format.sub
  rw [opposite_word _ _ hh]
  have hs : sv (!t) h = - sv t h := by unfold sv; cases t <;> simp
  exact sum_exact s (!t) u g h k hg hh hk (by rw [hs]; omega) hz

/-- A product of finite numbers that is itself a number of the format. -/
theorem mul_exact (s t : Bool) (g h k : Nat) (hg : g < 9218868437227405312) (hh : h < 9218868437227405312) (hk : k < 9218868437227405312) (e : val g * val h = val k * 2 ^ 1074) :
    double.mul (double.word s g) (double.word t h) = some (double.word (s ^^ t) k) := by
  unfold Format.mul
  rw [read_word _ _ hg, read_word _ _ hh]
  unfold Datum.product
  dsimp only [Option.map_some]
  congr 1
  unfold Format.write
  dsimp only
  refine nearest_exact _ _ _ k (ex g + ex h) 1074 hk (by omega) ?_
  rw [← e]
  unfold val
  rw [Nat.pow_add]
  ac_rfl

theorem sig_norm (e f : Nat) (hf : f < 4503599627370496) : sig ((e + 1) * 4503599627370496 + f) = 4503599627370496 + f := by unfold sig; rw [if_neg (by omega)]; omega
theorem ex_norm (e f : Nat) (hf : f < 4503599627370496) : ex ((e + 1) * 4503599627370496 + f) = e := by unfold ex; rw [if_neg (by omega)]; omega
theorem val_norm (e f : Nat) (hf : f < 4503599627370496) : val ((e + 1) * 4503599627370496 + f) = (4503599627370496 + f) * 2 ^ e := by unfold val; rw [sig_norm e f hf, ex_norm e f hf]
theorem val_pow (e : Nat) : val ((e + 1) * 4503599627370496) = 4503599627370496 * 2 ^ e := by rw [← Nat.add_zero ((e + 1) * 4503599627370496), val_norm e 0 (by omega)]
theorem val_sub (g : Nat) (h : g < 4503599627370496) : val g = g := by unfold val sig ex; rw [if_pos h, if_pos h]; simp
theorem pow52 : 2 ^ 52 = 4503599627370496 := rfl
/-- A float's parts, where it is not below the least normal one. -/
theorem norm_parts (k : Nat) (h : 4503599627370496 ≤ k) : k = (ex k + 1) * 4503599627370496 + (sig k - 4503599627370496) ∧ 4503599627370496 ≤ sig k ∧ sig k < 9007199254740992 := by
  unfold ex sig; rw [if_neg (by omega), if_neg (by omega)]; omega

theorem ld_arith {K J a b n e T : Nat} (h : J * 2 ^ n = K * 2 ^ e) (he : a + b + n = e + T) : 2 ^ a * (K * 2 ^ b) = J * 2 ^ T := by
  apply Nat.eq_of_mul_eq_mul_right (Nat.two_pow_pos n)
  calc 2 ^ a * (K * 2 ^ b) * 2 ^ n = K * (2 ^ a * 2 ^ b * 2 ^ n) := by ac_rfl
    _ = K * 2 ^ (e + T) := by rw [← Nat.pow_add, ← Nat.pow_add, he]
    _ = K * 2 ^ e * 2 ^ T := by rw [Nat.pow_add, Nat.mul_assoc]
    _ = J * 2 ^ n * 2 ^ T := by rw [h]
    _ = J * 2 ^ T * 2 ^ n := by ac_rfl
theorem val_pow' (e a : Nat) (h : 52 + e = a) : val ((e + 1) * 4503599627370496) = 2 ^ a := by
  rw [val_pow, ← pow52, pow_split h]
/-- What Ldexp multiplies is worth what it should be. -/
theorem ld_worth {h k j n d c e a T : Nat} (hk : 4503599627370496 ≤ k) (hk3 : val k = val h * 2 ^ n) (hv : val j = val h * 2 ^ d) (hc : val c = 2 ^ a) (hd : n ≤ d + ex k + e) (ha : a + e = T) :
    val c * val ((d + ex k + e + 1 - n) * 4503599627370496 + k % 4503599627370496) = val j * 2 ^ T := by
  obtain ⟨b, hb⟩ : ∃ b, d + ex k + e = n + b := ⟨d + ex k + e - n, by omega⟩
  rw [show d + ex k + e + 1 - n = b + 1 by omega, val_norm b _ (by omega), hc]
  have hs : 4503599627370496 + k % 4503599627370496 = sig k := by unfold sig; rw [if_neg (by omega)]
  rw [hs]
  refine ld_arith (n := n) (e := ex k + d) ?_ (by omega)
  rw [hv, Nat.mul_assoc, Nat.mul_comm (2 ^ d), ← Nat.mul_assoc, ← hk3, Nat.pow_add, ← Nat.mul_assoc]
  rfl

theorem step_core {S a T b G H c : Nat} (s1 : 4503599627370496 ≤ S) (s2 : S < 9007199254740992) (t1 : 4503599627370496 ≤ T) (t2 : T < 9007199254740992) (hG : S * 2 ^ a = G * 2 ^ c) (hH : T * 2 ^ b = H * 2 ^ c) (hle : H ≤ G) :
    ∃ d, a = b + d + (if S < T then 1 else 0) ∧ H * 2 ^ d ≤ G ∧ G < 2 * (H * 2 ^ d) := by
  have pa := Nat.two_pow_pos a
  have pb := Nat.two_pow_pos b
  have pc := Nat.two_pow_pos c
  have hle' : T * 2 ^ b ≤ S * 2 ^ a := by rw [hG, hH]; exact Nat.mul_le_mul_right _ hle
  by_cases hST : S < T
  · rw [if_pos hST]
    have hba : b < a := by
      apply Nat.not_le.1
      intro hab
      have h1 : T * 2 ^ a ≤ T * 2 ^ b := Nat.mul_le_mul_left _ (Nat.pow_le_pow_right (by omega) hab)
      have h2 : S * 2 ^ a < T * 2 ^ a := Nat.mul_lt_mul_of_pos_right hST pa
      omega
    obtain ⟨d, rfl⟩ : ∃ d, a = b + d + 1 := ⟨a - b - 1, by omega⟩
    have e1 : 2 * (H * 2 ^ d) * 2 ^ c = T * 2 ^ (b + d + 1) := by
      rw [Nat.pow_succ, Nat.pow_add, show T * (2 ^ b * 2 ^ d * 2) = 2 * (T * 2 ^ b * 2 ^ d) by ac_rfl, hH]; ac_rfl
    refine ⟨d, rfl, ?_, ?_⟩
    · apply Nat.le_of_mul_le_mul_right _ pc
      have h1 : T * 2 ^ (b + d + 1) ≤ (2 * S) * 2 ^ (b + d + 1) := Nat.mul_le_mul_right _ (by omega)
      have h2 : (2 * S) * 2 ^ (b + d + 1) = 2 * (G * 2 ^ c) := by rw [← hG]; ac_rfl
      have h3 : 2 * (H * 2 ^ d) * 2 ^ c = 2 * (H * 2 ^ d * 2 ^ c) := by ac_rfl
      omega
    · apply Nat.lt_of_mul_lt_mul_right (a := 2 ^ c)
      rw [e1, ← hG]
      exact Nat.mul_lt_mul_of_pos_right hST pa
  · rw [if_neg hST]
    have hba : b ≤ a := by
      apply Nat.not_lt.1
      intro hab
      have h1 : T * 2 ^ (a + 1) ≤ T * 2 ^ b := Nat.mul_le_mul_left _ (Nat.pow_le_pow_right (by omega) hab)
      have h2 : S * 2 ^ a < (2 * T) * 2 ^ a := Nat.mul_lt_mul_of_pos_right (by omega) pa
      have h3 : (2 * T) * 2 ^ a = T * 2 ^ (a + 1) := by rw [Nat.pow_succ]; ac_rfl
      omega
    obtain ⟨d, rfl⟩ : ∃ d, a = b + d := ⟨a - b, by omega⟩
    have e1 : H * 2 ^ d * 2 ^ c = T * 2 ^ (b + d) := by
      rw [Nat.pow_add, ← Nat.mul_assoc, hH]; ac_rfl
    refine ⟨d, rfl, ?_, ?_⟩
    · apply Nat.le_of_mul_le_mul_right _ pc
      rw [e1, ← hG]
      exact Nat.mul_le_mul_right _ (by omega)
    · apply Nat.lt_of_mul_lt_mul_right (a := 2 ^ c)
      have h2 : S * 2 ^ (b + d) < (2 * T) * 2 ^ (b + d) := Nat.mul_lt_mul_of_pos_right (by omega) pa
      have h3 : 2 * (H * 2 ^ d) * 2 ^ c = (2 * T) * 2 ^ (b + d) := by
        rw [show 2 * (H * 2 ^ d) * 2 ^ c = 2 * (H * 2 ^ d * 2 ^ c) by ac_rfl, e1]; ac_rfl
      rw [h3, ← hG]
      exact h2
theorem log2_mono {a b : Nat} (h : a ≤ b) : a.log2 ≤ b.log2 := by
  by_cases h0 : a = 0
  · subst h0; simp
  · exact (Nat.le_log2 (by omega)).2 (Nat.le_trans ((Nat.le_log2 h0).1 (Nat.le_refl _)) h)

theorem mod_step {g h Sr Er nr Sy Ey ny : Nat} (hg : g < 9218868437227405312) (h1 : 1 ≤ h) (hle : h ≤ g) (a1 : nr ≤ 52) (a2 : 4503599627370496 ≤ Sr) (a3 : Sr < 9007199254740992) (a4 : Sr * 2 ^ Er = val g * 2 ^ nr)
    (b1 : ny ≤ 52) (b2 : 4503599627370496 ≤ Sy) (b3 : Sy < 9007199254740992) (b4 : Sy * 2 ^ Ey = val h * 2 ^ ny) :
    ∃ d j g' : Nat, (Er : Int) - nr = (Ey : Int) - ny + d + (if Sr < Sy then 1 else 0 : Nat) ∧ j < 9218868437227405312 ∧ val j = val h * 2 ^ d ∧ g' < 9218868437227405312 ∧ val g' + val j = val g ∧ 0 < val j := by
  have c1 : Sr * 2 ^ (Er + (104 - nr)) = val g * 2 ^ 104 := by
    rw [Nat.pow_add, ← Nat.mul_assoc, a4, Nat.mul_assoc, pow_split (c := 104) (by omega)]
  have c2 : Sy * 2 ^ (Ey + (104 - ny)) = val h * 2 ^ 104 := by
    rw [Nat.pow_add, ← Nat.mul_assoc, b4, Nat.mul_assoc, pow_split (c := 104) (by omega)]
  obtain ⟨d, e1, e2, e3⟩ := step_core a2 a3 b2 b3 c1 c2 (val_le.2 hle)
  have hv0 : val h ≠ 0 := fun e => by have := (val_zero h).1 e; omega
  obtain ⟨j, j1, j2⟩ := rep (val h * 2 ^ d) (sig h) (ex h + d) (by unfold val; rw [Nat.pow_add]; ac_rfl) (sig_lt h) (Nat.le_trans (log2_mono e2) (val_inf_lt g hg))
  have hjp : 0 < val j := by rw [j2]; exact Nat.mul_pos (by omega) (Nat.two_pow_pos d)
  rw [← j2] at e2 e3
  have hj3 : val j = sig h * 2 ^ (ex h + d) := by rw [j2]; unfold val; rw [Nat.pow_add]; ac_rfl
  have key : ∃ M E, val g - val j = M * 2 ^ E ∧ M < 2 ^ 53 := by
    by_cases hE : ex g ≤ ex h + d
    · refine ⟨sig g - sig h * 2 ^ (ex h + d - ex g), ex g, ?_, Nat.lt_of_le_of_lt (Nat.sub_le _ _) (sig_lt g)⟩
      rw [Nat.sub_mul, Nat.mul_assoc, pow_split (show ex h + d - ex g + ex g = ex h + d by omega), ← hj3]; rfl
    · have m1 : (sig g * 2 ^ (ex g - (ex h + d)) - sig h) * 2 ^ (ex h + d) = val g - val j := by
        rw [Nat.sub_mul, Nat.mul_assoc, pow_split (show ex g - (ex h + d) + (ex h + d) = ex g by omega), ← hj3]; rfl
      refine ⟨sig g * 2 ^ (ex g - (ex h + d)) - sig h, ex h + d, m1.symm, ?_⟩
      refine Nat.lt_trans ?_ (sig_lt h)
      apply Nat.lt_of_mul_lt_mul_right (a := 2 ^ (ex h + d))
      rw [m1, ← hj3]
      omega
  obtain ⟨M, E, k1, k2⟩ := key
  obtain ⟨g', g1, g2⟩ := rep (val g - val j) M E k1 k2 (Nat.le_trans (log2_mono (Nat.sub_le _ _)) (val_inf_lt g hg))
  refine ⟨d, j, g', ?_, j1, j2, g1, by omega, hjp⟩
  omega

theorem xor_half (g : Nat) (h : g < 9223372036854775808) : g ^^^ 9223372036854775808 = 9223372036854775808 + g := by
  apply Nat.eq_of_testBit_eq
  intro i
  rw [Nat.testBit_xor, show (9223372036854775808 : Nat) = 2 ^ 63 from rfl, Nat.testBit_two_pow]
  rcases Nat.lt_trichotomy i 63 with hi | hi | hi
  · rw [Nat.testBit_two_pow_add_gt hi, decide_eq_false (by omega), Bool.xor_false]
  · subst hi
    rw [Nat.testBit_two_pow_add_eq, decide_eq_true rfl, Bool.xor_true]
  · have hp : 2 ^ 64 ≤ 2 ^ i := Nat.pow_le_pow_right (by omega) (by omega)
    have e64 : (2 : Nat) ^ 64 = 18446744073709551616 := rfl
    have e63 : (2 : Nat) ^ 63 = 9223372036854775808 := rfl
    rw [Nat.testBit_lt_two_pow (x := g) (by omega), Nat.testBit_lt_two_pow (x := 2 ^ 63 + g) (by omega), decide_eq_false (by omega)]; rfl
theorem xor_half' (g : Nat) (h : g < 9223372036854775808) : (9223372036854775808 + g) ^^^ 9223372036854775808 = g := by
  rw [← xor_half g h, Nat.xor_assoc, Nat.xor_self, Nat.xor_zero]

/-- Cut off towards 0. -/
def tr (g : Nat) : Nat := val g / 2 ^ 1074
theorem cut_zero (neg : Bool) (m d : Nat) : Toward.zero.cut neg m d = m / 2 ^ d := by
  unfold Toward.cut
  simp only [Nat.one_shiftLeft, Bool.toNat_false, Nat.add_zero]
  by_cases h : d ≤ m.log2 + 2
  · rw [Nat.min_eq_left h]
  · rw [Nat.min_eq_right (by omega)]
    have h1 : m < 2 ^ (m.log2 + 2) := by
      have : m < 2 ^ (m.log2 + 1) := Nat.lt_log2_self
      exact Nat.lt_of_lt_of_le this (Nat.pow_le_pow_right (by omega) (by omega))
    have h2 : m < 2 ^ d := Nat.lt_of_lt_of_le h1 (Nat.pow_le_pow_right (by omega) (by omega))
    rw [Nat.div_eq_of_lt h1, Nat.div_eq_of_lt h2]
theorem cut_tr' (neg : Bool) (g D : Nat) (hD : D = 1074) : Toward.zero.cut neg (sig g <<< (-(D : Int) + (ex g : Int)).toNat) (-(-(D : Int) + (ex g : Int))).toNat = val g / 2 ^ D := by
  rw [cut_zero, Nat.shiftLeft_eq]
  by_cases h : D ≤ ex g
  · rw [show (-(-(D : Int) + (ex g : Int))).toNat = 0 by omega, show (-(D : Int) + (ex g : Int)).toNat = ex g - D by omega, Nat.pow_zero, Nat.div_one]
    unfold val
    rw [← pow_split (show ex g - D + D = ex g by omega), ← Nat.mul_assoc, Nat.mul_div_cancel _ (Nat.two_pow_pos D)]
  · rw [show (-(-(D : Int) + (ex g : Int))).toNat = D - ex g by omega, show (-(D : Int) + (ex g : Int)).toNat = 0 by omega, Nat.pow_zero, Nat.mul_one]
    unfold val
    rw [← pow_split (show D - ex g + ex g = D by omega), Nat.mul_div_mul_right _ _ (Nat.two_pow_pos (ex g))]
theorem integral_fin (neg : Bool) (g : Nat) (h : g < 9218868437227405312) : (double.read (double.word neg g)).integral .zero = .number neg (tr g) 0 := by
  rw [read_word neg g h]
  unfold Datum.integral
  dsimp only
  have := cut_tr' neg g 1074 rfl
  rw [show -(1074 : Int) = -((1074 : Nat) : Int) from rfl, this]
  rfl
theorem toInt_fin (neg : Bool) (g : Nat) (h : g < 9218868437227405312) : (double.read (double.word neg g)).toInt .zero = some (if neg then -(tr g : Int) else (tr g : Int)) := by
  unfold Datum.toInt
  rw [integral_fin neg g h]
  unfold signed
  simp
theorem div_le_gen (s e D : Nat) (h : e ≤ D) : s * 2 ^ e / 2 ^ D ≤ s :=
  Nat.div_le_of_le_mul (by rw [Nat.mul_comm]; exact Nat.mul_le_mul_right _ (Nat.pow_le_pow_right (by omega) h))
theorem div_back_gen (s e D : Nat) (h : D ≤ e) : s * 2 ^ e / 2 ^ D * 2 ^ D = s * 2 ^ e :=
  Nat.div_mul_cancel (Nat.dvd_trans (Nat.pow_dvd_pow 2 h) (Nat.dvd_mul_left _ _))
theorem tr_lt_sub {g : Nat} (h : ex g ≤ 1074) : tr g ≤ sig g := div_le_gen (sig g) (ex g) 1074 h
/-- A number that is cut off is a number of the format. -/
theorem tr_rep (g : Nat) (h : g < 9218868437227405312) : ∃ k, k < 9218868437227405312 ∧ val k = tr g * 2 ^ 1074 := by
  by_cases he : ex g ≤ 1074
  · refine rep _ (tr g) 1074 rfl (Nat.lt_of_le_of_lt (tr_lt_sub he) (sig_lt g)) ?_
    exact Nat.le_trans (log2_mono (Nat.div_mul_le_self _ _)) (val_inf_lt g h)
  · refine ⟨g, h, ?_⟩
    exact (div_back_gen (sig g) (ex g) 1074 (Nat.le_of_lt (Nat.not_le.1 he))).symm
theorem write_tr (neg : Bool) (g k : Nat) (h : g < 9218868437227405312) (hk : k < 9218868437227405312) (hv : val k = tr g * 2 ^ 1074) : double.write ((double.read (double.word neg g)).integral .zero) = double.word neg k := by
  rw [integral_fin neg g h]
  exact nearest_exact neg (tr g) 0 k 1074 0 hk (by omega) (by rw [hv, Nat.pow_zero, Nat.mul_one])

theorem div_lt_gen (a k D : Nat) (h : a < 2 ^ (k + D)) : a / 2 ^ D < 2 ^ k := by rw [Nat.div_lt_iff_lt_mul (Nat.two_pow_pos D), ← Nat.pow_add]; exact h
theorem tr_lt (g e k : Nat) (h : g < (e + 1) * 4503599627370496) (he : 52 + e = k + 1074) : tr g < 2 ^ k := by
  have h1 := val_mono h
  rw [val_pow' e (k + 1074) he] at h1
  exact div_lt_gen (val g) k 1074 h1
theorem div_of_gen {v n D : Nat} (h : v = n * 2 ^ D) : v / 2 ^ D = n := by rw [h, Nat.mul_div_cancel _ (Nat.two_pow_pos D)]
theorem tr_of (g n : Nat) (h : val g = n * 2 ^ 1074) : tr g = n := div_of_gen (v := val g) (n := n) (D := 1074) h
theorem div_mod_of_gen {v a b D : Nat} (h : v = a % (b * 2 ^ D)) : v / 2 ^ D = a / 2 ^ D % b := by rw [h, Nat.mod_mul_left_div_self]
theorem tr_mod (g h b : Nat) (e : val g = val h % (b * 2 ^ 1074)) : tr g = tr h % b := div_mod_of_gen (v := val g) (a := val h) (b := b) (D := 1074) e
theorem int_rep_gen (n D : Nat) (hD : D ≤ 2000) (h : n < 9007199254740992) : ∃ g, g < 9218868437227405312 ∧ val g = n * 2 ^ D := by
  refine rep _ n D rfl h ?_
  by_cases h0 : n = 0
  · rw [h0, Nat.zero_mul]; simp
  · rw [log2_mul_pow n D h0]
    have := log2_le_of_lt (n := n) (k := 52) h
    omega
theorem int_rep (n : Nat) (h : n < 9007199254740992) : ∃ g, g < 9218868437227405312 ∧ val g = n * 2 ^ 1074 := int_rep_gen n 1074 (by omega) h
theorem mul_mod_gen (a b D : Nat) : a * 2 ^ D % (b * 2 ^ D) = a % b * 2 ^ D := by rw [Nat.mul_mod_mul_right]
theorem sub_mul_gen (a b c D : Nat) (h : c + a = b) : c * 2 ^ D + a * 2 ^ D = b * 2 ^ D := by rw [← Nat.add_mul, h]
theorem tr_pow (g k D : Nat) (hk : val g = 2 ^ k * 2 ^ D) : val g / 2 ^ D = 2 ^ k := by rw [hk, Nat.mul_div_cancel _ (Nat.two_pow_pos D)]
theorem div_mod_gen (a b D : Nat) : a % (b * 2 ^ D) / 2 ^ D = a / 2 ^ D % b := by
  rw [Nat.mod_mul_left_div_self]

/-- A word as a whole number that stands in the words' order. -/
def key (x : Nat) : Int := if 9223372036854775808 ≤ x then -((x % 9223372036854775808 : Nat) : Int) else ((x % 9223372036854775808 : Nat) : Int)
abbrev nan (x : Nat) : Prop := 9218868437227405312 < x % 9223372036854775808

theorem cmp_congr {a b c d : Int} (h1 : a < b ↔ c < d) (h2 : b < a ↔ d < c) : compare a b = compare c d := by
  rcases Int.lt_trichotomy a b with h | h | h
  · rw [Int.compare_eq_lt.2 h, Int.compare_eq_lt.2 (h1.1 h)]
  · subst h
    have : c = d := by
      have n1 : ¬ c < d := fun h => by have := h1.2 h; omega
      have n2 : ¬ d < c := fun h => by have := h2.2 h; omega
      omega
    subst this
    rw [Int.compare_eq_eq.2 rfl, Int.compare_eq_eq.2 rfl]
  · rw [Int.compare_eq_gt.2 h, Int.compare_eq_gt.2 (h2.1 h)]

theorem sv_lt (s t : Bool) (g h : Nat) : sv s g < sv t h ↔ (if s then -(g : Int) else g) < (if t then -(h : Int) else h) := by
  have a := val_lt (g := g) (h := h)
  have b := val_lt (g := h) (h := g)
  have c := val_zero g
  have d := val_zero h
  unfold sv
  cases s <;> cases t <;> simp <;> omega

theorem order_key (x y : Nat) (hx : x < 18446744073709551616) (hy : y < 18446744073709551616) (nx : ¬ nan x) (ny : ¬ nan y) : double.order x y = some (compare (key x) (key y)) := by
  unfold nan at nx ny
  have kx : key x = (if decide (9223372036854775808 ≤ x) then -((x % 9223372036854775808 : Nat) : Int) else ((x % 9223372036854775808 : Nat) : Int)) := by unfold key; simp
  have ky : key y = (if decide (9223372036854775808 ≤ y) then -((y % 9223372036854775808 : Nat) : Int) else ((y % 9223372036854775808 : Nat) : Int)) := by unfold key; simp
  rw [kx, ky]
  have ex' := word_parts x hx
  have ey' := word_parts y hy
  have hg : x % 9223372036854775808 ≤ 9218868437227405312 := by omega
  have hh : y % 9223372036854775808 ≤ 9218868437227405312 := by omega
  revert ex' ey'
  generalize decide (9223372036854775808 ≤ x) = s
  generalize decide (9223372036854775808 ≤ y) = t
  generalize x % 9223372036854775808 = g at hg ⊢
  generalize y % 9223372036854775808 = h at hh ⊢
  rintro rfl rfl
  clear kx ky hx hy nx ny
  by_cases e1 : g = 9218868437227405312
  · subst e1
    unfold Format.order
    rw [read_inf]
    by_cases e2 : h = 9218868437227405312
    · subst e2
      rw [read_inf]
      cases s <;> cases t <;> decide
    · rw [read_word _ _ (by omega)]
      unfold Datum.order
      dsimp only
      congr 1
      cases s <;> cases t <;> simp <;> symm <;> first | (apply Int.compare_eq_lt.2; omega) | (apply Int.compare_eq_gt.2; omega)
  · by_cases e2 : h = 9218868437227405312
    · subst e2
      unfold Format.order
      rw [read_inf, read_word _ _ (by omega)]
      unfold Datum.order
      dsimp only
      congr 1
      cases s <;> cases t <;> simp <;> symm <;> first | (apply Int.compare_eq_lt.2; omega) | (apply Int.compare_eq_gt.2; omega)
    · rw [order_fin _ _ _ _ (by omega) (by omega)]
      congr 1
      exact cmp_congr (sv_lt s t g h) (sv_lt t s h g)

theorem order_nan (x y : Nat) (hx : x < 18446744073709551616) (hy : y < 18446744073709551616) (h : nan x ∨ nan y) : double.order x y = none := by
  have rn : ∀ z, z < 18446744073709551616 → nan z → ∃ s f, double.read z = .nan s f := fun z hz hn => by
    rw [word_parts z hz]
    exact ⟨_, _, read_nan _ _ hn (by omega)⟩
  unfold Format.order
  rcases h with h | h
  · obtain ⟨s, f, e⟩ := rn x hx h
    rw [e]; rfl
  · obtain ⟨s, f, e⟩ := rn y hy h
    rw [e]
    cases double.read x <;> rfl

/-- Alike as answers. -/
def alike (x y : Nat) : Bool := decide (x = y ∨ (nan x ∧ nan y))
end Fl
end Go.Proofs.YtbkkkpfoaggejaaGreatDoor
