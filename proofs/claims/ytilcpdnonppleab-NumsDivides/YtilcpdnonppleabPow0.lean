/- nums.Pow: products, one bit after another one. -/
import Derived.Test.YtilcpdnonppleabRWhole
import Derived.Lib.Strings
import Derived.Lib.Slices
import Derived.Lib.Small
import Derived.Lib.Walk
import Derived.Lib.BitFns
namespace Go.Proofs.Ytilcpdnonppleab
set_option linter.unusedVariables false
open Go.RowKit Fl

theorem len8_at (y : Int) (h : y.toNat < Lib.len8tab.size) : ((Lib.len8tab[y.toNat]'h).toNat : Int) = Lib.len8 y := by
  unfold Lib.len8
  rw [getElem?_pos Lib.len8tab y.toNat h]
  rfl

set_option maxHeartbeats 4000000 in
set_option maxRecDepth 100000 in
theorem len64_any (x : Int) (w : World) (h0 : 0 ≤ x) (h1 : x ≤ 1024) :
    Calls Try.prog 46 #[.int .u64 x] w fun e w' => e = .returned (.int .i64 (Lib.bitLen x.toNat)) ∧ w' = w := by
  have hs : (Lib.len8tab.size : Int) = 256 := by rw [Lib.len8tab_size]; rfl
  have hi1 : x / 256 < (Lib.len8tab.size : Int) := by omega
  by_cases hx : x < 256
  · have hi : x < (Lib.len8tab.size : Int) := by omega
    go_enter Try.func46, Try.ntmps46
    go_wp2
    go_ret
    refine ⟨congrArg Ending.returned (congrArg (Value.int IntKind.i64) ?_), rfl⟩
    rw [len8_at x, Lib.len8_of x (by omega) (by omega)]
    have l := Lib.bitLen_le8' x (by omega) (by omega)
    unfold wrap64
    omega
  · have hx' : 256 ≤ x := by omega
    go_enter Try.func46, Try.ntmps46
    go_wp2
    go_ret
    refine ⟨congrArg Ending.returned (congrArg (Value.int IntKind.i64) ?_), rfl⟩
    rw [len8_at (x / 256), Lib.len8_of (x / 256) (by omega) (by omega)]
    have e : (x / 256).toNat = x.toNat / 256 := by omega
    have l := Lib.bitLen_le8' (x / 256) (by omega) (by omega)
    have s := Lib.bitLen_shift8 x.toNat (by omega) (by omega)
    rw [e] at l ⊢
    unfold wrap64
    omega

set_option maxHeartbeats 400000 in
theorem len_any (x : Int) (w : World) (h0 : 0 ≤ x) (h1 : x ≤ 1024) :
    Calls Try.prog 40 #[.int .u64 x] w fun e w' => e = .returned (.int .i64 (Lib.bitLen x.toNat)) ∧ w' = w := by
  have H := Hid.mk' (fun W => len64_any x W h0 h1)
  go_enter Try.func40, Try.ntmps40
  go_wp2_with (go_at_call 46; refine (H.out _).mono ?_; rintro e w1 ⟨rfl, hw1⟩; rw [hw1]; clear hw1 w1)
  go_ret
  exact ⟨rfl, rfl⟩

/- ---- products that are numbers ---- -/
def one : Nat := 4607182418800017408
def mulC (p q : Nat) : Nat := (Ieee.double.mul p q).getD 9221120237041090561
theorem nearest_ok (neg : Bool) (m : Nat) (e : Int) : ∃ g, Ieee.double.nearest neg m e = Ieee.double.word neg g ∧ g ≤ 9218868437227405312 := by
  unfold Ieee.Format.nearest
  split
  · exact ⟨0, rfl, by omega⟩
  · exact ⟨_, rfl, Nat.min_le_right _ _⟩
theorem word_ok (neg : Bool) (g : Nat) (h : g ≤ 9218868437227405312) : Ieee.double.word neg g < 18446744073709551616 ∧ ¬ nan (Ieee.double.word neg g) ∧ Ieee.double.word neg g % 9223372036854775808 = g := by
  rw [word_eq]
  unfold nan
  cases neg
  · simp; omega
  · simp; omega
theorem write_ok (d : Ieee.Datum) (h : d.isNaN = false) : Ieee.double.write d < 18446744073709551616 ∧ ¬ nan (Ieee.double.write d) := by
  cases d with
  | number s m e =>
    obtain ⟨g, h1, h2⟩ := nearest_ok s m e
    show Ieee.double.nearest s m e < _ ∧ ¬ nan (Ieee.double.nearest s m e)
    rw [h1]
    exact ⟨(word_ok s g h2).1, (word_ok s g h2).2.1⟩
  | infinity s => exact ⟨(word_ok s 9218868437227405312 (by omega)).1, (word_ok s 9218868437227405312 (by omega)).2.1⟩
  | nan s t => cases h
theorem read_cases (x : Nat) (hx : x < 18446744073709551616) (hn : ¬ nan x) : (∃ s m e, Ieee.double.read x = .number s m e ∧ (m = 0 ↔ x % 9223372036854775808 = 0) ∧ x % 9223372036854775808 < 9218868437227405312) ∨ (∃ s, Ieee.double.read x = .infinity s ∧ x % 9223372036854775808 = 9218868437227405312) := by
  unfold nan at hn
  rw [word_parts x hx]
  have hm : Ieee.double.word (decide (9223372036854775808 ≤ x)) (x % 9223372036854775808) % 9223372036854775808 = x % 9223372036854775808 := (word_ok _ _ (by omega)).2.2
  rw [hm]
  by_cases h : x % 9223372036854775808 = 9218868437227405312
  · rw [h]
    exact .inr ⟨_, read_inf _, rfl⟩
  · exact .inl ⟨_, _, _, read_word _ _ (by omega), sig_zero _, by omega⟩
theorem mul_some (p q : Nat) (hp : p < 18446744073709551616) (hq : q < 18446744073709551616) (np : ¬ nan p) (nq : ¬ nan q) (h1 : ¬ (p % 9223372036854775808 = 0 ∧ q % 9223372036854775808 = 9218868437227405312)) (h2 : ¬ (p % 9223372036854775808 = 9218868437227405312 ∧ q % 9223372036854775808 = 0)) :
    Ieee.double.mul p q = some (mulC p q) ∧ mulC p q < 18446744073709551616 ∧ ¬ nan (mulC p q) := by
  have key : ∃ d, (Ieee.double.read p).product (Ieee.double.read q) = some d ∧ d.isNaN = false := by
    rcases read_cases p hp np with ⟨s, m, i, e, z, f⟩ | ⟨s, e, z⟩
    · rcases read_cases q hq nq with ⟨t, n, j, e', z', f'⟩ | ⟨t, e', z'⟩
      · rw [e, e']; exact ⟨_, rfl, rfl⟩
      · rw [e, e']
        have : m ≠ 0 := fun h => h1 ⟨z.1 h, z'⟩
        exact ⟨_, by show (if m = 0 then none else some _) = some _; rw [if_neg this], rfl⟩
    · rcases read_cases q hq nq with ⟨t, n, j, e', z', f'⟩ | ⟨t, e', z'⟩
      · rw [e, e']
        have : n ≠ 0 := fun h => h2 ⟨z, z'.1 h⟩
        exact ⟨_, by show (if n = 0 then none else some _) = some _; rw [if_neg this], rfl⟩
      · rw [e, e']; exact ⟨_, rfl, rfl⟩
  obtain ⟨d, h, hd⟩ := key
  have hm : Ieee.double.mul p q = some (Ieee.double.write d) := by unfold Ieee.Format.mul; rw [h]; rfl
  have hc : mulC p q = Ieee.double.write d := by unfold mulC; rw [hm]; rfl
  rw [hc]
  exact ⟨hm, write_ok d hd⟩

/-- What a product keeps to: no NaN; of 0 and of what is infinite nothing else comes. -/
def Inv (a p : Nat) : Prop := p < 18446744073709551616 ∧ ¬ nan p ∧ (a % 9223372036854775808 = 0 → p % 9223372036854775808 = 0 ∨ p = one) ∧ (a % 9223372036854775808 = 9218868437227405312 → p % 9223372036854775808 = 9218868437227405312 ∨ p = one)
theorem Inv.start (a : Nat) : Inv a one := ⟨by decide, by unfold nan one; omega, fun _ => .inr rfl, fun _ => .inr rfl⟩
theorem half_cases {x c : Nat} (hx : x < 18446744073709551616) (h : x % 9223372036854775808 = c) : x = c ∨ x = 9223372036854775808 + c := by omega
theorem Inv.sq {a p : Nat} (h : Inv a p) : Ieee.double.mul p p = some (mulC p p) ∧ Inv a (mulC p p) := by
  obtain ⟨h1, h2, h3, h4⟩ := h
  obtain ⟨m1, m2, m3⟩ := mul_some p p h1 h1 h2 h2 (by omega) (by omega)
  refine ⟨m1, m2, m3, fun ha => ?_, fun ha => ?_⟩
  · rcases h3 ha with e | e
    · rcases half_cases h1 e with rfl | rfl
      · left; decide
      · left; decide
    · subst e; right; decide
  · rcases h4 ha with e | e
    · rcases half_cases h1 e with rfl | rfl
      · left; decide
      · left; decide
    · subst e; right; decide
theorem Inv.times {a p : Nat} (ha' : a < 18446744073709551616) (na : ¬ nan a) (h : Inv a p) : Ieee.double.mul p a = some (mulC p a) ∧ Inv a (mulC p a) := by
  obtain ⟨h1, h2, h3, h4⟩ := h
  have o1 : one % 9223372036854775808 ≠ 9218868437227405312 := by decide
  have o2 : one % 9223372036854775808 ≠ 0 := by decide
  obtain ⟨m1, m2, m3⟩ := mul_some p a h1 ha' h2 na (fun q => by
      rcases h4 q.2 with e | e
      · omega
      · rw [e] at q; exact o2 q.1) (fun q => by
      rcases h3 q.2 with e | e
      · omega
      · rw [e] at q; exact o1 q.1)
  refine ⟨m1, m2, m3, fun ha => ?_, fun ha => ?_⟩
  · left
    rcases half_cases ha' ha with rfl | rfl
    all_goals
      rcases h3 ha with e | e
      · rcases half_cases h1 e with rfl | rfl
        · decide
        · decide
      · subst e; decide
  · left
    rcases half_cases ha' ha with rfl | rfl
    all_goals
      rcases h4 ha with e | e
      · rcases half_cases h1 e with rfl | rfl
        · decide
        · decide
      · subst e; decide

/-- The product, bit by bit from the eleventh on. -/
def P (a n : Nat) : Nat → Nat
  | 0 => one
  | j + 1 => if n / 2 ^ (10 - j) % 2 = 1 then mulC (mulC (P a n j) (P a n j)) a else mulC (P a n j) (P a n j)
theorem P_inv {a n : Nat} (ha : a < 18446744073709551616) (na : ¬ nan a) : ∀ j, Inv a (P a n j)
  | 0 => Inv.start a
  | j + 1 => by
    have h := (P_inv (n := n) ha na j).sq
    rw [P]
    split
    · exact (h.2.times ha na).2
    · exact h.2
theorem mul_one_one : mulC one one = one := by decide
theorem P_early {a n : Nat} : ∀ j, n < 2 ^ (11 - j) → j ≤ 11 → P a n j = one
  | 0, _, _ => rfl
  | j + 1, h, hj => by
    have h' : n < 2 ^ (11 - j) := Nat.lt_of_lt_of_le h (Nat.pow_le_pow_right (by omega) (by omega))
    rw [P, P_early j h' (by omega), mul_one_one]
    have : n / 2 ^ (10 - j) = 0 := Nat.div_eq_of_lt (by rw [show 11 - (j + 1) = 10 - j by omega] at h; exact h)
    rw [this, if_neg (by decide)]
end Go.Proofs.Ytilcpdnonppleab
