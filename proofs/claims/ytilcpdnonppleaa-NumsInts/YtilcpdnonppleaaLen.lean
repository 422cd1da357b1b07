/- Contracts of nums.Whole, nums.Length and of the document's. -/
import Derived.Test.YtilcpdnonppleaaNAwake
namespace Go.Proofs.Ytilcpdnonppleaa
set_option linter.unusedVariables false
open Go.RowKit Fl

/-- What a whole number of x is. -/
def WholeIs (x r : Nat) : Prop := (nan x ∧ r = 0) ∨ (x % 9223372036854775808 = 9218868437227405312 ∧ r = x) ∨ (x % 9223372036854775808 < 9218868437227405312 ∧ ∃ k, k < 9218868437227405312 ∧ val k = tr (x % 9223372036854775808) * 2 ^ 1074 ∧ r = if k = 0 then 0 else sgn x k)
theorem WholeIs.inj {x r s : Nat} (h : WholeIs x r) (q : WholeIs x s) : r = s := by
  unfold WholeIs nan at h q
  rcases h with ⟨h1, h2⟩ | ⟨h1, h2⟩ | ⟨h1, k, k1, k2, k3⟩
  · rcases q with ⟨q1, q2⟩ | ⟨q1, q2⟩ | ⟨q1, _⟩
    · omega
    · omega
    · omega
  · rcases q with ⟨q1, q2⟩ | ⟨q1, q2⟩ | ⟨q1, _⟩
    · omega
    · omega
    · omega
  · rcases q with ⟨q1, q2⟩ | ⟨q1, q2⟩ | ⟨q1, j, j1, j2, j3⟩
    · omega
    · omega
    · rw [k3, j3, val_inj (k2.trans j2.symm)]
theorem WholeIs.ok {x r : Nat} (hx : x < 18446744073709551616) (h : WholeIs x r) : r < 18446744073709551616 ∧ ¬ nan r ∧ r ≠ 9223372036854775808 := by
  unfold WholeIs nan at h
  unfold nan
  rcases h with ⟨h1, h2⟩ | ⟨h1, h2⟩ | ⟨h1, k, k1, k2, k3⟩
  · omega
  · omega
  · rw [k3]
    split
    · omega
    · unfold sgn; split <;> omega

set_option maxHeartbeats 1000000 in
theorem whole_any (x : Nat) (w : World) (hx : x < 18446744073709551616) :
    Calls Try.prog 17 #[.float .f64 x] w fun e w' => ∃ r n, e = .returned (.float .f64 r) ∧ WholeIs x r ∧ w' = w.drewN n := by
  by_cases hf : x % 9223372036854775808 < 9218868437227405312
  · obtain ⟨k, hk, hv⟩ := tr_rep (x % 9223372036854775808) hf
    have HT := Hid.mk' (fun W => trunc_fin x k W hx hf hk hv)
    have hlt := sgn_lt x k (by omega)
    have hmd := sgn_mod x k (by omega)
    have HN := Hid.mk' (fun W => isNaN_any (sgn x k) W hlt)
    rw [decide_eq_false (by unfold nan; rw [hmd]; omega)] at HN
    have h0 := eq0 (sgn x k) hlt
    rw [hmd] at h0
    by_cases hz : k = 0
    · rw [decide_eq_true hz] at h0
      have HR : Hid (WholeIs x 0) := .inr (.inr ⟨hf, k, hk, hv, by rw [if_pos hz]⟩)
      clear hv hmd hz
      go_enter Try.func17, Try.ntmps17
      go_wp2_with (first | (go_at_call 42; refine (HT.out _).mono ?_; rintro e w1 ⟨rfl, hw1⟩; rw [hw1]; clear hw1 w1) | (go_at_call 39; refine (HN.out _).mono ?_; rintro e w1 ⟨rfl, hw1⟩; rw [hw1]; clear hw1 w1))
      go_ret
      exact ⟨0, 0, rfl, HR.out, rfl⟩
    · rw [decide_eq_false hz] at h0
      have HR : Hid (WholeIs x (sgn x k)) := .inr (.inr ⟨hf, k, hk, hv, by rw [if_neg hz]⟩)
      clear hv hmd
      go_enter Try.func17, Try.ntmps17
      go_wp2_with (first | (go_at_call 42; refine (HT.out _).mono ?_; rintro e w1 ⟨rfl, hw1⟩; rw [hw1]; clear hw1 w1) | (go_at_call 39; refine (HN.out _).mono ?_; rintro e w1 ⟨rfl, hw1⟩; rw [hw1]; clear hw1 w1))
      go_ret
      exact ⟨sgn x k, 0, rfl, HR.out, rfl⟩
  · by_cases hi : x % 9223372036854775808 = 9218868437227405312
    · have HT := Hid.mk' (fun W => trunc_inf x W hx hi)
      have HN := Hid.mk' (fun W => isNaN_any x W hx)
      rw [decide_eq_false (by unfold nan; omega)] at HN
      have h0 := eq0 x hx
      rw [decide_eq_false (by omega)] at h0
      have HR : Hid (WholeIs x x) := .inr (.inl ⟨hi, rfl⟩)
      clear hi hf
      go_enter Try.func17, Try.ntmps17
      go_wp2_with (first | (go_at_call 42; refine (HT.out _).mono ?_; rintro e w1 ⟨rfl, hw1⟩; rw [hw1]; clear hw1 w1) | (go_at_call 39; refine (HN.out _).mono ?_; rintro e w1 ⟨rfl, hw1⟩; rw [hw1]; clear hw1 w1))
      go_ret
      exact ⟨x, 0, rfl, HR.out, rfl⟩
    · have hn : nan x := by unfold nan; omega
      have HT := Hid.mk' (fun W => trunc_nan x W hx hn)
      have HR : Hid (WholeIs x 0) := .inl ⟨hn, rfl⟩
      go_enter Try.func17, Try.ntmps17
      go_wp2_with fail
      refine (HT.out _).mono ?_
      rintro e w1 ⟨r, n, rfl, hr, hrn, hw1⟩
      rw [hw1]
      clear hw1 w1
      have HN := Hid.mk' (fun W => isNaN_any r W hr)
      rw [decide_eq_true hrn] at HN
      go_wp2_with (first | (go_at_call 39; refine (HN.out _).mono ?_; rintro e w1 ⟨rfl, hw1⟩; rw [hw1]; clear hw1 w1))
      go_ret
      exact ⟨0, n, rfl, HR.out, rfl⟩

set_option maxHeartbeats 1000000 in
theorem rwhole_any (x : Nat) (w : World) (hx : x < 18446744073709551616) :
    Calls Try.prog 18 #[.float .f64 x] w fun e w' => ∃ r, e = .returned (.float .f64 r) ∧ WholeIs x r ∧ w' = w := by
  have HB := Hid.mk' (fun W => bad_any x W hx)
  have HW := Hid.mk' (fun W => wide_any x W hx)
  by_cases hf : x % 9223372036854775808 < 9218868437227405312
  · rw [decide_eq_false (by unfold nan; omega)] at HB
    rw [decide_eq_false (by omega)] at HW
    obtain ⟨k, hk, hv⟩ := tr_rep (x % 9223372036854775808) hf
    have HT := Hid.mk' (fun W => trunc_fin x k W hx hf hk hv)
    have HR : Hid (WholeIs x (if k = 0 then 0 else sgn x k)) := .inr (.inr ⟨hf, k, hk, hv, rfl⟩)
    have HA := Hid.mk' (fun W => run_add 22 (sgn x k) 0 (if k = 0 then 0 else sgn x k) W (by
      by_cases hz : k = 0
      · rw [if_pos hz, hz, sgn_word]
        cases decide (9223372036854775808 ≤ x) <;> decide
      · rw [if_neg hz, sgn_word]
        exact sum_exact _ false _ k 0 k hk (by omega) hk (by rw [show sv false 0 = 0 from by unfold sv; rw [(val_zero 0).2 rfl]; rfl]; omega) (fun h => absurd h hz)))
    clear hv
    obtain ⟨rr, hrr⟩ : ∃ rr, (if k = 0 then 0 else sgn x k) = rr := ⟨_, rfl⟩
    rw [hrr] at HR HA
    clear hrr
    go_enter Try.func18, Try.ntmps18
    go_wp2_with (first | (go_at_call 43; refine (HB.out _).mono ?_; rintro e w1 ⟨rfl, hw1⟩; rw [hw1]; clear hw1 w1) | (go_at_call 44; refine (HW.out _).mono ?_; rintro e w1 ⟨rfl, hw1⟩; rw [hw1]; clear hw1 w1) | (go_at_call 42; refine (HT.out _).mono ?_; rintro e w1 ⟨rfl, hw1⟩; rw [hw1]; clear hw1 w1) | rw [HA.out])
    go_ret
    exact ⟨_, rfl, HR.out, rfl⟩
  · by_cases hi : x % 9223372036854775808 = 9218868437227405312
    · rw [decide_eq_false (by unfold nan; omega)] at HB
      rw [decide_eq_true hi] at HW
      have HR : Hid (WholeIs x x) := .inr (.inl ⟨hi, rfl⟩)
      clear hi hf
      go_enter Try.func18, Try.ntmps18
      go_wp2_with (first | (go_at_call 43; refine (HB.out _).mono ?_; rintro e w1 ⟨rfl, hw1⟩; rw [hw1]; clear hw1 w1) | (go_at_call 44; refine (HW.out _).mono ?_; rintro e w1 ⟨rfl, hw1⟩; rw [hw1]; clear hw1 w1))
      go_ret
      exact ⟨x, rfl, HR.out, rfl⟩
    · have hn : nan x := by unfold nan; omega
      rw [decide_eq_true hn] at HB
      have HR : Hid (WholeIs x 0) := .inl ⟨hn, rfl⟩
      go_enter Try.func18, Try.ntmps18
      go_wp2_with (first | (go_at_call 43; refine (HB.out _).mono ?_; rintro e w1 ⟨rfl, hw1⟩; rw [hw1]; clear hw1 w1))
      go_ret
      exact ⟨0, rfl, HR.out, rfl⟩

/-- A length. -/
def lenB (r : Nat) : Nat := if 9223372036854775808 ≤ r then 0 else if r ≤ 4845873199050653695 then r else 4845873199050653695
theorem neg_pos_read (r : Nat) (h : r < 9218868437227405312) : (FloatKind.f64.decode r).neg = false := by
  show (Ieee.double.read r).neg = false
  have := read_word false r h
  rw [word_eq] at this
  rw [show (if false = true then 9223372036854775808 + r else r) = r from rfl] at this
  rw [this]; rfl
theorem run_max0 (ts : Array TypeId) (t : TypeId) (r : Nat) (W : World) (h1 : r < 18446744073709551616) (h2 : ¬ nan r) (h3 : r ≠ 9223372036854775808) :
    (Builtin.max_ ts t #[.float .f64 r, .float .f64 0]).run Try.prog W = .ok (.float .f64 (if 9223372036854775808 ≤ r then 0 else r)) W := by
  have e := cmp0 r h1 h2
  have hdef : (Builtin.max_ ts t #[.float .f64 r, .float .f64 0]) = Builtin.max2 (.float .f64 r) (.float .f64 0) := by
    simp [Builtin.max_]
  rw [hdef]
  unfold Builtin.max2
  dsimp only
  rw [f64, e]
  rcases Int.lt_trichotomy (key r) 0 with h | h | h
  · rw [Int.compare_eq_lt.2 h]
    have : 9223372036854775808 ≤ r := by unfold key at h; split at h <;> omega
    rw [if_pos this]; rfl
  · rw [Int.compare_eq_eq.2 h]
    have : r = 0 := by unfold key at h; split at h <;> omega
    subst this
    rfl
  · rw [Int.compare_eq_gt.2 h]
    have : ¬ 9223372036854775808 ≤ r := by unfold key at h; split at h <;> omega
    rw [if_neg this]; rfl
theorem run_minC (ts : Array TypeId) (t : TypeId) (m : Nat) (W : World) (h1 : m ≤ 9218868437227405312) :
    (Builtin.min_ ts t #[.float .f64 m, .float .f64 4845873199050653695]).run Try.prog W = .ok (.float .f64 (if m ≤ 4845873199050653695 then m else 4845873199050653695)) W := by
  have e := order_key m 4845873199050653695 (by omega) (by omega) (by unfold nan; omega) (by unfold nan; omega)
  have k1 : key m = (m : Int) := by unfold key; rw [if_neg (by omega)]; omega
  have k2 : key 4845873199050653695 = 4845873199050653695 := by unfold key; rw [if_neg (by omega)]; rfl
  have hdef : (Builtin.min_ ts t #[.float .f64 m, .float .f64 4845873199050653695]) = Builtin.min2 (.float .f64 m) (.float .f64 4845873199050653695) := by
    simp [Builtin.min_]
  rw [hdef]
  unfold Builtin.min2
  dsimp only
  rw [f64, e, k1, k2]
  rcases Int.lt_trichotomy (m : Int) 4845873199050653695 with h | h | h
  · rw [Int.compare_eq_lt.2 h, if_pos (show m ≤ 4845873199050653695 by omega)]; rfl
  · rw [Int.compare_eq_eq.2 h]
    have : m = 4845873199050653695 := by omega
    subst this
    rfl
  · rw [Int.compare_eq_gt.2 h, if_neg (show ¬ m ≤ 4845873199050653695 by omega)]; rfl
theorem gt_any (x c : Nat) (hx : x < 18446744073709551616) (n : ¬ nan x) (hc : c ≤ 9218868437227405312) : (FloatKind.f64.format.order x c == some Ordering.gt) = decide (x < 9223372036854775808 ∧ c < x) := by
  rw [f64, order_key x c hx (by omega) n (by unfold nan; omega)]
  have k2 : key c = (c : Int) := by unfold key; rw [if_neg (by omega)]; omega
  rw [k2]
  by_cases e : x < 9223372036854775808 ∧ c < x
  · rw [decide_eq_true e, Int.compare_eq_gt.2 (by unfold key; rw [if_neg (by omega)]; omega)]; rfl
  · have : compare (key x) (c : Int) ≠ .gt := fun q => e (by have := Int.compare_eq_gt.1 q; unfold key at this; split at this <;> omega)
    rw [decide_eq_false e]
    generalize compare (key x) (c : Int) = o at this ⊢
    cases o <;> simp at this ⊢

set_option maxHeartbeats 1000000 in
theorem length_any (x : Nat) (w : World) (hx : x < 18446744073709551616) :
    Calls Try.prog 19 #[.float .f64 x] w fun e w' => ∃ r n, e = .returned (.float .f64 (lenB r)) ∧ WholeIs x r ∧ w' = w.drewN n := by
  have HW := Hid.mk' (fun W => whole_any x W hx)
  go_enter Try.func19, Try.ntmps19
  go_wp2_with fail
  refine (HW.out _).mono ?_
  rintro e w1 ⟨r, n, rfl, hr, hw1⟩
  rw [hw1]
  clear hw1 w1
  obtain ⟨r1, r2, r3⟩ := hr.ok hx
  have HM := Hid.mk' (fun ts t W => run_max0 ts t r W r1 r2 r3)
  have hm : (if 9223372036854775808 ≤ r then 0 else r) ≤ 9218868437227405312 := by unfold nan at r2; split <;> omega
  have HC := Hid.mk' (fun ts t W => run_minC ts t _ W hm)
  have hl : lenB r = if (if 9223372036854775808 ≤ r then 0 else r) ≤ 4845873199050653695 then (if 9223372036854775808 ≤ r then 0 else r) else 4845873199050653695 := by
    unfold lenB
    by_cases h : 9223372036854775808 ≤ r
    · rw [if_pos h, if_pos h, if_pos (by omega)]
    · rw [if_neg h, if_neg h]
  obtain ⟨m, hm'⟩ : ∃ m, (if 9223372036854775808 ≤ r then 0 else r) = m := ⟨_, rfl⟩
  rw [hm'] at HM HC hl
  clear hm hm'
  obtain ⟨z, hz⟩ : ∃ z, (if m ≤ 4845873199050653695 then m else 4845873199050653695) = z := ⟨_, rfl⟩
  rw [hz] at HC hl
  clear hz
  go_wp2_with (first | rw [HM.out] | rw [HC.out])
  go_ret
  exact ⟨r, n, by rw [hl]; rfl, hr, rfl⟩

set_option maxHeartbeats 1000000 in
theorem rlength_any (x : Nat) (w : World) (hx : x < 18446744073709551616) :
    Calls Try.prog 20 #[.float .f64 x] w fun e w' => ∃ r, e = .returned (.float .f64 (lenB r)) ∧ WholeIs x r ∧ w' = w := by
  have HW := Hid.mk' (fun W => rwhole_any x W hx)
  go_enter Try.func20, Try.ntmps20
  go_wp2_with fail
  refine (HW.out _).mono ?_
  rintro e w1 ⟨r, rfl, hr, hw1⟩
  rw [hw1]
  clear hw1 w1
  obtain ⟨r1, r2, r3⟩ := hr.ok hx
  have h0 := lt0 r r1 r2
  have hg := gt_any r 4845873199050653695 r1 r2 (by omega)
  by_cases a1 : 9223372036854775808 < r
  · rw [decide_eq_true a1] at h0
    have hl : lenB r = 0 := by unfold lenB; rw [if_pos (by omega)]
    go_wp2
    go_ret
    exact ⟨r, by rw [hl]; rfl, hr, rfl⟩
  · rw [decide_eq_false a1] at h0
    by_cases a2 : 4845873199050653695 < r
    · rw [decide_eq_true (by omega)] at hg
      have hl : lenB r = 4845873199050653695 := by unfold lenB; rw [if_neg (by omega), if_neg (by omega)]
      go_wp2
      go_ret
      exact ⟨r, by rw [hl]; rfl, hr, rfl⟩
    · rw [decide_eq_false (by omega)] at hg
      have hl : lenB r = r := by unfold lenB; rw [if_neg (by omega), if_pos (by omega)]
      clear a1 a2
      go_wp2
      go_ret
      exact ⟨r, by rw [hl]; rfl, hr, rfl⟩
end Go.Proofs.Ytilcpdnonppleaa
