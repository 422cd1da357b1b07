/- internal/strconv.shortFloat at the numbers below the least normal one. -/
import Derived.Test.YtbkkkpfoaggejaaGreatDoorShort
import Derived.Lib.ItoaNum
namespace Go.Proofs.YtbkkkpfoaggejaaGreatDoor
set_option linter.unusedVariables false
open Go.RowKit Fl
set_option maxHeartbeats 400000 in
theorem prescale_p (e p lp : Int) (i : Nat) (w : World) (a b c : Value) (hp : p = (i : Int) - 348) (he : -10000 ≤ e ∧ e ≤ 10000) (hl : -10000 ≤ lp ∧ lp ≤ 10000) (hi : i < 696) (hT : TabP w) (hz : 11 < w.heap.size) :
    Calls Tryz.prog 266 #[.pointer (some ⟨w.heap.size, 0, none⟩), .int .i64 e, .int .i64 p, .int .i64 lp] (w.alloc (.cells #[a, b, c] 259)) fun e' w' => e' = .returned (.tuple #[]) ∧ w' = w.alloc (.cells #[.int .u64 (hiT i : Nat), .int .u64 (loT i : Nat), .int .i64 (-(e + lp + 3))] 259) := by
  subst hp
  exact prescale_new e lp i w a b c he hl hi hT hz

set_option maxHeartbeats 1000000 in
set_option maxRecDepth 100000 in
theorem short_low0 (m : Nat) (e : Int) (z t od i : Nat) (k : Nat) (w : World) (hm : m < 18446744073709551616) (hz1 : 12 ≤ z) (hz2 : z ≤ 63) (he : -1137 ≤ e ∧ e < -1085) (hze : 11 + (-1085 - e) = (z : Int)) (hze2 : e + (z : Int) = -1074)
    (ht : IntKind.u64.wrap (2 ^ (z - 1)) = (t : Int)) (ht1 : t ≤ m) (ht2 : m + t < 18446744073709551616) (hne : ((m : Int) == 9223372036854775808) = false)
    (hk : e + 1076 + 3 = -(k : Int)) (hk2 : k < 64) (hq : bits .and .i64 (wrap64 ((m : Int) / 2 ^ z)) 1 = (od : Int)) (hod2 : od ≤ 1) (HI : Hid (i = 672)) (hT : TabP w) :
    Calls Tryz.prog 252 #[.int .u64 m, .int .i64 e] w fun e' w' => e' = .returned (.tuple #[.int .u64 (shD (shMin (m - t) i k od) (shMax (m + t) i k od) (shMid m i k)), .int .i64 (shQ (shMin (m - t) i k od) (shMax (m + t) i k od) 324)]) ∧ Below w.heap.size w w' := by
  have hz : 11 < w.heap.size := World.block_lt_of_cell? w _ (hT i (by have := HI.out; omega)).1
  have HK := Hid.mk' hk
  have HT := Hid.mk' hT
  obtain ⟨A, hA⟩ : ∃ A, shMin (m - t) i k od = A := ⟨_, rfl⟩
  obtain ⟨B, hB⟩ : ∃ B, shMax (m + t) i k od = B := ⟨_, rfl⟩
  obtain ⟨C, hC⟩ : ∃ C, shMid m i k = C := ⟨_, rfl⟩
  have hA0 : 0 ≤ A ∧ A < 18446744073709551616 := by rw [← hA]; unfold shMin; omega
  have hB0 : 0 ≤ B ∧ B < 18446744073709551616 := by rw [← hB]; unfold shMax; omega
  have hC0 : 0 ≤ C ∧ C < 18446744073709551616 := by rw [← hC]; unfold shMid; omega
  rw [hA, hB, hC]
  have HA := Hid.mk' hA
  have HB := Hid.mk' hB
  have HC := Hid.mk' hC
  clear hk hT hA hB hC
  go_enter Tryz.func252, Tryz.ntmps252
  go_wp2_with fail
  refine (log10Pow2_any _ _ ⟨by omega, by omega⟩).mono ?_
  rintro e1 w1 ⟨rfl, hw1⟩
  rw [hw1]; clear hw1 w1
  go_wp2_with fail
  refine (log2Pow10_any _ _ ⟨by omega, by omega⟩).mono ?_
  rintro e1 w1 ⟨rfl, hw1⟩
  rw [hw1]; clear hw1 w1
  go_wp2_with fail
  refine (prescale_p e 324 1076 i w _ _ _ (by have := HI.out; omega) ⟨by omega, by omega⟩ ⟨by omega, by omega⟩ (by have := HI.out; omega) HT.out hz).mono ?_
  rintro e1 w1 ⟨rfl, hw1⟩
  rw [hw1, HK.out, show -(-(k : Int)) = (k : Int) by omega]; clear hw1 w1
  go_wp2_with fail
  refine (uscale_new (m - t) i k 0 _ w (by omega) (by omega) hk2).mono ?_
  rintro e1 w1 ⟨rfl, n1, hw1⟩
  rw [hw1]; clear hw1 w1
  obtain ⟨u1, hu1⟩ : ∃ u1, usT (m - t) i k = u1 := ⟨_, rfl⟩
  have hu1r : 0 ≤ u1 ∧ u1 < 18446744073709551616 := hu1 ▸ usT_range _ _ _
  have HU1 : Hid (((u1 + od) % 18446744073709551616 + 3) % 18446744073709551616 / 4 = A) := by have := HA.out; unfold shMin at this; rw [hu1] at this; exact this
  rw [hu1]
  clear hu1
  go_wp2_with fail
  refine (nudge_any _ _ _ hu1r ⟨by omega, by omega⟩).mono ?_
  rintro e1 w1 ⟨rfl, hw1⟩
  rw [hw1]; clear hw1 w1
  go_wp2_with fail
  refine (ceil_any _ _ ⟨by omega, by omega⟩).mono ?_
  rintro e1 w1 ⟨rfl, hw1⟩
  rw [hw1, HU1.out]; clear hw1 w1
  go_wp2_with fail
  refine (uscale_new (m + t) i k n1 _ w (by omega) (by omega) hk2).mono ?_
  rintro e1 w1 ⟨rfl, n2, hw1⟩
  rw [hw1]; clear hw1 w1
  obtain ⟨u2, hu2⟩ : ∃ u2, usT (m + t) i k = u2 := ⟨_, rfl⟩
  have hu2r : 0 ≤ u2 ∧ u2 < 18446744073709551616 := hu2 ▸ usT_range _ _ _
  have HU2 : Hid ((u2 + -(od : Int)) % 18446744073709551616 / 4 = B) := by have := HB.out; unfold shMax at this; rw [hu2] at this; exact this
  rw [hu2]
  clear hu2
  go_wp2_with fail
  refine (nudge_any _ _ _ hu2r ⟨by omega, by omega⟩).mono ?_
  rintro e1 w1 ⟨rfl, hw1⟩
  rw [hw1]; clear hw1 w1
  go_wp2_with fail
  refine (floor_any _ _ ⟨by omega, by omega⟩).mono ?_
  rintro e1 w1 ⟨rfl, hw1⟩
  rw [hw1, HU2.out]; clear hw1 w1
  by_cases q1 : A ≤ B / 10 * 10
  · have HE1 : Hid (shD A B C = B / 10) := by show _ = _; unfold shD; rw [if_pos q1]
    have HE2 : Hid (shQ A B 324 = -(324 - 1)) := by show _ = _; unfold shQ; rw [if_pos q1]
    go_wp2
    go_ret2
    refine ⟨by rw [HE1.out, HE2.out]; rfl, below_draws below_new _⟩
  · by_cases q2 : A < B
    · have HE1 : Hid (shD A B C = C) := by show _ = _; unfold shD; rw [if_neg q1, if_pos q2]
      have HE2 : Hid (shQ A B 324 = -324) := by show _ = _; unfold shQ; rw [if_neg q1]
      go_wp2_with fail
      refine (uscale_new m i k n2 _ w (by omega) (by omega) hk2).mono ?_
      rintro e1 w1 ⟨rfl, n3, hw1⟩
      rw [hw1]; clear hw1 w1
      obtain ⟨u3, hu3⟩ : ∃ u3, usT m i k = u3 := ⟨_, rfl⟩
      have hu3r : 0 ≤ u3 ∧ u3 < 18446744073709551616 := hu3 ▸ usT_range _ _ _
      have HU3 : Hid ((u3 + 1 + u3 / 4 % 2) % 18446744073709551616 / 4 = C) := by have := HC.out; unfold shMid at this; rw [hu3] at this; exact this
      rw [hu3]
      clear hu3
      go_wp2_with fail
      refine (round_any _ _ hu3r).mono ?_
      rintro e1 w1 ⟨rfl, hw1⟩
      rw [hw1, HU3.out]; clear hw1 w1
      go_wp2
      go_ret2
      refine ⟨by rw [HE1.out, HE2.out]; rfl, below_draws below_new _⟩
    · have HE1 : Hid (shD A B C = A) := by show _ = _; unfold shD; rw [if_neg q1, if_neg q2]
      have HE2 : Hid (shQ A B 324 = -324) := by show _ = _; unfold shQ; rw [if_neg q1]
      go_wp2
      go_ret2
      refine ⟨by rw [HE1.out, HE2.out]; rfl, below_draws below_new _⟩

set_option maxHeartbeats 1000000 in
set_option maxRecDepth 100000 in
theorem short_low1 (m : Nat) (e : Int) (z t od i : Nat) (k : Nat) (w : World) (hm : m < 18446744073709551616) (hz1 : 12 ≤ z) (hz2 : z ≤ 63) (he : -1137 ≤ e ∧ e < -1085) (hze : 11 + (-1085 - e) = (z : Int)) (hze2 : e + (z : Int) = -1074)
    (ht : IntKind.u64.wrap (2 ^ (z - 1)) = (t : Int)) (ht1 : t ≤ m) (ht2 : m + t < 18446744073709551616) (hne : ((m : Int) == 9223372036854775808) = true)
    (hk : e + 1076 + 3 = -(k : Int)) (hk2 : k < 64) (hq : bits .and .i64 (wrap64 ((m : Int) / 2 ^ z)) 1 = (od : Int)) (hod2 : od ≤ 1) (HI : Hid (i = 672)) (hT : TabP w) :
    Calls Tryz.prog 252 #[.int .u64 m, .int .i64 e] w fun e' w' => e' = .returned (.tuple #[.int .u64 (shD (shMin (m - t) i k od) (shMax (m + t) i k od) (shMid m i k)), .int .i64 (shQ (shMin (m - t) i k od) (shMax (m + t) i k od) 324)]) ∧ Below w.heap.size w w' := by
  have hz : 11 < w.heap.size := World.block_lt_of_cell? w _ (hT i (by have := HI.out; omega)).1
  have HK := Hid.mk' hk
  have HT := Hid.mk' hT
  obtain ⟨A, hA⟩ : ∃ A, shMin (m - t) i k od = A := ⟨_, rfl⟩
  obtain ⟨B, hB⟩ : ∃ B, shMax (m + t) i k od = B := ⟨_, rfl⟩
  obtain ⟨C, hC⟩ : ∃ C, shMid m i k = C := ⟨_, rfl⟩
  have hA0 : 0 ≤ A ∧ A < 18446744073709551616 := by rw [← hA]; unfold shMin; omega
  have hB0 : 0 ≤ B ∧ B < 18446744073709551616 := by rw [← hB]; unfold shMax; omega
  have hC0 : 0 ≤ C ∧ C < 18446744073709551616 := by rw [← hC]; unfold shMid; omega
  rw [hA, hB, hC]
  have HA := Hid.mk' hA
  have HB := Hid.mk' hB
  have HC := Hid.mk' hC
  clear hk hT hA hB hC
  go_enter Tryz.func252, Tryz.ntmps252
  go_wp2_with fail
  refine (log10Pow2_any _ _ ⟨by omega, by omega⟩).mono ?_
  rintro e1 w1 ⟨rfl, hw1⟩
  rw [hw1]; clear hw1 w1
  go_wp2_with fail
  refine (log2Pow10_any _ _ ⟨by omega, by omega⟩).mono ?_
  rintro e1 w1 ⟨rfl, hw1⟩
  rw [hw1]; clear hw1 w1
  go_wp2_with fail
  refine (prescale_p e 324 1076 i w _ _ _ (by have := HI.out; omega) ⟨by omega, by omega⟩ ⟨by omega, by omega⟩ (by have := HI.out; omega) HT.out hz).mono ?_
  rintro e1 w1 ⟨rfl, hw1⟩
  rw [hw1, HK.out, show -(-(k : Int)) = (k : Int) by omega]; clear hw1 w1
  go_wp2_with fail
  refine (uscale_new (m - t) i k 0 _ w (by omega) (by omega) hk2).mono ?_
  rintro e1 w1 ⟨rfl, n1, hw1⟩
  rw [hw1]; clear hw1 w1
  obtain ⟨u1, hu1⟩ : ∃ u1, usT (m - t) i k = u1 := ⟨_, rfl⟩
  have hu1r : 0 ≤ u1 ∧ u1 < 18446744073709551616 := hu1 ▸ usT_range _ _ _
  have HU1 : Hid (((u1 + od) % 18446744073709551616 + 3) % 18446744073709551616 / 4 = A) := by have := HA.out; unfold shMin at this; rw [hu1] at this; exact this
  rw [hu1]
  clear hu1
  go_wp2_with fail
  refine (nudge_any _ _ _ hu1r ⟨by omega, by omega⟩).mono ?_
  rintro e1 w1 ⟨rfl, hw1⟩
  rw [hw1]; clear hw1 w1
  go_wp2_with fail
  refine (ceil_any _ _ ⟨by omega, by omega⟩).mono ?_
  rintro e1 w1 ⟨rfl, hw1⟩
  rw [hw1, HU1.out]; clear hw1 w1
  go_wp2_with fail
  refine (uscale_new (m + t) i k n1 _ w (by omega) (by omega) hk2).mono ?_
  rintro e1 w1 ⟨rfl, n2, hw1⟩
  rw [hw1]; clear hw1 w1
  obtain ⟨u2, hu2⟩ : ∃ u2, usT (m + t) i k = u2 := ⟨_, rfl⟩
  have hu2r : 0 ≤ u2 ∧ u2 < 18446744073709551616 := hu2 ▸ usT_range _ _ _
  have HU2 : Hid ((u2 + -(od : Int)) % 18446744073709551616 / 4 = B) := by have := HB.out; unfold shMax at this; rw [hu2] at this; exact this
  rw [hu2]
  clear hu2
  go_wp2_with fail
  refine (nudge_any _ _ _ hu2r ⟨by omega, by omega⟩).mono ?_
  rintro e1 w1 ⟨rfl, hw1⟩
  rw [hw1]; clear hw1 w1
  go_wp2_with fail
  refine (floor_any _ _ ⟨by omega, by omega⟩).mono ?_
  rintro e1 w1 ⟨rfl, hw1⟩
  rw [hw1, HU2.out]; clear hw1 w1
  by_cases q1 : A ≤ B / 10 * 10
  · have HE1 : Hid (shD A B C = B / 10) := by show _ = _; unfold shD; rw [if_pos q1]
    have HE2 : Hid (shQ A B 324 = -(324 - 1)) := by show _ = _; unfold shQ; rw [if_pos q1]
    go_wp2
    go_ret2
    refine ⟨by rw [HE1.out, HE2.out]; rfl, below_draws below_new _⟩
  · by_cases q2 : A < B
    · have HE1 : Hid (shD A B C = C) := by show _ = _; unfold shD; rw [if_neg q1, if_pos q2]
      have HE2 : Hid (shQ A B 324 = -324) := by show _ = _; unfold shQ; rw [if_neg q1]
      go_wp2_with fail
      refine (uscale_new m i k n2 _ w (by omega) (by omega) hk2).mono ?_
      rintro e1 w1 ⟨rfl, n3, hw1⟩
      rw [hw1]; clear hw1 w1
      obtain ⟨u3, hu3⟩ : ∃ u3, usT m i k = u3 := ⟨_, rfl⟩
      have hu3r : 0 ≤ u3 ∧ u3 < 18446744073709551616 := hu3 ▸ usT_range _ _ _
      have HU3 : Hid ((u3 + 1 + u3 / 4 % 2) % 18446744073709551616 / 4 = C) := by have := HC.out; unfold shMid at this; rw [hu3] at this; exact this
      rw [hu3]
      clear hu3
      go_wp2_with fail
      refine (round_any _ _ hu3r).mono ?_
      rintro e1 w1 ⟨rfl, hw1⟩
      rw [hw1, HU3.out]; clear hw1 w1
      go_wp2
      go_ret2
      refine ⟨by rw [HE1.out, HE2.out]; rfl, below_draws below_new _⟩
    · have HE1 : Hid (shD A B C = A) := by show _ = _; unfold shD; rw [if_neg q1, if_neg q2]
      have HE2 : Hid (shQ A B 324 = -324) := by show _ = _; unfold shQ; rw [if_neg q1]
      go_wp2
      go_ret2
      refine ⟨by rw [HE1.out, HE2.out]; rfl, below_draws below_new _⟩
section
open Go.RowKit Fl

def ffM (b : Nat) : Nat := if b < 4503599627370496 then b * 2 ^ (64 - Lib.bitLen b) else (b % 4503599627370496 + 4503599627370496) * 2048
def ffE (b : Nat) : Int := if b < 4503599627370496 then -1074 - ((64 - Lib.bitLen b : Nat) : Int) else ((b / 4503599627370496 : Nat) : Int) - 1086
def ffPair (mn mx m i k od : Nat) : Int × Int := (shD (shMin mn i k od) (shMax mx i k od) (shMid m i k), shQ (shMin mn i k od) (shMax mx i k od) ((i : Int) - 348))
def ffK (e : Int) (i : Nat) : Nat := (-(e + ((i : Int) - 348) * 108853 / 32768 + 3)).toNat
def ffSkewI (e : Int) : Nat := (348 - ((e + 11) * 631305 - 261663) / 2097152).toNat
def ffMidI (e : Int) : Nat := (348 - (e + 11) * 78913 / 262144).toNat
/-- The fewest digits and their power of ten. -/
def ffS (b : Nat) : Int × Int :=
  if b < 4503599627370496 then ffPair (ffM b - 2 ^ (64 - Lib.bitLen b - 1)) (ffM b + 2 ^ (64 - Lib.bitLen b - 1)) (ffM b) 672 (64 - Lib.bitLen b - 5) (b % 2)
  else if b % 4503599627370496 = 0 ∧ 9007199254740992 ≤ b then ffPair (ffM b - 512) (ffM b + 1024) (ffM b) (ffSkewI (ffE b)) (ffK (ffE b) (ffSkewI (ffE b))) (ffM b / 2048 % 2)
  else ffPair (ffM b - 1024) (ffM b + 1024) (ffM b) (ffMidI (ffE b)) (ffK (ffE b) (ffMidI (ffE b))) (ffM b / 2048 % 2)

theorem len_bounds (b : Nat) (h0 : 0 < b) (h1 : b < 4503599627370496) : 1 ≤ Lib.bitLen b ∧ Lib.bitLen b ≤ 52 ∧ 2 ^ (Lib.bitLen b - 1) ≤ b ∧ b < 2 ^ Lib.bitLen b := by
  obtain ⟨a1, a2, a3⟩ := Lib.bitLenAux_bounds 64 b (by omega) (by omega)
  exact ⟨a1, Lib.bitLen_le b 52 (by omega) h1, a2, a3⟩

theorem shQ_range (a b p : Int) (h : -400 ≤ p ∧ p ≤ 400) : -401 ≤ shQ a b p ∧ shQ a b p ≤ 401 := by unfold shQ; split <;> omega
theorem shD_range (a b c : Int) (ha : 0 ≤ a ∧ a < 18446744073709551616) (hb : 0 ≤ b ∧ b < 18446744073709551616) (hc : 0 ≤ c ∧ c < 18446744073709551616) : 0 ≤ shD a b c ∧ shD a b c < 18446744073709551616 := by
  unfold shD; split
  · omega
  · split <;> omega
theorem ffPair_range (mn mx m i k od : Nat) (hi : i < 696) : (0 ≤ (ffPair mn mx m i k od).1 ∧ (ffPair mn mx m i k od).1 < 18446744073709551616) ∧ -401 ≤ (ffPair mn mx m i k od).2 ∧ (ffPair mn mx m i k od).2 ≤ 401 := by
  refine ⟨shD_range _ _ _ ?_ ?_ ?_, shQ_range _ _ _ ⟨by omega, by omega⟩⟩
  · unfold shMin; omega
  · unfold shMax; omega
  · unfold shMid; omega

theorem ffM_low (b s : Nat) (h0 : 0 < b) (hd : b < 4503599627370496) (hs : 64 - Lib.bitLen b = s) : ffM b = b * 2 ^ s ∧ 12 ≤ s ∧ s ≤ 63 ∧ ffM b + 2 ^ s ≤ 18446744073709551616 ∧ 2 ^ s ≤ ffM b ∧ ffM b / 2 ^ s = b ∧ 2 ^ s = 2 * 2 ^ (s - 1) := by
  obtain ⟨a1, a2, a3, a4⟩ := len_bounds b h0 hd
  have hM : ffM b = b * 2 ^ s := by unfold ffM; rw [if_pos hd, hs]
  have p64 : 2 ^ Lib.bitLen b * 2 ^ s = 18446744073709551616 := by rw [← Nat.pow_add, show Lib.bitLen b + s = 64 by omega]
  refine ⟨hM, by omega, by omega, ?_, ?_, ?_, ?_⟩
  · rw [hM, ← p64, ← Nat.succ_mul]
    exact Nat.mul_le_mul_right _ a4
  · rw [hM]; exact Nat.le_mul_of_pos_left _ h0
  · rw [hM]; exact Nat.mul_div_cancel _ (Nat.two_pow_pos _)
  · rw [← Nat.pow_succ']; congr 1; omega
theorem low_wrap (s t : Nat) (h : 2 ^ (s - 1) = t) (ht : t < 18446744073709551616) : IntKind.u64.wrap (2 ^ (s - 1)) = (t : Int) := by
  rw [IntKind.wrap_u64]
  have : ((2 ^ (s - 1) : Nat) : Int) = (2 : Int) ^ (s - 1) := by push_cast; rfl
  rw [← this, h]
  omega
theorem low_odd (m s b : Nat) (h : m / 2 ^ s = b) (hb : b < 4503599627370496) : bits .and .i64 (wrap64 ((m : Int) / 2 ^ s)) 1 = ((b % 2 : Nat) : Int) := by
  have e1 : ((m : Int) / 2 ^ s) = ((b : Nat) : Int) := by
    have : ((m / 2 ^ s : Nat) : Int) = (m : Int) / 2 ^ s := by push_cast; rfl
    rw [← this, h]
  rw [e1]
  refine and_one_i64 _ b ?_ (by omega)
  unfold wrap64
  omega
theorem short_den (b i : Nat) (w : World) (h0 : 0 < b) (hd : b < 4503599627370496) (HI : Hid (i = 672)) (hT : TabP w) (s t : Nat) (hs : 64 - Lib.bitLen b = s) (ht : 2 ^ (s - 1) = t) :
    Calls Tryz.prog 252 #[.int .u64 (ffM b), .int .i64 (ffE b)] w fun e' w' => e' = .returned (.tuple #[.int .u64 (shD (shMin (ffM b - t) i (s - 5) (b % 2)) (shMax (ffM b + t) i (s - 5) (b % 2)) (shMid (ffM b) i (s - 5))), .int .i64 (shQ (shMin (ffM b - t) i (s - 5) (b % 2)) (shMax (ffM b + t) i (s - 5) (b % 2)) 324)]) ∧ Below w.heap.size w w' := by
  obtain ⟨hM, s1, s2, q1, q3, hdiv, p63⟩ := ffM_low b s h0 hd hs
  have hE : ffE b = -1074 - (s : Int) := by unfold ffE; rw [if_pos hd, hs]
  have q2 : 0 < 2 ^ (s - 1) := Nat.two_pow_pos _
  have hq := low_odd (ffM b) s b hdiv hd
  rw [ht] at p63 q2
  rw [p63] at q1 q3
  have hwr := low_wrap s t ht (by omega)
  clear hM hdiv p63 ht hs
  generalize ffE b = e at *
  generalize ffM b = m at *
  have e1 : -1137 ≤ e ∧ e < -1085 := by omega
  have e2 : 11 + (-1085 - e) = (s : Int) := by omega
  have e3 : e + (s : Int) = -1074 := by omega
  have e4 : e + 1076 + 3 = -((s - 5 : Nat) : Int) := by omega
  by_cases hne : ((m : Int) == 9223372036854775808) = true
  · exact short_low1 m e s t (b % 2) i (s - 5) w (by omega) s1 s2 e1 e2 e3 hwr (by omega) (by omega) hne e4 (by omega) hq (by omega) HI hT
  · exact short_low0 m e s t (b % 2) i (s - 5) w (by omega) s1 s2 e1 e2 e3 hwr (by omega) (by omega) (by simpa using hne) e4 (by omega) hq (by omega) HI hT
theorem short_b (b : Nat) (w : World) (h0 : 0 < b) (h1 : b < 9218868437227405312) (hT : TabP w) :
    Calls Tryz.prog 252 #[.int .u64 (ffM b), .int .i64 (ffE b)] w fun e' w' => e' = .returned (.tuple #[.int .u64 (ffS b).1, .int .i64 (ffS b).2]) ∧ Below w.heap.size w w' := by
  by_cases hd : b < 4503599627370496
  · obtain ⟨i, hi⟩ : ∃ i : Nat, i = 672 := ⟨_, rfl⟩
    have hS : ffS b = ffPair (ffM b - 2 ^ (64 - Lib.bitLen b - 1)) (ffM b + 2 ^ (64 - Lib.bitLen b - 1)) (ffM b) i (64 - Lib.bitLen b - 5) (b % 2) := by unfold ffS; rw [if_pos hd, hi]
    have hp : (i : Int) - 348 = 324 := by omega
    rw [hS]
    unfold ffPair
    rw [hp]
    exact short_den b i w h0 hd hi hT _ _ rfl rfl
  · have hM : ffM b = (b % 4503599627370496 + 4503599627370496) * 2048 := by unfold ffM; rw [if_neg hd]
    have hE : ffE b = ((b / 4503599627370496 : Nat) : Int) - 1086 := by unfold ffE; rw [if_neg hd]
    have hE2 : -1085 ≤ ffE b ∧ ffE b ≤ 960 := by omega
    by_cases hk : b % 4503599627370496 = 0 ∧ 9007199254740992 ≤ b
    · have hS : ffS b = ffPair (ffM b - 512) (ffM b + 1024) (ffM b) (ffSkewI (ffE b)) (ffK (ffE b) (ffSkewI (ffE b))) (ffM b / 2048 % 2) := by unfold ffS; rw [if_neg hd, if_pos hk]
      have hi : ((ffE b + 11) * 631305 - 261663) / 2097152 = 348 - (ffSkewI (ffE b) : Int) := by unfold ffSkewI; omega
      have hkk : ffE b + ((ffSkewI (ffE b) : Int) - 348) * 108853 / 32768 + 3 = -(ffK (ffE b) (ffSkewI (ffE b)) : Int) := by unfold ffK; omega
      rw [hS]
      exact short_skew (ffM b) (ffE b) (ffSkewI (ffE b)) (ffK (ffE b) (ffSkewI (ffE b))) w (by omega) (by omega) (by omega) ⟨by omega, by omega⟩ (by rw [beq_iff_eq]; omega) (by omega) hi hkk (by omega) hT
    · have hS : ffS b = ffPair (ffM b - 1024) (ffM b + 1024) (ffM b) (ffMidI (ffE b)) (ffK (ffE b) (ffMidI (ffE b))) (ffM b / 2048 % 2) := by unfold ffS; rw [if_neg hd, if_neg hk]
      have hi : (ffE b + 11) * 78913 / 262144 = 348 - (ffMidI (ffE b) : Int) := by unfold ffMidI; omega
      have hkk : ffE b + ((ffMidI (ffE b) : Int) - 348) * 108853 / 32768 + 3 = -(ffK (ffE b) (ffMidI (ffE b)) : Int) := by unfold ffK; omega
      rw [hS]
      by_cases hz : b % 4503599627370496 = 0
      · exact short_edge (ffM b) (ffE b) (ffMidI (ffE b)) (ffK (ffE b) (ffMidI (ffE b))) w (by omega) (by omega) (by omega) hE2 (by omega) (by rw [beq_iff_eq]; omega) (by omega) hi hkk (by omega) hT
      · exact short_mid (ffM b) (ffE b) (ffMidI (ffE b)) (ffK (ffE b) (ffMidI (ffE b))) w (by omega) (by omega) (by omega) hE2 (by rw [beq_eq_false_iff_ne]; omega) (by omega) hi hkk (by omega) hT
theorem ffS_range (b : Nat) (h0 : 0 < b) (h1 : b < 9218868437227405312) : (0 ≤ (ffS b).1 ∧ (ffS b).1 < 18446744073709551616) ∧ -401 ≤ (ffS b).2 ∧ (ffS b).2 ≤ 401 := by
  unfold ffS
  split
  · exact ffPair_range _ _ _ _ _ _ (by omega)
  · have hE : ffE b = ((b / 4503599627370496 : Nat) : Int) - 1086 := by unfold ffE; rw [if_neg (by assumption)]
    split
    · exact ffPair_range _ _ _ _ _ _ (by unfold ffSkewI; omega)
    · exact ffPair_range _ _ _ _ _ _ (by unfold ffMidI; omega)
theorem ffS_01 : ffS 4591870180066957722 = (1000000000000000, -16) := by kernel_rfl
theorem ffS_e21 : ffS 4921056587992461136 = (1000000000000000, 6) := by kernel_rfl
end
end Go.Proofs.YtbkkkpfoaggejaaGreatDoor
