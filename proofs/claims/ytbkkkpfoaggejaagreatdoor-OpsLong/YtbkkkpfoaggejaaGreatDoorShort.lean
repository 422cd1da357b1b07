/- internal/strconv.prescale, shortFloat: what they give is a function of what they are given. -/
import Derived.Test.YtbkkkpfoaggejaaGreatDoorUscale
import Derived.Test.YtbkkkpfoaggejaaGreatDoorLaidN
import Derived.Test.YtbkkkpfoaggejaaGreatDoorBase
import Derived.Handy
import GoSem.PinnedTables
namespace Go.Proofs.YtbkkkpfoaggejaaGreatDoor
set_option linter.unusedVariables false
open Go.RowKit Fl

def hiT (i : Nat) : Nat := (Go.Pinned.pow10Rows.getD i (0, 0)).1
def loT (i : Nat) : Nat := (Go.Pinned.pow10Rows.getD i (0, 0)).2
/-- The table of powers of ten lies in its place. -/
def TabP (w : World) : Prop := ∀ i : Nat, i < 696 → w.cell? ⟨11, i * 2, none⟩ = some (.int .u64 (hiT i : Nat)) ∧ w.cell? ⟨11, i * 2 + 1, none⟩ = some (.int .u64 (loT i : Nat))
theorem rows_lt : (Go.Pinned.pow10Rows.all fun x => decide (x.1 < 18446744073709551616) && decide (x.2 < 18446744073709551616)) = true := by kernel_rfl
theorem hiT_lt (i : Nat) : hiT i < 18446744073709551616 := by
  unfold hiT
  rw [List.getD_eq_getElem?_getD]
  cases h : Go.Pinned.pow10Rows[i]? with
  | none => decide
  | some x =>
    have := List.all_eq_true.1 rows_lt x (List.mem_of_getElem? h)
    simp at this
    exact this.1
theorem loT_lt (i : Nat) : loT i < 18446744073709551616 := by
  unfold loT
  rw [List.getD_eq_getElem?_getD]
  cases h : Go.Pinned.pow10Rows[i]? with
  | none => decide
  | some x =>
    have := List.all_eq_true.1 rows_lt x (List.mem_of_getElem? h)
    simp at this
    exact this.2
theorem bits_or_range (a b : Int) : 0 ≤ bits .or .u64 a b ∧ bits .or .u64 a b < 18446744073709551616 := by
  show 0 ≤ IntKind.u64.wrap _ ∧ IntKind.u64.wrap _ < _
  rw [IntKind.wrap_u64]
  omega
/-- What uscale gives at an entry of the table. -/
def usT (x i k : Nat) : Int := uscI (x * hiT i / 18446744073709551616) (x * hiT i % 18446744073709551616) (x * loT i / 18446744073709551616) k
theorem usT_range (x i k : Nat) : 0 ≤ usT x i k ∧ usT x i k < 18446744073709551616 := by
  unfold usT uscI
  split
  · exact bits_or_range _ _
  · exact bits_or_range _ _
set_option maxHeartbeats 400000 in
theorem round_any (x : Int) (w : World) (h : 0 ≤ x ∧ x < 18446744073709551616) :
    Calls Tryz.prog 272 #[.int .u64 x] w fun e w' => e = .returned (.int .u64 ((x + 1 + x / 4 % 2) % 18446744073709551616 / 4)) ∧ w' = w := by
  have h1 : bits .and .u64 (x / 4) 1 = x / 4 % 2 := by
    obtain ⟨n, rfl⟩ := Int.eq_ofNat_of_zero_le h.1
    have e := u64_and_nat (n / 4) 1 (by omega) (by omega)
    rw [show n / 4 &&& 1 = n / 4 % 2 from Nat.and_one_is_mod _] at e
    have e2 : ((n : Int) / 4) = ((n / 4 : Nat) : Int) := by omega
    rw [e2]
    exact e.trans (by omega)
  go_enter Tryz.func272, Tryz.ntmps272
  go_wp2
  go_ret
  refine ⟨ret_int ?_, rfl⟩
  go_arith

theorem and_one_i64 (a : Int) (n : Nat) (h : a = (n : Int)) (hn : n < 9223372036854775808) : bits .and .i64 a 1 = ((n % 2 : Nat) : Int) := by
  subst h
  show IntKind.i64.wrap ((BitVec.ofInt 64 (n : Int) &&& BitVec.ofInt 64 ((1 : Nat) : Int)).toNat : Int) = _
  rw [BitVec.toNat_and, ofInt_u64 _ (by omega), ofInt_u64 _ (by omega), IntKind.wrap_i64, Nat.and_one_is_mod]
  omega
/-- From the two ends and the middle to the digits. -/
def shD (a b c : Int) : Int := if a ≤ b / 10 * 10 then b / 10 else if a < b then c else a
def shQ (a b p : Int) : Int := if a ≤ b / 10 * 10 then -(p - 1) else -p
def shMin (x i k odd : Nat) : Int := ((usT x i k + odd) % 18446744073709551616 + 3) % 18446744073709551616 / 4
def shMax (x i k odd : Nat) : Int := (usT x i k + -(odd : Int)) % 18446744073709551616 / 4
def shMid (x i k : Nat) : Int := (usT x i k + 1 + usT x i k / 4 % 2) % 18446744073709551616 / 4


set_option maxHeartbeats 1000000 in
set_option maxRecDepth 100000 in
theorem prescale_new (e lp : Int) (i : Nat) (w : World) (a b c : Value) (he : -10000 ≤ e ∧ e ≤ 10000) (hl : -10000 ≤ lp ∧ lp ≤ 10000) (hi : i < 696) (hT : TabP w) (hz : 11 < w.heap.size) :
    Calls Tryz.prog 266 #[.pointer (some ⟨w.heap.size, 0, none⟩), .int .i64 e, .int .i64 ((i : Int) - 348), .int .i64 lp] (w.alloc (.cells #[a, b, c] 259)) fun e' w' => e' = .returned (.tuple #[]) ∧ w' = w.alloc (.cells #[.int .u64 (hiT i : Nat), .int .u64 (loT i : Nat), .int .i64 (-(e + lp + 3))] 259) := by
  obtain ⟨c0, c1⟩ := hT i hi
  clear hT
  go_enter Tryz.func266, Tryz.ntmps266
  go_wp2
  go_returns
  exact ⟨rfl, rfl⟩

/-- uscale at the scaler that was just made. -/
theorem uscale_new (x i k n : Nat) (z : Int) (w : World) (hx : x < 18446744073709551616) (hz : z = (x : Int)) (hk : k < 64) :
    Calls Tryz.prog 268 #[.int .u64 z, .pointer (some ⟨w.heap.size, 0, none⟩)] ((w.alloc (.cells #[.int .u64 (hiT i : Nat), .int .u64 (loT i : Nat), .int .i64 (k : Nat)] 259)).drewN n) fun e' w' => e' = .returned (.int .u64 (usT x i k)) ∧ ∃ n', w' = (w.alloc (.cells #[.int .u64 (hiT i : Nat), .int .u64 (loT i : Nat), .int .i64 (k : Nat)] 259)).drewN n' := by
  subst hz
  have h0 : ∀ j v, (#[.int .u64 (hiT i : Nat), .int .u64 (loT i : Nat), .int .i64 (k : Nat)] : Array Value)[j]? = some v → (w.alloc (.cells #[.int .u64 (hiT i : Nat), .int .u64 (loT i : Nat), .int .i64 (k : Nat)] 259)).cell? ⟨w.heap.size, j, none⟩ = some v := fun j v h => by
    simpa using h
  refine (uscale_any x (hiT i) (loT i) k w.heap.size 0 ((w.alloc (.cells #[.int .u64 (hiT i : Nat), .int .u64 (loT i : Nat), .int .i64 (k : Nat)] 259)).drewN n) hx (hiT_lt i) (loT_lt i) hk (h0 0 _ rfl) (h0 1 _ rfl) (h0 2 _ rfl)).mono ?_
  rintro e w1 ⟨rfl, n', rfl⟩
  exact ⟨rfl, n + n', by rw [World.drewN_drewN]⟩

set_option maxHeartbeats 1000000 in
set_option maxRecDepth 100000 in
theorem short_skew (m : Nat) (e : Int) (i k : Nat) (w : World) (hm : m < 18446744073709551616) (hm1 : 1024 ≤ m) (hm2 : m + 1024 < 18446744073709551616) (he : -1085 < e ∧ e ≤ 960) (hne : ((m : Int) == 9223372036854775808) = true)
    (hi : i < 696) (hp : ((e + 11) * 631305 - 261663) / 2097152 = 348 - (i : Int)) (hk : e + ((i : Int) - 348) * 108853 / 32768 + 3 = -(k : Int)) (hk2 : k < 64) (hT : TabP w) :
    Calls Tryz.prog 252 #[.int .u64 m, .int .i64 e] w fun e' w' => e' = .returned (.tuple #[.int .u64 (shD (shMin (m - 512) i k (m / 2048 % 2)) (shMax (m + 1024) i k (m / 2048 % 2)) (shMid m i k)), .int .i64 (shQ (shMin (m - 512) i k (m / 2048 % 2)) (shMax (m + 1024) i k (m / 2048 % 2)) ((i : Int) - 348))]) ∧ Below w.heap.size w w' := by
  have hz : 11 < w.heap.size := World.block_lt_of_cell? w _ (hT i hi).1
  obtain ⟨lp, hlp⟩ : ∃ lp : Int, ((i : Int) - 348) * 108853 / 32768 = lp := ⟨_, rfl⟩
  rw [hlp] at hk
  have HP := Hid.mk' hp
  have HK := Hid.mk' hk
  have HL := Hid.mk' hlp
  have HT := Hid.mk' hT
  have hlp2 : -10000 ≤ lp ∧ lp ≤ 10000 := by omega
  obtain ⟨A, hA⟩ : ∃ A, shMin (m - 512) i k (m / 2048 % 2) = A := ⟨_, rfl⟩
  obtain ⟨B, hB⟩ : ∃ B, shMax (m + 1024) i k (m / 2048 % 2) = B := ⟨_, rfl⟩
  obtain ⟨C, hC⟩ : ∃ C, shMid m i k = C := ⟨_, rfl⟩
  have hA0 : 0 ≤ A ∧ A < 18446744073709551616 := by rw [← hA]; unfold shMin; omega
  have hB0 : 0 ≤ B ∧ B < 18446744073709551616 := by rw [← hB]; unfold shMax; omega
  have hC0 : 0 ≤ C ∧ C < 18446744073709551616 := by rw [← hC]; unfold shMid; omega
  rw [hA, hB, hC]
  have HA := Hid.mk' hA
  have HB := Hid.mk' hB
  have HC := Hid.mk' hC
  obtain ⟨od, hod⟩ : ∃ od : Nat, m / 2048 % 2 = od := ⟨_, rfl⟩
  have hod2 : od ≤ 1 := by omega
  rw [hod] at HA HB
  have hq : bits .and .i64 ((m : Int) / 2048) 1 = ((m / 2048 % 2 : Nat) : Int) := and_one_i64 _ _ (by omega) (by omega)
  rw [hod] at hq
  clear hp hk hT hlp hA hB hC hod
  go_enter Tryz.func252, Tryz.ntmps252
  go_wp2_with fail
  refine (skewed_any _ _ ⟨by omega, by omega⟩).mono ?_
  rintro e1 w1 ⟨rfl, hw1⟩
  rw [hw1, HP.out]; clear hw1 w1
  go_wp2_with fail
  rw [show -(348 - (i : Int)) = (i : Int) - 348 by omega]
  refine (log2Pow10_any _ _ ⟨by omega, by omega⟩).mono ?_
  rintro e1 w1 ⟨rfl, hw1⟩
  rw [hw1, HL.out]; clear hw1 w1
  go_wp2_with fail
  refine (prescale_new e lp i w _ _ _ ⟨by omega, by omega⟩ hlp2 hi HT.out hz).mono ?_
  rintro e1 w1 ⟨rfl, hw1⟩
  rw [hw1, HK.out, show -(-(k : Int)) = (k : Int) by omega]; clear hw1 w1
  go_wp2_with fail
  refine (uscale_new (m - 512) i k 0 _ w (by omega) (by omega) hk2).mono ?_
  rintro e1 w1 ⟨rfl, n1, hw1⟩
  rw [hw1]; clear hw1 w1
  obtain ⟨u1, hu1⟩ : ∃ u1, usT (m - 512) i k = u1 := ⟨_, rfl⟩
  have hu1r : 0 ≤ u1 ∧ u1 < 18446744073709551616 := hu1 ▸ usT_range _ _ _
  have HU1 : Hid (((u1 + od) % 18446744073709551616 + 3) % 18446744073709551616 / 4 = A) := by have := HA.out; unfold shMin at this; rw [hu1] at this; exact this
  rw [hu1]
  clear hu1
  go_wp2_with fail
  refine (nudge_any _ _ _ hu1r ⟨by omega, by omega⟩).mono ?_
  rintro e1 w1 ⟨rfl, hw1⟩
  rw [hw1]; clear hw1 w1
  go_wp2_with fail
  refine (ceil_any _ _ ⟨by omega, by omega⟩).mono ?_
  rintro e1 w1 ⟨rfl, hw1⟩
  rw [hw1, HU1.out]; clear hw1 w1
  go_wp2_with fail
  refine (uscale_new (m + 1024) i k n1 _ w (by omega) (by omega) hk2).mono ?_
  rintro e1 w1 ⟨rfl, n2, hw1⟩
  rw [hw1]; clear hw1 w1
  obtain ⟨u2, hu2⟩ : ∃ u2, usT (m + 1024) i k = u2 := ⟨_, rfl⟩
  have hu2r : 0 ≤ u2 ∧ u2 < 18446744073709551616 := hu2 ▸ usT_range _ _ _
  have HU2 : Hid ((u2 + -(od : Int)) % 18446744073709551616 / 4 = B) := by have := HB.out; unfold shMax at this; rw [hu2] at this; exact this
  rw [hu2]
  clear hu2
  go_wp2_with fail
  refine (nudge_any _ _ _ hu2r ⟨by omega, by omega⟩).mono ?_
  rintro e1 w1 ⟨rfl, hw1⟩
  rw [hw1]; clear hw1 w1
  go_wp2_with fail
  refine (floor_any _ _ ⟨by omega, by omega⟩).mono ?_
  rintro e1 w1 ⟨rfl, hw1⟩
  rw [hw1, HU2.out]; clear hw1 w1
  by_cases q1 : A ≤ B / 10 * 10
  · have HE1 : Hid (shD A B C = B / 10) := by show _ = _; unfold shD; rw [if_pos q1]
    have HE2 : Hid (shQ A B ((i : Int) - 348) = -((i : Int) - 348 - 1)) := by show _ = _; unfold shQ; rw [if_pos q1]
    go_wp2
    go_ret2
    refine ⟨by rw [HE1.out, HE2.out]; rfl, below_draws below_new _⟩
  · by_cases q2 : A < B
    · have HE1 : Hid (shD A B C = C) := by show _ = _; unfold shD; rw [if_neg q1, if_pos q2]
      have HE2 : Hid (shQ A B ((i : Int) - 348) = -((i : Int) - 348)) := by show _ = _; unfold shQ; rw [if_neg q1]
      go_wp2_with fail
      refine (uscale_new m i k n2 _ w (by omega) (by omega) hk2).mono ?_
      rintro e1 w1 ⟨rfl, n3, hw1⟩
      rw [hw1]; clear hw1 w1
      obtain ⟨u3, hu3⟩ : ∃ u3, usT m i k = u3 := ⟨_, rfl⟩
      have hu3r : 0 ≤ u3 ∧ u3 < 18446744073709551616 := hu3 ▸ usT_range _ _ _
      have HU3 : Hid ((u3 + 1 + u3 / 4 % 2) % 18446744073709551616 / 4 = C) := by have := HC.out; unfold shMid at this; rw [hu3] at this; exact this
      rw [hu3]
      clear hu3
      go_wp2_with fail
      refine (round_any _ _ hu3r).mono ?_
      rintro e1 w1 ⟨rfl, hw1⟩
      rw [hw1, HU3.out]; clear hw1 w1
      go_wp2
      go_ret2
      refine ⟨by rw [HE1.out, HE2.out]; rfl, below_draws below_new _⟩
    · have HE1 : Hid (shD A B C = A) := by show _ = _; unfold shD; rw [if_neg q1, if_neg q2]
      have HE2 : Hid (shQ A B ((i : Int) - 348) = -((i : Int) - 348)) := by show _ = _; unfold shQ; rw [if_neg q1]
      go_wp2
      go_ret2
      refine ⟨by rw [HE1.out, HE2.out]; rfl, below_draws below_new _⟩

set_option maxHeartbeats 1000000 in
set_option maxRecDepth 100000 in
theorem short_edge (m : Nat) (e : Int) (i k : Nat) (w : World) (hm : m < 18446744073709551616) (hm1 : 1024 ≤ m) (hm2 : m + 1024 < 18446744073709551616) (he : -1085 ≤ e ∧ e ≤ 960) (he2 : e ≤ -1085) (hne : ((m : Int) == 9223372036854775808) = true)
    (hi : i < 696) (hp : (e + 11) * 78913 / 262144 = 348 - (i : Int)) (hk : e + ((i : Int) - 348) * 108853 / 32768 + 3 = -(k : Int)) (hk2 : k < 64) (hT : TabP w) :
    Calls Tryz.prog 252 #[.int .u64 m, .int .i64 e] w fun e' w' => e' = .returned (.tuple #[.int .u64 (shD (shMin (m - 1024) i k (m / 2048 % 2)) (shMax (m + 1024) i k (m / 2048 % 2)) (shMid m i k)), .int .i64 (shQ (shMin (m - 1024) i k (m / 2048 % 2)) (shMax (m + 1024) i k (m / 2048 % 2)) ((i : Int) - 348))]) ∧ Below w.heap.size w w' := by
  have hz : 11 < w.heap.size := World.block_lt_of_cell? w _ (hT i hi).1
  obtain ⟨lp, hlp⟩ : ∃ lp : Int, ((i : Int) - 348) * 108853 / 32768 = lp := ⟨_, rfl⟩
  rw [hlp] at hk
  have HP := Hid.mk' hp
  have HK := Hid.mk' hk
  have HL := Hid.mk' hlp
  have HT := Hid.mk' hT
  have hlp2 : -10000 ≤ lp ∧ lp ≤ 10000 := by omega
  obtain ⟨A, hA⟩ : ∃ A, shMin (m - 1024) i k (m / 2048 % 2) = A := ⟨_, rfl⟩
  obtain ⟨B, hB⟩ : ∃ B, shMax (m + 1024) i k (m / 2048 % 2) = B := ⟨_, rfl⟩
  obtain ⟨C, hC⟩ : ∃ C, shMid m i k = C := ⟨_, rfl⟩
  have hA0 : 0 ≤ A ∧ A < 18446744073709551616 := by rw [← hA]; unfold shMin; omega
  have hB0 : 0 ≤ B ∧ B < 18446744073709551616 := by rw [← hB]; unfold shMax; omega
  have hC0 : 0 ≤ C ∧ C < 18446744073709551616 := by rw [← hC]; unfold shMid; omega
  rw [hA, hB, hC]
  have HA := Hid.mk' hA
  have HB := Hid.mk' hB
  have HC := Hid.mk' hC
  obtain ⟨od, hod⟩ : ∃ od : Nat, m / 2048 % 2 = od := ⟨_, rfl⟩
  have hod2 : od ≤ 1 := by omega
  rw [hod] at HA HB
  have hq : bits .and .i64 ((m : Int) / 2048) 1 = ((m / 2048 % 2 : Nat) : Int) := and_one_i64 _ _ (by omega) (by omega)
  rw [hod] at hq
  clear hp hk hT hlp hA hB hC hod
  go_enter Tryz.func252, Tryz.ntmps252
  go_wp2_with fail
  refine (log10Pow2_any _ _ ⟨by omega, by omega⟩).mono ?_
  rintro e1 w1 ⟨rfl, hw1⟩
  rw [hw1, HP.out]; clear hw1 w1
  go_wp2_with fail
  rw [show -(348 - (i : Int)) = (i : Int) - 348 by omega]
  refine (log2Pow10_any _ _ ⟨by omega, by omega⟩).mono ?_
  rintro e1 w1 ⟨rfl, hw1⟩
  rw [hw1, HL.out]; clear hw1 w1
  go_wp2_with fail
  refine (prescale_new e lp i w _ _ _ ⟨by omega, by omega⟩ hlp2 hi HT.out hz).mono ?_
  rintro e1 w1 ⟨rfl, hw1⟩
  rw [hw1, HK.out, show -(-(k : Int)) = (k : Int) by omega]; clear hw1 w1
  go_wp2_with fail
  refine (uscale_new (m - 1024) i k 0 _ w (by omega) (by omega) hk2).mono ?_
  rintro e1 w1 ⟨rfl, n1, hw1⟩
  rw [hw1]; clear hw1 w1
  obtain ⟨u1, hu1⟩ : ∃ u1, usT (m - 1024) i k = u1 := ⟨_, rfl⟩
  have hu1r : 0 ≤ u1 ∧ u1 < 18446744073709551616 := hu1 ▸ usT_range _ _ _
  have HU1 : Hid (((u1 + od) % 18446744073709551616 + 3) % 18446744073709551616 / 4 = A) := by have := HA.out; unfold shMin at this; rw [hu1] at this; exact this
  rw [hu1]
  clear hu1
  go_wp2_with fail
  refine (nudge_any _ _ _ hu1r ⟨by omega, by omega⟩).mono ?_
  rintro e1 w1 ⟨rfl, hw1⟩
  rw [hw1]; clear hw1 w1
  go_wp2_with fail
  refine (ceil_any _ _ ⟨by omega, by omega⟩).mono ?_
  rintro e1 w1 ⟨rfl, hw1⟩
  rw [hw1, HU1.out]; clear hw1 w1
  go_wp2_with fail
  refine (uscale_new (m + 1024) i k n1 _ w (by omega) (by omega) hk2).mono ?_
  rintro e1 w1 ⟨rfl, n2, hw1⟩
  rw [hw1]; clear hw1 w1
  obtain ⟨u2, hu2⟩ : ∃ u2, usT (m + 1024) i k = u2 := ⟨_, rfl⟩
  have hu2r : 0 ≤ u2 ∧ u2 < 18446744073709551616 := hu2 ▸ usT_range _ _ _
  have HU2 : Hid ((u2 + -(od : Int)) % 18446744073709551616 / 4 = B) := by have := HB.out; unfold shMax at this; rw [hu2] at this; exact this
  rw [hu2]
  clear hu2
  go_wp2_with fail
  refine (nudge_any _ _ _ hu2r ⟨by omega, by omega⟩).mono ?_
  rintro e1 w1 ⟨rfl, hw1⟩
  rw [hw1]; clear hw1 w1
  go_wp2_with fail
  refine (floor_any _ _ ⟨by omega, by omega⟩).mono ?_
  rintro e1 w1 ⟨rfl, hw1⟩
  rw [hw1, HU2.out]; clear hw1 w1
  by_cases q1 : A ≤ B / 10 * 10
  · have HE1 : Hid (shD A B C = B / 10) := by show _ = _; unfold shD; rw [if_pos q1]
    have HE2 : Hid (shQ A B ((i : Int) - 348) = -((i : Int) - 348 - 1)) := by show _ = _; unfold shQ; rw [if_pos q1]
    go_wp2
    go_ret2
    refine ⟨by rw [HE1.out, HE2.out]; rfl, below_draws below_new _⟩
  · by_cases q2 : A < B
    · have HE1 : Hid (shD A B C = C) := by show _ = _; unfold shD; rw [if_neg q1, if_pos q2]
      have HE2 : Hid (shQ A B ((i : Int) - 348) = -((i : Int) - 348)) := by show _ = _; unfold shQ; rw [if_neg q1]
      go_wp2_with fail
      refine (uscale_new m i k n2 _ w (by omega) (by omega) hk2).mono ?_
      rintro e1 w1 ⟨rfl, n3, hw1⟩
      rw [hw1]; clear hw1 w1
      obtain ⟨u3, hu3⟩ : ∃ u3, usT m i k = u3 := ⟨_, rfl⟩
      have hu3r : 0 ≤ u3 ∧ u3 < 18446744073709551616 := hu3 ▸ usT_range _ _ _
      have HU3 : Hid ((u3 + 1 + u3 / 4 % 2) % 18446744073709551616 / 4 = C) := by have := HC.out; unfold shMid at this; rw [hu3] at this; exact this
      rw [hu3]
      clear hu3
      go_wp2_with fail
      refine (round_any _ _ hu3r).mono ?_
      rintro e1 w1 ⟨rfl, hw1⟩
      rw [hw1, HU3.out]; clear hw1 w1
      go_wp2
      go_ret2
      refine ⟨by rw [HE1.out, HE2.out]; rfl, below_draws below_new _⟩
    · have HE1 : Hid (shD A B C = A) := by show _ = _; unfold shD; rw [if_neg q1, if_neg q2]
      have HE2 : Hid (shQ A B ((i : Int) - 348) = -((i : Int) - 348)) := by show _ = _; unfold shQ; rw [if_neg q1]
      go_wp2
      go_ret2
      refine ⟨by rw [HE1.out, HE2.out]; rfl, below_draws below_new _⟩

set_option maxHeartbeats 1000000 in
set_option maxRecDepth 100000 in
theorem short_mid (m : Nat) (e : Int) (i k : Nat) (w : World) (hm : m < 18446744073709551616) (hm1 : 1024 ≤ m) (hm2 : m + 1024 < 18446744073709551616) (he : -1085 ≤ e ∧ e ≤ 960) (hne : ((m : Int) == 9223372036854775808) = false)
    (hi : i < 696) (hp : (e + 11) * 78913 / 262144 = 348 - (i : Int)) (hk : e + ((i : Int) - 348) * 108853 / 32768 + 3 = -(k : Int)) (hk2 : k < 64) (hT : TabP w) :
    Calls Tryz.prog 252 #[.int .u64 m, .int .i64 e] w fun e' w' => e' = .returned (.tuple #[.int .u64 (shD (shMin (m - 1024) i k (m / 2048 % 2)) (shMax (m + 1024) i k (m / 2048 % 2)) (shMid m i k)), .int .i64 (shQ (shMin (m - 1024) i k (m / 2048 % 2)) (shMax (m + 1024) i k (m / 2048 % 2)) ((i : Int) - 348))]) ∧ Below w.heap.size w w' := by
  have hz : 11 < w.heap.size := World.block_lt_of_cell? w _ (hT i hi).1
  obtain ⟨lp, hlp⟩ : ∃ lp : Int, ((i : Int) - 348) * 108853 / 32768 = lp := ⟨_, rfl⟩
  rw [hlp] at hk
  have HP := Hid.mk' hp
  have HK := Hid.mk' hk
  have HL := Hid.mk' hlp
  have HT := Hid.mk' hT
  have hlp2 : -10000 ≤ lp ∧ lp ≤ 10000 := by omega
  obtain ⟨A, hA⟩ : ∃ A, shMin (m - 1024) i k (m / 2048 % 2) = A := ⟨_, rfl⟩
  obtain ⟨B, hB⟩ : ∃ B, shMax (m + 1024) i k (m / 2048 % 2) = B := ⟨_, rfl⟩
  obtain ⟨C, hC⟩ : ∃ C, shMid m i k = C := ⟨_, rfl⟩
  have hA0 : 0 ≤ A ∧ A < 18446744073709551616 := by rw [← hA]; unfold shMin; omega
  have hB0 : 0 ≤ B ∧ B < 18446744073709551616 := by rw [← hB]; unfold shMax; omega
  have hC0 : 0 ≤ C ∧ C < 18446744073709551616 := by rw [← hC]; unfold shMid; omega
  rw [hA, hB, hC]
  have HA := Hid.mk' hA
  have HB := Hid.mk' hB
  have HC := Hid.mk' hC
  obtain ⟨od, hod⟩ : ∃ od : Nat, m / 2048 % 2 = od := ⟨_, rfl⟩
  have hod2 : od ≤ 1 := by omega
  rw [hod] at HA HB
  have hq : bits .and .i64 ((m : Int) / 2048) 1 = ((m / 2048 % 2 : Nat) : Int) := and_one_i64 _ _ (by omega) (by omega)
  rw [hod] at hq
  clear hp hk hT hlp hA hB hC hod
  go_enter Tryz.func252, Tryz.ntmps252
  go_wp2_with fail
  refine (log10Pow2_any _ _ ⟨by omega, by omega⟩).mono ?_
  rintro e1 w1 ⟨rfl, hw1⟩
  rw [hw1, HP.out]; clear hw1 w1
  go_wp2_with fail
  rw [show -(348 - (i : Int)) = (i : Int) - 348 by omega]
  refine (log2Pow10_any _ _ ⟨by omega, by omega⟩).mono ?_
  rintro e1 w1 ⟨rfl, hw1⟩
  rw [hw1, HL.out]; clear hw1 w1
  go_wp2_with fail
  refine (prescale_new e lp i w _ _ _ ⟨by omega, by omega⟩ hlp2 hi HT.out hz).mono ?_
  rintro e1 w1 ⟨rfl, hw1⟩
  rw [hw1, HK.out, show -(-(k : Int)) = (k : Int) by omega]; clear hw1 w1
  go_wp2_with fail
  refine (uscale_new (m - 1024) i k 0 _ w (by omega) (by omega) hk2).mono ?_
  rintro e1 w1 ⟨rfl, n1, hw1⟩
  rw [hw1]; clear hw1 w1
  obtain ⟨u1, hu1⟩ : ∃ u1, usT (m - 1024) i k = u1 := ⟨_, rfl⟩
  have hu1r : 0 ≤ u1 ∧ u1 < 18446744073709551616 := hu1 ▸ usT_range _ _ _
  have HU1 : Hid (((u1 + od) % 18446744073709551616 + 3) % 18446744073709551616 / 4 = A) := by have := HA.out; unfold shMin at this; rw [hu1] at this; exact this
  rw [hu1]
  clear hu1
  go_wp2_with fail
  refine (nudge_any _ _ _ hu1r ⟨by omega, by omega⟩).mono ?_
  rintro e1 w1 ⟨rfl, hw1⟩
  rw [hw1]; clear hw1 w1
  go_wp2_with fail
  refine (ceil_any _ _ ⟨by omega, by omega⟩).mono ?_
  rintro e1 w1 ⟨rfl, hw1⟩
  rw [hw1, HU1.out]; clear hw1 w1
  go_wp2_with fail
  refine (uscale_new (m + 1024) i k n1 _ w (by omega) (by omega) hk2).mono ?_
  rintro e1 w1 ⟨rfl, n2, hw1⟩
  rw [hw1]; clear hw1 w1
  obtain ⟨u2, hu2⟩ : ∃ u2, usT (m + 1024) i k = u2 := ⟨_, rfl⟩
  have hu2r : 0 ≤ u2 ∧ u2 < 18446744073709551616 := hu2 ▸ usT_range _ _ _
  have HU2 : Hid ((u2 + -(od : Int)) % 18446744073709551616 / 4 = B) := by have := HB.out; unfold shMax at this; rw [hu2] at this; exact this
  rw [hu2]
  clear hu2
  go_wp2_with fail
  refine (nudge_any _ _ _ hu2r ⟨by omega, by omega⟩).mono ?_
  rintro e1 w1 ⟨rfl, hw1⟩
  rw [hw1]; clear hw1 w1
  go_wp2_with fail
  refine (floor_any _ _ ⟨by omega, by omega⟩).mono ?_
  rintro e1 w1 ⟨rfl, hw1⟩
  rw [hw1, HU2.out]; clear hw1 w1
  by_cases q1 : A ≤ B / 10 * 10
  · have HE1 : Hid (shD A B C = B / 10) := by show _ = _; unfold shD; rw [if_pos q1]
    have HE2 : Hid (shQ A B ((i : Int) - 348) = -((i : Int) - 348 - 1)) := by show _ = _; unfold shQ; rw [if_pos q1]
    go_wp2
    go_ret2
    refine ⟨by rw [HE1.out, HE2.out]; rfl, below_draws below_new _⟩
  · by_cases q2 : A < B
    · have HE1 : Hid (shD A B C = C) := by show _ = _; unfold shD; rw [if_neg q1, if_pos q2]
      have HE2 : Hid (shQ A B ((i : Int) - 348) = -((i : Int) - 348)) := by show _ = _; unfold shQ; rw [if_neg q1]
      go_wp2_with fail
      refine (uscale_new m i k n2 _ w (by omega) (by omega) hk2).mono ?_
      rintro e1 w1 ⟨rfl, n3, hw1⟩
      rw [hw1]; clear hw1 w1
      obtain ⟨u3, hu3⟩ : ∃ u3, usT m i k = u3 := ⟨_, rfl⟩
      have hu3r : 0 ≤ u3 ∧ u3 < 18446744073709551616 := hu3 ▸ usT_range _ _ _
      have HU3 : Hid ((u3 + 1 + u3 / 4 % 2) % 18446744073709551616 / 4 = C) := by have := HC.out; unfold shMid at this; rw [hu3] at this; exact this
      rw [hu3]
      clear hu3
      go_wp2_with fail
      refine (round_any _ _ hu3r).mono ?_
      rintro e1 w1 ⟨rfl, hw1⟩
      rw [hw1, HU3.out]; clear hw1 w1
      go_wp2
      go_ret2
      refine ⟨by rw [HE1.out, HE2.out]; rfl, below_draws below_new _⟩
    · have HE1 : Hid (shD A B C = A) := by show _ = _; unfold shD; rw [if_neg q1, if_neg q2]
      have HE2 : Hid (shQ A B ((i : Int) - 348) = -((i : Int) - 348)) := by show _ = _; unfold shQ; rw [if_neg q1]
      go_wp2
      go_ret2
      refine ⟨by rw [HE1.out, HE2.out]; rfl, below_draws below_new _⟩
end Go.Proofs.YtbkkkpfoaggejaaGreatDoor
