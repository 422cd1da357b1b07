/- internal/strconv: the small functions on the way of FormatFloat's fewest digits. -/
import Derived.Test.YtbkkkpfoaggejaaGreatDoorMf
import Derived.Lib.Mul64
import Derived.Deep.RegionWith
namespace Go.Proofs.YtbkkkpfoaggejaaGreatDoor
set_option linter.unusedVariables false
open Go.RowKit Fl

set_option maxHeartbeats 400000 in
theorem log10Pow2_any (x : Int) (w : World) (h : -100000 ≤ x ∧ x ≤ 100000) :
    Calls Tryz.prog 247 #[.int .i64 x] w fun e w' => e = .returned (.int .i64 (x * 78913 / 262144)) ∧ w' = w := by
  go_enter Tryz.func247, Tryz.ntmps247
  go_wp2
  go_ret
  exact ⟨rfl, rfl⟩
set_option maxHeartbeats 400000 in
theorem log2Pow10_any (x : Int) (w : World) (h : -100000 ≤ x ∧ x ≤ 100000) :
    Calls Tryz.prog 267 #[.int .i64 x] w fun e w' => e = .returned (.int .i64 (x * 108853 / 32768)) ∧ w' = w := by
  go_enter Tryz.func267, Tryz.ntmps267
  go_wp2
  go_ret
  exact ⟨rfl, rfl⟩
set_option maxHeartbeats 400000 in
theorem skewed_any (x : Int) (w : World) (h : -100000 ≤ x ∧ x ≤ 100000) :
    Calls Tryz.prog 265 #[.int .i64 x] w fun e w' => e = .returned (.int .i64 ((x * 631305 - 261663) / 2097152)) ∧ w' = w := by
  go_enter Tryz.func265, Tryz.ntmps265
  go_wp2
  go_ret
  exact ⟨rfl, rfl⟩
set_option maxHeartbeats 400000 in
theorem bool2_u64 (b : Bool) (w : World) :
    Calls Tryz.prog 291 #[.bool b] w fun e w' => e = .returned (.int .u64 (b.toNat : Nat)) ∧ w' = w := by
  cases b
  all_goals
    go_enter Tryz.func291, Tryz.ntmps291
    go_wp2
    go_ret
    exact ⟨rfl, rfl⟩
set_option maxHeartbeats 400000 in
theorem floor_any (x : Int) (w : World) (h : 0 ≤ x ∧ x < 18446744073709551616) :
    Calls Tryz.prog 271 #[.int .u64 x] w fun e w' => e = .returned (.int .u64 (x / 4)) ∧ w' = w := by
  go_enter Tryz.func271, Tryz.ntmps271
  go_wp2
  go_ret
  exact ⟨rfl, rfl⟩
set_option maxHeartbeats 400000 in
theorem ceil_any (x : Int) (w : World) (h : 0 ≤ x ∧ x < 18446744073709551616) :
    Calls Tryz.prog 270 #[.int .u64 x] w fun e w' => e = .returned (.int .u64 ((x + 3) % 18446744073709551616 / 4)) ∧ w' = w := by
  go_enter Tryz.func270, Tryz.ntmps270
  go_wp2
  go_ret
  exact ⟨rfl, rfl⟩
set_option maxHeartbeats 400000 in
theorem nudge_any (x d : Int) (w : World) (h : 0 ≤ x ∧ x < 18446744073709551616) (hd : -1 ≤ d ∧ d ≤ 1) :
    Calls Tryz.prog 269 #[.int .u64 x, .int .i64 d] w fun e w' => e = .returned (.int .u64 ((x + d % 18446744073709551616) % 18446744073709551616)) ∧ w' = w := by
  go_enter Tryz.func269, Tryz.ntmps269
  go_wp2
  go_ret
  exact ⟨rfl, rfl⟩

theorem low32 (a : Nat) (h : a < 18446744073709551616) : bits .and .u64 (a : Int) 4294967295 = ((a % 4294967296 : Nat) : Int) := by
  have e := u64_and_nat a 4294967295 h (by omega)
  have e2 := Nat.and_two_pow_sub_one_eq_mod a 32
  rw [show 2 ^ 32 - 1 = 4294967295 from rfl, show (2 : Nat) ^ 32 = 4294967296 from rfl] at e2
  rw [e2] at e
  exact e
theorem high32 (a : Nat) : (a : Int) / 4294967296 = ((a / 4294967296 : Nat) : Int) := by omega
theorem wrap_nat (a : Nat) (h : a < 18446744073709551616) : IntKind.u64.wrap (a : Int) = (a : Int) := by rw [IntKind.wrap_u64]; omega
theorem wrap_any (a : Nat) : IntKind.u64.wrap (a : Int) = ((a % 18446744073709551616 : Nat) : Int) := by rw [IntKind.wrap_u64]; omega
/-- The halves' products, folded from the inside out. -/
theorem mul_fold (x y : Nat) (hx : x < 18446744073709551616) (hy : y < 18446744073709551616) :
    IntKind.u64.wrap (IntKind.u64.wrap (IntKind.u64.wrap ((x : Int) / 4294967296 * ((y : Int) / 4294967296)) + IntKind.u64.wrap (IntKind.u64.wrap ((x : Int) / 4294967296 * bits .and .u64 (y : Int) 4294967295) + IntKind.u64.wrap (bits .and .u64 (x : Int) 4294967295 * bits .and .u64 (y : Int) 4294967295) / 4294967296) / 4294967296) + IntKind.u64.wrap (bits .and .u64 (IntKind.u64.wrap (IntKind.u64.wrap ((x : Int) / 4294967296 * bits .and .u64 (y : Int) 4294967295) + IntKind.u64.wrap (bits .and .u64 (x : Int) 4294967295 * bits .and .u64 (y : Int) 4294967295) / 4294967296)) 4294967295 + IntKind.u64.wrap (bits .and .u64 (x : Int) 4294967295 * ((y : Int) / 4294967296))) / 4294967296) = ((x * y / 18446744073709551616 : Nat) : Int) := by
  obtain ⟨q1, q2, q3, q4⟩ := Lib.mul64_hi x y hx hy
  have a1 := Lib.half_mul_le (a := x / 4294967296) (b := y / 4294967296) (by omega) (by omega)
  have a2 := Lib.half_mul_le (a := x / 4294967296) (b := y % 4294967296) (by omega) (by omega)
  have a3 := Lib.half_mul_le (a := x % 4294967296) (b := y / 4294967296) (by omega) (by omega)
  have hlt : x * y / 18446744073709551616 < 18446744073709551616 := by
    rw [Nat.div_lt_iff_lt_mul (by omega)]
    exact Nat.mul_lt_mul'' hx hy
  rw [low32 x hx, low32 y hy, high32 x, high32 y]
  rw [← Int.natCast_mul, ← Int.natCast_mul, ← Int.natCast_mul, ← Int.natCast_mul]
  generalize x / 4294967296 * (y / 4294967296) = A at *
  generalize x / 4294967296 * (y % 4294967296) = B at *
  generalize x % 4294967296 * (y / 4294967296) = C at *
  generalize x % 4294967296 * (y % 4294967296) = D at *
  rw [wrap_nat A (by omega), wrap_nat B (by omega), wrap_nat C (by omega), wrap_nat D (by omega), high32 D, ← Int.natCast_add, wrap_nat (B + D / 4294967296) (by omega), high32 (B + D / 4294967296), low32 (B + D / 4294967296) (by omega), ← Int.natCast_add, ← Int.natCast_add, wrap_nat (A + (B + D / 4294967296) / 4294967296) (by omega), wrap_nat ((B + D / 4294967296) % 4294967296 + C) (by omega), high32, ← Int.natCast_add, wrap_nat _ (by omega), q4]

set_option maxHeartbeats 1000000 in
theorem mul64_any (x y : Nat) (hx : x < 18446744073709551616) (hy : y < 18446744073709551616) (w : World) :
    Calls Tryz.prog 198 #[.int .u64 x, .int .u64 y] w fun e w' => e = .returned (.tuple #[.int .u64 ((x * y / 18446744073709551616 : Nat) : Int), .int .u64 ((x * y % 18446744073709551616 : Nat) : Int)]) ∧ w' = w := by
  have HF := Hid.mk' (mul_fold x y hx hy)
  have HL : Hid (IntKind.u64.wrap ((x : Int) * (y : Int)) = ((x * y % 18446744073709551616 : Nat) : Int)) := by
    show _ = _
    rw [← Int.natCast_mul, wrap_any]
  go_enter Tryz.func198, Tryz.ntmps198
  go_wp2
  go_ret2
  refine ⟨?_, rfl⟩
  rw [HF.out, HL.out]
  rfl

def uscI (A M N k : Nat) : Int := if (IntKind.u64.wrap ((A : Int) / 2 ^ k * 2 ^ k) != (A : Int)) = true then bits .or .u64 ((A : Int) / 2 ^ k) 1 else bits .or .u64 (IntKind.u64.wrap ((A : Int) - ((decide (M < N)).toNat : Nat)) / 2 ^ k) ((decide (1 < IntKind.u64.wrap ((M : Int) - (N : Int)))).toNat : Nat)
theorem i64_and63 (k : Nat) (h : k < 64) : bits .and .i64 (k : Int) 63 = (k : Int) := by
  have e2 : k &&& 63 = k := by
    have := Nat.and_two_pow_sub_one_eq_mod k 6
    rw [show 2 ^ 6 - 1 = 63 from rfl] at this
    rw [this]
    omega
  show IntKind.i64.wrap ((BitVec.ofInt 64 (k : Int) &&& BitVec.ofInt 64 ((63 : Nat) : Int)).toNat : Int) = _
  rw [BitVec.toNat_and, ofInt_u64 _ (by omega), ofInt_u64 _ (by omega), IntKind.wrap_i64, e2]
  omega

set_option maxHeartbeats 1000000 in
set_option maxRecDepth 100000 in
theorem uscale_any (x hi lo k g o : Nat) (w : World) (hx : x < 18446744073709551616) (hh : hi < 18446744073709551616) (hl : lo < 18446744073709551616) (hk : k < 64)
    (c0 : w.cell? ⟨g, o, none⟩ = some (.int .u64 hi)) (c1 : w.cell? ⟨g, o + 1, none⟩ = some (.int .u64 lo)) (c2 : w.cell? ⟨g, o + 2, none⟩ = some (.int .i64 k)) :
    Calls Tryz.prog 268 #[.int .u64 x, .pointer (some ⟨g, o, none⟩)] w fun e w' => e = .returned (.int .u64 (uscI (x * hi / 18446744073709551616) (x * hi % 18446744073709551616) (x * lo / 18446744073709551616) k)) ∧ ∃ n, w' = w.drewN n := by
  have H1 := Hid.mk' (fun W => mul64_any x hi hx hh W)
  have H2 := Hid.mk' (fun W => mul64_any x lo hx hl W)
  obtain ⟨A, hA⟩ : ∃ A, x * hi / 18446744073709551616 = A := ⟨_, rfl⟩
  obtain ⟨M, hM⟩ : ∃ M, x * hi % 18446744073709551616 = M := ⟨_, rfl⟩
  obtain ⟨N, hN⟩ : ∃ N, x * lo / 18446744073709551616 = N := ⟨_, rfl⟩
  rw [hA, hM] at H1
  rw [hN] at H2
  rw [hA, hM, hN]
  go_enter Tryz.func268, Tryz.ntmps268
  go_wp2_with fail
  refine (H1.out _).mono ?_
  rintro e w3 ⟨rfl, hw3⟩
  rw [hw3]; clear hw3 w3
  have h63 := i64_and63 k hk
  go_wp2_with fail
  · rename_i h
    go_ret
    exact ⟨by unfold uscI; rw [if_pos h]; rfl, 0, rfl⟩
  · have HN : Hid (¬ (IntKind.u64.wrap ((A : Int) / 2 ^ k * 2 ^ k) != (A : Int)) = true) := by
      intro q
      have q2 : (IntKind.u64.wrap ((A : Int) / 2 ^ k * 2 ^ k) != (A : Int)) = false := by assumption
      rw [q2] at q
      cases q
    refine (H2.out _).mono ?_
    rintro e w3 ⟨rfl, hw3⟩
    rw [hw3]; clear hw3 w3
    go_wp2_with (go_at_call 291; refine (bool2_u64 _ _).mono ?_; rintro e w3 ⟨rfl, hw3⟩; rw [hw3]; clear hw3 w3)
    go_region_with (go_at_call 291; refine (bool2_u64 _ _).mono ?_; rintro e w3 ⟨rfl, hw3⟩; rw [hw3]; clear hw3 w3)
    go_wp2
    go_ret
    exact ⟨by unfold uscI; rw [if_neg HN.out]; rfl, _, rfl⟩
end Go.Proofs.YtbkkkpfoaggejaaGreatDoor
