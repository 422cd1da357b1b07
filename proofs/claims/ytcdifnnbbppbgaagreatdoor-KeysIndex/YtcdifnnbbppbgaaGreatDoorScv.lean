/- internal/strconv: the small functions on the way of FormatFloat's fewest digits. -/
import Derived.Test.YtcdifnnbbppbgaaGreatDoorMf
import Derived.Lib.Mul64
namespace Go.Proofs.YtcdifnnbbppbgaaGreatDoor
set_option linter.unusedVariables false
open Go.RowKit Fl

set_option maxHeartbeats 400000 in
theorem log10Pow2_any (x : Int) (w : World) (h : -100000 ≤ x ∧ x ≤ 100000) :
    Calls Tryz.prog 63 #[.int .i64 x] w fun e w' => e = .returned (.int .i64 (x * 78913 / 262144)) ∧ w' = w := by
  go_enter Tryz.func63, Tryz.ntmps63
  go_wp2
  go_ret
  exact ⟨rfl, rfl⟩
set_option maxHeartbeats 400000 in
theorem log2Pow10_any (x : Int) (w : World) (h : -100000 ≤ x ∧ x ≤ 100000) :
    Calls Tryz.prog 111 #[.int .i64 x] w fun e w' => e = .returned (.int .i64 (x * 108853 / 32768)) ∧ w' = w := by
  go_enter Tryz.func111, Tryz.ntmps111
  go_wp2
  go_ret
  exact ⟨rfl, rfl⟩
set_option maxHeartbeats 400000 in
theorem skewed_any (x : Int) (w : World) (h : -100000 ≤ x ∧ x ≤ 100000) :
    Calls Tryz.prog 109 #[.int .i64 x] w fun e w' => e = .returned (.int .i64 ((x * 631305 - 261663) / 2097152)) ∧ w' = w := by
  go_enter Tryz.func109, Tryz.ntmps109
  go_wp2
  go_ret
  exact ⟨rfl, rfl⟩
set_option maxHeartbeats 400000 in
theorem bool2_u64 (b : Bool) (w : World) :
    Calls Tryz.prog 127 #[.bool b] w fun e w' => e = .returned (.int .u64 (b.toNat : Nat)) ∧ w' = w := by
  cases b
  all_goals
    go_enter Tryz.func127, Tryz.ntmps127
    go_wp2
    go_ret
    exact ⟨rfl, rfl⟩
set_option maxHeartbeats 400000 in
theorem floor_any (x : Int) (w : World) (h : 0 ≤ x ∧ x < 18446744073709551616) :
    Calls Tryz.prog 115 #[.int .u64 x] w fun e w' => e = .returned (.int .u64 (x / 4)) ∧ w' = w := by
  go_enter Tryz.func115, Tryz.ntmps115
  go_wp2
  go_ret
  exact ⟨rfl, rfl⟩
set_option maxHeartbeats 400000 in
theorem ceil_any (x : Int) (w : World) (h : 0 ≤ x ∧ x < 18446744073709551616) :
    Calls Tryz.prog 114 #[.int .u64 x] w fun e w' => e = .returned (.int .u64 ((x + 3) % 18446744073709551616 / 4)) ∧ w' = w := by
  go_enter Tryz.func114, Tryz.ntmps114
  go_wp2
  go_ret
  exact ⟨rfl, rfl⟩
set_option maxHeartbeats 400000 in
theorem nudge_any (x d : Int) (w : World) (h : 0 ≤ x ∧ x < 18446744073709551616) (hd : -1 ≤ d ∧ d ≤ 1) :
    Calls Tryz.prog 113 #[.int .u64 x, .int .i64 d] w fun e w' => e = .returned (.int .u64 ((x + d % 18446744073709551616) % 18446744073709551616)) ∧ w' = w := by
  go_enter Tryz.func113, Tryz.ntmps113
  go_wp2
  go_ret
  exact ⟨rfl, rfl⟩

theorem low32 (a : Nat) (h : a < 18446744073709551616) : bits .and .u64 (a : Int) 4294967295 = ((a % 4294967296 : Nat) : Int) := by
  have e := u64_and_nat a 4294967295 h (by omega)
  have e2 := Nat.and_two_pow_sub_one_eq_mod a 32
  rw [show 2 ^ 32 - 1 = 4294967295 from rfl, show (2 : Nat) ^ 32 = 4294967296 from rfl] at e2
  rw [e2] at e
  exact e
theorem high32 (a : Nat) : (a : Int) / 4294967296 = ((a / 4294967296 : Nat) : Int) := by omega
theorem wrap_nat (a : Nat) (h : a < 18446744073709551616) : IntKind.u64.wrap (a : Int) = (a : Int) := by rw [IntKind.wrap_u64]; omega
theorem wrap_any (a : Nat) : IntKind.u64.wrap (a : Int) = ((a % 18446744073709551616 : Nat) : Int) := by rw [IntKind.wrap_u64]; omega
/-- The halves' products, folded from the inside out. -/
theorem mul_fold (x y : Nat) (hx : x < 18446744073709551616) (hy : y < 18446744073709551616) :
    IntKind.u64.wrap (IntKind.u64.wrap (IntKind.u64.wrap ((x : Int) / 4294967296 * ((y : Int) / 4294967296)) + IntKind.u64.wrap (IntKind.u64.wrap ((x : Int) / 4294967296 * bits .and .u64 (y : Int) 4294967295) + IntKind.u64.wrap (bits .and .u64 (x : Int) 4294967295 * bits .and .u64 (y : Int) 4294967295) / 4294967296) / 4294967296) + IntKind.u64.wrap (bits .and .u64 (IntKind.u64.wrap (IntKind.u64.wrap ((x : Int) / 4294967296 * bits .and .u64 (y : Int) 4294967295) + IntKind.u64.wrap (bits .and .u64 (x : Int) 4294967295 * bits .and .u64 (y : Int) 4294967295) / 4294967296)) 4294967295 + IntKind.u64.wrap (bits .and .u64 (x : Int) 4294967295 * ((y : Int) / 4294967296))) / 4294967296) = ((x * y / 18446744073709551616 : Nat) : Int) := by
  obtain ⟨q1, q2, q3, q4⟩ := Lib.mul64_hi x y hx hy
  have a1 := Lib.half_mul_le (a := x / 4294967296) (b := y / 4294967296) (by omega) (by omega)
  have a2 := Lib.half_mul_le (a := x / 4294967296) (b := y % 4294967296) (by omega) (by omega)
  have a3 := Lib.half_mul_le (a := x % 4294967296) (b := y / 4294967296) (by omega) (by omega)
  have hlt : x * y / 18446744073709551616 < 18446744073709551616 := by
    rw [Nat.div_lt_iff_lt_mul (by omega)]
    exact Nat.mul_lt_mul'' hx hy
  rw [low32 x hx, low32 y hy, high32 x, high32 y]
  rw [← Int.natCast_mul, ← Int.natCast_mul, ← Int.natCast_mul, ← Int.natCast_mul]
  generalize x / 4294967296 * (y / 4294967296) = A at *
  generalize x / 4294967296 * (y % 4294967296) = B at *
  generalize x % 4294967296 * (y / 4294967296) = C at *
  generalize x % 4294967296 * (y % 4294967296) = D at *
  rw [wrap_nat A (by omega), wrap_nat B (by omega), wrap_nat C (by omega), wrap_nat D (by omega), high32 D, ← Int.natCast_add, wrap_nat (B + D / 4294967296) (by omega), high32 (B + D / 4294967296), low32 (B + D / 4294967296) (by omega), ← Int.natCast_add, ← Int.natCast_add, wrap_nat (A + (B + D / 4294967296) / 4294967296) (by omega), wrap_nat ((B + D / 4294967296) % 4294967296 + C) (by omega), high32, ← Int.natCast_add, wrap_nat _ (by omega), q4]

set_option maxHeartbeats 1000000 in
theorem mul64_any (x y : Nat) (hx : x < 18446744073709551616) (hy : y < 18446744073709551616) (w : World) :
    Calls Tryz.prog 126 #[.int .u64 x, .int .u64 y] w fun e w' => e = .returned (.tuple #[.int .u64 ((x * y / 18446744073709551616 : Nat) : Int), .int .u64 ((x * y % 18446744073709551616 : Nat) : Int)]) ∧ w' = w := by
  have HF := Hid.mk' (mul_fold x y hx hy)
  have HL : Hid (IntKind.u64.wrap ((x : Int) * (y : Int)) = ((x * y % 18446744073709551616 : Nat) : Int)) := by
    show _ = _
    rw [← Int.natCast_mul, wrap_any]
  go_enter Tryz.func126, Tryz.ntmps126
  go_wp2
  go_ret2
  refine ⟨?_, rfl⟩
  rw [HF.out, HL.out]
  rfl
end Go.Proofs.YtcdifnnbbppbgaaGreatDoor
