/- Contracts of code points: at a place of a text, and behind a row of bytes. -/
import Derived.Test.YtbkkkpfoaggejaaGreatDoorBase
namespace Go.Proofs.YtbkkkpfoaggejaaGreatDoor
set_option linter.unusedVariables false
open Go.RowKit

set_option maxHeartbeats 400000 in
set_option maxRecDepth 100000 in
theorem appendPoint_core (R1 R : Value → World → Prop) (v : Value) (r : Int) (hr : 65536 ≤ r) (hr2 : r ≤ 1114111) (w : World)
    (C1 : Hid (Calls Tryz.prog 117 #[v, .int .u16 (55296 + (r - 65536) / 1024)] w fun e w' => ∃ v1, e = .returned v1 ∧ R1 v1 w'))
    (C2 : Hid (∀ v1 w1, R1 v1 w1 → Calls Tryz.prog 117 #[v1, .int .u16 (56320 + (r - 65536) % 1024)] w1 fun e w' => ∃ v2, e = .returned v2 ∧ R v2 w')) :
    Calls Tryz.prog 101 #[v, .int .i32 r] w fun e w' => ∃ v', e = .returned v' ∧ R v' w' := by
  have hm : bits BinOp.and IntKind.i32 (r - 65536) 1023 = (r - 65536) % 1024 := bits_mask .i32 31 (by decide) wraps_i32 10 (by decide) (r - 65536) (by omega) (by omega)
  go_enter Tryz.func101, Tryz.ntmps101
  go_wp2_with fail
  refine C1.out.mono ?_
  rintro e w1 ⟨v1, rfl, r1⟩
  go_wp2_with fail
  refine (C2.out v1 w1 r1).mono ?_
  rintro e w2 ⟨v2, rfl, r2⟩
  go_wp2
  go_ret
  exact ⟨v2, rfl, r2⟩

theorem appendPoint_any (B : Nat) (v : Value) (n : Nat) (xs : List Value) (r : Nat) (h2 : r ≤ 1114111) (w : World) (hown : w.ownsRow B 5 1 v n xs) (hlen : n + 4 ≤ 140737488355328) (hBw : B ≤ w.heap.size) :
    Calls Tryz.prog 101 #[v, .int .i32 r] w fun e w' => ∃ v', e = .returned v' ∧ w'.ownsRow B 5 1 v' (n + (pb r).length) (xs ++ Lib.byteCells (pb r)) ∧ Kept B 5 w w' := by
  by_cases h1 : r < 65536
  · exact appendPoint_low B v n xs r h1 w hown hlen hBw
  · rw [pb_high h1]
    have e1 : ((55296 + (r - 65536) / 1024 : Nat) : Int) = 55296 + ((r : Int) - 65536) / 1024 := by omega
    have e2 : ((56320 + (r - 65536) % 1024 : Nat) : Int) = 56320 + ((r : Int) - 65536) % 1024 := by omega
    refine (appendPoint_core
      (fun v1 w1 => w1.ownsRow B 5 1 v1 (n + 2) (xs ++ Lib.byteCells (ub (55296 + (r - 65536) / 1024))) ∧ Kept B 5 w w1)
      (fun v2 w2 => w2.ownsRow B 5 1 v2 (n + 2 + 2) ((xs ++ Lib.byteCells (ub (55296 + (r - 65536) / 1024))) ++ Lib.byteCells (ub (56320 + (r - 65536) % 1024))) ∧ Kept B 5 w w2)
      v r (by omega) (by omega) w ?_ ?_).mono ?_
    · rw [← e1]
      exact appendUnit_any B v n xs _ (by omega) w hown (by omega) hBw
    · intro v1 w1 r1
      rw [← e2]
      refine (appendUnit_any B v1 (n + 2) _ _ (by omega) w1 r1.1 (by omega) (Nat.le_trans hBw r1.2.le)).mono ?_
      rintro e w2 ⟨v2, rfl, o2, k2⟩
      exact ⟨v2, rfl, o2, r1.2.trans k2⟩
    · rintro e w2 ⟨v2, rfl, o2, k2⟩
      refine ⟨v2, rfl, ?_, k2⟩
      rw [byteCells_append', ← List.append_assoc]
      exact o2

set_option maxHeartbeats 400000 in
set_option maxRecDepth 100000 in
theorem pointAt_nohi (s : ByteArray) (i : Nat) (hi lo : Nat) (bl : Bool) (w : World) (hhi : (hi : Int) < 65536) (hlo : (lo : Int) < 65536) (hb : (i : Int) < 4611686018427387904)
    (C1 : Hid (∀ w, Calls Tryz.prog 194 #[.string s, .int .i64 i] w fun e w' => e = .returned (.int .u16 hi) ∧ ∃ n, w' = w.drewN n))
    (C2 : Hid (∀ w, Calls Tryz.prog 169 #[.string s, .int .i64 ((i : Int) + 1)] w fun e w' => e = .returned (.tuple #[.int .u16 lo, .bool bl]) ∧ ∃ n, w' = w.drewN n))
    (h1 : isHi hi = false) :
    Calls Tryz.prog 167 #[.string s, .int .i64 i] w fun e w' => e = .returned (.tuple #[.int .i32 hi, .int .i64 1]) ∧ ∃ n, w' = w.drewN n := by
  go_enter Tryz.func167, Tryz.ntmps167
  go_wp2_with (first | (go_at_call 194; refine (C1.out _).mono ?_; rintro e w' ⟨rfl, nq, rfl⟩) | (go_at_call 169; refine (C2.out _).mono ?_; rintro e w' ⟨rfl, nq2, rfl⟩) | (go_at_call 195; refine (isHigh_any _ _).mono ?_; rintro e w' ⟨rfl, rfl⟩) | (go_at_call 196; refine (isLow_any _ _).mono ?_; rintro e w' ⟨rfl, rfl⟩))
  go_ret2
  exact ⟨rfl, _, rfl⟩

set_option maxHeartbeats 400000 in
set_option maxRecDepth 100000 in
theorem pointAt_nolo (s : ByteArray) (i : Nat) (hi lo : Nat) (bl : Bool) (w : World) (hhi : (hi : Int) < 65536) (hlo : (lo : Int) < 65536) (hb : (i : Int) < 4611686018427387904)
    (C1 : Hid (∀ w, Calls Tryz.prog 194 #[.string s, .int .i64 i] w fun e w' => e = .returned (.int .u16 hi) ∧ ∃ n, w' = w.drewN n))
    (C2 : Hid (∀ w, Calls Tryz.prog 169 #[.string s, .int .i64 ((i : Int) + 1)] w fun e w' => e = .returned (.tuple #[.int .u16 lo, .bool bl]) ∧ ∃ n, w' = w.drewN n))
    (h1 : isHi hi = true) (h2 : isLo lo = false) :
    Calls Tryz.prog 167 #[.string s, .int .i64 i] w fun e w' => e = .returned (.tuple #[.int .i32 hi, .int .i64 1]) ∧ ∃ n, w' = w.drewN n := by
  go_enter Tryz.func167, Tryz.ntmps167
  go_wp2_with (first | (go_at_call 194; refine (C1.out _).mono ?_; rintro e w' ⟨rfl, nq, rfl⟩) | (go_at_call 169; refine (C2.out _).mono ?_; rintro e w' ⟨rfl, nq2, rfl⟩) | (go_at_call 195; refine (isHigh_any _ _).mono ?_; rintro e w' ⟨rfl, rfl⟩) | (go_at_call 196; refine (isLow_any _ _).mono ?_; rintro e w' ⟨rfl, rfl⟩))
  go_ret2
  exact ⟨rfl, _, rfl⟩

set_option maxHeartbeats 400000 in
set_option maxRecDepth 100000 in
theorem pointAt_pair (s : ByteArray) (i : Nat) (hi lo : Nat) (bl : Bool) (w : World) (hhi : (hi : Int) < 65536) (hlo : (lo : Int) < 65536) (hb : (i : Int) < 4611686018427387904)
    (C1 : Hid (∀ w, Calls Tryz.prog 194 #[.string s, .int .i64 i] w fun e w' => e = .returned (.int .u16 hi) ∧ ∃ n, w' = w.drewN n))
    (C2 : Hid (∀ w, Calls Tryz.prog 169 #[.string s, .int .i64 ((i : Int) + 1)] w fun e w' => e = .returned (.tuple #[.int .u16 lo, .bool bl]) ∧ ∃ n, w' = w.drewN n))
    (h1 : isHi hi = true) (h2 : isLo lo = true) (b1 : (55296 : Int) ≤ hi) (b2 : (hi : Int) < 56320) (b3 : (56320 : Int) ≤ lo) (b4 : (lo : Int) < 57344) :
    Calls Tryz.prog 167 #[.string s, .int .i64 i] w fun e w' => e = .returned (.tuple #[.int .i32 (65536 + ((hi : Int) - 55296) * 1024 + ((lo : Int) - 56320)), .int .i64 2]) ∧ ∃ n, w' = w.drewN n := by
  go_enter Tryz.func167, Tryz.ntmps167
  go_wp2_with (first | (go_at_call 194; refine (C1.out _).mono ?_; rintro e w' ⟨rfl, nq, rfl⟩) | (go_at_call 169; refine (C2.out _).mono ?_; rintro e w' ⟨rfl, nq2, rfl⟩) | (go_at_call 195; refine (isHigh_any _ _).mono ?_; rintro e w' ⟨rfl, rfl⟩) | (go_at_call 196; refine (isLow_any _ _).mono ?_; rintro e w' ⟨rfl, rfl⟩))
  go_ret2
  exact ⟨rfl, _, rfl⟩

theorem isHi_iff (u : Nat) : isHi u = true ↔ 55296 ≤ u ∧ u < 56320 := by simp [isHi]
theorem isLo_iff (u : Nat) : isLo u = true ↔ 56320 ≤ u ∧ u < 57344 := by simp [isLo]

theorem pointAt_any (s : ByteArray) (i : Nat) (w : World) (hs : s.size ≤ maxLen) (hi : i < s.size / 2) :
    Calls Tryz.prog 167 #[.string s, .int .i64 i] w fun e w' => e = .returned (.tuple #[.int .i32 (ptAt s i), .int .i64 (szAt s i)]) ∧ ∃ n, w' = w.drewN n := by
  have hb : (i : Int) < 4611686018427387904 := by unfold maxLen at hs; omega
  have C1 : Hid (∀ w, Calls Tryz.prog 194 #[.string s, .int .i64 i] w fun e w' => e = .returned (.int .u16 (un s i)) ∧ ∃ n, w' = w.drewN n) := fun w => unit_any s i w hs hi
  have l1 := un_lt s i
  have l2 := un_lt s (i + 1)
  by_cases hin : i + 1 < s.size / 2
  · have C2 : Hid (∀ w, Calls Tryz.prog 169 #[.string s, .int .i64 ((i : Int) + 1)] w fun e w' => e = .returned (.tuple #[.int .u16 (un s (i + 1)), .bool true]) ∧ ∃ n, w' = w.drewN n) := fun w => at_in s (i + 1) w hs hin
    cases h1 : isHi (un s i)
    · have hp : pairAt s i = false := by simp [pairAt, h1]
      rw [show ptAt s i = un s i from by simp [ptAt, hp], show szAt s i = 1 from by simp [szAt, hp]]
      exact pointAt_nohi s i _ _ _ w (by omega) (by omega) hb C1 C2 h1
    · cases h2 : isLo (un s (i + 1))
      · have hp : pairAt s i = false := by simp [pairAt, h2]
        rw [show ptAt s i = un s i from by simp [ptAt, hp], show szAt s i = 1 from by simp [szAt, hp]]
        exact pointAt_nolo s i _ _ _ w (by omega) (by omega) hb C1 C2 h1 h2
      · have hp : pairAt s i = true := by simp [pairAt, h1, h2, hin]
        have g1 := (isHi_iff _).1 h1
        have g2 := (isLo_iff _).1 h2
        rw [show szAt s i = 2 from by simp [szAt, hp], show ((ptAt s i : Nat) : Int) = 65536 + ((un s i : Int) - 55296) * 1024 + ((un s (i + 1) : Int) - 56320) from by
          rw [show ptAt s i = 65536 + (un s i - 55296) * 1024 + (un s (i + 1) - 56320) from by simp [ptAt, hp]]; omega]
        exact pointAt_pair s i _ _ _ w (by omega) (by omega) hb C1 C2 h1 h2 (by omega) (by omega) (by omega) (by omega)
  · have C2 : Hid (∀ w, Calls Tryz.prog 169 #[.string s, .int .i64 ((i : Int) + 1)] w fun e w' => e = .returned (.tuple #[.int .u16 ((0 : Nat) : Int), .bool false]) ∧ ∃ n, w' = w.drewN n) := fun w => at_out s ((i : Int) + 1) w hs (.inr (by omega))
    have hp : pairAt s i = false := by simp [pairAt, hin]
    rw [show ptAt s i = un s i from by simp [ptAt, hp], show szAt s i = 1 from by simp [szAt, hp]]
    cases h1 : isHi (un s i)
    · exact pointAt_nohi s i _ _ _ w (by omega) (by omega) hb C1 C2 h1
    · exact pointAt_nolo s i _ _ _ w (by omega) (by omega) hb C1 C2 h1 (by decide)

end Go.Proofs.YtbkkkpfoaggejaaGreatDoor
