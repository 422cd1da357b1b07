/- Contracts of code points: at a place of a text, and behind a row of bytes. -/
import Derived.Test.YtmgngbhkgmkggaaGreatDoorBase
namespace Go.Proofs.YtmgngbhkgmkggaaGreatDoor
set_option linter.unusedVariables false
open Go.RowKit

set_option maxHeartbeats 400000 in
set_option maxRecDepth 100000 in
theorem appendPoint_core (R1 R : Value → World → Prop) (v : Value) (r : Int) (hr : 65536 ≤ r) (hr2 : r ≤ 1114111) (w : World)
    (C1 : Hid (Calls Tryz.prog 114 #[v, .int .u16 (55296 + (r - 65536) / 1024)] w fun e w' => ∃ v1, e = .returned v1 ∧ R1 v1 w'))
    (C2 : Hid (∀ v1 w1, R1 v1 w1 → Calls Tryz.prog 114 #[v1, .int .u16 (56320 + (r - 65536) % 1024)] w1 fun e w' => ∃ v2, e = .returned v2 ∧ R v2 w')) :
    Calls Tryz.prog 105 #[v, .int .i32 r] w fun e w' => ∃ v', e = .returned v' ∧ R v' w' := by
  have hm : bits BinOp.and IntKind.i32 (r - 65536) 1023 = (r - 65536) % 1024 := bits_mask .i32 31 (by decide) wraps_i32 10 (by decide) (r - 65536) (by omega) (by omega)
  go_enter Tryz.func105, Tryz.ntmps105
  go_wp2_with fail
  refine C1.out.mono ?_
  rintro e w1 ⟨v1, rfl, r1⟩
  go_wp2_with fail
  refine (C2.out v1 w1 r1).mono ?_
  rintro e w2 ⟨v2, rfl, r2⟩
  go_wp2
  go_ret
  exact ⟨v2, rfl, r2⟩

theorem appendPoint_any (B : Nat) (v : Value) (n : Nat) (xs : List Value) (r : Nat) (h2 : r ≤ 1114111) (w : World) (hown : w.ownsRow B 5 1 v n xs) (hlen : n + 4 ≤ 140737488355328) (hBw : B ≤ w.heap.size) :
    Calls Tryz.prog 105 #[v, .int .i32 r] w fun e w' => ∃ v', e = .returned v' ∧ w'.ownsRow B 5 1 v' (n + (pb r).length) (xs ++ Lib.byteCells (pb r)) ∧ Kept B 5 w w' := by
  by_cases h1 : r < 65536
  · exact appendPoint_low B v n xs r h1 w hown hlen hBw
  · rw [pb_high h1]
    have e1 : ((55296 + (r - 65536) / 1024 : Nat) : Int) = 55296 + ((r : Int) - 65536) / 1024 := by omega
    have e2 : ((56320 + (r - 65536) % 1024 : Nat) : Int) = 56320 + ((r : Int) - 65536) % 1024 := by omega
    refine (appendPoint_core
      (fun v1 w1 => w1.ownsRow B 5 1 v1 (n + 2) (xs ++ Lib.byteCells (ub (55296 + (r - 65536) / 1024))) ∧ Kept B 5 w w1)
      (fun v2 w2 => w2.ownsRow B 5 1 v2 (n + 2 + 2) ((xs ++ Lib.byteCells (ub (55296 + (r - 65536) / 1024))) ++ Lib.byteCells (ub (56320 + (r - 65536) % 1024))) ∧ Kept B 5 w w2)
      v r (by omega) (by omega) w ?_ ?_).mono ?_
    · rw [← e1]
      exact appendUnit_any B v n xs _ (by omega) w hown (by omega) hBw
    · intro v1 w1 r1
      rw [← e2]
      refine (appendUnit_any B v1 (n + 2) _ _ (by omega) w1 r1.1 (by omega) (Nat.le_trans hBw r1.2.le)).mono ?_
      rintro e w2 ⟨v2, rfl, o2, k2⟩
      exact ⟨v2, rfl, o2, r1.2.trans k2⟩
    · rintro e w2 ⟨v2, rfl, o2, k2⟩
      refine ⟨v2, rfl, ?_, k2⟩
      rw [byteCells_append', ← List.append_assoc]
      exact o2

theorem isHi_iff (u : Nat) : isHi u = true ↔ 55296 ≤ u ∧ u < 56320 := by simp [isHi]
theorem isLo_iff (u : Nat) : isLo u = true ↔ 56320 ≤ u ∧ u < 57344 := by simp [isLo]

end Go.Proofs.YtmgngbhkgmkggaaGreatDoor
