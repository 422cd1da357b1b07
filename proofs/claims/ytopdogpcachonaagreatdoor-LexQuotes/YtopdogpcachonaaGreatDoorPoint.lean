/- units.Point and lintelref01.Point: the units of a number. -/
import Derived.Test.YtopdogpcachonaaGreatDoorMake
namespace Go.Proofs.YtopdogpcachonaaGreatDoor
set_option linter.unusedVariables false
open Go.RowKit

set_option maxHeartbeats 400000 in
set_option maxRecDepth 100000 in
theorem point_bad (r : Int) (h : r < 0 ∨ 1114111 < r) (w : World) :
    Calls Tryz.prog 127 #[.int .i32 r] w fun e w' => e = .returned (.string ⟨#[]⟩) ∧ w' = w := by
  rcases h with h | h
  · go_enter Tryz.func127, Tryz.ntmps127
    go_wp2
    go_ret
    exact ⟨rfl, rfl⟩
  · have h' : ¬ r < 0 := by omega
    go_enter Tryz.func127, Tryz.ntmps127
    go_wp2
    go_ret
    exact ⟨rfl, rfl⟩

set_option maxHeartbeats 400000 in
set_option maxRecDepth 100000 in
theorem point_core (z : Int) (bs : List UInt8) (h0 : 0 ≤ z) (h1 : z ≤ 1114111) (w : World)
    (C : Hid (∀ W : World, w.heap.size ≤ W.heap.size → Calls Tryz.prog 56 #[.slice none 0 0, .int .i32 z] W fun e w' => ∃ v', e = .returned v' ∧ w'.ownsRow w.heap.size 5 1 v' bs.length (Lib.byteCells bs) ∧ Below w.heap.size W w')) :
    Calls Tryz.prog 127 #[.int .i32 z] w fun e w' => e = .returned (.string ⟨bs.toArray⟩) ∧ Below w.heap.size w w' := by
  go_enter Tryz.func127, Tryz.ntmps127
  go_wp2_with fail
  refine (C.out _ (Nat.le_refl _)).mono ?_
  rintro e w1 ⟨v1, rfl, o1, b1⟩
  have hcv := conv_row o1 22 Tryz.underlying22
  go_wp2
  go_ret
  exact ⟨rfl, b1⟩

theorem point_any (r : Nat) (h : r ≤ 1114111) (w : World) :
    Calls Tryz.prog 127 #[.int .i32 r] w fun e w' => e = .returned (.string ⟨(pb r).toArray⟩) ∧ Below w.heap.size w w' := by
  refine point_core r (pb r) (by omega) (by omega) w ?_
  intro W hW
  refine (appendPoint_any w.heap.size (.slice none 0 0) 0 [] r h W (World.ownsRow_nil _ _ _ _) (by omega) hW).mono ?_
  rintro e w1 ⟨v1, rfl, o1, k1⟩
  refine ⟨v1, rfl, ?_, k1.1⟩
  simpa using o1

set_option maxHeartbeats 400000 in
set_option maxRecDepth 100000 in
theorem rpoint_bad (r : Int) (h : r < 0 ∨ 1114111 < r) (w : World) :
    Calls Tryz.prog 26 #[.int .i32 r] w fun e w' => e = .returned (.slice none 0 0) ∧ w' = w := by
  rcases h with h | h
  · go_enter Tryz.func26, Tryz.ntmps26
    go_wp2
    go_ret
    exact ⟨rfl, rfl⟩
  · have h' : ¬ r < 0 := by omega
    go_enter Tryz.func26, Tryz.ntmps26
    go_wp2
    go_ret
    exact ⟨rfl, rfl⟩

set_option maxHeartbeats 400000 in
set_option maxRecDepth 100000 in
theorem rpoint_one (r : Int) (h0 : 0 ≤ r) (h1 : r < 65536) (w : World) :
    Calls Tryz.prog 26 #[.int .i32 r] w fun e w' => e = .returned (.slice (some ⟨w.heap.size, 0, none⟩) 1 1) ∧ w' = w.alloc (.cells #[.int .u16 r] 45) := by
  go_enter Tryz.func26, Tryz.ntmps26
  go_wp2
  go_ret
  exact ⟨rfl, rfl⟩

set_option maxHeartbeats 400000 in
set_option maxRecDepth 100000 in
theorem rpoint_two (r : Int) (h0 : 65536 ≤ r) (h1 : r ≤ 1114111) (w : World) :
    Calls Tryz.prog 26 #[.int .i32 r] w fun e w' => e = .returned (.slice (some ⟨w.heap.size, 0, none⟩) 2 2) ∧ w' = w.alloc (.cells #[.int .u16 (55296 + (r - 65536) / 1024), .int .u16 (56320 + (r - 65536) % 1024)] 45) := by
  go_enter Tryz.func26, Tryz.ntmps26
  go_wp2
  go_ret
  exact ⟨rfl, rfl⟩

/-- lintelref01.Point at a code point: a slice of its units, in memory of its own. -/
theorem rpoint_any (r : Nat) (h : r ≤ 1114111) (w : World) :
    Calls Tryz.prog 26 #[.int .i32 r] w fun e w' => e = .returned (.slice (some ⟨w.heap.size, 0, none⟩) (pu r).length (pu r).length) ∧ w' = w.alloc (.cells (u16c (pu r)).toArray 45) := by
  by_cases h1 : r < 65536
  · rw [show pu r = [r] from by simp [pu, h1]]
    exact rpoint_one r (by omega) (by omega) w
  · rw [show pu r = [55296 + (r - 65536) / 1024, 56320 + (r - 65536) % 1024] from by simp [pu, h1]]
    have e1 : ((55296 + (r - 65536) / 1024 : Nat) : Int) = 55296 + ((r : Int) - 65536) / 1024 := by omega
    have e2 : ((56320 + (r - 65536) % 1024 : Nat) : Int) = 56320 + ((r : Int) - 65536) % 1024 := by omega
    have := rpoint_two r (by omega) (by omega) w
    rw [← e1, ← e2] at this
    exact this

end Go.Proofs.YtopdogpcachonaaGreatDoor
