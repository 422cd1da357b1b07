/- units.Point and lintelref01.Point: the units of a number. -/
import Derived.Test.YtjnbnejfdleocaaGreatDoorMake
namespace Go.Proofs.YtjnbnejfdleocaaGreatDoor
set_option linter.unusedVariables false
open Go.RowKit

set_option maxHeartbeats 400000 in
set_option maxRecDepth 100000 in
theorem rpoint_bad (r : Int) (h : r < 0 ∨ 1114111 < r) (w : World) :
    Calls Tryz.prog 56 #[.int .i32 r] w fun e w' => e = .returned (.slice none 0 0) ∧ w' = w := by
  rcases h with h | h
  · go_enter Tryz.func56, Tryz.ntmps56
    go_wp2
    go_ret
    exact ⟨rfl, rfl⟩
  · have h' : ¬ r < 0 := by omega
    go_enter Tryz.func56, Tryz.ntmps56
    go_wp2
    go_ret
    exact ⟨rfl, rfl⟩

set_option maxHeartbeats 400000 in
set_option maxRecDepth 100000 in
theorem rpoint_one (r : Int) (h0 : 0 ≤ r) (h1 : r < 65536) (w : World) :
    Calls Tryz.prog 56 #[.int .i32 r] w fun e w' => e = .returned (.slice (some ⟨w.heap.size, 0, none⟩) 1 1) ∧ w' = w.alloc (.cells #[.int .u16 r] 27) := by
  go_enter Tryz.func56, Tryz.ntmps56
  go_wp2
  go_ret
  exact ⟨rfl, rfl⟩

set_option maxHeartbeats 400000 in
set_option maxRecDepth 100000 in
theorem rpoint_two (r : Int) (h0 : 65536 ≤ r) (h1 : r ≤ 1114111) (w : World) :
    Calls Tryz.prog 56 #[.int .i32 r] w fun e w' => e = .returned (.slice (some ⟨w.heap.size, 0, none⟩) 2 2) ∧ w' = w.alloc (.cells #[.int .u16 (55296 + (r - 65536) / 1024), .int .u16 (56320 + (r - 65536) % 1024)] 27) := by
  go_enter Tryz.func56, Tryz.ntmps56
  go_wp2
  go_ret
  exact ⟨rfl, rfl⟩

/-- lintelref01.Point at a code point: a slice of its units, in memory of its own. -/
theorem rpoint_any (r : Nat) (h : r ≤ 1114111) (w : World) :
    Calls Tryz.prog 56 #[.int .i32 r] w fun e w' => e = .returned (.slice (some ⟨w.heap.size, 0, none⟩) (pu r).length (pu r).length) ∧ w' = w.alloc (.cells (u16c (pu r)).toArray 27) := by
  by_cases h1 : r < 65536
  · rw [show pu r = [r] from by simp [pu, h1]]
    exact rpoint_one r (by omega) (by omega) w
  · rw [show pu r = [55296 + (r - 65536) / 1024, 56320 + (r - 65536) % 1024] from by simp [pu, h1]]
    have e1 : ((55296 + (r - 65536) / 1024 : Nat) : Int) = 55296 + ((r : Int) - 65536) / 1024 := by omega
    have e2 : ((56320 + (r - 65536) % 1024 : Nat) : Int) = 56320 + ((r : Int) - 65536) % 1024 := by omega
    have := rpoint_two r (by omega) (by omega) w
    rw [← e1, ← e2] at this
    exact this

end Go.Proofs.YtjnbnejfdleocaaGreatDoor
