/- lintelref03.Blank, front, Trim: the document's blanks. -/
import Derived.Test.YtbkkkpfoaggejaaGreatDoorRUnits
import Derived.Test.YtbkkkpfoaggejaaGreatDoorMake
namespace Go.Proofs.YtbkkkpfoaggejaaGreatDoor
set_option linter.unusedVariables false
open Go.RowKit

def blanks : List Nat := [32, 160, 5760, 8232, 8233, 8239, 8287, 12288, 65279]
def blankB (u : Nat) : Bool := decide ((9 ≤ u ∧ u ≤ 13) ∨ (8192 ≤ u ∧ u ≤ 8202) ∨ u ∈ blanks)

def blankW (w : World) : World := w.alloc (.cells #[.int .u16 32, .int .u16 160, .int .u16 5760, .int .u16 8232, .int .u16 8233, .int .u16 8239, .int .u16 8287, .int .u16 12288, .int .u16 65279] 110)
theorem blankW_cell (w : World) (k : Nat) (h : k < 9) : (blankW w).cell? ⟨w.heap.size, k, none⟩ = some (.int .u16 (blanks.getD k 0 : Nat)) := by
  have h9 : k = 0 ∨ k = 1 ∨ k = 2 ∨ k = 3 ∨ k = 4 ∨ k = 5 ∨ k = 6 ∨ k = 7 ∨ k = 8 := by omega
  rcases h9 with rfl | rfl | rfl | rfl | rfl | rfl | rfl | rfl | rfl
  all_goals
    unfold blankW
    simp [go_sem, blanks]

end Go.Proofs.YtbkkkpfoaggejaaGreatDoor
