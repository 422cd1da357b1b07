/- units.Point and lintelref01.Point: the units of a number. -/
import Derived.Test.YtllglkegdlcgcaaGreatDoorMake
namespace Go.Proofs.YtllglkegdlcgcaaGreatDoor
set_option linter.unusedVariables false
open Go.RowKit

set_option maxHeartbeats 400000 in
set_option maxRecDepth 100000 in
theorem point_bad (r : Int) (h : r < 0 ∨ 1114111 < r) (w : World) :
    Calls Tryz.prog 78 #[.int .i32 r] w fun e w' => e = .returned (.string ⟨#[]⟩) ∧ w' = w := by
  rcases h with h | h
  · go_enter Tryz.func78, Tryz.ntmps78
    go_wp2
    go_ret
    exact ⟨rfl, rfl⟩
  · have h' : ¬ r < 0 := by omega
    go_enter Tryz.func78, Tryz.ntmps78
    go_wp2
    go_ret
    exact ⟨rfl, rfl⟩

set_option maxHeartbeats 400000 in
set_option maxRecDepth 100000 in
theorem point_core (z : Int) (bs : List UInt8) (h0 : 0 ≤ z) (h1 : z ≤ 1114111) (w : World)
    (C : Hid (∀ W : World, w.heap.size ≤ W.heap.size → Calls Tryz.prog 27 #[.slice none 0 0, .int .i32 z] W fun e w' => ∃ v', e = .returned v' ∧ w'.ownsRow w.heap.size 5 1 v' bs.length (Lib.byteCells bs) ∧ Below w.heap.size W w')) :
    Calls Tryz.prog 78 #[.int .i32 z] w fun e w' => e = .returned (.string ⟨bs.toArray⟩) ∧ Below w.heap.size w w' := by
  go_enter Tryz.func78, Tryz.ntmps78
  go_wp2_with fail
  refine (C.out _ (Nat.le_refl _)).mono ?_
  rintro e w1 ⟨v1, rfl, o1, b1⟩
  have hcv := conv_row o1 28 Tryz.underlying28
  go_wp2
  go_ret
  exact ⟨rfl, b1⟩

theorem point_any (r : Nat) (h : r ≤ 1114111) (w : World) :
    Calls Tryz.prog 78 #[.int .i32 r] w fun e w' => e = .returned (.string ⟨(pb r).toArray⟩) ∧ Below w.heap.size w w' := by
  refine point_core r (pb r) (by omega) (by omega) w ?_
  intro W hW
  refine (appendPoint_any w.heap.size (.slice none 0 0) 0 [] r h W (World.ownsRow_nil _ _ _ _) (by omega) hW).mono ?_
  rintro e w1 ⟨v1, rfl, o1, k1⟩
  refine ⟨v1, rfl, ?_, k1.1⟩
  simpa using o1

end Go.Proofs.YtllglkegdlcgcaaGreatDoor
