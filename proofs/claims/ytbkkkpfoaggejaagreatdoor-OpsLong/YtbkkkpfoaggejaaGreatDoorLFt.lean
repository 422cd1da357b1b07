/- Small facts on floats for reading 1.5. -/
import Derived.Test.YtbkkkpfoaggejaaGreatDoorLaidN
import Derived.Test.YtbkkkpfoaggejaaGreatDoorFl
namespace Go.Proofs.YtbkkkpfoaggejaaGreatDoor
set_option linter.unusedVariables false
open Go.RowKit Fl

theorem lquo (t : TypeId) (g h k : Nat) (W : World) (e : Ieee.double.div g h = some k) : (binOp .quo t (.float .f64 g) (.float .f64 h)).run Tryz.prog W = .ok (.float .f64 k) W := run_float_arith W .quo t .f64 g h k e
set_option maxHeartbeats 400000 in
theorem lbool2 (b : Bool) (w : World) :
    Calls Tryz.prog 291 #[.bool b] w fun e w' => e = .returned (.int .u64 (b.toNat : Nat)) ∧ w' = w := by
  cases b
  all_goals
    go_enter Tryz.func291, Tryz.ntmps291
    go_wp2
    go_ret
    exact ⟨rfl, rfl⟩
end Go.Proofs.YtbkkkpfoaggejaaGreatDoor
