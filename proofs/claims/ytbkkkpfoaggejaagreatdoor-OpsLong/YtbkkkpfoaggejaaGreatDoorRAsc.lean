/- lintelref01.Ascii. -/
import Derived.Test.YtbkkkpfoaggejaaGreatDoorSb
import Derived.Test.YtbkkkpfoaggejaaGreatDoorROf
namespace Go.Proofs.YtbkkkpfoaggejaaGreatDoor
set_option linter.unusedVariables false
open Go.RowKit

set_option maxHeartbeats 400000 in
theorem rascii_any (s : ByteArray) (w : World) (hs : (s.size : Int) ≤ 524288) :
    Calls Tryz.prog 25 #[.string s] w fun e w' => e = .returned (.string (ofFst (ofS s))) ∧ Below w.heap.size w w' := by
  have HO := Hid.mk' (rof_any s w hs)
  generalize ofS s = r at HO ⊢
  go_enter Tryz.func25, Tryz.ntmps25
  go_wp2_with fail
  refine HO.out.mono ?_
  rintro e w1 ⟨rfl, b1⟩
  cases r with
  | ok bs =>
    dsimp only [ofEnd, ofFst]
    go_wp2
    go_ret
    exact ⟨rfl, b1⟩
  | error n =>
    dsimp only [ofEnd, ofFst]
    go_wp2
    go_ret
    exact ⟨rfl, b1⟩


end Go.Proofs.YtbkkkpfoaggejaaGreatDoor
