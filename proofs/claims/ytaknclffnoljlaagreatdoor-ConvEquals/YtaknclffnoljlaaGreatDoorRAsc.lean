/- lintelref01.Ascii. -/
import Derived.Test.YtaknclffnoljlaaGreatDoorSb
import Derived.Test.YtaknclffnoljlaaGreatDoorROf
namespace Go.Proofs.YtaknclffnoljlaaGreatDoor
set_option linter.unusedVariables false
open Go.RowKit

set_option maxHeartbeats 400000 in
theorem rascii_any (s : ByteArray) (w : World) (hs : (s.size : Int) ≤ 524288) :
    Calls Tryz.prog 39 #[.string s] w fun e w' => e = .returned (.string (ofFst (ofS s))) ∧ Below w.heap.size w w' := by
  have HO := Hid.mk' (rof_any s w hs)
  generalize ofS s = r at HO ⊢
  go_enter Tryz.func39, Tryz.ntmps39
  go_wp2_with fail
  refine HO.out.mono ?_
  rintro e w1 ⟨rfl, b1⟩
  cases r with
  | ok bs =>
    dsimp only [ofEnd, ofFst]
    go_wp2
    go_ret
    exact ⟨rfl, b1⟩
  | error n =>
    dsimp only [ofEnd, ofFst]
    go_wp2
    go_ret
    exact ⟨rfl, b1⟩


end Go.Proofs.YtaknclffnoljlaaGreatDoor
