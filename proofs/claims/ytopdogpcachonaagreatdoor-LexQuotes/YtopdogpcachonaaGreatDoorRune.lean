/- utf8.AppendRune behind a row of bytes, at every code point. -/
import Derived.Test.YtopdogpcachonaaGreatDoorPt
namespace Go.Proofs.YtopdogpcachonaaGreatDoor
set_option linter.unusedVariables false
open Go.RowKit

end Go.Proofs.YtopdogpcachonaaGreatDoor
