/- utf8.AppendRune behind a row of bytes, at every code point. -/
import Derived.Test.YtcagfjogfbddeaaDoorPt
namespace Go.Proofs.YtcagfjogfbddeaaDoor
set_option linter.unusedVariables false
open Go.RowKit

end Go.Proofs.YtcagfjogfbddeaaDoor
