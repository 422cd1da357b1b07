/- utf8.AppendRune behind a row of bytes, at every code point. -/
import Derived.Test.YtcalbepmhadjfaaDoorPt
namespace Go.Proofs.YtcalbepmhadjfaaDoor
set_option linter.unusedVariables false
open Go.RowKit

end Go.Proofs.YtcalbepmhadjfaaDoor
