/- utf8.AppendRune behind a row of bytes, at every code point. -/
import Derived.Test.YtkiofkppdpkboaaDoorPt
namespace Go.Proofs.YtkiofkppdpkboaaDoor
set_option linter.unusedVariables false
open Go.RowKit

end Go.Proofs.YtkiofkppdpkboaaDoor
