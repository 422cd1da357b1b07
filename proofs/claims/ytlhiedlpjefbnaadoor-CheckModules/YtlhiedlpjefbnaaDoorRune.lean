/- utf8.AppendRune behind a row of bytes, at every code point. -/
import Derived.Test.YtlhiedlpjefbnaaDoorPt
namespace Go.Proofs.YtlhiedlpjefbnaaDoor
set_option linter.unusedVariables false
open Go.RowKit

end Go.Proofs.YtlhiedlpjefbnaaDoor
