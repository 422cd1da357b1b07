/- utf8.AppendRune behind a row of bytes, at every code point. -/
import Derived.Test.YthomeimnhipilaaDoorPt
namespace Go.Proofs.YthomeimnhipilaaDoor
set_option linter.unusedVariables false
open Go.RowKit

end Go.Proofs.YthomeimnhipilaaDoor
