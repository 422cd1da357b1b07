/- utf8.AppendRune behind a row of bytes, at every code point. -/
import Derived.Test.YtepkdeckmekphaaPt
namespace Go.Proofs.Ytepkdeckmekphaa
set_option linter.unusedVariables false
open Go.RowKit

end Go.Proofs.Ytepkdeckmekphaa
