/- utf8.AppendRune behind a row of bytes, at every code point. -/
import Derived.Test.YtoonaljmdiideaaPt
namespace Go.Proofs.Ytoonaljmdiideaa
set_option linter.unusedVariables false
open Go.RowKit

end Go.Proofs.Ytoonaljmdiideaa
