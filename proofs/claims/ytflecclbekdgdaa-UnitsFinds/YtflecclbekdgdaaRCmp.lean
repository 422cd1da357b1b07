/- lintelref01.Compare: the document's order of texts. -/
import Derived.Test.YtflecclbekdgdaaCmp
import Derived.Test.YtflecclbekdgdaaOwn
namespace Go.Proofs.Ytflecclbekdgdaa
set_option linter.unusedVariables false
open Go.RowKit

end Go.Proofs.Ytflecclbekdgdaa
