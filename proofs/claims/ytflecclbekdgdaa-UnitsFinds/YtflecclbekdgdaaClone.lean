/- strings.Clone: the same bytes, in memory of their own. -/
import Derived.Test.YtflecclbekdgdaaBase
import Derived.Lib.BufferWrite
import Derived.Lib.UnsafeStr
import Derived.Laws.MakeOwn
namespace Go.Proofs.Ytflecclbekdgdaa
set_option linter.unusedVariables false
open Go.RowKit

end Go.Proofs.Ytflecclbekdgdaa
