/- Package code's reader: flags, texts, bits, constants, tries, captures. -/
import Derived.Test.YtcalbepmhadjfaaDoorCdB
namespace Go.Proofs.YtcalbepmhadjfaaDoor
set_option linter.unusedVariables false
open Go.RowKit

end Go.Proofs.YtcalbepmhadjfaaDoor
