/- Package code's reader: flags, texts, bits, constants, tries, captures. -/
import Derived.Test.YtlhiedlpjefbnaaDoorCdB
namespace Go.Proofs.YtlhiedlpjefbnaaDoor
set_option linter.unusedVariables false
open Go.RowKit

end Go.Proofs.YtlhiedlpjefbnaaDoor
