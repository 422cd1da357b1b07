/- lintelref01.Compare: the document's order of texts. -/
import Derived.Test.YtbkkkpfoaggejaaGreatDoorCut
import Derived.Test.YtbkkkpfoaggejaaGreatDoorOwn
namespace Go.Proofs.YtbkkkpfoaggejaaGreatDoor
set_option linter.unusedVariables false
open Go.RowKit

end Go.Proofs.YtbkkkpfoaggejaaGreatDoor
