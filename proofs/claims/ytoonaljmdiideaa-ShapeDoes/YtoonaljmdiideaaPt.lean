/- Contracts of code points: at a place of a text, and behind a row of bytes. -/
import Derived.Test.YtoonaljmdiideaaBase
namespace Go.Proofs.Ytoonaljmdiideaa
set_option linter.unusedVariables false
open Go.RowKit

theorem isHi_iff (u : Nat) : isHi u = true ↔ 55296 ≤ u ∧ u < 56320 := by simp [isHi]
theorem isLo_iff (u : Nat) : isLo u = true ↔ 56320 ≤ u ∧ u < 57344 := by simp [isLo]

end Go.Proofs.Ytoonaljmdiideaa
