/- CheckParts: the law. -/
import Derived.Test.YtlhiedlpjefbnaaDoorChS
namespace Go.Proofs.YtlhiedlpjefbnaaDoor
set_option linter.unusedVariables false
set_option linter.unusedSimpArgs false
open Go.RowKit Go.Shelf

theorem chk_zero {fs : List Fun} {g k : Nat} (h : Chk fs g k 0) : ¬ 20000 < fs.length ∧ ∀ n, n < fs.length → fnP fs n (fs.getD n noFun) = none := by
  rcases h with ⟨_, _, _, h⟩ | ⟨hb, ⟨_, _, _, h⟩ | ⟨_, h, _⟩⟩
  · omega
  · exact ⟨fun h => hb (.inr h), h⟩
  · omega
end Go.Proofs.YtlhiedlpjefbnaaDoor
