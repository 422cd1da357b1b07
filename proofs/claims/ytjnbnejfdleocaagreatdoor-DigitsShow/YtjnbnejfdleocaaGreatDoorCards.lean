/-
  DERIVED. GIVEN WITH THE SEED: THE CARDS: each row of YtjnbnejfdleocaaGreatDoorRows.lean that lists a variable, with what it lists TIED to the program's text (the seventh form; the later family's looks); each row that meets fmt, with fmt's text TOLD by the authors' own Lean function (tested against real Go, not proved from fmt's source: count such statements apart). THE CARD IS WHAT COUNTS. Prove the row's statement (the work); the ties are given (YtjnbnejfdleocaaGreatDoorTie.lean); close each card by the builder's one call (the guide's Derived/Test/ToyasCard.lean, 'card_holds'). Laid BY PROGRAM, IN A SANDBOX (cutbox-door.mjs). By AI agents, Wed Nov 11 2026. No macro, syntax, notation, axiom, sorry.
-/
import Derived.Test.YtjnbnejfdleocaaGreatDoorRows
import GoSem.ClaimSeven
namespace Go.Proofs.YtjnbnejfdleocaaGreatDoor
namespace Rows

/-- THE TIED CARD OF 'lintellaw03.DigitsShow'. -/
def digitsShowCard : Claim7 := { stood := { row := digitsShowRow, standIns := [], harness := (true, "bc8cf95d266d23fcf5df7b7a13ef0e9ee0aeba3b07aa9bf2a6318c0874328ad9"), looks := true }, kinds := [], alts := [], laidByText := true, laidKinds := [.data, .data, .widerDeep, .widerDeep, .data, .data, .data, .data, .data, .data, .sentinel, .sentinel, .data, .pinned, .pinned, .pinned], laidTests := true, laidLooks := .later }
def DigitsShowCardSaid : Prop := Claim7.holds Tryz.pinned (.plain (OpenSpec.ofChange digitsShowSpec)) digitsShowCard

/-- THE TIED CARD OF 'lintellaw03.DigitsBlanks'. -/
def digitsBlanksCard : Claim7 := { stood := { row := digitsBlanksRow, standIns := [], harness := (true, "bc8cf95d266d23fcf5df7b7a13ef0e9ee0aeba3b07aa9bf2a6318c0874328ad9"), looks := true }, kinds := [], alts := [], laidByText := true, laidKinds := [.data, .data, .widerDeep, .widerDeep, .data, .data, .data, .data, .data, .data, .sentinel, .sentinel, .data, .pinned, .pinned, .pinned], laidTests := true, laidLooks := .later }
def DigitsBlanksCardSaid : Prop := Claim7.holds Tryz.pinned (.plain (OpenSpec.ofChange digitsBlanksSpec)) digitsBlanksCard

/-- THE SECOND FORM's CARD OF 'lintellaw03.DigitsShow'. -/
def digitsShowUptoCard : Claim7 := { stood := { row := digitsShowUptoRow, standIns := [], harness := (true, "bc8cf95d266d23fcf5df7b7a13ef0e9ee0aeba3b07aa9bf2a6318c0874328ad9"), looks := true }, kinds := [], alts := [], laidByText := true, laidKinds := [.data, .data, .widerDeep, .widerDeep, .data, .data, .data, .data, .data, .data, .sentinel, .sentinel, .data, .pinned, .pinned, .pinned], laidTests := true, laidLooks := .later }
def DigitsShowUptoCardSaid : Prop := Claim7.holds Tryz.pinned (.plain (OpenSpec.upto digitsShowSpec)) digitsShowUptoCard

/-- THE SECOND FORM's CARD OF 'lintellaw03.DigitsBlanks'. -/
def digitsBlanksUptoCard : Claim7 := { stood := { row := digitsBlanksUptoRow, standIns := [], harness := (true, "bc8cf95d266d23fcf5df7b7a13ef0e9ee0aeba3b07aa9bf2a6318c0874328ad9"), looks := true }, kinds := [], alts := [], laidByText := true, laidKinds := [.data, .data, .widerDeep, .widerDeep, .data, .data, .data, .data, .data, .data, .sentinel, .sentinel, .data, .pinned, .pinned, .pinned], laidTests := true, laidLooks := .later }
def DigitsBlanksUptoCardSaid : Prop := Claim7.holds Tryz.pinned (.plain (OpenSpec.upto digitsBlanksSpec)) digitsBlanksUptoCard
end Rows
end Go.Proofs.YtjnbnejfdleocaaGreatDoor
