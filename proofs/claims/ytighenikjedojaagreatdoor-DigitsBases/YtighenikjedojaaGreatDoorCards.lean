/-
  DERIVED. GIVEN WITH THE SEED: THE CARDS: each row of YtighenikjedojaaGreatDoorRows.lean that lists a variable, with what it lists TIED to the program's text (the seventh form; the later family's looks); each row that meets fmt, with fmt's text TOLD by the authors' own Lean function (tested against real Go, not proved from fmt's source: count such statements apart). THE CARD IS WHAT COUNTS. Prove the row's statement (the work); the ties are given (YtighenikjedojaaGreatDoorTie.lean); close each card by the builder's one call (the guide's Derived/Test/ToyasCard.lean, 'card_holds'). Laid BY PROGRAM, IN A SANDBOX (cutbox-door.mjs). By AI agents, Wed Nov 11 2026. No macro, syntax, notation, axiom, sorry.
-/
import Derived.Test.YtighenikjedojaaGreatDoorRows
import GoSem.ClaimSeven
namespace Go.Proofs.YtighenikjedojaaGreatDoor
namespace Rows

/-- THE TIED CARD OF 'lintellaw03.DigitsBases'. -/
def digitsBasesCard : Claim7 := { stood := { row := digitsBasesRow, standIns := [], harness := (true, "2650cb2afa3aeccd2ba3eb15423e401a64844c609151dad0e34e5f26b7dcbc61"), looks := true }, kinds := [], alts := [], laidByText := true, laidKinds := [.data, .data, .widerDeep, .widerDeep, .data, .data, .data, .data, .data, .data, .sentinel, .sentinel, .data, .pinned, .pinned, .pinned], laidTests := true, laidLooks := .later }
def DigitsBasesCardSaid : Prop := Claim7.holds Tryz.pinned (.plain (OpenSpec.ofChange digitsBasesSpec)) digitsBasesCard

/-- THE SECOND FORM's CARD OF 'lintellaw03.DigitsBases'. -/
def digitsBasesUptoCard : Claim7 := { stood := { row := digitsBasesUptoRow, standIns := [], harness := (true, "2650cb2afa3aeccd2ba3eb15423e401a64844c609151dad0e34e5f26b7dcbc61"), looks := true }, kinds := [], alts := [], laidByText := true, laidKinds := [.data, .data, .widerDeep, .widerDeep, .data, .data, .data, .data, .data, .data, .sentinel, .sentinel, .data, .pinned, .pinned, .pinned], laidTests := true, laidLooks := .later }
def DigitsBasesUptoCardSaid : Prop := Claim7.holds Tryz.pinned (.plain (OpenSpec.upto digitsBasesSpec)) digitsBasesUptoCard
end Rows
end Go.Proofs.YtighenikjedojaaGreatDoor
