/-
  DERIVED. GIVEN WITH THE SEED: THE CARDS: each row of YtaknclffnoljlaaGreatDoorRows.lean that lists a variable, with what it lists TIED to the program's text (the seventh form; the later family's looks); each row that meets fmt, with fmt's text TOLD by the authors' own Lean function (tested against real Go, not proved from fmt's source: count such statements apart). THE CARD IS WHAT COUNTS. Prove the row's statement (the work); the ties are given (YtaknclffnoljlaaGreatDoorTie.lean); close each card by the builder's one call (the guide's Derived/Test/ToyasCard.lean, 'card_holds'). Laid BY PROGRAM, IN A SANDBOX (cutbox-door.mjs). By AI agents, Wed Nov 11 2026. No macro, syntax, notation, axiom, sorry.
-/
import Derived.Test.YtaknclffnoljlaaGreatDoorRows
import GoSem.ClaimSeven
namespace Go.Proofs.YtaknclffnoljlaaGreatDoor
namespace Rows

/-- THE TIED CARD OF 'lintellaw18.ConvKeys'. -/
def convKeysCard : Claim7 := { stood := { row := convKeysRow, standIns := [], harness := (true, "c5a955901dddfc55e9a5040167f6a7395ec6f1613e2ad59411b107ee632b0bf3"), looks := true }, kinds := [], alts := [], laidByText := true, laidKinds := [.data, .data, .widerDeep, .widerDeep, .data, .data, .data, .data, .data, .data, .sentinel, .sentinel, .data, .pinned, .pinned, .pinned], laidTests := true, laidLooks := .later }
def ConvKeysCardSaid : Prop := Claim7.holds Tryz.pinned (.plain (OpenSpec.ofChange convKeysSpec)) convKeysCard

/-- THE TIED CARD OF 'lintellaw18.ConvSame'. -/
def convSameCard : Claim7 := { stood := { row := convSameRow, standIns := [], harness := (true, "c5a955901dddfc55e9a5040167f6a7395ec6f1613e2ad59411b107ee632b0bf3"), looks := true }, kinds := [], alts := [], laidByText := true, laidKinds := [.data, .data, .widerDeep, .widerDeep, .data, .data, .data, .data, .data, .data, .sentinel, .sentinel, .data, .pinned, .pinned, .pinned], laidTests := true, laidLooks := .later }
def ConvSameCardSaid : Prop := Claim7.holds Tryz.pinned (.plain (OpenSpec.ofChange convSameSpec)) convSameCard

/-- THE TIED CARD OF 'lintellaw18.ConvGood'. -/
def convGoodCard : Claim7 := { stood := { row := convGoodRow, standIns := [], harness := (true, "c5a955901dddfc55e9a5040167f6a7395ec6f1613e2ad59411b107ee632b0bf3"), looks := true }, kinds := [], alts := [], laidByText := true, laidKinds := [.data, .data, .widerDeep, .widerDeep, .data, .data, .data, .data, .data, .data, .sentinel, .sentinel, .data, .pinned, .pinned, .pinned], laidTests := true, laidLooks := .later }
def ConvGoodCardSaid : Prop := Claim7.holds Tryz.pinned (.plain (OpenSpec.ofChange convGoodSpec)) convGoodCard

/-- THE TIED CARD OF 'lintellaw18.ConvEquals'. -/
def convEqualsCard : Claim7 := { stood := { row := convEqualsRow, standIns := [], harness := (true, "c5a955901dddfc55e9a5040167f6a7395ec6f1613e2ad59411b107ee632b0bf3"), looks := true }, kinds := [], alts := [], laidByText := true, laidKinds := [.data, .data, .widerDeep, .widerDeep, .data, .data, .data, .data, .data, .data, .sentinel, .sentinel, .data, .pinned, .pinned, .pinned], laidTests := true, laidLooks := .later }
def ConvEqualsCardSaid : Prop := Claim7.holds Tryz.pinned (.plain (OpenSpec.ofChange convEqualsSpec)) convEqualsCard

/-- THE SECOND FORM's CARD OF 'lintellaw18.ConvKeys'. -/
def convKeysUptoCard : Claim7 := { stood := { row := convKeysUptoRow, standIns := [], harness := (true, "c5a955901dddfc55e9a5040167f6a7395ec6f1613e2ad59411b107ee632b0bf3"), looks := true }, kinds := [], alts := [], laidByText := true, laidKinds := [.data, .data, .widerDeep, .widerDeep, .data, .data, .data, .data, .data, .data, .sentinel, .sentinel, .data, .pinned, .pinned, .pinned], laidTests := true, laidLooks := .later }
def ConvKeysUptoCardSaid : Prop := Claim7.holds Tryz.pinned (.plain (OpenSpec.upto convKeysSpec)) convKeysUptoCard

/-- THE SECOND FORM's CARD OF 'lintellaw18.ConvSame'. -/
def convSameUptoCard : Claim7 := { stood := { row := convSameUptoRow, standIns := [], harness := (true, "c5a955901dddfc55e9a5040167f6a7395ec6f1613e2ad59411b107ee632b0bf3"), looks := true }, kinds := [], alts := [], laidByText := true, laidKinds := [.data, .data, .widerDeep, .widerDeep, .data, .data, .data, .data, .data, .data, .sentinel, .sentinel, .data, .pinned, .pinned, .pinned], laidTests := true, laidLooks := .later }
def ConvSameUptoCardSaid : Prop := Claim7.holds Tryz.pinned (.plain (OpenSpec.upto convSameSpec)) convSameUptoCard

/-- THE SECOND FORM's CARD OF 'lintellaw18.ConvGood'. -/
def convGoodUptoCard : Claim7 := { stood := { row := convGoodUptoRow, standIns := [], harness := (true, "c5a955901dddfc55e9a5040167f6a7395ec6f1613e2ad59411b107ee632b0bf3"), looks := true }, kinds := [], alts := [], laidByText := true, laidKinds := [.data, .data, .widerDeep, .widerDeep, .data, .data, .data, .data, .data, .data, .sentinel, .sentinel, .data, .pinned, .pinned, .pinned], laidTests := true, laidLooks := .later }
def ConvGoodUptoCardSaid : Prop := Claim7.holds Tryz.pinned (.plain (OpenSpec.upto convGoodSpec)) convGoodUptoCard

/-- THE SECOND FORM's CARD OF 'lintellaw18.ConvEquals'. -/
def convEqualsUptoCard : Claim7 := { stood := { row := convEqualsUptoRow, standIns := [], harness := (true, "c5a955901dddfc55e9a5040167f6a7395ec6f1613e2ad59411b107ee632b0bf3"), looks := true }, kinds := [], alts := [], laidByText := true, laidKinds := [.data, .data, .widerDeep, .widerDeep, .data, .data, .data, .data, .data, .data, .sentinel, .sentinel, .data, .pinned, .pinned, .pinned], laidTests := true, laidLooks := .later }
def ConvEqualsUptoCardSaid : Prop := Claim7.holds Tryz.pinned (.plain (OpenSpec.upto convEqualsSpec)) convEqualsUptoCard
end Rows
end Go.Proofs.YtaknclffnoljlaaGreatDoor
