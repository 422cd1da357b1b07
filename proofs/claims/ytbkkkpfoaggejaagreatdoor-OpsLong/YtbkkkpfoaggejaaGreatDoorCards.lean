/-
  DERIVED. GIVEN WITH THE SEED: THE CARDS: each row of YtbkkkpfoaggejaaGreatDoorRows.lean that lists a variable, with what it lists TIED to the program's text (the seventh form; the later family's looks); each row that meets fmt, with fmt's text TOLD by the authors' own Lean function (tested against real Go, not proved from fmt's source: count such statements apart). THE CARD IS WHAT COUNTS. Prove the row's statement (the work); the ties are given (YtbkkkpfoaggejaaGreatDoorTie.lean); close each card by the builder's one call (the guide's Derived/Test/ToyasCard.lean, 'card_holds'). Laid BY PROGRAM, IN A SANDBOX (cutbox-door.mjs). By AI agents, Wed Nov 11 2026. No macro, syntax, notation, axiom, sorry.
-/
import Derived.Test.YtbkkkpfoaggejaaGreatDoorRows
import GoSem.ClaimSeven
namespace Go.Proofs.YtbkkkpfoaggejaaGreatDoor
namespace Rows

/-- THE TIED CARD OF 'lintellaw19.OpsLong'. -/
def opsLongCard : Claim7 := { stood := { row := opsLongRow, standIns := [], harness := (true, "376e40f9371154d1ff62f380566e4681c5cb9b98eb3290005de49d4b7ed29967"), looks := true }, kinds := [], alts := [], laidByText := true, laidKinds := [.data, .data, .widerDeep, .widerDeep, .data, .data, .data, .data, .data, .data, .sentinel, .sentinel, .data, .pinned, .pinned, .pinned], laidTests := true, laidLooks := .later }
def OpsLongCardSaid : Prop := Claim7.holds Tryz.pinned (.plain (OpenSpec.ofChange opsLongSpec)) opsLongCard

/-- THE TIED CARD OF 'lintellaw19.OpsField'. -/
def opsFieldCard : Claim7 := { stood := { row := opsFieldRow, standIns := [], harness := (true, "376e40f9371154d1ff62f380566e4681c5cb9b98eb3290005de49d4b7ed29967"), looks := true }, kinds := [], alts := [], laidByText := true, laidKinds := [.data, .data, .widerDeep, .widerDeep, .data, .data, .data, .data, .data, .data, .sentinel, .sentinel, .data, .pinned, .pinned, .pinned], laidTests := true, laidLooks := .later }
def OpsFieldCardSaid : Prop := Claim7.holds Tryz.pinned (.plain (OpenSpec.ofChange opsFieldSpec)) opsFieldCard

/-- THE TIED CARD OF 'lintellaw19.OpsOrder'. -/
def opsOrderCard : Claim7 := { stood := { row := opsOrderRow, standIns := [], harness := (true, "376e40f9371154d1ff62f380566e4681c5cb9b98eb3290005de49d4b7ed29967"), looks := true }, kinds := [], alts := [], laidByText := true, laidKinds := [.data, .data, .widerDeep, .widerDeep, .data, .data, .data, .data, .data, .data, .sentinel, .sentinel, .data, .pinned, .pinned, .pinned], laidTests := true, laidLooks := .later }
def OpsOrderCardSaid : Prop := Claim7.holds Tryz.pinned (.plain (OpenSpec.ofChange opsOrderSpec)) opsOrderCard

/-- THE SECOND FORM's CARD OF 'lintellaw19.OpsLong'. -/
def opsLongUptoCard : Claim7 := { stood := { row := opsLongUptoRow, standIns := [], harness := (true, "376e40f9371154d1ff62f380566e4681c5cb9b98eb3290005de49d4b7ed29967"), looks := true }, kinds := [], alts := [], laidByText := true, laidKinds := [.data, .data, .widerDeep, .widerDeep, .data, .data, .data, .data, .data, .data, .sentinel, .sentinel, .data, .pinned, .pinned, .pinned], laidTests := true, laidLooks := .later }
def OpsLongUptoCardSaid : Prop := Claim7.holds Tryz.pinned (.plain (OpenSpec.upto opsLongSpec)) opsLongUptoCard

/-- THE SECOND FORM's CARD OF 'lintellaw19.OpsField'. -/
def opsFieldUptoCard : Claim7 := { stood := { row := opsFieldUptoRow, standIns := [], harness := (true, "376e40f9371154d1ff62f380566e4681c5cb9b98eb3290005de49d4b7ed29967"), looks := true }, kinds := [], alts := [], laidByText := true, laidKinds := [.data, .data, .widerDeep, .widerDeep, .data, .data, .data, .data, .data, .data, .sentinel, .sentinel, .data, .pinned, .pinned, .pinned], laidTests := true, laidLooks := .later }
def OpsFieldUptoCardSaid : Prop := Claim7.holds Tryz.pinned (.plain (OpenSpec.upto opsFieldSpec)) opsFieldUptoCard

/-- THE SECOND FORM's CARD OF 'lintellaw19.OpsOrder'. -/
def opsOrderUptoCard : Claim7 := { stood := { row := opsOrderUptoRow, standIns := [], harness := (true, "376e40f9371154d1ff62f380566e4681c5cb9b98eb3290005de49d4b7ed29967"), looks := true }, kinds := [], alts := [], laidByText := true, laidKinds := [.data, .data, .widerDeep, .widerDeep, .data, .data, .data, .data, .data, .data, .sentinel, .sentinel, .data, .pinned, .pinned, .pinned], laidTests := true, laidLooks := .later }
def OpsOrderUptoCardSaid : Prop := Claim7.holds Tryz.pinned (.plain (OpenSpec.upto opsOrderSpec)) opsOrderUptoCard
end Rows
end Go.Proofs.YtbkkkpfoaggejaaGreatDoor
