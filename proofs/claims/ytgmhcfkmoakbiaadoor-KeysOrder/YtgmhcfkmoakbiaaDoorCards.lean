/-
  DERIVED. GIVEN WITH THE SEED: THE CARDS: each row of YtgmhcfkmoakbiaaDoorRows.lean that lists a variable, with what it lists TIED to the program's text (the seventh form; the later family's looks); each row that meets fmt, with fmt's text TOLD by the authors' own Lean function (tested against real Go, not proved from fmt's source: count such statements apart). THE CARD IS WHAT COUNTS. Prove the row's statement (the work); the ties are given (YtgmhcfkmoakbiaaDoorTie.lean); close each card by the builder's one call (the guide's Derived/Test/ToyasCard.lean, 'card_holds'). Laid BY PROGRAM, IN A SANDBOX (cutbox-door.mjs). By AI agents, Wed Nov 11 2026. No macro, syntax, notation, axiom, sorry.
-/
import Derived.Test.YtgmhcfkmoakbiaaDoorRows
import GoSem.ClaimSeven
namespace Go.Proofs.YtgmhcfkmoakbiaaDoor
namespace Rows

/-- THE TIED CARD OF 'lintellaw04.KeysOrder'. -/
def keysOrderCard : Claim7 := { stood := { row := keysOrderRow, standIns := [], harness := (true, "6896845f1038cc80b346946c88e74c62a5daa29937bcf1f50c242d8c633ad869"), looks := false }, kinds := [], alts := [], laidByText := true, laidKinds := [.data, .data, .data], laidTests := true, laidLooks := .later }
def KeysOrderCardSaid : Prop := Claim7.holds Tryd.pinned (.plain (OpenSpec.ofChange keysOrderSpec)) keysOrderCard

/-- THE TIED CARD OF 'lintellaw04.KeysStable'. -/
def keysStableCard : Claim7 := { stood := { row := keysStableRow, standIns := [], harness := (true, "6896845f1038cc80b346946c88e74c62a5daa29937bcf1f50c242d8c633ad869"), looks := false }, kinds := [], alts := [], laidByText := true, laidKinds := [.data, .data, .data], laidTests := true, laidLooks := .later }
def KeysStableCardSaid : Prop := Claim7.holds Tryd.pinned (.plain (OpenSpec.ofChange keysStableSpec)) keysStableCard

/-- THE SECOND FORM's CARD OF 'lintellaw04.KeysOrder'. -/
def keysOrderUptoCard : Claim7 := { stood := { row := keysOrderUptoRow, standIns := [], harness := (true, "6896845f1038cc80b346946c88e74c62a5daa29937bcf1f50c242d8c633ad869"), looks := false }, kinds := [], alts := [], laidByText := true, laidKinds := [.data, .data, .data], laidTests := true, laidLooks := .later }
def KeysOrderUptoCardSaid : Prop := Claim7.holds Tryd.pinned (.plain (OpenSpec.upto keysOrderSpec)) keysOrderUptoCard

/-- THE SECOND FORM's CARD OF 'lintellaw04.KeysStable'. -/
def keysStableUptoCard : Claim7 := { stood := { row := keysStableUptoRow, standIns := [], harness := (true, "6896845f1038cc80b346946c88e74c62a5daa29937bcf1f50c242d8c633ad869"), looks := false }, kinds := [], alts := [], laidByText := true, laidKinds := [.data, .data, .data], laidTests := true, laidLooks := .later }
def KeysStableUptoCardSaid : Prop := Claim7.holds Tryd.pinned (.plain (OpenSpec.upto keysStableSpec)) keysStableUptoCard
end Rows
end Go.Proofs.YtgmhcfkmoakbiaaDoor
