/-
  DERIVED. GIVEN WITH THE SEED: THE CARDS: each row of YthomeimnhipilaaDoorRows.lean that lists a variable, with what it lists TIED to the program's text (the seventh form; the later family's looks); each row that meets fmt, with fmt's text TOLD by the authors' own Lean function (tested against real Go, not proved from fmt's source: count such statements apart). THE CARD IS WHAT COUNTS. Prove the row's statement (the work); the ties are given (YthomeimnhipilaaDoorTie.lean); close each card by the builder's one call (the guide's Derived/Test/ToyasCard.lean, 'card_holds'). Laid BY PROGRAM, IN A SANDBOX (cutbox-door.mjs). By AI agents, Wed Nov 11 2026. No macro, syntax, notation, axiom, sorry.
-/
import Derived.Test.YthomeimnhipilaaDoorRows
import GoSem.ClaimSeven
namespace Go.Proofs.YthomeimnhipilaaDoor
namespace Rows

/-- THE TIED CARD OF 'lintellaw04.KeysOrder'. -/
def keysOrderCard : Claim7 := { stood := { row := keysOrderRow, standIns := [], harness := (true, "e772a1ce12522a20cb17e1bed5e6f33401c2c6b5f8dbec498f4ff677c8640f4e"), looks := false }, kinds := [], alts := [], laidByText := true, laidKinds := [.data, .data, .data], laidTests := true, laidLooks := .later }
def KeysOrderCardSaid : Prop := Claim7.holds Tryd.pinned (.plain (OpenSpec.ofChange keysOrderSpec)) keysOrderCard

/-- THE TIED CARD OF 'lintellaw04.KeysStable'. -/
def keysStableCard : Claim7 := { stood := { row := keysStableRow, standIns := [], harness := (true, "e772a1ce12522a20cb17e1bed5e6f33401c2c6b5f8dbec498f4ff677c8640f4e"), looks := false }, kinds := [], alts := [], laidByText := true, laidKinds := [.data, .data, .data], laidTests := true, laidLooks := .later }
def KeysStableCardSaid : Prop := Claim7.holds Tryd.pinned (.plain (OpenSpec.ofChange keysStableSpec)) keysStableCard

/-- THE TIED CARD OF 'lintellaw04.KeysTable'. -/
def keysTableCard : Claim7 := { stood := { row := keysTableRow, standIns := [], harness := (true, "e772a1ce12522a20cb17e1bed5e6f33401c2c6b5f8dbec498f4ff677c8640f4e"), looks := false }, kinds := [], alts := [], laidByText := true, laidKinds := [.data, .data, .data], laidTests := true, laidLooks := .later }
def KeysTableCardSaid : Prop := Claim7.holds Tryd.pinned (.plain (OpenSpec.ofChange keysTableSpec)) keysTableCard

/-- THE TIED CARD OF 'lintellaw04.KeysSymbols'. -/
def keysSymbolsCard : Claim7 := { stood := { row := keysSymbolsRow, standIns := [], harness := (true, "e772a1ce12522a20cb17e1bed5e6f33401c2c6b5f8dbec498f4ff677c8640f4e"), looks := false }, kinds := [], alts := [], laidByText := true, laidKinds := [.data, .data, .data], laidTests := true, laidLooks := .later }
def KeysSymbolsCardSaid : Prop := Claim7.holds Tryd.pinned (.plain (OpenSpec.ofChange keysSymbolsSpec)) keysSymbolsCard

/-- THE SECOND FORM's CARD OF 'lintellaw04.KeysOrder'. -/
def keysOrderUptoCard : Claim7 := { stood := { row := keysOrderUptoRow, standIns := [], harness := (true, "e772a1ce12522a20cb17e1bed5e6f33401c2c6b5f8dbec498f4ff677c8640f4e"), looks := false }, kinds := [], alts := [], laidByText := true, laidKinds := [.data, .data, .data], laidTests := true, laidLooks := .later }
def KeysOrderUptoCardSaid : Prop := Claim7.holds Tryd.pinned (.plain (OpenSpec.upto keysOrderSpec)) keysOrderUptoCard

/-- THE SECOND FORM's CARD OF 'lintellaw04.KeysStable'. -/
def keysStableUptoCard : Claim7 := { stood := { row := keysStableUptoRow, standIns := [], harness := (true, "e772a1ce12522a20cb17e1bed5e6f33401c2c6b5f8dbec498f4ff677c8640f4e"), looks := false }, kinds := [], alts := [], laidByText := true, laidKinds := [.data, .data, .data], laidTests := true, laidLooks := .later }
def KeysStableUptoCardSaid : Prop := Claim7.holds Tryd.pinned (.plain (OpenSpec.upto keysStableSpec)) keysStableUptoCard

/-- THE SECOND FORM's CARD OF 'lintellaw04.KeysTable'. -/
def keysTableUptoCard : Claim7 := { stood := { row := keysTableUptoRow, standIns := [], harness := (true, "e772a1ce12522a20cb17e1bed5e6f33401c2c6b5f8dbec498f4ff677c8640f4e"), looks := false }, kinds := [], alts := [], laidByText := true, laidKinds := [.data, .data, .data], laidTests := true, laidLooks := .later }
def KeysTableUptoCardSaid : Prop := Claim7.holds Tryd.pinned (.plain (OpenSpec.upto keysTableSpec)) keysTableUptoCard

/-- THE SECOND FORM's CARD OF 'lintellaw04.KeysSymbols'. -/
def keysSymbolsUptoCard : Claim7 := { stood := { row := keysSymbolsUptoRow, standIns := [], harness := (true, "e772a1ce12522a20cb17e1bed5e6f33401c2c6b5f8dbec498f4ff677c8640f4e"), looks := false }, kinds := [], alts := [], laidByText := true, laidKinds := [.data, .data, .data], laidTests := true, laidLooks := .later }
def KeysSymbolsUptoCardSaid : Prop := Claim7.holds Tryd.pinned (.plain (OpenSpec.upto keysSymbolsSpec)) keysSymbolsUptoCard
end Rows
end Go.Proofs.YthomeimnhipilaaDoor
