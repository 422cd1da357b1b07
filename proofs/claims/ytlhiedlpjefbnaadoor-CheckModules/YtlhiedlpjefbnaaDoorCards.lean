/-
  DERIVED. GIVEN WITH THE SEED: THE CARDS: each row of YtlhiedlpjefbnaaDoorRows.lean that lists a variable, with what it lists TIED to the program's text (the seventh form; the later family's looks); each row that meets fmt, with fmt's text TOLD by the authors' own Lean function (tested against real Go, not proved from fmt's source: count such statements apart). THE CARD IS WHAT COUNTS. Prove the row's statement (the work); the ties are given (YtlhiedlpjefbnaaDoorTie.lean); close each card by the builder's one call (the guide's Derived/Test/ToyasCard.lean, 'card_holds'). Laid BY PROGRAM, IN A SANDBOX (cutbox-door.mjs). By AI agents, Wed Nov 11 2026. No macro, syntax, notation, axiom, sorry.
-/
import Derived.Test.YtlhiedlpjefbnaaDoorRows
import GoSem.ClaimSeven
namespace Go.Proofs.YtlhiedlpjefbnaaDoor
namespace Rows

/-- THE TIED CARD OF 'lintellaw12.CheckModules'. -/
def checkModulesCard : Claim7 := { stood := { row := checkModulesRow, standIns := [], harness := (true, "9486e4a1b806ec4fe54b03732712029477e56a435fc1d61e09aa395b816d7936"), looks := false }, kinds := [], alts := [], laidByText := true, laidKinds := [.data], laidTests := true, laidLooks := .later }
def CheckModulesCardSaid : Prop := Claim7.holds Tryd.pinned (.plain (OpenSpec.ofChange checkModulesSpec)) checkModulesCard

/-- THE TIED CARD OF 'lintellaw12.CheckReach'. -/
def checkReachCard : Claim7 := { stood := { row := checkReachRow, standIns := [], harness := (true, "9486e4a1b806ec4fe54b03732712029477e56a435fc1d61e09aa395b816d7936"), looks := false }, kinds := [], alts := [], laidByText := true, laidKinds := [.data], laidTests := true, laidLooks := .later }
def CheckReachCardSaid : Prop := Claim7.holds Tryd.pinned (.plain (OpenSpec.ofChange checkReachSpec)) checkReachCard

/-- THE SECOND FORM's CARD OF 'lintellaw12.CheckModules'. -/
def checkModulesUptoCard : Claim7 := { stood := { row := checkModulesUptoRow, standIns := [], harness := (true, "9486e4a1b806ec4fe54b03732712029477e56a435fc1d61e09aa395b816d7936"), looks := false }, kinds := [], alts := [], laidByText := true, laidKinds := [.data], laidTests := true, laidLooks := .later }
def CheckModulesUptoCardSaid : Prop := Claim7.holds Tryd.pinned (.plain (OpenSpec.upto checkModulesSpec)) checkModulesUptoCard

/-- THE SECOND FORM's CARD OF 'lintellaw12.CheckReach'. -/
def checkReachUptoCard : Claim7 := { stood := { row := checkReachUptoRow, standIns := [], harness := (true, "9486e4a1b806ec4fe54b03732712029477e56a435fc1d61e09aa395b816d7936"), looks := false }, kinds := [], alts := [], laidByText := true, laidKinds := [.data], laidTests := true, laidLooks := .later }
def CheckReachUptoCardSaid : Prop := Claim7.holds Tryd.pinned (.plain (OpenSpec.upto checkReachSpec)) checkReachUptoCard
end Rows
end Go.Proofs.YtlhiedlpjefbnaaDoor
