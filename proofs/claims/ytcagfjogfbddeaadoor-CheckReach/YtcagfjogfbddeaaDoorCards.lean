/-
  DERIVED. GIVEN WITH THE SEED: THE CARDS: each row of YtcagfjogfbddeaaDoorRows.lean that lists a variable, with what it lists TIED to the program's text (the seventh form; the later family's looks); each row that meets fmt, with fmt's text TOLD by the authors' own Lean function (tested against real Go, not proved from fmt's source: count such statements apart). THE CARD IS WHAT COUNTS. Prove the row's statement (the work); the ties are given (YtcagfjogfbddeaaDoorTie.lean); close each card by the builder's one call (the guide's Derived/Test/ToyasCard.lean, 'card_holds'). Laid BY PROGRAM, IN A SANDBOX (cutbox-door.mjs). By AI agents, Wed Nov 11 2026. No macro, syntax, notation, axiom, sorry.
-/
import Derived.Test.YtcagfjogfbddeaaDoorRows
import GoSem.ClaimSeven
namespace Go.Proofs.YtcagfjogfbddeaaDoor
namespace Rows

/-- THE TIED CARD OF 'lintellaw12.CheckReach'. -/
def checkReachCard : Claim7 := { stood := { row := checkReachRow, standIns := [], harness := (true, "c728114908c6818233624b5c01ab379bfaba735878fa70d4d28ebda26ebe0e24"), looks := false }, kinds := [], alts := [], laidByText := true, laidKinds := [.data], laidTests := true, laidLooks := .later }
def CheckReachCardSaid : Prop := Claim7.holds Tryd.pinned (.plain (OpenSpec.ofChange checkReachSpec)) checkReachCard

/-- THE SECOND FORM's CARD OF 'lintellaw12.CheckReach'. -/
def checkReachUptoCard : Claim7 := { stood := { row := checkReachUptoRow, standIns := [], harness := (true, "c728114908c6818233624b5c01ab379bfaba735878fa70d4d28ebda26ebe0e24"), looks := false }, kinds := [], alts := [], laidByText := true, laidKinds := [.data], laidTests := true, laidLooks := .later }
def CheckReachUptoCardSaid : Prop := Claim7.holds Tryd.pinned (.plain (OpenSpec.upto checkReachSpec)) checkReachUptoCard
end Rows
end Go.Proofs.YtcagfjogfbddeaaDoor
