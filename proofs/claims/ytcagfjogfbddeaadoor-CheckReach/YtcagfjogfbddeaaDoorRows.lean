/-
  NARROWER THAN 'FOR EVERY INPUT', by the rows' own cells (each row's printed sentence says how): CheckReach: laid.
  DERIVED. THE GIVEN ROWS OF THIS SEAT. 1 by the template 'for every input the law returns true; each argument reads behind the call as it read before'; 0 by the template 'total and deterministic' (their statements: YtcagfjogfbddeaaDoorTotals.lean).
  GIVEN WITH THE SEED: the statements are not yours to turn. If you find one false, say at which input.
  Laid BY PROGRAM, IN A SANDBOX (cutbox-rows.mjs): the forced cells as the released guide's own fill.sh prints them over the translation a8ff94827a809490… (all of the seat's roots in one cut). By AI agents, Wed Nov 11 2026. No macro, syntax, notation, axiom, sorry.
-/
import Derived.Test.YtcagfjogfbddeaaDoorChecked
import GoSem.Claim
import GoSem.ClaimJoined
import GoSem.ClaimMapViews
import Derived.JoinedTies
import Derived.KernelRfl
namespace Go.Proofs.YtcagfjogfbddeaaDoor
/- THE CELL 'sum', in the pinned program and in every row, IS THE sha256 OF THE DUMP (.gsa) THAT YtcagfjogfbddeaaDoorProg.lean LOADS. Nothing in Lean hashes anything: it is a label: what it is worth is what the hold of that sum in a sandbox is worth. -/
noncomputable def Tryd.pinned : Pinned := { name := "ytcagfjogfbddeaadoor", sum := "a8ff94827a8094909d17d87db6631180deccf5b09c1d9323c7a240fa77676b05", checked := Tryd.checked }
namespace Rows
def none {H : Type} : Left H := { results := [], args := [] }

/- WHAT THE LISTED PACKAGE-LEVEL VARIABLES READ AS WHEN THE CALL BEGINS. Each datum BY PROGRAM (the guide's laid-datum.mjs) off the statement by which the dump's own 'gosem.cut.vars' lays the variable. In a bare row this is a premise. The card (YtcagfjogfbddeaaDoorCards.lean) ties it to the program's text. -/
def laid_lintel_code_letters {H : Type} : DataW H := .agg [.lit (.string [114, 110]), .lit (.string [114, 107]), .lit (.string [114, 114]), .lit (.string [114]), .lit (.string [114]), .lit (.string [114, 115]), .lit (.string [114, 115]), .lit (.string [115, 114]), .lit (.string [114, 114]), .lit (.string [114, 114]), .lit (.string [114, 114]), .lit (.string [114, 117]), .lit (.string [117, 114]), .lit (.string [114, 115]), .lit (.string [115]), .lit (.string [114, 102]), .lit (.string [116]), .lit (.string [114, 116]), .lit (.string [114, 116]), .lit (.string [114, 110, 116]), .lit (.string [114]), .lit (.string [114]), .lit (.string [114]), .lit (.string [114, 114]), .lit (.string [114, 114]), .lit (.string [114, 114, 114]), .lit (.string [114, 114, 114]), .lit (.string [114, 114, 114]), .lit (.string [114, 114, 114]), .lit (.string [114, 114, 114]), .lit (.string [114, 114, 114]), .lit (.string [114, 114]), .lit (.string [114, 114, 114, 114]), .lit (.string [114, 114, 114]), .lit (.string [114]), .lit (.string [114]), .lit (.string [114, 114]), .lit (.string [114, 114, 116]), .lit (.string [114, 114]), .lit (.string [114, 114, 116]), .lit (.string [114]), .lit (.string [114]), .lit (.string [114, 114]), .lit (.string [114]), .lit (.string [114, 114]), .lit (.string [114, 114]), .lit (.string [114, 114]), .lit (.string [114, 114]), .lit (.string [114, 114]), .lit (.string [114, 114, 114])]

/-- 'lintellaw12.CheckReach': WHATEVER THE INPUT: true; the input reads as it did. -/
def checkReachSpec : ChangeSpec := { name := "checkReach", fn := fun _ => fun
  | [d] => { results := [.lit (.bool true)], args := [d] }
  | _ => none }
def checkReachRow : OpenClaim := { program := "ytcagfjogfbddeaadoor", sum := "a8ff94827a8094909d17d87db6631180deccf5b09c1d9323c7a240fa77676b05", func := "lintel/lintellaw12.CheckReach", spec := "checkReach", inPlace := ["internal/bytealg.IndexByteString"], unfollowed := true, recurses := true, named := ["lintel/code.letters"], apart := false, laid := [("lintel/code.letters", laid_lintel_code_letters)] }
def CheckReachSaid : Prop := checkReachRow.holds Tryd.pinned (OpenSpec.ofChange checkReachSpec)

/-- ITS FALSE NEIGHBOUR: 'it returns false'. Refute it at one input. -/
def checkReachWrong : ChangeSpec := { name := "checkReach", fn := fun _ => fun
  | [d] => { results := [.lit (.bool false)], args := [d] }
  | _ => none }
def CheckReachWrongFalsely : Prop := checkReachRow.holds Tryd.pinned (OpenSpec.ofChange checkReachWrong)

/- THE SECOND FORM. 'bulk': how many values and letters a reading holds, each counted each time it is reached (what is shared counts as often as it is met; a slice's spare places count too). A statement '..UptoSaid' is the law's where the arguments, and the package variables that the reading takes, are together of bulk at most 1048576: NARROWER than '..Said'. Prove '..Said' where nothing that the law and all that it calls make is longer than what came in: it says more and counts as full. Else prove '..UptoSaid'. A law counts once. -/
mutual
def uptoBulk {H : Type} : DataW H → Nat
  | .lit (.string bytes) => bytes.length + 1
  | .lit _ => 1
  | .nil => 1
  | .ptr d => uptoBulk d + 1
  | .slice elems spare => uptoBulkAll elems + uptoBulkAll spare + 1
  | .agg parts => uptoBulkAll parts + 1
  | .iface _ d => uptoBulk d + 1
  | .map entries => uptoBulkEntries entries + 1
  | .held _ => 1
def uptoBulkAll {H : Type} : List (DataW H) → Nat
  | [] => 0
  | d :: r => uptoBulk d + uptoBulkAll r
def uptoBulkEntries {H : Type} : List (Lit × DataW H) → Nat
  | [] => 0
  | x :: r => uptoBulkEntry x + uptoBulkEntries r
def uptoBulkEntry {H : Type} : Lit × DataW H → Nat
  | (.string bytes, d) => bytes.length + uptoBulk d + 1
  | (_, d) => uptoBulk d + 1
 end
def uptoSmall : (H : Type) → List (DataW H) → Bool := fun _ ds => decide (uptoBulkAll ds ≤ 1048576)
def OpenSpec.upto (s : _root_.Go.ChangeSpec) : _root_.Go.OpenSpec := { _root_.Go.OpenSpec.ofChange s with cond := some uptoSmall }

/-- 'lintellaw12.CheckReach', WHERE WHAT IT READS IS OF BULK AT MOST 1048576: true; the input reads as it did. -/
def checkReachUptoRow : OpenClaim := { program := "ytcagfjogfbddeaadoor", sum := "a8ff94827a8094909d17d87db6631180deccf5b09c1d9323c7a240fa77676b05", func := "lintel/lintellaw12.CheckReach", spec := "checkReach", inPlace := ["internal/bytealg.IndexByteString"], unfollowed := true, recurses := true, named := ["lintel/code.letters"], apart := false, laid := [("lintel/code.letters", laid_lintel_code_letters)], narrowed := true }
def CheckReachUptoSaid : Prop := checkReachUptoRow.holds Tryd.pinned (OpenSpec.upto checkReachSpec)

end Rows
end Go.Proofs.YtcagfjogfbddeaaDoor
