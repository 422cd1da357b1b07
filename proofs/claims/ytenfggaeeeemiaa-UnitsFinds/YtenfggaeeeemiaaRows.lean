/-
  No cell of these rows narrows 'for every input' (looked for: loops, veiled, ifaces, maps, wideKeys, modest, calm, conditions, laid).
  DERIVED. THE GIVEN ROWS OF THIS SEAT. 6 by the template 'for every input the law returns true; each argument reads behind the call as it read before'; 0 by the template 'total and deterministic' (their statements: YtenfggaeeeemiaaTotals.lean).
  GIVEN WITH THE SEED: the statements are not yours to turn. If you find one false, say at which input.
  Laid BY PROGRAM, IN A SANDBOX (cutbox-rows.mjs): the forced cells as the released guide's own fill.sh prints them over the translation b04c11565a9639b2… (all of the seat's roots in one cut). By AI agents, Wed Nov 11 2026. No macro, syntax, notation, axiom, sorry.
-/
import Derived.Test.YtenfggaeeeemiaaChecked
import GoSem.Claim
import GoSem.ClaimJoined
import GoSem.ClaimMapViews
import Derived.JoinedTies
import Derived.KernelRfl
namespace Go.Proofs.Ytenfggaeeeemiaa
/- THE CELL 'sum', in the pinned program and in every row, IS THE sha256 OF THE DUMP (.gsa) THAT YtenfggaeeeemiaaProg.lean LOADS. Nothing in Lean hashes anything: it is a label: what it is worth is what the hold of that sum in a sandbox is worth. -/
noncomputable def Try.pinned : Pinned := { name := "ytenfggaeeeemiaa", sum := "b04c11565a9639b2e83ca1f31deeadf85e802099dda8f89cf7288abd8259bb6c", checked := Try.checked }
namespace Rows
def none {H : Type} : Left H := { results := [], args := [] }

/-- 'lintellaw01.UnitsReads': WHATEVER THE INPUT: true; the input reads as it did. -/
def unitsReadsSpec : ChangeSpec := { name := "unitsReads", fn := fun _ => fun
  | [d1, d2] => { results := [.lit (.bool true)], args := [d1, d2] }
  | _ => none }
def unitsReadsRow : OpenClaim := { program := "ytenfggaeeeemiaa", sum := "b04c11565a9639b2e83ca1f31deeadf85e802099dda8f89cf7288abd8259bb6c", func := "lintel/lintellaw01.UnitsReads", spec := "unitsReads", unfollowed := true, recurses := true, apart := false }
def UnitsReadsSaid : Prop := unitsReadsRow.holds Try.pinned (OpenSpec.ofChange unitsReadsSpec)

/-- ITS FALSE NEIGHBOUR: 'it returns false'. Refute it at one input. -/
def unitsReadsWrong : ChangeSpec := { name := "unitsReads", fn := fun _ => fun
  | [d1, d2] => { results := [.lit (.bool false)], args := [d1, d2] }
  | _ => none }
def UnitsReadsWrongFalsely : Prop := unitsReadsRow.holds Try.pinned (OpenSpec.ofChange unitsReadsWrong)

/-- 'lintellaw01.UnitsPieces': WHATEVER THE INPUT: true; the input reads as it did. -/
def unitsPiecesSpec : ChangeSpec := { name := "unitsPieces", fn := fun _ => fun
  | [d1, d2, d3, d4] => { results := [.lit (.bool true)], args := [d1, d2, d3, d4] }
  | _ => none }
def unitsPiecesRow : OpenClaim := { program := "ytenfggaeeeemiaa", sum := "b04c11565a9639b2e83ca1f31deeadf85e802099dda8f89cf7288abd8259bb6c", func := "lintel/lintellaw01.UnitsPieces", spec := "unitsPieces", unfollowed := true, recurses := true, apart := false }
def UnitsPiecesSaid : Prop := unitsPiecesRow.holds Try.pinned (OpenSpec.ofChange unitsPiecesSpec)

/-- ITS FALSE NEIGHBOUR: 'it returns false'. Refute it at one input. -/
def unitsPiecesWrong : ChangeSpec := { name := "unitsPieces", fn := fun _ => fun
  | [d1, d2, d3, d4] => { results := [.lit (.bool false)], args := [d1, d2, d3, d4] }
  | _ => none }
def UnitsPiecesWrongFalsely : Prop := unitsPiecesRow.holds Try.pinned (OpenSpec.ofChange unitsPiecesWrong)

/-- 'lintellaw01.UnitsFinds': WHATEVER THE INPUT: true; the input reads as it did. -/
def unitsFindsSpec : ChangeSpec := { name := "unitsFinds", fn := fun _ => fun
  | [d1, d2, d3] => { results := [.lit (.bool true)], args := [d1, d2, d3] }
  | _ => none }
def unitsFindsRow : OpenClaim := { program := "ytenfggaeeeemiaa", sum := "b04c11565a9639b2e83ca1f31deeadf85e802099dda8f89cf7288abd8259bb6c", func := "lintel/lintellaw01.UnitsFinds", spec := "unitsFinds", unfollowed := true, recurses := true, apart := false }
def UnitsFindsSaid : Prop := unitsFindsRow.holds Try.pinned (OpenSpec.ofChange unitsFindsSpec)

/-- ITS FALSE NEIGHBOUR: 'it returns false'. Refute it at one input. -/
def unitsFindsWrong : ChangeSpec := { name := "unitsFinds", fn := fun _ => fun
  | [d1, d2, d3] => { results := [.lit (.bool false)], args := [d1, d2, d3] }
  | _ => none }
def UnitsFindsWrongFalsely : Prop := unitsFindsRow.holds Try.pinned (OpenSpec.ofChange unitsFindsWrong)

/-- 'lintellaw01.UnitsOrder': WHATEVER THE INPUT: true; the input reads as it did. -/
def unitsOrderSpec : ChangeSpec := { name := "unitsOrder", fn := fun _ => fun
  | [d1, d2] => { results := [.lit (.bool true)], args := [d1, d2] }
  | _ => none }
def unitsOrderRow : OpenClaim := { program := "ytenfggaeeeemiaa", sum := "b04c11565a9639b2e83ca1f31deeadf85e802099dda8f89cf7288abd8259bb6c", func := "lintel/lintellaw01.UnitsOrder", spec := "unitsOrder", inPlace := ["internal/bytealg.abigen_runtime_cmpstring"], unfollowed := true, recurses := true, apart := false }
def UnitsOrderSaid : Prop := unitsOrderRow.holds Try.pinned (OpenSpec.ofChange unitsOrderSpec)

/-- ITS FALSE NEIGHBOUR: 'it returns false'. Refute it at one input. -/
def unitsOrderWrong : ChangeSpec := { name := "unitsOrder", fn := fun _ => fun
  | [d1, d2] => { results := [.lit (.bool false)], args := [d1, d2] }
  | _ => none }
def UnitsOrderWrongFalsely : Prop := unitsOrderRow.holds Try.pinned (OpenSpec.ofChange unitsOrderWrong)

/-- 'lintellaw01.UnitsPoints': WHATEVER THE INPUT: true; the input reads as it did. -/
def unitsPointsSpec : ChangeSpec := { name := "unitsPoints", fn := fun _ => fun
  | [d1, d2] => { results := [.lit (.bool true)], args := [d1, d2] }
  | _ => none }
def unitsPointsRow : OpenClaim := { program := "ytenfggaeeeemiaa", sum := "b04c11565a9639b2e83ca1f31deeadf85e802099dda8f89cf7288abd8259bb6c", func := "lintel/lintellaw01.UnitsPoints", spec := "unitsPoints", unfollowed := true, recurses := true, apart := false }
def UnitsPointsSaid : Prop := unitsPointsRow.holds Try.pinned (OpenSpec.ofChange unitsPointsSpec)

/-- ITS FALSE NEIGHBOUR: 'it returns false'. Refute it at one input. -/
def unitsPointsWrong : ChangeSpec := { name := "unitsPoints", fn := fun _ => fun
  | [d1, d2] => { results := [.lit (.bool false)], args := [d1, d2] }
  | _ => none }
def UnitsPointsWrongFalsely : Prop := unitsPointsRow.holds Try.pinned (OpenSpec.ofChange unitsPointsWrong)

/-- 'lintellaw01.UnitsJoins': WHATEVER THE INPUT: true; the input reads as it did. -/
def unitsJoinsSpec : ChangeSpec := { name := "unitsJoins", fn := fun _ => fun
  | [d1, d2, d3] => { results := [.lit (.bool true)], args := [d1, d2, d3] }
  | _ => none }
def unitsJoinsRow : OpenClaim := { program := "ytenfggaeeeemiaa", sum := "b04c11565a9639b2e83ca1f31deeadf85e802099dda8f89cf7288abd8259bb6c", func := "lintel/lintellaw01.UnitsJoins", spec := "unitsJoins", unfollowed := true, recurses := true, apart := false }
def UnitsJoinsSaid : Prop := unitsJoinsRow.holds Try.pinned (OpenSpec.ofChange unitsJoinsSpec)

/-- ITS FALSE NEIGHBOUR: 'it returns false'. Refute it at one input. -/
def unitsJoinsWrong : ChangeSpec := { name := "unitsJoins", fn := fun _ => fun
  | [d1, d2, d3] => { results := [.lit (.bool false)], args := [d1, d2, d3] }
  | _ => none }
def UnitsJoinsWrongFalsely : Prop := unitsJoinsRow.holds Try.pinned (OpenSpec.ofChange unitsJoinsWrong)

/- THE SECOND FORM. 'bulk': how many values and letters a reading holds, each counted each time it is reached (what is shared counts as often as it is met; a slice's spare places count too). A statement '..UptoSaid' is the law's where the arguments, and the package variables that the reading takes, are together of bulk at most 1048576: NARROWER than '..Said'. Prove '..Said' where nothing that the law and all that it calls make is longer than what came in: it says more and counts as full. Else prove '..UptoSaid'. A law counts once. -/
mutual
def uptoBulk {H : Type} : DataW H → Nat
  | .lit (.string bytes) => bytes.length + 1
  | .lit _ => 1
  | .nil => 1
  | .ptr d => uptoBulk d + 1
  | .slice elems spare => uptoBulkAll elems + uptoBulkAll spare + 1
  | .agg parts => uptoBulkAll parts + 1
  | .iface _ d => uptoBulk d + 1
  | .map entries => uptoBulkEntries entries + 1
  | .held _ => 1
def uptoBulkAll {H : Type} : List (DataW H) → Nat
  | [] => 0
  | d :: r => uptoBulk d + uptoBulkAll r
def uptoBulkEntries {H : Type} : List (Lit × DataW H) → Nat
  | [] => 0
  | x :: r => uptoBulkEntry x + uptoBulkEntries r
def uptoBulkEntry {H : Type} : Lit × DataW H → Nat
  | (.string bytes, d) => bytes.length + uptoBulk d + 1
  | (_, d) => uptoBulk d + 1
 end
def uptoSmall : (H : Type) → List (DataW H) → Bool := fun _ ds => decide (uptoBulkAll ds ≤ 1048576)
def OpenSpec.upto (s : _root_.Go.ChangeSpec) : _root_.Go.OpenSpec := { _root_.Go.OpenSpec.ofChange s with cond := some uptoSmall }

/-- 'lintellaw01.UnitsReads', WHERE WHAT IT READS IS OF BULK AT MOST 1048576: true; the input reads as it did. -/
def unitsReadsUptoRow : OpenClaim := { program := "ytenfggaeeeemiaa", sum := "b04c11565a9639b2e83ca1f31deeadf85e802099dda8f89cf7288abd8259bb6c", func := "lintel/lintellaw01.UnitsReads", spec := "unitsReads", unfollowed := true, recurses := true, apart := false, narrowed := true }
def UnitsReadsUptoSaid : Prop := unitsReadsUptoRow.holds Try.pinned (OpenSpec.upto unitsReadsSpec)

/-- 'lintellaw01.UnitsPieces', WHERE WHAT IT READS IS OF BULK AT MOST 1048576: true; the input reads as it did. -/
def unitsPiecesUptoRow : OpenClaim := { program := "ytenfggaeeeemiaa", sum := "b04c11565a9639b2e83ca1f31deeadf85e802099dda8f89cf7288abd8259bb6c", func := "lintel/lintellaw01.UnitsPieces", spec := "unitsPieces", unfollowed := true, recurses := true, apart := false, narrowed := true }
def UnitsPiecesUptoSaid : Prop := unitsPiecesUptoRow.holds Try.pinned (OpenSpec.upto unitsPiecesSpec)

/-- 'lintellaw01.UnitsFinds', WHERE WHAT IT READS IS OF BULK AT MOST 1048576: true; the input reads as it did. -/
def unitsFindsUptoRow : OpenClaim := { program := "ytenfggaeeeemiaa", sum := "b04c11565a9639b2e83ca1f31deeadf85e802099dda8f89cf7288abd8259bb6c", func := "lintel/lintellaw01.UnitsFinds", spec := "unitsFinds", unfollowed := true, recurses := true, apart := false, narrowed := true }
def UnitsFindsUptoSaid : Prop := unitsFindsUptoRow.holds Try.pinned (OpenSpec.upto unitsFindsSpec)

/-- 'lintellaw01.UnitsOrder', WHERE WHAT IT READS IS OF BULK AT MOST 1048576: true; the input reads as it did. -/
def unitsOrderUptoRow : OpenClaim := { program := "ytenfggaeeeemiaa", sum := "b04c11565a9639b2e83ca1f31deeadf85e802099dda8f89cf7288abd8259bb6c", func := "lintel/lintellaw01.UnitsOrder", spec := "unitsOrder", inPlace := ["internal/bytealg.abigen_runtime_cmpstring"], unfollowed := true, recurses := true, apart := false, narrowed := true }
def UnitsOrderUptoSaid : Prop := unitsOrderUptoRow.holds Try.pinned (OpenSpec.upto unitsOrderSpec)

/-- 'lintellaw01.UnitsPoints', WHERE WHAT IT READS IS OF BULK AT MOST 1048576: true; the input reads as it did. -/
def unitsPointsUptoRow : OpenClaim := { program := "ytenfggaeeeemiaa", sum := "b04c11565a9639b2e83ca1f31deeadf85e802099dda8f89cf7288abd8259bb6c", func := "lintel/lintellaw01.UnitsPoints", spec := "unitsPoints", unfollowed := true, recurses := true, apart := false, narrowed := true }
def UnitsPointsUptoSaid : Prop := unitsPointsUptoRow.holds Try.pinned (OpenSpec.upto unitsPointsSpec)

/-- 'lintellaw01.UnitsJoins', WHERE WHAT IT READS IS OF BULK AT MOST 1048576: true; the input reads as it did. -/
def unitsJoinsUptoRow : OpenClaim := { program := "ytenfggaeeeemiaa", sum := "b04c11565a9639b2e83ca1f31deeadf85e802099dda8f89cf7288abd8259bb6c", func := "lintel/lintellaw01.UnitsJoins", spec := "unitsJoins", unfollowed := true, recurses := true, apart := false, narrowed := true }
def UnitsJoinsUptoSaid : Prop := unitsJoinsUptoRow.holds Try.pinned (OpenSpec.upto unitsJoinsSpec)

end Rows
end Go.Proofs.Ytenfggaeeeemiaa
