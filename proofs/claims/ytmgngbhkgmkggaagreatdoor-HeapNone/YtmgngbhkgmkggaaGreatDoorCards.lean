/-
  DERIVED. GIVEN WITH THE SEED: THE CARDS: each row of YtmgngbhkgmkggaaGreatDoorRows.lean that lists a variable, with what it lists TIED to the program's text (the seventh form; the later family's looks); each row that meets fmt, with fmt's text TOLD by the authors' own Lean function (tested against real Go, not proved from fmt's source: count such statements apart). THE CARD IS WHAT COUNTS. Prove the row's statement (the work); the ties are given (YtmgngbhkgmkggaaGreatDoorTie.lean); close each card by the builder's one call (the guide's Derived/Test/ToyasCard.lean, 'card_holds'). Laid BY PROGRAM, IN A SANDBOX (cutbox-door.mjs). By AI agents, Wed Nov 11 2026. No macro, syntax, notation, axiom, sorry.
-/
import Derived.Test.YtmgngbhkgmkggaaGreatDoorRows
import GoSem.ClaimSeven
namespace Go.Proofs.YtmgngbhkgmkggaaGreatDoor
namespace Rows

/-- THE TIED CARD OF 'lintellaw15.HeapDoes'. -/
def heapDoesCard : Claim7 := { stood := { row := heapDoesRow, standIns := [], harness := (true, "ce653874623837b3c45fac5e92d0b4ccfb81498d392682d56c68741796a5038c"), looks := false }, kinds := [], alts := [], laidByText := true, laidKinds := [.data, .data, .data], laidTests := true, laidLooks := .later }
def HeapDoesCardSaid : Prop := Claim7.holds Tryz.pinned (.plain (OpenSpec.ofChange heapDoesSpec)) heapDoesCard

/-- THE TIED CARD OF 'lintellaw15.HeapModes'. -/
def heapModesCard : Claim7 := { stood := { row := heapModesRow, standIns := [], harness := (true, "ce653874623837b3c45fac5e92d0b4ccfb81498d392682d56c68741796a5038c"), looks := false }, kinds := [], alts := [], laidByText := true, laidKinds := [.data, .data, .data], laidTests := true, laidLooks := .later }
def HeapModesCardSaid : Prop := Claim7.holds Tryz.pinned (.plain (OpenSpec.ofChange heapModesSpec)) heapModesCard

/-- THE TIED CARD OF 'lintellaw15.HeapRoom'. -/
def heapRoomCard : Claim7 := { stood := { row := heapRoomRow, standIns := [], harness := (true, "ce653874623837b3c45fac5e92d0b4ccfb81498d392682d56c68741796a5038c"), looks := false }, kinds := [], alts := [], laidByText := true, laidKinds := [.data, .data, .data], laidTests := true, laidLooks := .later }
def HeapRoomCardSaid : Prop := Claim7.holds Tryz.pinned (.plain (OpenSpec.ofChange heapRoomSpec)) heapRoomCard

/-- THE TIED CARD OF 'lintellaw15.HeapFast'. -/
def heapFastCard : Claim7 := { stood := { row := heapFastRow, standIns := [], harness := (true, "ce653874623837b3c45fac5e92d0b4ccfb81498d392682d56c68741796a5038c"), looks := false }, kinds := [], alts := [], laidByText := true, laidKinds := [.data, .data, .data], laidTests := true, laidLooks := .later }
def HeapFastCardSaid : Prop := Claim7.holds Tryz.pinned (.plain (OpenSpec.ofChange heapFastSpec)) heapFastCard

/-- THE TIED CARD OF 'lintellaw15.HeapNone'. -/
def heapNoneCard : Claim7 := { stood := { row := heapNoneRow, standIns := [], harness := (true, "ce653874623837b3c45fac5e92d0b4ccfb81498d392682d56c68741796a5038c"), looks := false }, kinds := [], alts := [], laidByText := true, laidKinds := [.data, .data, .data], laidTests := true, laidLooks := .later }
def HeapNoneCardSaid : Prop := Claim7.holds Tryz.pinned (.plain (OpenSpec.ofChange heapNoneSpec)) heapNoneCard

/-- THE SECOND FORM's CARD OF 'lintellaw15.HeapDoes'. -/
def heapDoesUptoCard : Claim7 := { stood := { row := heapDoesUptoRow, standIns := [], harness := (true, "ce653874623837b3c45fac5e92d0b4ccfb81498d392682d56c68741796a5038c"), looks := false }, kinds := [], alts := [], laidByText := true, laidKinds := [.data, .data, .data], laidTests := true, laidLooks := .later }
def HeapDoesUptoCardSaid : Prop := Claim7.holds Tryz.pinned (.plain (OpenSpec.upto heapDoesSpec)) heapDoesUptoCard

/-- THE SECOND FORM's CARD OF 'lintellaw15.HeapModes'. -/
def heapModesUptoCard : Claim7 := { stood := { row := heapModesUptoRow, standIns := [], harness := (true, "ce653874623837b3c45fac5e92d0b4ccfb81498d392682d56c68741796a5038c"), looks := false }, kinds := [], alts := [], laidByText := true, laidKinds := [.data, .data, .data], laidTests := true, laidLooks := .later }
def HeapModesUptoCardSaid : Prop := Claim7.holds Tryz.pinned (.plain (OpenSpec.upto heapModesSpec)) heapModesUptoCard

/-- THE SECOND FORM's CARD OF 'lintellaw15.HeapRoom'. -/
def heapRoomUptoCard : Claim7 := { stood := { row := heapRoomUptoRow, standIns := [], harness := (true, "ce653874623837b3c45fac5e92d0b4ccfb81498d392682d56c68741796a5038c"), looks := false }, kinds := [], alts := [], laidByText := true, laidKinds := [.data, .data, .data], laidTests := true, laidLooks := .later }
def HeapRoomUptoCardSaid : Prop := Claim7.holds Tryz.pinned (.plain (OpenSpec.upto heapRoomSpec)) heapRoomUptoCard

/-- THE SECOND FORM's CARD OF 'lintellaw15.HeapFast'. -/
def heapFastUptoCard : Claim7 := { stood := { row := heapFastUptoRow, standIns := [], harness := (true, "ce653874623837b3c45fac5e92d0b4ccfb81498d392682d56c68741796a5038c"), looks := false }, kinds := [], alts := [], laidByText := true, laidKinds := [.data, .data, .data], laidTests := true, laidLooks := .later }
def HeapFastUptoCardSaid : Prop := Claim7.holds Tryz.pinned (.plain (OpenSpec.upto heapFastSpec)) heapFastUptoCard

/-- THE SECOND FORM's CARD OF 'lintellaw15.HeapNone'. -/
def heapNoneUptoCard : Claim7 := { stood := { row := heapNoneUptoRow, standIns := [], harness := (true, "ce653874623837b3c45fac5e92d0b4ccfb81498d392682d56c68741796a5038c"), looks := false }, kinds := [], alts := [], laidByText := true, laidKinds := [.data, .data, .data], laidTests := true, laidLooks := .later }
def HeapNoneUptoCardSaid : Prop := Claim7.holds Tryz.pinned (.plain (OpenSpec.upto heapNoneSpec)) heapNoneUptoCard
end Rows
end Go.Proofs.YtmgngbhkgmkggaaGreatDoor
