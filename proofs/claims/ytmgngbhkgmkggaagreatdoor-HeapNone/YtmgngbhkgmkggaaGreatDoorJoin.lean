/- units.Join and lintelref01.Join: texts one behind the other, or too long together. -/
import Derived.Test.YtmgngbhkgmkggaaGreatDoorMake
import Derived.Test.YtmgngbhkgmkggaaGreatDoorRCmp
import Derived.Test.YtmgngbhkgmkggaaGreatDoorROf
import Derived.Test.YtmgngbhkgmkggaaGreatDoorCut
import Derived.Lib.AppendStr
import Derived.ArgAppend
namespace Go.Proofs.YtmgngbhkgmkggaaGreatDoor
set_option linter.unusedVariables false
open Go.RowKit

/-- A value is a slice whose texts are ss. -/
def RdS (w : World) (v : Value) (ss : List ByteArray) : Prop :=
  (∃ a c, v = .slice a 0 c ∧ ss = [] ∧ (a = none → c = 0) ∧ (c : Int) ≤ 9223372036854775807) ∨ ∃ g o c, v = .slice (some ⟨g, o, none⟩) ss.length c ∧ ss.length ≤ c ∧ (c : Int) ≤ 9223372036854775807 ∧ g < w.heap.size ∧ ∀ (j : Nat) (h : j < ss.length), w.cell? ⟨g, o + j, none⟩ = some (.string ss[j])
theorem RdS.below {w w' : World} {v : Value} {ss : List ByteArray} (h : RdS w v ss) (hb : Below w.heap.size w w') : RdS w' v ss := by
  rcases h with h | ⟨g, o, c, rfl, hl, hm, hg, hc⟩
  · exact .inl h
  · exact .inr ⟨g, o, c, rfl, hl, hm, Nat.lt_of_lt_of_le hg hb.size, fun j hj => (hb.cell (p := ⟨g, o + j, none⟩) hg).trans (hc j hj)⟩
theorem RdS.form {w : World} {v : Value} {ss : List ByteArray} (h : RdS w v ss) : ∃ x c, v = .slice x ss.length c := by
  rcases h with ⟨a, c, rfl, rfl, _⟩ | ⟨g, o, c, rfl, _⟩
  · exact ⟨_, _, rfl⟩
  · exact ⟨_, _, rfl⟩

def hsum (ss : List ByteArray) : Nat := (ss.map fun s => s.size / 2).sum
theorem hsum_append (a b : List ByteArray) : hsum (a ++ b) = hsum a + hsum b := by unfold hsum; rw [List.map_append, List.sum_append]
theorem hsum_take (ss : List ByteArray) (k : Nat) (h : k < ss.length) : hsum (ss.take (k + 1)) = hsum (ss.take k) + ss[k].size / 2 := by
  rw [List.take_succ_eq_append_getElem h, hsum_append]
  rfl
theorem hsum_mono (ss : List ByteArray) (k : Nat) : hsum (ss.take k) ≤ hsum ss := by
  have : hsum ss = hsum (ss.take k) + hsum (ss.drop k) := by
    rw [← hsum_append, List.take_append_drop]
  omega
def joinB (ss : List ByteArray) : List UInt8 := ss.flatMap ebs
theorem joinB_take (ss : List ByteArray) (k : Nat) (h : k < ss.length) : joinB (ss.take (k + 1)) = joinB (ss.take k) ++ ebs ss[k] := by
  rw [List.take_succ_eq_append_getElem h]; unfold joinB; rw [List.flatMap_append]; simp only [List.flatMap_cons, List.flatMap_nil, List.append_nil]
theorem joinB_length (ss : List ByteArray) : (joinB ss).length = 2 * hsum ss := by
  induction ss with
  | nil => rfl
  | cons s r ih =>
    have e : joinB (s :: r) = ebs s ++ joinB r := rfl
    have e2 : hsum (s :: r) = s.size / 2 + hsum r := by simp [hsum]
    rw [e, List.length_append, ih, ebs_length, e2]; omega
def joinNo : Ending := .returned (.tuple #[.string ⟨#[]⟩, .int .i64 2])
def joinYes (ss : List ByteArray) : Ending := .returned (.tuple #[.string ⟨(joinB ss).toArray⟩, .int .i64 0])

theorem strCells_even (s : ByteArray) : Lib.strCells (evenS s) = Lib.byteCells (ebs s) := by
  unfold Lib.strCells Lib.byteCells; rw [evenS_bytes]
theorem even_size (s : ByteArray) : (evenS s).size = (ebs s).length := by
  rw [← evenS_bytes]; simp

end Go.Proofs.YtmgngbhkgmkggaaGreatDoor
