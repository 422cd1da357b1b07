/- A text of bytes; what is taken of units.Of; the units of an ASCII text. -/
import Derived.Test.YtbkkkpfoaggejaaGreatDoorBytes
namespace Go.Proofs.YtbkkkpfoaggejaaGreatDoor
set_option linter.unusedVariables false
open Go.RowKit

/-- A text of bytes. -/
def Sb (l : List UInt8) : ByteArray := ⟨l.toArray⟩
theorem Sb_list (l : List UInt8) : (Sb l).data.toList = l := by simp [Sb]
theorem Sb_size (l : List UInt8) : (Sb l).size = l.length := by simp [Sb, ByteArray.size]
theorem Sb_ext {a : ByteArray} {l : List UInt8} (h : a.data.toList = l) : a = Sb l := by
  cases a with
  | mk d => unfold Sb; simp at h; rw [← h]
theorem Sb_append (a b : List UInt8) : Sb a ++ Sb b = Sb (a ++ b) := Sb_ext (by simp [Sb])
theorem Sb_extract (l : List UInt8) (i j : Nat) : (Sb l).extract i j = Sb ((l.take j).drop i) := Sb_ext (by simp [Sb, ByteArray.data_extract, List.drop_take])

/-- What is taken of units.Of. -/
def ofFst : Except Nat (List UInt8) → ByteArray
  | .ok bs => ⟨bs.toArray⟩
  | .error _ => ⟨#[]⟩

end Go.Proofs.YtbkkkpfoaggejaaGreatDoor
