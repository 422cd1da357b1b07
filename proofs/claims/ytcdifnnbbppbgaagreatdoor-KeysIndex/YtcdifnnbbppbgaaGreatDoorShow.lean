/- digits.Show: the program's text of a number. -/
import Derived.Test.YtcdifnnbbppbgaaGreatDoorShowP
import Derived.Test.YtcdifnnbbppbgaaGreatDoorMf
import Derived.Lib.AtoiErrMem
import Derived.Lib.ItoaLen
namespace Go.Proofs.YtcdifnnbbppbgaaGreatDoor
set_option linter.unusedVariables false
open Go.RowKit Fl

theorem Sb46 : (⟨#[46]⟩ : ByteArray) = Sb [46] := rfl
theorem Sb101 : (⟨#[101]⟩ : ByteArray) = Sb [101] := rfl
theorem Sb45 : (⟨#[45]⟩ : ByteArray) = Sb [45] := rfl
theorem Sb43 : (⟨#[43]⟩ : ByteArray) = Sb [43] := rfl
theorem Sb48 : (⟨#[48]⟩ : ByteArray) = Sb [48] := rfl
theorem Sb4846 : (⟨#[48, 46]⟩ : ByteArray) = Sb [48, 46] := rfl
theorem strN_Sb (l : List Nat) : strN l = Sb (u8s l) := rfl
end Go.Proofs.YtcdifnnbbppbgaaGreatDoor
