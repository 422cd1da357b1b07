/- lex.Word, lex.Name: reserved words and names, any text. -/
import Derived.Test.YtopdogpcachonaaGreatDoorBase
import Derived.Handy
namespace Go.Proofs.YtopdogpcachonaaGreatDoor
set_option linter.unusedVariables false
open Go.RowKit

def wordsN : List (List UInt8) := [[98, 114, 101, 97, 107], [99, 97, 115, 101], [99, 97, 116, 99, 104], [99, 108, 97, 115, 115], [99, 111, 110, 115, 116], [99, 111, 110, 116, 105, 110, 117, 101], [100, 101, 98, 117, 103, 103, 101, 114], [100, 101, 102, 97, 117, 108, 116], [100, 101, 108, 101, 116, 101], [100, 111], [101, 108, 115, 101], [101, 110, 117, 109], [101, 120, 112, 111, 114, 116], [101, 120, 116, 101, 110, 100, 115], [102, 97, 108, 115, 101], [102, 105, 110, 97, 108, 108, 121], [102, 111, 114], [102, 117, 110, 99, 116, 105, 111, 110], [105, 102], [105, 109, 112, 111, 114, 116], [105, 110], [105, 110, 115, 116, 97, 110, 99, 101, 111, 102], [110, 101, 119], [110, 117, 108, 108], [114, 101, 116, 117, 114, 110], [115, 117, 112, 101, 114], [115, 119, 105, 116, 99, 104], [116, 104, 105, 115], [116, 104, 114, 111, 119], [116, 114, 117, 101], [116, 114, 121], [116, 121, 112, 101, 111, 102], [118, 97, 114], [118, 111, 105, 100], [119, 104, 105, 108, 101], [119, 105, 116, 104], [105, 109, 112, 108, 101, 109, 101, 110, 116, 115], [105, 110, 116, 101, 114, 102, 97, 99, 101], [108, 101, 116], [112, 97, 99, 107, 97, 103, 101], [112, 114, 105, 118, 97, 116, 101], [112, 114, 111, 116, 101, 99, 116, 101, 100], [112, 117, 98, 108, 105, 99], [115, 116, 97, 116, 105, 99], [121, 105, 101, 108, 100]]
def wordB (s : ByteArray) : Bool := wordsN.any (fun t => s.toList == t)
theorem wordB_yes {s : ByteArray} {t : List UInt8} (ht : t ∈ wordsN) (h : (s.toList == t) = true) : wordB s = true := List.any_eq_true.2 ⟨t, ht, h⟩
set_option maxHeartbeats 4000000 in
set_option maxRecDepth 100000 in
theorem lexWord_any (s : ByteArray) (w : World) : Calls Tryz.prog 85 #[.string s] w fun e w' => e = .returned (.bool (wordB s)) ∧ w' = w := by
  obtain ⟨r, hr⟩ : ∃ r, wordB s = r := ⟨_, rfl⟩
  rw [hr]
  have HR := Hid.mk' hr
  clear hr
  go_enter Tryz.func85, Tryz.ntmps85
  go_wp2
  all_goals first
    | (rename_i h1 h2; exact absurd (h1.symm.trans h2) (by decide))
    | (go_ret; rename_i h1 h2; refine ⟨?_, rfl⟩; rw [← HR.out, wordB_yes (by decide +kernel) h2]; rfl)
    | (go_ret; refine ⟨?_, rfl⟩; have e : wordB s = false := by (simp only [wordB, wordsN, List.any_cons, List.any_nil, *]; rfl)
       rw [← HR.out, e]; rfl)
end Go.Proofs.YtopdogpcachonaaGreatDoor
