/- lintelref03.digit, run, prefixed, decimal: the document's number texts. -/
import Derived.Test.YtbkkkpfoaggejaaGreatDoorTrim
namespace Go.Proofs.YtbkkkpfoaggejaaGreatDoor
set_option linter.unusedVariables false
open Go.RowKit

def digitN (c : Nat) : Nat := if 48 ≤ c ∧ c ≤ 57 then c - 48 else if 97 ≤ c ∧ c ≤ 122 then c - 97 + 10 else if 65 ≤ c ∧ c ≤ 90 then c - 65 + 10 else 99

/-- A text's bytes. -/
def bys (s : ByteArray) : List Nat := s.data.toList.map (·.toNat)
theorem bys_length (s : ByteArray) : (bys s).length = s.size := by simp [bys]
theorem bys_get (s : ByteArray) (i : Nat) (h : i < s.size) : (bys s)[i]'(by rw [bys_length]; exact h) = by' s i := by
  unfold bys by'
  have hl : i < s.data.toList.length := by simpa using h
  rw [List.getElem_map, List.getD_eq_getElem?_getD, List.getElem?_eq_getElem hl]
  rfl
/-- How many digits to a base stand at a place. -/
def runN (s : ByteArray) (at' : Nat) (b : Int) : Nat := (((bys s).drop at').takeWhile fun c => decide ((digitN c : Int) < b)).length
theorem runN_of (s : ByteArray) (p k : Nat) (b : Int) (hp : p + k ≤ s.size) (h1 : ∀ j, j < k → (digitN (by' s (p + j)) : Int) < b) (h2 : p + k < s.size → ¬ (digitN (by' s (p + k)) : Int) < b) : runN s p b = k := by
  have hl : ((bys s).drop p).length = s.size - p := by rw [List.length_drop, bys_length]
  refine takeWhile_len _ k (by rw [hl]; omega) (fun j h hj => ?_) (fun h => ?_)
  · rw [List.getElem_drop, bys_get s (p + j) (by omega)]
    exact decide_eq_true (h1 j hj)
  · rw [hl] at h
    rw [List.getElem_drop, bys_get s (p + k) (by omega)]
    exact decide_eq_false (h2 (by omega))
theorem runN_le (s : ByteArray) (p : Nat) (b : Int) : runN s p b ≤ s.size - p := by
  have := List.IsPrefix.length_le (List.takeWhile_prefix (fun c => decide ((digitN c : Int) < b)) (l := (bys s).drop p))
  rw [List.length_drop, bys_length] at this
  exact this

/-- The base of 0x, 0o, 0b; 0: none stands there. -/
def prefN (s : ByteArray) : Nat := if s.size < 2 ∨ by' s 0 ≠ 48 then 0 else if by' s 1 = 120 ∨ by' s 1 = 88 then 16 else if by' s 1 = 111 ∨ by' s 1 = 79 then 8 else if by' s 1 = 98 ∨ by' s 1 = 66 then 2 else 0
end Go.Proofs.YtbkkkpfoaggejaaGreatDoor
