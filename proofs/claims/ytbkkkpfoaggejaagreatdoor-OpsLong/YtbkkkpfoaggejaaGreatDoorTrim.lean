/- lintelref03.front, Trim: the document's blanks at both ends. -/
import Derived.Test.YtbkkkpfoaggejaaGreatDoorBlank
namespace Go.Proofs.YtbkkkpfoaggejaaGreatDoor
set_option linter.unusedVariables false
open Go.RowKit

def frontN (us : List Nat) : Nat := (us.takeWhile blankB).length
def backN (us : List Nat) : Nat := (us.reverse.takeWhile blankB).length
/-- Units without blanks at both ends. -/
def trimN (us : List Nat) : List Nat := (us.drop (frontN us)).take ((us.drop (frontN us)).length - backN (us.drop (frontN us)))
theorem takeWhile_len {p : Nat → Bool} : ∀ (us : List Nat) (k : Nat), k ≤ us.length → (∀ j (h : j < us.length), j < k → p us[j] = true) → (∀ h : k < us.length, p us[k] = false) → (us.takeWhile p).length = k
  | [], k, h, _, _ => by simp at h; subst h; rfl
  | x :: r, 0, _, _, h3 => by
    have := h3 (by simp)
    simp at this
    simp [this]
  | x :: r, k + 1, h, h2, h3 => by
    have hx := h2 0 (by simp) (by omega)
    simp at hx
    rw [List.takeWhile_cons, hx]
    simp only [if_true, List.length_cons]
    rw [takeWhile_len r k (by simp at h; omega) (fun j hj hjk => by have := h2 (j + 1) (by simp; omega) (by omega); simpa using this) (fun hk => by have := h3 (by simp; omega); simpa using this)]
theorem frontN_le (us : List Nat) : frontN us ≤ us.length := List.IsPrefix.length_le (List.takeWhile_prefix _)

def sliceLen : Value → Nat
  | .slice _ n _ => n
  | _ => 0
theorem trim_end {us d : List Nat} {m : Nat} (hd : us.drop (frontN us) = d) (hm : m ≤ d.length) (h0 : 0 < m) (h1 : ∀ h : m - 1 < d.length, blankB d[m - 1] = false) (h2 : ∀ j (h : j < d.length), m ≤ j → blankB d[j] = true) : trimN us = d.take m := by
  have hb : backN d = d.length - m := by
    unfold backN
    refine takeWhile_len _ _ (by simp) (fun j h hj => ?_) (fun h => ?_)
    · rw [List.getElem_reverse]
      simp at h
      exact h2 _ _ (by omega)
    · rw [List.getElem_reverse]
      simp at h
      have := h1 (by omega)
      have e : d.length - 1 - (d.length - m) = m - 1 := by omega
      simp only [e]
      exact this
  unfold trimN
  rw [hd, hb, show d.length - (d.length - m) = m by omega]
theorem trim_none {us d : List Nat} (hd : us.drop (frontN us) = d) (h2 : ∀ j (h : j < d.length), 0 ≤ j → blankB d[j] = true) : trimN us = d.take 0 := by
  have hb : backN d = d.length := by
    unfold backN
    refine takeWhile_len _ _ (by simp) (fun j h hj => ?_) (fun h => by simp at h)
    rw [List.getElem_reverse]
    exact h2 _ _ (by omega)
  unfold trimN
  rw [hd, hb, Nat.sub_self]

end Go.Proofs.YtbkkkpfoaggejaaGreatDoor
