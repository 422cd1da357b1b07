/- units.Make and lintelref01.Make: a text of units. -/
import Derived.Test.YtllglkegdlcgcaaGreatDoorBytes
import Derived.Test.YtllglkegdlcgcaaGreatDoorOf
namespace Go.Proofs.YtllglkegdlcgcaaGreatDoor
set_option linter.unusedVariables false
open Go.RowKit

/-- A value is a slice whose units are us. -/
def Rd (w : World) (v : Value) (us : List Nat) : Prop :=
  (∃ c, v = .slice none us.length c ∧ us = []) ∨ ∃ g o c, v = .slice (some ⟨g, o, none⟩) us.length c ∧ g < w.heap.size ∧ ∀ (j : Nat) (h : j < us.length), w.cell? ⟨g, o + j, none⟩ = some (.int .u16 us[j])

theorem Rd.below {w w' : World} {v : Value} {us : List Nat} (h : Rd w v us) (hb : Below w.heap.size w w') : Rd w' v us := by
  rcases h with h | ⟨g, o, c, rfl, hg, hc⟩
  · exact .inl h
  · exact .inr ⟨g, o, c, rfl, Nat.lt_of_lt_of_le hg hb.size, fun j hj => (hb.cell (p := ⟨g, o + j, none⟩) hg).trans (hc j hj)⟩

theorem Rd.own {w : World} {B : Nat} {v : Value} {s : ByteArray} (h : w.ownsRow B 61 1 v (s.size / 2) (uc s (s.size / 2))) : Rd w v (uns s) := by
  rcases h.2 with ⟨rfl, h0⟩ | ⟨g, cap, cur, rfl, hb, hg, _⟩
  · refine .inl ⟨0, ?_, ?_⟩
    · rw [uns_length, h0]
    · simp [uns, h0]
  · refine .inr ⟨g, 0, cap, by rw [uns_length], (Array.getElem?_eq_some_iff.1 hg).1, fun j hj => ?_⟩
    rw [Nat.zero_add]
    refine own_cell h ?_
    rw [uns_length] at hj
    rw [uc_get s _ j hj]
    simp [uns]

end Go.Proofs.YtllglkegdlcgcaaGreatDoor
