/- lintelref03.zeros, Plain, Show; lintelref01.Ascii: the document's text of a number. -/
import Derived.Test.YtbkkkpfoaggejaaGreatDoorShowU
import Derived.Test.YtbkkkpfoaggejaaGreatDoorRAsc
import Derived.PlainAid
namespace Go.Proofs.YtbkkkpfoaggejaaGreatDoor
set_option linter.unusedVariables false
open Go.RowKit Fl

theorem man_filter (b : Nat) : (u8s (manN (shDs b))).filter (· != 46) = u8s (shDs b) := by
  have hd := shDs_digit b
  have hf : ∀ l : List Nat, (∀ c ∈ l, 48 ≤ c ∧ c ≤ 57) → (u8s l).filter (· != 46) = u8s l := fun l hl => by
    rw [List.filter_eq_self]
    intro c hc
    have := u8s_mem hc (fun x hx => by have := hl x hx; omega)
    have := hl _ this
    rw [bne_iff_ne]
    rintro rfl
    exact absurd this.1 (by decide)
  cases h : shDs b with
  | nil => rfl
  | cons d r =>
    rw [h] at hd
    cases r with
    | nil => exact hf [d] hd
    | cons e r =>
      have h1 := hf [d] (fun c hc => hd c (by simp at hc; simp [hc]))
      have h2 := hf (e :: r) (fun c hc => hd c (by simp at hc ⊢; right; exact hc))
      show ((u8s [d]) ++ ([46] ++ u8s (e :: r))).filter (· != 46) = u8s [d] ++ u8s (e :: r)
      rw [List.filter_append, h1, List.filter_append, h2]
      rfl

theorem enc_ascii (c : UInt8) (h : c.toNat < 128) : Utf8.encode (c.toNat : Int) = Sb [c] := by
  unfold Utf8.encode
  have hv : Utf8.valid (c.toNat : Int) = true := by unfold Utf8.valid; simp; omega
  simp only [hv, if_true]
  simp [h, Sb]
end Go.Proofs.YtbkkkpfoaggejaaGreatDoor
