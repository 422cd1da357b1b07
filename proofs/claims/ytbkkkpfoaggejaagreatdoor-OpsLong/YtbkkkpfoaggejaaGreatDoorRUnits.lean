/- lintelref01.Units, Even: the document's units of a text. -/
import Derived.Test.YtbkkkpfoaggejaaGreatDoorOwn
import Derived.Test.YtbkkkpfoaggejaaGreatDoorBytes
namespace Go.Proofs.YtbkkkpfoaggejaaGreatDoor
set_option linter.unusedVariables false
open Go.RowKit

theorem un_raw (s : ByteArray) (k : Nat) (h0 : (2 * (k : Int)).toNat < s.size) (h1 : (2 * (k : Int) + 1).toNat < s.size) : ((s[(2 * (k : Int)).toNat]'h0).toNat : Int) * 256 + ((s[(2 * (k : Int) + 1).toNat]'h1).toNat : Int) = (un s k : Nat) := by
  have e0 : (2 * (k : Int)).toNat = 2 * k := by omega
  have e1 : (2 * (k : Int) + 1).toNat = 2 * k + 1 := by omega
  rw [show un s k = (s[2 * k]'(by omega)).toNat * 256 + (s[2 * k + 1]'(by omega)).toNat from by unfold un; rw [by_get s (2 * k) (by omega), by_get s (2 * k + 1) (by omega)]]
  simp only [e0, e1]
  omega

end Go.Proofs.YtbkkkpfoaggejaaGreatDoor
