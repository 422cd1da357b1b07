/- Every number is shown by digits.Show as the document says: DigitsShow returns true, whatever the number. -/
import Derived.Test.YtjnbnejfdleocaaGreatDoorAwakeD
import Derived.Test.YtjnbnejfdleocaaGreatDoorRShowA
namespace Go.Proofs.YtjnbnejfdleocaaGreatDoor
set_option linter.unusedVariables false
open Go.RowKit Fl

set_option maxHeartbeats 1000000 in
set_option maxRecDepth 100000 in
theorem show_walk (x : Nat) (w : World) (hx : x < 18446744073709551616) (hl : Hid (Laid w)) :
    Calls Tryz.prog 3 #[.float .f64 x] w fun e w' => e = .returned (.bool true) ∧ Below w.heap.size w w' := by
  have HA := Hid.mk' (fun W hW => awake_any W hW)
  have HS := Hid.mk' (fun W hW => show_any x W hx hW)
  have HR := Hid.mk' (fun W (hW : Hid (Laid W)) => rshow_any x W hx (Hid.mk' hW.out.f))
  generalize ofFst (ofS (Sb (showB x))) = T at *
  go_enter Tryz.func3, Tryz.ntmps3
  go_wp2_with fail
  refine (HA.out _ hl).mono ?_
  rintro e w1 ⟨rfl, b1⟩
  have hl1 : Hid (Laid w1) := hl.out.below b1
  go_wp2_with fail
  refine (HS.out _ hl1).mono ?_
  rintro e w2 ⟨rfl, b2⟩
  have c2 : Below w.heap.size w w2 := b1.trans (b2.mono b1.size)
  have hl2 : Hid (Laid w2) := hl.out.below c2
  go_wp2_with fail
  refine (HR.out _ hl2).mono ?_
  rintro e w3 ⟨rfl, b3⟩
  go_wp2
  go_ret
  exact ⟨rfl, c2.trans (b3.mono c2.size)⟩
end Go.Proofs.YtjnbnejfdleocaaGreatDoor
