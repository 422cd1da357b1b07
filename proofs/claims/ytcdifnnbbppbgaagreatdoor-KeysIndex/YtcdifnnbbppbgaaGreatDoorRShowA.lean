/- lintelref03.Plain, Show at every number. -/
import Derived.Test.YtcdifnnbbppbgaaGreatDoorRShow
namespace Go.Proofs.YtcdifnnbbppbgaaGreatDoor
set_option linter.unusedVariables false
open Go.RowKit Fl

set_option maxHeartbeats 1000000 in
set_option maxRecDepth 100000 in
theorem rplain_non (y : Nat) (w : World) (h0 : 0 < y) (h1 : y ≤ 9218868437227405312) (hl : Hid (LaidF w)) :
    Calls Tryz.prog 32 #[.float .f64 y] w fun e w' => e = .returned (.string (Sb (unsB y))) ∧ Below w.heap.size w w' := by
  by_cases h2 : y = 9218868437227405312
  · have HE : Hid (unsB y = [73, 110, 102, 105, 110, 105, 116, 121]) := by show _ = _; unfold unsB; rw [if_neg (by unfold nan; omega), if_pos h2]
    have HI := Hid.mk' (fun W => isInf1_any y W (by omega))
    rw [decide_eq_true h2] at HI
    have e0 := eq0 y (by omega)
    rw [decide_eq_false (show ¬ y % 9223372036854775808 = 0 by omega)] at e0
    have l0 := lt0 y (by omega) (by unfold nan; omega)
    rw [decide_eq_false (show ¬ 9223372036854775808 < y by omega)] at l0
    have hnn : (FloatKind.f64.format.order y y != some Ordering.eq) = false := by
      rw [f64, order_key y y (by omega) (by omega) (by unfold nan; omega) (by unfold nan; omega), Int.compare_eq_eq.2 rfl]; rfl
    clear h2
    go_enter Tryz.func32, Tryz.ntmps32
    go_wp2_with (go_at_call 45; refine (HI.out _).mono ?_; rintro e w1 ⟨rfl, hw1⟩; rw [hw1]; clear hw1 w1)
    go_ret
    exact ⟨by rw [HE.out]; rfl, Below.refl _ _⟩
  · have HE : unsB y = posB y := by unfold unsB; rw [if_neg (by unfold nan; omega), if_neg h2, if_neg (by omega)]
    rw [HE]
    exact rplain_pos y w h0 (by omega) hl
set_option maxHeartbeats 1000000 in
set_option maxRecDepth 100000 in
theorem rplain_any (x : Nat) (w : World) (hx : x < 18446744073709551616) (hl : Hid (LaidF w)) :
    Calls Tryz.prog 32 #[.float .f64 x] w fun e w' => e = .returned (.string (Sb (showB x))) ∧ Below w.heap.size w w' := by
  by_cases h1 : nan x
  · have HE : Hid (showB x = [78, 97, 78]) := by show _ = _; rw [showB_pos x (.inl h1)]; unfold unsB; rw [if_pos h1]
    have hnn : (FloatKind.f64.format.order x x != some Ordering.eq) = true := by
      rw [f64, order_nan x x hx hx (.inl h1)]; rfl
    go_enter Tryz.func32, Tryz.ntmps32
    go_wp2
    go_ret
    exact ⟨by rw [HE.out]; rfl, Below.refl _ _⟩
  · have hnn : (FloatKind.f64.format.order x x != some Ordering.eq) = false := by
      rw [f64, order_key x x hx hx h1 h1, Int.compare_eq_eq.2 rfl]; rfl
    have e0 := eq0 x hx
    have l0 := lt0 x hx h1
    by_cases h2 : x % 9223372036854775808 = 0
    · rw [decide_eq_true h2] at e0
      have HE : Hid (showB x = [48]) := by show _ = _; rw [showB_pos x (.inr (by omega))]; unfold unsB; rw [if_neg h1, if_neg (by omega), if_pos h2]
      clear h2 l0
      go_enter Tryz.func32, Tryz.ntmps32
      go_wp2
      go_ret
      exact ⟨by rw [HE.out]; rfl, Below.refl _ _⟩
    · rw [decide_eq_false h2] at e0
      by_cases h3 : 9223372036854775808 < x
      · rw [decide_eq_true h3] at l0
        have HE := Hid.mk' (showB_neg x h3 h1)
        have hy0 : x % 9223372036854775808 ≤ 9218868437227405312 := by unfold nan at h1; omega
        have hneg : Op.negFloat .f64 x = x % 9223372036854775808 := by
          have := neg_neg' (x % 9223372036854775808) (by omega)
          rw [show 9223372036854775808 + x % 9223372036854775808 = x by omega] at this
          exact this
        have hlen := unsB_len (x % 9223372036854775808) (.inl hy0)
        have hyp : 0 < x % 9223372036854775808 := by omega
        generalize x % 9223372036854775808 = y at *
        have HR := Hid.mk' (fun W hW => rplain_non y W hyp hy0 hW)
        have hs2 : ((Sb (unsB y)).size : Int) ≤ 300 := by rw [Sb_size]; omega
        clear hlen h2
        go_enter Tryz.func32, Tryz.ntmps32
        go_wp2_with fail
        refine (HR.out _ hl).mono ?_
        rintro e w1 ⟨rfl, b1⟩
        go_wp2
        go_ret
        refine ⟨congrArg (fun s => Ending.returned (.string s)) (Sb_ext ?_), b1⟩
        rw [HE.out]
        simp only [Sb45, Sb_append, Sb_list]
        rfl
      · rw [showB_pos x (.inr h3)]
        exact rplain_non x w (by omega) (by unfold nan at h1; omega) hl
set_option maxHeartbeats 400000 in
theorem rshow_any (x : Nat) (w : World) (hx : x < 18446744073709551616) (hl : Hid (LaidF w)) :
    Calls Tryz.prog 21 #[.float .f64 x] w fun e w' => e = .returned (.string (ofFst (ofS (Sb (showB x))))) ∧ Below w.heap.size w w' := by
  have HP := Hid.mk' (fun W hW => rplain_any x W hx hW)
  have hlen := showB_len x hx
  have HA := Hid.mk' (fun W => rascii_any (Sb (showB x)) W (by rw [Sb_size]; omega))
  clear hlen
  go_enter Tryz.func21, Tryz.ntmps21
  go_wp2_with fail
  refine (HP.out _ hl).mono ?_
  rintro e w1 ⟨rfl, b1⟩
  go_wp2_with fail
  refine (HA.out _).mono ?_
  rintro e w2 ⟨rfl, b2⟩
  go_wp2
  go_ret
  exact ⟨rfl, b1.trans (b2.mono b1.size)⟩
end Go.Proofs.YtcdifnnbbppbgaaGreatDoor
