/- NumsShifts: for every two numbers the law returns true: shifts and products of 32 bits are the document's. No condition. -/
import Derived.Test.YtilcpdnonppleaaRows
import Derived.Test.YtilcpdnonppleaaNAwake
import Derived.ProofKit
import Derived.OpenShut
import Derived.ShutString
import Derived.SizedLaws
import Derived.Below
namespace Go.Proofs.Ytilcpdnonppleaa
set_option linter.unusedVariables false
open Go.ChangeShapes Go.WideShapes Go.ChangeAt Go.RowKit
open Go.ChangeMaps (open_string shut_string)
open Fl

theorem same_self (n : Int) (W : World) : Calls Try.prog 16 #[.float .f64 (floatOfInt .f64 n), .float .f64 (floatOfInt .f64 n)] W fun e w' => e = .returned (.bool true) ∧ w' = W := by
  have h : floatOfInt .f64 n < 18446744073709551616 := by simpa [Lit.wf] using floatOfInt_wf .f64 n
  have := same_any _ _ W h h
  rw [show alike (floatOfInt .f64 n) (floatOfInt .f64 n) = true by unfold alike; simp] at this
  exact this
set_option maxHeartbeats 1000000 in
set_option maxRecDepth 100000 in
theorem shifts_walk (a b : Nat) (ha : a < 18446744073709551616) (hb : b < 18446744073709551616) (w : World) :
    Calls Try.prog 4 #[.float .f64 a, .float .f64 b] w fun e w' => e = .returned (.bool true) ∧ Below w.heap.size w w' := by
  have HA := Hid.mk' (fun W => awake_any W)
  have HLeft := Hid.mk' (fun W => left_any a b W ha hb)
  have RLeft := Hid.mk' (fun W => rleft_any a b W ha hb)
  have HRight := Hid.mk' (fun W => right_any a b W ha hb)
  have RRight := Hid.mk' (fun W => rright_any a b W ha hb)
  have HOver := Hid.mk' (fun W => over_any a b W ha hb)
  have ROver := Hid.mk' (fun W => rover_any a b W ha hb)
  have HMul32 := Hid.mk' (fun W => mul32_any a b W ha hb)
  have RMul32 := Hid.mk' (fun W => rmul32_any a b W ha hb)
  have HS := Hid.mk' same_self
  generalize wrap32 (wrap32 (u32 a) * 2 ^ (u32 b % 32).toNat) = n1 at *
  generalize wrap32 (u32 a) / 2 ^ (u32 b % 32).toNat = n2 at *
  generalize u32 a / 2 ^ (u32 b % 32).toNat = n3 at *
  generalize wrap32 (wrap32 (u32 a) * wrap32 (u32 b)) = n4 at *
  go_enter Try.func4, Try.ntmps4
  go_wp2_with (first | (go_at_call 9; refine (HA.out _).mono ?_; rintro e w1 ⟨rfl, hw1⟩; rw [hw1]; clear hw1 w1) | (go_at_call 21; refine (HLeft.out _).mono ?_; rintro e w1 ⟨rfl, hw1⟩; rw [hw1]; clear hw1 w1) | (go_at_call 22; refine (RLeft.out _).mono ?_; rintro e w1 ⟨rfl, hw1⟩; rw [hw1]; clear hw1 w1) | (go_at_call 23; refine (HRight.out _).mono ?_; rintro e w1 ⟨rfl, hw1⟩; rw [hw1]; clear hw1 w1) | (go_at_call 24; refine (RRight.out _).mono ?_; rintro e w1 ⟨rfl, hw1⟩; rw [hw1]; clear hw1 w1) | (go_at_call 25; refine (HOver.out _).mono ?_; rintro e w1 ⟨rfl, hw1⟩; rw [hw1]; clear hw1 w1) | (go_at_call 26; refine (ROver.out _).mono ?_; rintro e w1 ⟨rfl, hw1⟩; rw [hw1]; clear hw1 w1) | (go_at_call 27; refine (HMul32.out _).mono ?_; rintro e w1 ⟨rfl, hw1⟩; rw [hw1]; clear hw1 w1) | (go_at_call 28; refine (RMul32.out _).mono ?_; rintro e w1 ⟨rfl, hw1⟩; rw [hw1]; clear hw1 w1) | (go_at_call 16; refine (HS.out _ _).mono ?_; rintro e w1 ⟨rfl, hw1⟩; rw [hw1]; clear hw1 w1))
  go_ret
  exact ⟨rfl, Below.refl _ _⟩

theorem numsShifts_own : ownKnob Try.prog.godebug = none := by kernel_rfl

set_option maxRecDepth 100000 in
theorem numsShifts_lifted (os : Os) (started : os.Started) (H : Type) (enc : TypeId × Value → H) :
    ReturnsInHanded {} Try.checked os 4 .any (Rows.numsShiftsSpec.pre6 enc Try.prog Try.f4 Rows.numsShiftsRow.domain false) (Rows.numsShiftsSpec.post enc Try.prog Try.f4 false true false false) := by
  refine returnsInHanded_of_change_sized (C := Try.checked) numsShifts_own started (by kernel_rfl) Try.func4
    (ChangeSpec.witness6 (enc := enc) (C := Try.checked) false ⟨#[], #[.float .f64 0, .float .f64 0], []⟩ 8 (by kernel_rfl) (by kernel_rfl) (by kernel_rfl) (by kernel_rfl)) ?_
  intro W base args ds gs before hval0 hW hcnd hsz0 _
  have hval : ∀ (j : Nat) t v, Try.f4.params[j]? = some t → args[j]? = some v → Value.okWide Try.prog W .any base t v := hval0
  have hsz : (DataW.weightsEach Try.prog (Try.f4.params.toList ++ Rows.numsShiftsSpec.plain.varTypes Try.prog) (ds ++ gs)).all (· ≤ reachBytes) = true := hsz0
  have hW' := hW
  obtain ⟨p, q, hA0, hV, rfl, hfz, hnd⟩ := hW
  have hA : DataW.TrodAll enc Try.prog W 0 (fun _ => true) true Try.f4.params.toList args.toList ds p := hA0
  rw [Try.params4] at hA hval hsz
  obtain ⟨v0, vs0, d0, ds0, p0, q0, hargs, rfl, rfl, h0, r0⟩ := trodAll_cons hA
  obtain ⟨v1, vs1, d1, ds1, p1, q1, rfl, rfl, rfl, h1, r1⟩ := trodAll_cons r0
  obtain ⟨rfl, rfl, rfl⟩ := trodAll_nil r1
  obtain rfl : args = #[v0, v1] := by cases args; simp_all
  obtain ⟨rfl, rfl⟩ := trodVars_none hV
  obtain ⟨a0, rfl, rfl, rfl, w0⟩ := open_float Try.underlying22 (hval 0 22 v0 rfl rfl) h0
  have z0 : a0 < 18446744073709551616 := by simpa [Lit.wf] using w0
  obtain ⟨a1, rfl, rfl, rfl, w1⟩ := open_float Try.underlying22 (hval 1 22 v1 rfl rfl) h1
  have z1 : a1 < 18446744073709551616 := by simpa [Lit.wf] using w1
  clear hA0 hval0 hsz0
  simp only [List.append_nil] at hW'
  refine (shifts_walk a0 a1 z0 z1 W).mono fun e W' ⟨he, hg⟩ => ?_
  subst he
  exact ⟨_, rfl, _, _, _, [], [], [], hW', trodAll_cons_mk (shut_bool Try.underlying4 _) trodAll_mk0, (trodAll_cons_mk (shut_float Try.underlying22 w0) (trodAll_cons_mk (shut_float Try.underlying22 w1) trodAll_mk0)), rfl, hg.frame _, fun h => by cases h⟩

theorem numsShifts_proved : Rows.NumsShiftsSaid :=
  OpenClaim.holds_of_wide 4 Try.f4 rfl rfl rfl rfl rfl rfl rfl ⟨rfl, rfl, rfl, rfl, rfl⟩ rfl rfl rfl rfl rfl (by kernel_rfl) Try.func4 (by kernel_rfl)
    (of_decide_eq_true (by kernel_rfl)) (by unfold Func.isWrapper; first | (rw [if_pos (by decide +kernel)]; kernel_rfl) | (rw [if_neg (by decide +kernel)]; exact ⟨rfl, rfl⟩))
    (fun os started H enc _ => numsShifts_lifted os started H enc)
#print axioms numsShifts_proved

end Go.Proofs.Ytilcpdnonppleaa
