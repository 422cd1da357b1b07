/- NumsDivides: for every two numbers the law returns true: a rest is below the divisor, has the dividend's sign, and is its own rest. No condition. -/
import Derived.Test.YtilcpdnonppleabRows
import Derived.Test.YtilcpdnonppleabNAwake
import Derived.ProofKit
import Derived.OpenShut
import Derived.ShutString
import Derived.SizedLaws
import Derived.Below
namespace Go.Proofs.Ytilcpdnonppleab
set_option linter.unusedVariables false
open Go.ChangeShapes Go.WideShapes Go.ChangeAt Go.RowKit
open Go.ChangeMaps (open_string shut_string)
open Fl

theorem same_eq (x : Nat) (h : x < 18446744073709551616) (W : World) : Calls Try.prog 9 #[.float .f64 x, .float .f64 x] W fun e w' => e = .returned (.bool true) ∧ w' = W := by
  have := same_any x x W h h
  rw [show alike x x = true by unfold alike; simp] at this
  exact this
set_option maxHeartbeats 1000000 in
set_option maxRecDepth 100000 in
theorem divides_walk (a b : Nat) (ha : a < 18446744073709551616) (hb : b < 18446744073709551616) (w : World) :
    Calls Try.prog 3 #[.float .f64 a, .float .f64 b] w fun e w' => e = .returned (.bool true) ∧ Below w.heap.size w w' := by
  have HA := Hid.mk' (fun W => awake_any W)
  have HR := Hid.mk' (fun W => rem_is a b W ha hb)
  have IA := Hid.mk' (fun W => isInf0_any a W ha)
  have IB := Hid.mk' (fun W => isInf0_any b W hb)
  have na := isnan_eq a ha
  have nb := isnan_eq b hb
  have zb := eq0 b hb
  go_enter Try.func3, Try.ntmps3
  go_wp2_with fail
  refine (HA.out _).mono ?_; rintro e w1 ⟨rfl, hw1⟩; rw [hw1]; clear hw1 w1
  go_wp2_with fail
  refine (HR.out _).mono ?_; rintro e w1 ⟨⟨r, rfl, hr⟩, hw1⟩; rw [hw1]; clear hw1 w1
  have nr := isnan_eq r hr.lt
  by_cases h : b % 9223372036854775808 = 0 ∨ a % 9223372036854775808 = 9218868437227405312 ∨ nan a ∨ nan b
  · obtain rfl := hr.bad h
    rw [decide_eq_true (show nan 9221120237041090561 by unfold nan; omega)] at nr
    clear hr
    by_cases a1 : nan a
    · rw [decide_eq_true a1] at na
      go_wp2
      go_ret
      exact ⟨rfl, Below.refl _ _⟩
    · rw [decide_eq_false a1] at na
      by_cases a2 : nan b
      · rw [decide_eq_true a2] at nb
        go_wp2
        go_ret
        exact ⟨rfl, Below.refl _ _⟩
      · rw [decide_eq_false a2] at nb
        by_cases a3 : a % 9223372036854775808 = 9218868437227405312
        · rw [decide_eq_true a3] at IA
          go_wp2_with fail
          refine (IA.out _).mono ?_; rintro e w1 ⟨rfl, hw1⟩; rw [hw1]; clear hw1 w1
          go_wp2
          go_ret
          exact ⟨rfl, Below.refl _ _⟩
        · rw [decide_eq_false a3] at IA
          have a4 : b % 9223372036854775808 = 0 := by
            rcases h with h | h | h | h
            · exact h
            · exact absurd h a3
            · exact absurd h a1
            · exact absurd h a2
          rw [decide_eq_true a4] at zb
          go_wp2_with fail
          refine (IA.out _).mono ?_; rintro e w1 ⟨rfl, hw1⟩; rw [hw1]; clear hw1 w1
          go_wp2
          go_ret
          exact ⟨rfl, Below.refl _ _⟩
  · have h' := h
    unfold nan at h'
    obtain ⟨g, hg, g1, g2⟩ := hr.fin ha (by omega) (by omega) (by omega)
    have hgl : g < 9223372036854775808 := by omega
    have hrm : r % 9223372036854775808 = g := by rw [hg]; exact sgn_mod a g hgl
    have hgb : g < b % 9223372036854775808 := by
      rw [← val_lt, g2]
      exact Nat.mod_lt _ (Nat.pos_of_ne_zero fun q => by have := (val_zero _).1 q; omega)
    rw [decide_eq_false (show ¬ nan r by unfold nan; omega)] at nr
    have hrb : ¬ (b % 9223372036854775808 = 0 ∨ r % 9223372036854775808 = 9218868437227405312 ∨ nan r ∨ nan b) := by unfold nan; omega
    have HO := Hid.mk' (RestIs.small (y := b) hr.lt hrb (by omega))
    have HR2 := Hid.mk' (fun W => rem_is r b W hr.lt hb)
    have HSE := Hid.mk' (fun W => same_eq r hr.lt W)
    have AR := Hid.mk' (fun W => abs_any r W hr.lt)
    have AB := Hid.mk' (fun W => abs_any b W hb)
    have SR := Hid.mk' (fun W => signbit_any r W hr.lt)
    have SA := Hid.mk' (fun W => signbit_any a W ha)
    have hsg : decide (9223372036854775808 ≤ r) = decide (9223372036854775808 ≤ a) := decide_eq_decide.2 (by rw [hg]; unfold sgn; split <;> omega)
    rw [hsg] at SR
    obtain ⟨s, hs⟩ : ∃ s, decide (9223372036854775808 ≤ a) = s := ⟨_, rfl⟩
    rw [hs] at SR SA
    rw [hrm] at AR
    by_cases hi : b % 9223372036854775808 = 9218868437227405312
    · rw [decide_eq_true hi] at IB
      clear hs hsg hg g2 hrm hi hrb h h'
      go_wp2_with fail
      refine (IB.out _).mono ?_; rintro e w1 ⟨rfl, hw1⟩; rw [hw1]; clear hw1 w1
      go_wp2_with fail
      refine (SR.out _).mono ?_; rintro e w1 ⟨rfl, hw1⟩; rw [hw1]; clear hw1 w1
      go_wp2_with fail
      refine (SA.out _).mono ?_; rintro e w1 ⟨rfl, hw1⟩; rw [hw1]; clear hw1 w1
      go_wp2_with fail
      refine (HR2.out _).mono ?_; rintro e w1 ⟨⟨r2, rfl, hr2⟩, hw1⟩; rw [hw1]; clear hw1 w1
      obtain rfl := hr2.inj HO.out
      clear hr2
      go_wp2_with fail
      refine (HSE.out _).mono ?_; rintro e w1 ⟨rfl, hw1⟩; rw [hw1]; clear hw1 w1
      go_wp2
      go_ret
      exact ⟨rfl, Below.refl _ _⟩
    · rw [decide_eq_false hi] at IB
      have hlt := lt_c g (b % 9223372036854775808) hgl (by omega)
      rw [decide_eq_true hgb] at hlt
      clear hs hsg hg g2 hrm hi hrb h h'
      go_wp2_with fail
      refine (IB.out _).mono ?_; rintro e w1 ⟨rfl, hw1⟩; rw [hw1]; clear hw1 w1
      go_wp2_with fail
      refine (AR.out _).mono ?_; rintro e w1 ⟨rfl, hw1⟩; rw [hw1]; clear hw1 w1
      go_wp2_with fail
      refine (AB.out _).mono ?_; rintro e w1 ⟨rfl, hw1⟩; rw [hw1]; clear hw1 w1
      go_wp2_with fail
      refine (SR.out _).mono ?_; rintro e w1 ⟨rfl, hw1⟩; rw [hw1]; clear hw1 w1
      go_wp2_with fail
      refine (SA.out _).mono ?_; rintro e w1 ⟨rfl, hw1⟩; rw [hw1]; clear hw1 w1
      go_wp2_with fail
      refine (HR2.out _).mono ?_; rintro e w1 ⟨⟨r2, rfl, hr2⟩, hw1⟩; rw [hw1]; clear hw1 w1
      obtain rfl := hr2.inj HO.out
      clear hr2
      go_wp2_with fail
      refine (HSE.out _).mono ?_; rintro e w1 ⟨rfl, hw1⟩; rw [hw1]; clear hw1 w1
      go_wp2
      go_ret
      exact ⟨rfl, Below.refl _ _⟩

theorem numsDivides_own : ownKnob Try.prog.godebug = none := by kernel_rfl

set_option maxRecDepth 100000 in
theorem numsDivides_lifted (os : Os) (started : os.Started) (H : Type) (enc : TypeId × Value → H) :
    ReturnsInHanded {} Try.checked os 3 .any (Rows.numsDividesSpec.pre6 enc Try.prog Try.f3 Rows.numsDividesRow.domain false) (Rows.numsDividesSpec.post enc Try.prog Try.f3 false true false false) := by
  refine returnsInHanded_of_change_sized (C := Try.checked) numsDivides_own started (by kernel_rfl) Try.func3
    (ChangeSpec.witness6 (enc := enc) (C := Try.checked) false ⟨#[], #[.float .f64 0, .float .f64 0], []⟩ 8 (by kernel_rfl) (by kernel_rfl) (by kernel_rfl) (by kernel_rfl)) ?_
  intro W base args ds gs before hval0 hW hcnd hsz0 _
  have hval : ∀ (j : Nat) t v, Try.f3.params[j]? = some t → args[j]? = some v → Value.okWide Try.prog W .any base t v := hval0
  have hsz : (DataW.weightsEach Try.prog (Try.f3.params.toList ++ Rows.numsDividesSpec.plain.varTypes Try.prog) (ds ++ gs)).all (· ≤ reachBytes) = true := hsz0
  have hW' := hW
  obtain ⟨p, q, hA0, hV, rfl, hfz, hnd⟩ := hW
  have hA : DataW.TrodAll enc Try.prog W 0 (fun _ => true) true Try.f3.params.toList args.toList ds p := hA0
  rw [Try.params3] at hA hval hsz
  obtain ⟨v0, vs0, d0, ds0, p0, q0, hargs, rfl, rfl, h0, r0⟩ := trodAll_cons hA
  obtain ⟨v1, vs1, d1, ds1, p1, q1, rfl, rfl, rfl, h1, r1⟩ := trodAll_cons r0
  obtain ⟨rfl, rfl, rfl⟩ := trodAll_nil r1
  obtain rfl : args = #[v0, v1] := by cases args; simp_all
  obtain ⟨rfl, rfl⟩ := trodVars_none hV
  obtain ⟨a0, rfl, rfl, rfl, w0⟩ := open_float Try.underlying22 (hval 0 22 v0 rfl rfl) h0
  have z0 : a0 < 18446744073709551616 := by simpa [Lit.wf] using w0
  obtain ⟨a1, rfl, rfl, rfl, w1⟩ := open_float Try.underlying22 (hval 1 22 v1 rfl rfl) h1
  have z1 : a1 < 18446744073709551616 := by simpa [Lit.wf] using w1
  clear hA0 hval0 hsz0
  simp only [List.append_nil] at hW'
  refine (divides_walk a0 a1 z0 z1 W).mono fun e W' ⟨he, hg⟩ => ?_
  subst he
  exact ⟨_, rfl, _, _, _, [], [], [], hW', trodAll_cons_mk (shut_bool Try.underlying4 _) trodAll_mk0, (trodAll_cons_mk (shut_float Try.underlying22 w0) (trodAll_cons_mk (shut_float Try.underlying22 w1) trodAll_mk0)), rfl, hg.frame _, fun h => by cases h⟩

theorem numsDivides_proved : Rows.NumsDividesSaid :=
  OpenClaim.holds_of_wide 3 Try.f3 rfl rfl rfl rfl rfl rfl rfl ⟨rfl, rfl, rfl, rfl, rfl⟩ rfl rfl rfl rfl rfl (by kernel_rfl) Try.func3 (by kernel_rfl)
    (of_decide_eq_true (by kernel_rfl)) (by unfold Func.isWrapper; first | (rw [if_pos (by decide +kernel)]; kernel_rfl) | (rw [if_neg (by decide +kernel)]; exact ⟨rfl, rfl⟩))
    (fun os started H enc _ => numsDivides_lifted os started H enc)
#print axioms numsDivides_proved

end Go.Proofs.Ytilcpdnonppleab
