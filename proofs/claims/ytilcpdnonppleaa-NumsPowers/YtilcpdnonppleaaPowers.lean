/- NumsPowers: for every two numbers the law returns true: nums.Pow is what the document's steps come to. No condition. -/
import Derived.Test.YtilcpdnonppleaaRows
import Derived.Test.YtilcpdnonppleaaRPow2
import Derived.ProofKit
import Derived.OpenShut
import Derived.ShutString
import Derived.SizedLaws
import Derived.Below
namespace Go.Proofs.Ytilcpdnonppleaa
set_option linter.unusedVariables false
open Go.ChangeShapes Go.WideShapes Go.ChangeAt Go.RowKit
open Go.ChangeMaps (open_string shut_string)
open Fl

/-- Both powers keep to one thing, of which any two are alike. -/
def Both (a b : Nat) : Prop := ∃ Q : Nat → Prop, (∀ r s, Q r → Q s → alike r s = true) ∧
  (∀ W, Calls Try.prog 31 #[.float .f64 a, .float .f64 b] W fun e w' => ∃ r n, e = .returned (.float .f64 r) ∧ Q r ∧ r < 18446744073709551616 ∧ w' = W.drewN n) ∧
  (∀ W, Calls Try.prog 32 #[.float .f64 a, .float .f64 b] W fun e w' => ∃ r n, e = .returned (.float .f64 r) ∧ Q r ∧ r < 18446744073709551616 ∧ w' = W.drewN n)
theorem Both.det {a b : Nat} (r : Nat) (hr : r < 18446744073709551616)
    (h1 : ∀ W, Calls Try.prog 31 #[.float .f64 a, .float .f64 b] W fun e w' => e = .returned (.float .f64 r) ∧ w' = W)
    (h2 : ∀ W, Calls Try.prog 32 #[.float .f64 a, .float .f64 b] W fun e w' => e = .returned (.float .f64 r) ∧ w' = W) : Both a b := by
  refine ⟨fun x => x = r, fun x y hx hy => by subst hx; subst hy; unfold alike; simp, fun W => (h1 W).mono ?_, fun W => (h2 W).mono ?_⟩
  · rintro e w' ⟨rfl, hw⟩
    exact ⟨r, 0, rfl, rfl, hr, hw⟩
  · rintro e w' ⟨rfl, hw⟩
    exact ⟨r, 0, rfl, rfl, hr, hw⟩
theorem endless_lt (A : Nat) (up : Bool) : endless A up < 18446744073709551616 := by
  unfold endless; split
  · omega
  · split <;> omega
theorem pw_lt (a b : Nat) (ha : a < 18446744073709551616) (na : ¬ nan a) : pw a b < 18446744073709551616 := by
  have h := P_inv (n := tr (b % 9223372036854775808)) ha na 11
  unfold pw
  split
  · exact (div_some _ h.1 h.2.1).2.1
  · exact h.1
theorem farV_lt (a b : Nat) : farV a b < 18446744073709551616 := by
  have h := farS_lt (a % 9223372036854775808) (decide (b < 9223372036854775808))
  unfold farV
  split
  · omega
  · unfold sgn; split <;> omega
theorem both (a b : Nat) (ha : a < 18446744073709551616) (hb : b < 18446744073709551616) : Both a b := by
  by_cases c1 : nan b
  · exact Both.det _ (by omega) (fun W => pow_nanb a b W ha hb c1) (fun W => rpow_nanb a b W ha hb c1)
  by_cases c2 : b % 9223372036854775808 = 0
  · exact Both.det _ (by omega) (fun W => pow_b0 a b W ha hb c1 c2) (fun W => rpow_b0 a b W ha hb c1 c2)
  by_cases c3 : nan a
  · exact Both.det _ (by omega) (fun W => pow_nana a b W ha hb c1 c2 c3) (fun W => rpow_nana a b W ha hb c1 c2 c3)
  by_cases c4 : b % 9223372036854775808 = 9218868437227405312
  · exact Both.det _ (endless_lt _ _) (fun W => pow_inf a b W ha hb c3 c4) (fun W => rpow_inf a b W ha hb c3 c4)
  have hB : b % 9223372036854775808 < 9218868437227405312 := by unfold nan at c1; omega
  by_cases c5 : b = 4602678819172646912
  · subst c5
    refine ⟨RootIs a, fun r s h k => h.same k, fun W => (pow_root a W ha c3).mono ?_, fun W => (rpow_root a W ha c3).mono ?_⟩
    · rintro e w' ⟨r, n, rfl, hr, hw⟩
      exact ⟨r, n, rfl, hr, hr.1, hw⟩
    · rintro e w' ⟨r, n, rfl, hr, hw⟩
      exact ⟨r, n, rfl, hr, hr.1, hw⟩
  by_cases c6 : val (b % 9223372036854775808) = tr (b % 9223372036854775808) * 2 ^ 1074
  · have ht : 1 ≤ tr (b % 9223372036854775808) := by
      apply Nat.pos_of_ne_zero
      intro q
      exact c2 ((val_zero _).1 (zero_of_gen (D := 1074) c6 q))
    by_cases c7 : b % 9223372036854775808 ≤ 4652218415073722368
    · exact Both.det _ (pw_lt a b ha c3) (fun W => pow_whole a b _ W ha c3 hb hB ht c6 (fun W => powWhole_small a b W ha c3 hb c7 ht)) (fun W => rpow_small a b W ha hb c3 c7 ht c6)
    · exact Both.det _ (farV_lt a b) (fun W => pow_whole a b _ W ha c3 hb hB ht c6 (fun W => powWhole_far a b W ha c3 hb hB (by omega) c6)) (fun W => rpow_far a b W ha hb c3 hB (by omega) ht c6)
  · exact Both.det _ (by omega) (fun W => pow_part a b W ha hb c3 hB c2 c5 c6) (fun W => rpow_part a b W ha hb c3 hB c2 c5 c6)

set_option maxHeartbeats 1000000 in
set_option maxRecDepth 100000 in
theorem powers_walk (a b : Nat) (ha : a < 18446744073709551616) (hb : b < 18446744073709551616) (w : World) :
    Calls Try.prog 6 #[.float .f64 a, .float .f64 b] w fun e w' => e = .returned (.bool true) ∧ Below w.heap.size w w' := by
  obtain ⟨Q, q1, q2, q3⟩ := both a b ha hb
  have HA := Hid.mk' (fun W => awake_any W)
  have H1 := Hid.mk' q2
  have H2 := Hid.mk' q3
  clear q2 q3
  go_enter Try.func6, Try.ntmps6
  go_wp2_with fail
  refine (HA.out _).mono ?_; rintro e w1 ⟨rfl, hw1⟩; rw [hw1]; clear hw1 w1
  go_wp2_with fail
  refine (H1.out _).mono ?_; rintro e w1 ⟨r, n, rfl, hr, hrl, hw1⟩; rw [hw1]; clear hw1 w1
  go_wp2_with fail
  refine (H2.out _).mono ?_; rintro e w1 ⟨s, m, rfl, hs, hsl, hw1⟩; rw [hw1]; clear hw1 w1
  have HS := Hid.mk' (fun W => same_any r s W hrl hsl)
  rw [q1 r s hr hs] at HS
  go_wp2_with fail
  refine (HS.out _).mono ?_; rintro e w1 ⟨rfl, hw1⟩; rw [hw1]; clear hw1 w1
  go_wp2
  go_ret
  exact ⟨rfl, ⟨rfl, rfl, rfl, Nat.le_refl _, fun _ _ => rfl⟩⟩

theorem numsPowers_own : ownKnob Try.prog.godebug = none := by kernel_rfl

set_option maxRecDepth 100000 in
theorem numsPowers_lifted (os : Os) (started : os.Started) (H : Type) (enc : TypeId × Value → H) :
    ReturnsInHanded {} Try.checked os 6 .any (Rows.numsPowersSpec.pre6 enc Try.prog Try.f6 Rows.numsPowersRow.domain false) (Rows.numsPowersSpec.post enc Try.prog Try.f6 false true false false) := by
  refine returnsInHanded_of_change_sized (C := Try.checked) numsPowers_own started (by kernel_rfl) Try.func6
    (ChangeSpec.witness6 (enc := enc) (C := Try.checked) false ⟨#[], #[.float .f64 0, .float .f64 0], []⟩ 8 (by kernel_rfl) (by kernel_rfl) (by kernel_rfl) (by kernel_rfl)) ?_
  intro W base args ds gs before hval0 hW hcnd hsz0 _
  have hval : ∀ (j : Nat) t v, Try.f6.params[j]? = some t → args[j]? = some v → Value.okWide Try.prog W .any base t v := hval0
  have hsz : (DataW.weightsEach Try.prog (Try.f6.params.toList ++ Rows.numsPowersSpec.plain.varTypes Try.prog) (ds ++ gs)).all (· ≤ reachBytes) = true := hsz0
  have hW' := hW
  obtain ⟨p, q, hA0, hV, rfl, hfz, hnd⟩ := hW
  have hA : DataW.TrodAll enc Try.prog W 0 (fun _ => true) true Try.f6.params.toList args.toList ds p := hA0
  rw [Try.params6] at hA hval hsz
  obtain ⟨v0, vs0, d0, ds0, p0, q0, hargs, rfl, rfl, h0, r0⟩ := trodAll_cons hA
  obtain ⟨v1, vs1, d1, ds1, p1, q1, rfl, rfl, rfl, h1, r1⟩ := trodAll_cons r0
  obtain ⟨rfl, rfl, rfl⟩ := trodAll_nil r1
  obtain rfl : args = #[v0, v1] := by cases args; simp_all
  obtain ⟨rfl, rfl⟩ := trodVars_none hV
  obtain ⟨a0, rfl, rfl, rfl, w0⟩ := open_float Try.underlying22 (hval 0 22 v0 rfl rfl) h0
  have z0 : a0 < 18446744073709551616 := by simpa [Lit.wf] using w0
  obtain ⟨a1, rfl, rfl, rfl, w1⟩ := open_float Try.underlying22 (hval 1 22 v1 rfl rfl) h1
  have z1 : a1 < 18446744073709551616 := by simpa [Lit.wf] using w1
  clear hA0 hval0 hsz0
  simp only [List.append_nil] at hW'
  refine (powers_walk a0 a1 z0 z1 W).mono fun e W' ⟨he, hg⟩ => ?_
  subst he
  exact ⟨_, rfl, _, _, _, [], [], [], hW', trodAll_cons_mk (shut_bool Try.underlying4 _) trodAll_mk0, (trodAll_cons_mk (shut_float Try.underlying22 w0) (trodAll_cons_mk (shut_float Try.underlying22 w1) trodAll_mk0)), rfl, hg.frame _, fun h => by cases h⟩

theorem numsPowers_proved : Rows.NumsPowersSaid :=
  OpenClaim.holds_of_wide 6 Try.f6 rfl rfl rfl rfl rfl rfl rfl ⟨rfl, rfl, rfl, rfl, rfl⟩ rfl rfl rfl rfl rfl (by kernel_rfl) Try.func6 (by kernel_rfl)
    (of_decide_eq_true (by kernel_rfl)) (by unfold Func.isWrapper; first | (rw [if_pos (by decide +kernel)]; kernel_rfl) | (rw [if_neg (by decide +kernel)]; exact ⟨rfl, rfl⟩))
    (fun os started H enc _ => numsPowers_lifted os started H enc)
#print axioms numsPowers_proved

end Go.Proofs.Ytilcpdnonppleaa
