/- NumsInts: for every number the law returns true: whole numbers of 32 and 16 bits, the whole number and the length are the document's. No condition. -/
import Derived.Test.YtilcpdnonppleaaRows
import Derived.Test.YtilcpdnonppleaaLen
import Derived.ProofKit
import Derived.OpenShut
import Derived.ShutString
import Derived.SizedLaws
import Derived.Below
namespace Go.Proofs.Ytilcpdnonppleaa
set_option linter.unusedVariables false
open Go.ChangeShapes Go.WideShapes Go.ChangeAt Go.RowKit
open Go.ChangeMaps (open_string shut_string)
open Fl

theorem same_eq (x : Nat) (h : x < 18446744073709551616) (W : World) : Calls Try.prog 16 #[.float .f64 x, .float .f64 x] W fun e w' => e = .returned (.bool true) ∧ w' = W := by
  have := same_any x x W h h
  rw [show alike x x = true by unfold alike; simp] at this
  exact this
theorem lenB_lt (r : Nat) (h : r < 18446744073709551616) : lenB r < 18446744073709551616 := by unfold lenB; split; omega; split <;> omega
set_option maxHeartbeats 1000000 in
set_option maxRecDepth 100000 in
theorem ints_walk (x : Nat) (hx : x < 18446744073709551616) (w : World) :
    Calls Try.prog 3 #[.float .f64 x] w fun e w' => e = .returned (.bool true) ∧ Below w.heap.size w w' := by
  have HA := Hid.mk' (fun W => awake_any W)
  have H1 := Hid.mk' (fun W => int32_any x W hx)
  have R1 := Hid.mk' (fun W => rint32_any x W hx)
  have H2 := Hid.mk' (fun W => uint32_any x W hx)
  have R2 := Hid.mk' (fun W => ruint32_any x W hx)
  have H3 := Hid.mk' (fun W => uint16_any x W hx)
  have R3 := Hid.mk' (fun W => ruint16_any x W hx)
  have H4 := Hid.mk' (fun W => whole_any x W hx)
  have R4 := Hid.mk' (fun W => rwhole_any x W hx)
  have H5 := Hid.mk' (fun W => length_any x W hx)
  have R5 := Hid.mk' (fun W => rlength_any x W hx)
  have hr := u32_range x
  obtain ⟨u, hu⟩ : ∃ u, u32 x = u := ⟨_, rfl⟩
  rw [hu] at H1 R1 H2 R2 H3 R3 hr
  obtain ⟨i, hi⟩ : ∃ i, wrap32 u = i := ⟨_, rfl⟩
  rw [hi] at H1 R1
  obtain ⟨k, hk⟩ : ∃ k, u % 65536 = k := ⟨_, rfl⟩
  rw [hk] at H3 R3
  clear hu hi hk hr
  go_enter Try.func3, Try.ntmps3
  go_wp2_with fail
  refine (HA.out _).mono ?_; rintro e w1 ⟨rfl, hw1⟩; rw [hw1]; clear hw1 w1
  go_wp2_with fail
  refine (H1.out _).mono ?_; rintro e w1 ⟨rfl, hw1⟩; rw [hw1]; clear hw1 w1
  go_wp2_with fail
  refine (R1.out _).mono ?_; rintro e w1 ⟨rfl, hw1⟩; rw [hw1]; clear hw1 w1
  go_wp2_with fail
  refine (H2.out _).mono ?_; rintro e w1 ⟨rfl, hw1⟩; rw [hw1]; clear hw1 w1
  go_wp2_with fail
  refine (R2.out _).mono ?_; rintro e w1 ⟨rfl, hw1⟩; rw [hw1]; clear hw1 w1
  go_wp2_with fail
  refine (H3.out _).mono ?_; rintro e w1 ⟨rfl, hw1⟩; rw [hw1]; clear hw1 w1
  go_wp2_with fail
  refine (R3.out _).mono ?_; rintro e w1 ⟨rfl, hw1⟩; rw [hw1]; clear hw1 w1
  go_wp2_with fail
  refine (H4.out _).mono ?_; rintro e w1 ⟨r, n, rfl, hr, hw1⟩; rw [hw1]; clear hw1 w1
  go_wp2_with fail
  refine (R4.out _).mono ?_; rintro e w1 ⟨r', rfl, hr', hw1⟩; rw [hw1]; clear hw1 w1
  obtain rfl := hr.inj hr'
  clear hr'
  have HS := Hid.mk' (fun W => same_eq r (hr.ok hx).1 W)
  go_wp2_with fail
  refine (HS.out _).mono ?_; rintro e w1 ⟨rfl, hw1⟩; rw [hw1]; clear hw1 w1
  go_wp2_with fail
  refine (H5.out _).mono ?_; rintro e w1 ⟨s, n2, rfl, hs, hw1⟩; rw [hw1]; clear hw1 w1
  go_wp2_with fail
  refine (R5.out _).mono ?_; rintro e w1 ⟨s', rfl, hs', hw1⟩; rw [hw1]; clear hw1 w1
  obtain rfl := hs.inj hs'
  clear hs'
  have HS2 := Hid.mk' (fun W => same_eq (lenB s) (lenB_lt s (hs.ok hx).1) W)
  go_wp2_with fail
  refine (HS2.out _).mono ?_; rintro e w1 ⟨rfl, hw1⟩; rw [hw1]; clear hw1 w1
  go_wp2
  go_ret
  exact ⟨rfl, ⟨rfl, rfl, rfl, Nat.le_refl _, fun _ _ => rfl⟩⟩

theorem numsInts_own : ownKnob Try.prog.godebug = none := by kernel_rfl

set_option maxRecDepth 100000 in
theorem numsInts_lifted (os : Os) (started : os.Started) (H : Type) (enc : TypeId × Value → H) :
    ReturnsInHanded {} Try.checked os 3 .any (Rows.numsIntsSpec.pre6 enc Try.prog Try.f3 Rows.numsIntsRow.domain false) (Rows.numsIntsSpec.post enc Try.prog Try.f3 false true false false) := by
  refine returnsInHanded_of_change_sized (C := Try.checked) numsInts_own started (by kernel_rfl) Try.func3
    (ChangeSpec.witness6 (enc := enc) (C := Try.checked) false ⟨#[], #[.float .f64 0], []⟩ 8 (by kernel_rfl) (by kernel_rfl) (by kernel_rfl) (by kernel_rfl)) ?_
  intro W base args ds gs before hval0 hW hcnd hsz0 _
  have hval : ∀ (j : Nat) t v, Try.f3.params[j]? = some t → args[j]? = some v → Value.okWide Try.prog W .any base t v := hval0
  have hsz : (DataW.weightsEach Try.prog (Try.f3.params.toList ++ Rows.numsIntsSpec.plain.varTypes Try.prog) (ds ++ gs)).all (· ≤ reachBytes) = true := hsz0
  have hW' := hW
  obtain ⟨p, q, hA0, hV, rfl, hfz, hnd⟩ := hW
  have hA : DataW.TrodAll enc Try.prog W 0 (fun _ => true) true Try.f3.params.toList args.toList ds p := hA0
  rw [Try.params3] at hA hval hsz
  obtain ⟨v0, vs0, d0, ds0, p0, q0, hargs, rfl, rfl, h0, r0⟩ := trodAll_cons hA
  obtain ⟨rfl, rfl, rfl⟩ := trodAll_nil r0
  obtain rfl : args = #[v0] := by cases args; simp_all
  obtain ⟨rfl, rfl⟩ := trodVars_none hV
  obtain ⟨a0, rfl, rfl, rfl, w0⟩ := open_float Try.underlying22 (hval 0 22 v0 rfl rfl) h0
  have z0 : a0 < 18446744073709551616 := by simpa [Lit.wf] using w0
  clear hA0 hval0 hsz0
  simp only [List.append_nil] at hW'
  refine (ints_walk a0 z0 W).mono fun e W' ⟨he, hg⟩ => ?_
  subst he
  exact ⟨_, rfl, _, _, _, [], [], [], hW', trodAll_cons_mk (shut_bool Try.underlying4 _) trodAll_mk0, (trodAll_cons_mk (shut_float Try.underlying22 w0) trodAll_mk0), rfl, hg.frame _, fun h => by cases h⟩

theorem numsInts_proved : Rows.NumsIntsSaid :=
  OpenClaim.holds_of_wide 3 Try.f3 rfl rfl rfl rfl rfl rfl rfl ⟨rfl, rfl, rfl, rfl, rfl⟩ rfl rfl rfl rfl rfl (by kernel_rfl) Try.func3 (by kernel_rfl)
    (of_decide_eq_true (by kernel_rfl)) (by unfold Func.isWrapper; first | (rw [if_pos (by decide +kernel)]; kernel_rfl) | (rw [if_neg (by decide +kernel)]; exact ⟨rfl, rfl⟩))
    (fun os started H enc _ => numsInts_lifted os started H enc)
#print axioms numsInts_proved

end Go.Proofs.Ytilcpdnonppleaa
