/- Sums and products do not hang on the order of their sides, and a difference is a sum with the number turned round, of any numbers. (A tied card: the listed package-level variables are as the program lays them.) -/
import Derived.Test.YtbkkkpfoaggejaaGreatDoorCvD
import Derived.Test.YtbkkkpfoaggejaaGreatDoorLOpG
import Derived.Test.YtbkkkpfoaggejaaGreatDoorCards
import Derived.Test.YtbkkkpfoaggejaaGreatDoorTie
import Derived.ProofKit
import Derived.OpenShut
import Derived.ShutString
import Derived.SizedLaws
import Derived.Lay
import Derived.LaidOnce
import Derived.SevenTiedAt
import Derived.JoinedOf
namespace Go.Proofs.YtbkkkpfoaggejaaGreatDoor
set_option linter.unusedVariables false
open Go.RowKit Go.ChangeShapes Go.WideShapes Go.ChangeAt
open Go.ChangeMaps (open_string shut_string)

theorem opsField_own : ownKnob Tryz.prog.godebug = none := by kernel_rfl
theorem opsField_laidOut : laidOutB Tryz.prog = true := by kernel_rfl
set_option maxRecDepth 100000 in
theorem opsField_lifted (os : Os) (started : os.Started) (H : Type) (enc : TypeId × Value → H) :
    ReturnsInHanded {} Tryz.checked os 4 .any (fun w args => (Rows.opsFieldSpec.pre enc Tryz.prog Tryz.f4 Rows.opsFieldRow.domain false w args ∧ laidMetH Tryz.prog Rows.opsFieldRow.laid w) ∧ sizedMet enc Tryz.prog Tryz.f4 (OpenSpec.ofChange Rows.opsFieldSpec) false w args)
      (Rows.opsFieldSpec.post enc Tryz.prog Tryz.f4 false true false false) := by
  refine handed_shaped (C := Tryz.checked) (X := fun w _ => laidMetH Tryz.prog Rows.opsFieldRow.laid w) (fun _ _ _ hh h => h.of_heap hh) opsField_own started (by kernel_rfl) Tryz.func4
    (ChangeSpec.witness_shaped (enc := enc) (C := Tryz.checked) (os := os) (X := fun w _ => laidMetH Tryz.prog Rows.opsFieldRow.laid w) false (World.laidAll Tryz.prog os Rows.opsFieldRow.laid) #[.float .f64 0, .float .f64 0] 8 (World.laidAll_os _ _ _)
      (World.shaped_of_ZipB (by kernel_rfl) (by kernel_rfl)) (by kernel_rfl) (by kernel_rfl) (by kernel_rfl)
      (by rw [MakeChecks.laidMetH_plain _ _ _ (by kernel_rfl)]; exact laidMet_laidAll _ (by kernel_rfl) (by kernel_rfl))) ?_
  intro W base args ds gs before hval0 hW hsz0 hL0 hsh
  have hval : ∀ (j : Nat) t v, Tryz.f4.params[j]? = some t → args[j]? = some v → Value.okWide Tryz.prog W .any base t v := hval0
  have hsz : (DataW.weightsEach Tryz.prog (Tryz.f4.params.toList ++ Rows.opsFieldSpec.plain.varTypes Tryz.prog) (ds ++ gs)).all (· ≤ reachBytes) = true := hsz0
  have hL : laidMet Tryz.prog Rows.opsFieldRow.laid W := by
    have := hL0
    rwa [MakeChecks.laidMetH_plain _ _ _ (by kernel_rfl)] at this
  have hLaid := (Hid.mk' (laid_of hL hsh (by simp [Rows.opsFieldRow]) (by simp [Rows.opsFieldRow]) (by simp [Rows.opsFieldRow]) (by simp [Rows.opsFieldRow]) (by simp [Rows.opsFieldRow]) (by simp [Rows.opsFieldRow])))
  have hW' := hW
  obtain ⟨p, q, hA0, hV, rfl, hfz, hnd⟩ := hW
  have hA : DataW.TrodAll enc Tryz.prog W 0 (fun _ => true) true Tryz.f4.params.toList args.toList ds p := hA0
  rw [Tryz.params4] at hA hval hsz
  obtain ⟨v0, vs0, d0, ds0, p0, q0, hargs, rfl, rfl, h0, r0⟩ := trodAll_cons hA
  obtain ⟨v1, vs1, d1, ds1, p1, q1, rfl, rfl, rfl, h1, r1⟩ := trodAll_cons r0
  obtain ⟨rfl, rfl, rfl⟩ := trodAll_nil r1
  obtain rfl : args = #[v0, v1] := by cases args; simp_all
  obtain ⟨rfl, rfl⟩ := trodVars_none hV
  obtain ⟨a0, rfl, rfl, rfl, w0⟩ := open_float Tryz.underlying24 (hval 0 24 v0 rfl rfl) h0
  obtain ⟨a1, rfl, rfl, rfl, w1⟩ := open_float Tryz.underlying24 (hval 1 24 v1 rfl rfl) h1
  clear hA0 hval0 hsz0 hL0
  refine (field_walk a0 a1 W (by simpa [Lit.wf] using w0) (by simpa [Lit.wf] using w1) hLaid).mono fun e W' ⟨he, hg⟩ => ?_
  subst he
  exact ⟨_, rfl, _, _, _, [], _, [], hW', trodAll_cons_mk (shut_bool Tryz.underlying4 _) trodAll_mk0, (trodAll_cons_mk (shut_float Tryz.underlying24 w0) (trodAll_cons_mk (shut_float Tryz.underlying24 w1) trodAll_mk0)), rfl, hg.frame _, fun h => by cases h⟩

theorem opsField_z1 : (Rows.opsFieldRow.inPlace == Tryz.prog.inPlace 4) = true := by kernel_rfl
theorem opsField_z2 : (Rows.opsFieldRow.unfollowed == Tryz.prog.unfollowed 4) = true := by kernel_rfl
theorem opsField_z3 : (Rows.opsFieldRow.recurses == Tryz.prog.recurses 4) = true := by kernel_rfl
theorem opsField_z4 : (Rows.opsFieldRow.named == Tryz.prog.varsNamed 4) = true := by kernel_rfl
theorem opsField_z6 : mapsRowed Tryz.prog = true := by kernel_rfl
theorem opsField_closed : joinedFacts Tryz.prog 4 Tryz.f4 Rows.opsFieldSpec Rows.opsFieldRow = true := by
  unfold joinedFacts
  rw [opsField_z1, opsField_z2, opsField_z3, opsField_z4, opsField_laidOut, opsField_z6]
  kernel_rfl
theorem opsField_holds : Rows.OpsFieldSaid :=
  OpenClaim.holds_of_wide 4 Tryz.f4 rfl rfl rfl rfl rfl rfl rfl ⟨rfl, rfl, rfl, rfl, rfl⟩ rfl rfl rfl rfl rfl (by kernel_rfl) Tryz.func4 opsField_closed
    (of_decide_eq_true (by kernel_rfl)) (by unfold Func.isWrapper; first | (rw [if_pos (by decide +kernel)]; kernel_rfl) | (rw [if_neg (by decide +kernel)]; exact ⟨rfl, rfl⟩))
    (fun os started H enc _ => opsField_lifted os started H enc)
theorem opsField_card : Rows.OpsFieldCardSaid :=
  Claim7.holds_tied_plain_at .later [] _ true _ true opsField_holds (fun _ h => by cases h) (by kernel_rfl) (fun _ h => by cases h) opsField_row_tie rfl ⟨rfl, rfl⟩ (by kernel_rfl) rfl
    (fun f fn hf hfn => by
      obtain rfl : f = 4 := Option.some.inj ((show Tryz.prog.funcNamed Rows.opsFieldRow.func = some 4 by kernel_rfl).symm.trans hf) |>.symm
      obtain rfl : fn = Tryz.f4 := (Option.some.inj (Tryz.func4.symm.trans hfn)).symm
      exact ⟨by kernel_rfl, fun j t ht => by
        rw [Tryz.params4] at ht
        have hm : t ∈ [24, 24] := by simpa using Array.mem_of_getElem? ht
        have hall : ([24, 24].all fun u => !Tryz.prog.wantsStandIn u) = true := by kernel_rfl
        exact (show Tryz.prog.wantsStandIn t = false by simpa using List.all_eq_true.1 hall t hm)⟩)
    (by kernel_rfl)
#print axioms opsField_card
end Go.Proofs.YtbkkkpfoaggejaaGreatDoor
