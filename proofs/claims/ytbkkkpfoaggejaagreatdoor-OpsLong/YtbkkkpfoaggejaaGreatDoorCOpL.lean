/- Texts are put one behind the other up to just so many units, of any unit and any two lengths. (A tied card: the listed package-level variables are as the program lays them.) -/
import Derived.Test.YtbkkkpfoaggejaaGreatDoorCvD
import Derived.Test.YtbkkkpfoaggejaaGreatDoorLOpL
import Derived.Test.YtbkkkpfoaggejaaGreatDoorCards
import Derived.Test.YtbkkkpfoaggejaaGreatDoorTie
import Derived.ProofKit
import Derived.OpenShut
import Derived.ShutString
import Derived.SizedLaws
import Derived.Lay
import Derived.LaidOnce
import Derived.SevenTiedAt
import Derived.JoinedOf
namespace Go.Proofs.YtbkkkpfoaggejaaGreatDoor
set_option linter.unusedVariables false
open Go.RowKit Go.ChangeShapes Go.WideShapes Go.ChangeAt
open Go.ChangeMaps (open_string shut_string)

theorem opsLong_own : ownKnob Tryz.prog.godebug = none := by kernel_rfl
theorem opsLong_laidOut : laidOutB Tryz.prog = true := by kernel_rfl
set_option maxRecDepth 100000 in
theorem opsLong_lifted (os : Os) (started : os.Started) (H : Type) (enc : TypeId × Value → H) :
    ReturnsInHanded {} Tryz.checked os 3 .any (fun w args => (Rows.opsLongSpec.pre enc Tryz.prog Tryz.f3 Rows.opsLongRow.domain false w args ∧ laidMetH Tryz.prog Rows.opsLongRow.laid w) ∧ sizedMet enc Tryz.prog Tryz.f3 (OpenSpec.ofChange Rows.opsLongSpec) false w args)
      (Rows.opsLongSpec.post enc Tryz.prog Tryz.f3 false true false false) := by
  refine handed_shaped (C := Tryz.checked) (X := fun w _ => laidMetH Tryz.prog Rows.opsLongRow.laid w) (fun _ _ _ hh h => h.of_heap hh) opsLong_own started (by kernel_rfl) Tryz.func3
    (ChangeSpec.witness_shaped (enc := enc) (C := Tryz.checked) (os := os) (X := fun w _ => laidMetH Tryz.prog Rows.opsLongRow.laid w) false (World.laidAll Tryz.prog os Rows.opsLongRow.laid) #[.string ByteArray.empty, .int .i64 0, .int .i64 0] 8 (World.laidAll_os _ _ _)
      (World.shaped_of_ZipB (by kernel_rfl) (by kernel_rfl)) (by kernel_rfl) (by kernel_rfl) (by kernel_rfl)
      (by rw [MakeChecks.laidMetH_plain _ _ _ (by kernel_rfl)]; exact laidMet_laidAll _ (by kernel_rfl) (by kernel_rfl))) ?_
  intro W base args ds gs before hval0 hW hsz0 hL0 hsh
  have hval : ∀ (j : Nat) t v, Tryz.f3.params[j]? = some t → args[j]? = some v → Value.okWide Tryz.prog W .any base t v := hval0
  have hsz : (DataW.weightsEach Tryz.prog (Tryz.f3.params.toList ++ Rows.opsLongSpec.plain.varTypes Tryz.prog) (ds ++ gs)).all (· ≤ reachBytes) = true := hsz0
  have hL : laidMet Tryz.prog Rows.opsLongRow.laid W := by
    have := hL0
    rwa [MakeChecks.laidMetH_plain _ _ _ (by kernel_rfl)] at this
  have hLaid := (Hid.mk' (laid_of hL hsh (by simp [Rows.opsLongRow]) (by simp [Rows.opsLongRow]) (by simp [Rows.opsLongRow]) (by simp [Rows.opsLongRow]) (by simp [Rows.opsLongRow]) (by simp [Rows.opsLongRow])))
  have hW' := hW
  obtain ⟨p, q, hA0, hV, rfl, hfz, hnd⟩ := hW
  have hA : DataW.TrodAll enc Tryz.prog W 0 (fun _ => true) true Tryz.f3.params.toList args.toList ds p := hA0
  rw [Tryz.params3] at hA hval hsz
  obtain ⟨v0, vs0, d0, ds0, p0, q0, hargs, rfl, rfl, h0, r0⟩ := trodAll_cons hA
  obtain ⟨v1, vs1, d1, ds1, p1, q1, rfl, rfl, rfl, h1, r1⟩ := trodAll_cons r0
  obtain ⟨v2, vs2, d2, ds2, p2, q2, rfl, rfl, rfl, h2, r2⟩ := trodAll_cons r1
  obtain ⟨rfl, rfl, rfl⟩ := trodAll_nil r2
  obtain rfl : args = #[v0, v1, v2] := by cases args; simp_all
  obtain ⟨rfl, rfl⟩ := trodVars_none hV
  obtain ⟨a0, rfl, rfl, rfl, w0⟩ := open_string Tryz.underlying22 (hval 0 22 v0 rfl rfl) h0
  have z0 := sized_string hsz (j := 0) (t := 22) rfl rfl
  simp only [reachBytes] at z0
  obtain ⟨a1, rfl, rfl, rfl, w1⟩ := open_int Tryz.underlying3 (hval 1 3 v1 rfl rfl) h1
  obtain ⟨a2, rfl, rfl, rfl, w2⟩ := open_int Tryz.underlying3 (hval 2 3 v2 rfl rfl) h2
  clear hA0 hval0 hsz0 hL0
  refine (long_walk a0 a1 a2 W (by simpa using z0) w1 w2 hLaid).mono fun e W' ⟨he, hg⟩ => ?_
  subst he
  exact ⟨_, rfl, _, _, _, [], _, [], hW', trodAll_cons_mk (shut_bool Tryz.underlying4 _) trodAll_mk0, (trodAll_cons_mk (shut_string Tryz.underlying22 w0) (trodAll_cons_mk (shut_int Tryz.underlying3 w1) (trodAll_cons_mk (shut_int Tryz.underlying3 w2) trodAll_mk0))), rfl, hg.frame _, fun h => by cases h⟩

theorem opsLong_z1 : (Rows.opsLongRow.inPlace == Tryz.prog.inPlace 3) = true := by kernel_rfl
theorem opsLong_z2 : (Rows.opsLongRow.unfollowed == Tryz.prog.unfollowed 3) = true := by kernel_rfl
theorem opsLong_z3 : (Rows.opsLongRow.recurses == Tryz.prog.recurses 3) = true := by kernel_rfl
theorem opsLong_z4 : (Rows.opsLongRow.named == Tryz.prog.varsNamed 3) = true := by kernel_rfl
theorem opsLong_z6 : mapsRowed Tryz.prog = true := by kernel_rfl
theorem opsLong_closed : joinedFacts Tryz.prog 3 Tryz.f3 Rows.opsLongSpec Rows.opsLongRow = true := by
  unfold joinedFacts
  rw [opsLong_z1, opsLong_z2, opsLong_z3, opsLong_z4, opsLong_laidOut, opsLong_z6]
  kernel_rfl
theorem opsLong_holds : Rows.OpsLongSaid :=
  OpenClaim.holds_of_wide 3 Tryz.f3 rfl rfl rfl rfl rfl rfl rfl ⟨rfl, rfl, rfl, rfl, rfl⟩ rfl rfl rfl rfl rfl (by kernel_rfl) Tryz.func3 opsLong_closed
    (of_decide_eq_true (by kernel_rfl)) (by unfold Func.isWrapper; first | (rw [if_pos (by decide +kernel)]; kernel_rfl) | (rw [if_neg (by decide +kernel)]; exact ⟨rfl, rfl⟩))
    (fun os started H enc _ => opsLong_lifted os started H enc)
theorem opsLong_card : Rows.OpsLongCardSaid :=
  Claim7.holds_tied_plain_at .later [] _ true _ true opsLong_holds (fun _ h => by cases h) (by kernel_rfl) (fun _ h => by cases h) opsLong_row_tie rfl ⟨rfl, rfl⟩ (by kernel_rfl) rfl
    (fun f fn hf hfn => by
      obtain rfl : f = 3 := Option.some.inj ((show Tryz.prog.funcNamed Rows.opsLongRow.func = some 3 by kernel_rfl).symm.trans hf) |>.symm
      obtain rfl : fn = Tryz.f3 := (Option.some.inj (Tryz.func3.symm.trans hfn)).symm
      exact ⟨by kernel_rfl, fun j t ht => by
        rw [Tryz.params3] at ht
        have hm : t ∈ [22, 3, 3] := by simpa using Array.mem_of_getElem? ht
        have hall : ([22, 3, 3].all fun u => !Tryz.prog.wantsStandIn u) = true := by kernel_rfl
        exact (show Tryz.prog.wantsStandIn t = false by simpa using List.all_eq_true.1 hall t hm)⟩)
    (by kernel_rfl)
#print axioms opsLong_card
end Go.Proofs.YtbkkkpfoaggejaaGreatDoor
