/- Of two numbers that are numbers, and of two texts, just one of below, above and alike is so, of any values. (A tied card: the listed package-level variables are as the program lays them.) -/
import Derived.Test.YtbkkkpfoaggejaaGreatDoorCvD
import Derived.Test.YtbkkkpfoaggejaaGreatDoorLOpO
import Derived.Test.YtbkkkpfoaggejaaGreatDoorCards
import Derived.Test.YtbkkkpfoaggejaaGreatDoorTie
import Derived.ProofKit
import Derived.OpenShut
import Derived.ShutString
import Derived.SizedLaws
import Derived.Lay
import Derived.LaidOnce
import Derived.SevenTiedAt
import Derived.JoinedOf
namespace Go.Proofs.YtbkkkpfoaggejaaGreatDoor
set_option linter.unusedVariables false
open Go.RowKit Go.ChangeShapes Go.WideShapes Go.ChangeAt
open Go.ChangeMaps (open_string shut_string)

theorem opsOrder_own : ownKnob Tryz.prog.godebug = none := by kernel_rfl
theorem opsOrder_laidOut : laidOutB Tryz.prog = true := by kernel_rfl
set_option maxRecDepth 100000 in
theorem opsOrder_lifted (os : Os) (started : os.Started) (H : Type) (enc : TypeId × Value → H) :
    ReturnsInHanded {} Tryz.checked os 5 .any (fun w args => (Rows.opsOrderSpec.pre enc Tryz.prog Tryz.f5 Rows.opsOrderRow.domain false w args ∧ laidMetH Tryz.prog Rows.opsOrderRow.laid w) ∧ sizedMet enc Tryz.prog Tryz.f5 (OpenSpec.ofChange Rows.opsOrderSpec) false w args)
      (Rows.opsOrderSpec.post enc Tryz.prog Tryz.f5 false true false false) := by
  refine handed_shaped (C := Tryz.checked) (X := fun w _ => laidMetH Tryz.prog Rows.opsOrderRow.laid w) (fun _ _ _ hh h => h.of_heap hh) opsOrder_own started (by kernel_rfl) Tryz.func5
    (ChangeSpec.witness_shaped (enc := enc) (C := Tryz.checked) (os := os) (X := fun w _ => laidMetH Tryz.prog Rows.opsOrderRow.laid w) false (World.laidAll Tryz.prog os Rows.opsOrderRow.laid) #[.agg #[.int .i64 0, .float .f64 0, .string ByteArray.empty, .int .i64 0], .agg #[.int .i64 0, .float .f64 0, .string ByteArray.empty, .int .i64 0]] 8 (World.laidAll_os _ _ _)
      (World.shaped_of_ZipB (by kernel_rfl) (by kernel_rfl)) (by kernel_rfl) (by kernel_rfl) (by kernel_rfl)
      (by rw [MakeChecks.laidMetH_plain _ _ _ (by kernel_rfl)]; exact laidMet_laidAll _ (by kernel_rfl) (by kernel_rfl))) ?_
  intro W base args ds gs before hval0 hW hsz0 hL0 hsh
  have hval : ∀ (j : Nat) t v, Tryz.f5.params[j]? = some t → args[j]? = some v → Value.okWide Tryz.prog W .any base t v := hval0
  have hsz : (DataW.weightsEach Tryz.prog (Tryz.f5.params.toList ++ Rows.opsOrderSpec.plain.varTypes Tryz.prog) (ds ++ gs)).all (· ≤ reachBytes) = true := hsz0
  have hL : laidMet Tryz.prog Rows.opsOrderRow.laid W := by
    have := hL0
    rwa [MakeChecks.laidMetH_plain _ _ _ (by kernel_rfl)] at this
  have hLaid := (Hid.mk' (laid_of hL hsh (by simp [Rows.opsOrderRow]) (by simp [Rows.opsOrderRow]) (by simp [Rows.opsOrderRow]) (by simp [Rows.opsOrderRow]) (by simp [Rows.opsOrderRow]) (by simp [Rows.opsOrderRow])))
  have hW' := hW
  obtain ⟨p, q, hA0, hV, rfl, hfz, hnd⟩ := hW
  have hA : DataW.TrodAll enc Tryz.prog W 0 (fun _ => true) true Tryz.f5.params.toList args.toList ds p := hA0
  rw [Tryz.params5] at hA hval hsz
  obtain ⟨v0, vs0, d0, ds0, p0, q0, hargs, rfl, rfl, h0, r0⟩ := trodAll_cons hA
  obtain ⟨v1, vs1, d1, ds1, p1, q1, rfl, rfl, rfl, h1, r1⟩ := trodAll_cons r0
  obtain ⟨rfl, rfl, rfl⟩ := trodAll_nil r1
  obtain rfl : args = #[v0, v1] := by cases args; simp_all
  obtain ⟨rfl, rfl⟩ := trodVars_none hV
  have k0 := h0
  have lt0 : ∀ x ∈ p0, x.block < W.heap.size := by obtain ⟨m, hm⟩ := k0; exact DataW.trod_lt m _ _ _ hm
  have hw0 : ∀ n ∈ DataW.weights Tryz.prog 26 d0, n ≤ reachBytes := fun n hn => of_decide_eq_true (List.all_eq_true.1 hsz _ (DataW.weights_mem_each (j := 0) (t := 26) rfl rfl _ hn))
  obtain ⟨k0_, x0_, s0_, r0_, rfl, hx0_, hz0_, wk0_, wr0_⟩ := down_value (hval 0 26 v0 rfl rfl) h0 hw0
  have k1 := h1
  have lt1 : ∀ x ∈ p1, x.block < W.heap.size := by obtain ⟨m, hm⟩ := k1; exact DataW.trod_lt m _ _ _ hm
  have hw1 : ∀ n ∈ DataW.weights Tryz.prog 26 d1, n ≤ reachBytes := fun n hn => of_decide_eq_true (List.all_eq_true.1 hsz _ (DataW.weights_mem_each (j := 1) (t := 26) rfl rfl _ hn))
  obtain ⟨k1_, x1_, s1_, r1_, rfl, hx1_, hz1_, wk1_, wr1_⟩ := down_value (hval 1 26 v1 rfl rfl) h1 hw1
  clear hA0 hval0 hsz0 hL0
  refine (ord_law k0_ x0_ s0_ r0_ k1_ x1_ s1_ r1_ W hx0_ hz0_ hx1_ hz1_ hLaid).mono fun e W' ⟨he, hg⟩ => ?_
  subst he
  exact ⟨_, rfl, _, _, _, [], _, [], hW', trodAll_cons_mk (shut_bool Tryz.underlying4 _) trodAll_mk0, (trodAll_cons_mk (Below.trod opsOrder_laidOut (by kernel_rfl) (of_decide_eq_true (by kernel_rfl)) k0 hg lt0) (trodAll_cons_mk (Below.trod opsOrder_laidOut (by kernel_rfl) (of_decide_eq_true (by kernel_rfl)) k1 hg lt1) trodAll_mk0)), rfl, hg.frame _, fun h => by cases h⟩

theorem opsOrder_z1 : (Rows.opsOrderRow.inPlace == Tryz.prog.inPlace 5) = true := by kernel_rfl
theorem opsOrder_z2 : (Rows.opsOrderRow.unfollowed == Tryz.prog.unfollowed 5) = true := by kernel_rfl
theorem opsOrder_z3 : (Rows.opsOrderRow.recurses == Tryz.prog.recurses 5) = true := by kernel_rfl
theorem opsOrder_z4 : (Rows.opsOrderRow.named == Tryz.prog.varsNamed 5) = true := by kernel_rfl
theorem opsOrder_z6 : mapsRowed Tryz.prog = true := by kernel_rfl
theorem opsOrder_closed : joinedFacts Tryz.prog 5 Tryz.f5 Rows.opsOrderSpec Rows.opsOrderRow = true := by
  unfold joinedFacts
  rw [opsOrder_z1, opsOrder_z2, opsOrder_z3, opsOrder_z4, opsOrder_laidOut, opsOrder_z6]
  kernel_rfl
theorem opsOrder_holds : Rows.OpsOrderSaid :=
  OpenClaim.holds_of_wide 5 Tryz.f5 rfl rfl rfl rfl rfl rfl rfl ⟨rfl, rfl, rfl, rfl, rfl⟩ rfl rfl rfl rfl rfl (by kernel_rfl) Tryz.func5 opsOrder_closed
    (of_decide_eq_true (by kernel_rfl)) (by unfold Func.isWrapper; first | (rw [if_pos (by decide +kernel)]; kernel_rfl) | (rw [if_neg (by decide +kernel)]; exact ⟨rfl, rfl⟩))
    (fun os started H enc _ => opsOrder_lifted os started H enc)
theorem opsOrder_card : Rows.OpsOrderCardSaid :=
  Claim7.holds_tied_plain_at .later [] _ true _ true opsOrder_holds (fun _ h => by cases h) (by kernel_rfl) (fun _ h => by cases h) opsOrder_row_tie rfl ⟨rfl, rfl⟩ (by kernel_rfl) rfl
    (fun f fn hf hfn => by
      obtain rfl : f = 5 := Option.some.inj ((show Tryz.prog.funcNamed Rows.opsOrderRow.func = some 5 by kernel_rfl).symm.trans hf) |>.symm
      obtain rfl : fn = Tryz.f5 := (Option.some.inj (Tryz.func5.symm.trans hfn)).symm
      exact ⟨by kernel_rfl, fun j t ht => by
        rw [Tryz.params5] at ht
        have hm : t ∈ [26, 26] := by simpa using Array.mem_of_getElem? ht
        have hall : ([26, 26].all fun u => !Tryz.prog.wantsStandIn u) = true := by kernel_rfl
        exact (show Tryz.prog.wantsStandIn t = false by simpa using List.all_eq_true.1 hall t hm)⟩)
    (by kernel_rfl)
#print axioms opsOrder_card
end Go.Proofs.YtbkkkpfoaggejaaGreatDoor
