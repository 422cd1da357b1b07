/- Whole numbers are written to any base as the document says, and the beginning of any text is read to any base as it says: DigitsBases returns true, whatever the number, the base and the text. (A tied card: the listed package-level variables are as the program lays them.) -/
import Derived.Test.YtighenikjedojaaGreatDoorLawBas
import Derived.Test.YtighenikjedojaaGreatDoorLaidC
import Derived.Test.YtighenikjedojaaGreatDoorCards
import Derived.Test.YtighenikjedojaaGreatDoorTie
import Derived.ProofKit
import Derived.OpenShut
import Derived.ShutString
import Derived.SizedLaws
import Derived.Lay
import Derived.LaidOnce
import Derived.SevenTiedAt
import Derived.LaidLaws
namespace Go.Proofs.YtighenikjedojaaGreatDoor
set_option linter.unusedVariables false
open Go.RowKit Go.ChangeShapes Go.WideShapes Go.ChangeAt
open Go.ChangeMaps (open_string shut_string)

section
open Go.Lib
/-- The table of noughts at the end. -/
def dbL : List Int := [0, 1, 56, 2, 57, 49, 28, 3, 61, 58, 42, 50, 38, 29, 17, 4, 62, 47, 59, 36, 45, 43, 51, 22, 53, 39, 33, 30, 24, 18, 12, 5, 63, 55, 48, 27, 60, 41, 37, 16, 46, 35, 44, 21, 52, 32, 23, 11, 54, 26, 40, 15, 34, 20, 31, 10, 25, 14, 19, 9, 13, 8, 7, 6]
theorem laid_tz {w : World} (h : VarReads Tryz.prog w "math/bits.deBruijn64tab" Rows.laid_math_bits_deBruijn64tab) : TZ w := by
  obtain ⟨g, t, cs, fuel, p, hg, hty, hvar, hd⟩ := h
  obtain rfl : g = 6 := (Option.some.inj ((show Tryz.prog.globalNamed "math/bits.deBruijn64tab" = some 6 by kernel_rfl).symm.trans hg)).symm
  obtain rfl : t = 180 := (Option.some.inj ((show (Tryz.prog.globals[6]?).map (·.type) = some 180 by kernel_rfl).symm.trans hty)).symm
  rw [show (Rows.laid_math_bits_deBruijn64tab : DataW Unit) = Lib.tabData .u8 dbL by rfl] at hd
  have hcs := Lib.cells_of_tab Tryz.underlying180 Tryz.underlying5 (by kernel_rfl) (by kernel_rfl) hd
  intro k h1 h2
  rw [World.var?_cell hg hvar (2 ^ k - 1)]
  have hk : k = 1 ∨ k = 2 ∨ k = 3 ∨ k = 4 ∨ k = 5 := by omega
  rw [← Array.getElem?_toList, hcs]
  rcases hk with rfl | rfl | rfl | rfl | rfl <;> rfl
theorem laid_rng {w : World} (h : VarReads Tryz.prog w "strconv.ErrRange" Rows.laid_strconv_ErrRange) : ∃ ev, w.cell? ⟨4, 0, none⟩ = some ev ∧ (ev = .nilIface ∨ ∃ te pe, ev = .iface te pe) := by
  obtain ⟨g, t, cs, fuel, p, hg, hty, hvar, hd⟩ := h
  obtain rfl : g = 4 := (Option.some.inj ((show Tryz.prog.globalNamed "strconv.ErrRange" = some 4 by kernel_rfl).symm.trans hg)).symm
  obtain rfl : t = 92 := (Option.some.inj ((show (Tryz.prog.globals[4]?).map (·.type) = some 92 by kernel_rfl).symm.trans hty)).symm
  unfold Rows.laid_strconv_ErrRange at hd
  obtain ⟨fuel', u, v, hcs, _, _⟩ := iface_of_trod Tryz.underlying92 hd
  exact ⟨.iface u v, by rw [World.var?_cell hg hvar 0, ← Array.getElem?_toList, hcs]; rfl, .inr ⟨u, v, rfl⟩⟩
theorem laidB_of {w : World} {l : List (String × DataW Unit)} (h : laidMet Tryz.prog l w) (hsh : w.ShapedOpen Tryz.prog) (m1 : ("math/bits.deBruijn64tab", Rows.laid_math_bits_deBruijn64tab) ∈ l) (m2 : ("strconv.ErrRange", Rows.laid_strconv_ErrRange) ∈ l) : LaidB w := by
  refine ⟨laid_tz (laidMet.reads h m1), ?_, ?_, laid_rng (laidMet.reads h m2)⟩
  · obtain ⟨cs, e, _⟩ := hsh.1 9 #[.int .u64 0, .int .u64 0, .int .i64 0] 204 (by decide +kernel) (by kernel_rfl)
    exact ⟨cs, _, e⟩
  · obtain ⟨cs, e, _⟩ := hsh.1 8 #[.int .u64 0, .int .u64 0, .int .i64 0] 204 (by decide +kernel) (by kernel_rfl)
    exact ⟨cs, _, e⟩
end
theorem digitsBases_own : ownKnob Tryz.prog.godebug = none := by kernel_rfl
set_option maxRecDepth 100000 in
theorem digitsBases_lifted (os : Os) (started : os.Started) (H : Type) (enc : TypeId × Value → H) :
    ReturnsInHanded {} Tryz.checked os 3 .any (fun w args => (Rows.digitsBasesSpec.pre enc Tryz.prog Tryz.f3 Rows.digitsBasesRow.domain false w args ∧ laidMetH Tryz.prog Rows.digitsBasesRow.laid w) ∧ sizedMet enc Tryz.prog Tryz.f3 (OpenSpec.ofChange Rows.digitsBasesSpec) false w args)
      (Rows.digitsBasesSpec.post enc Tryz.prog Tryz.f3 false true false false) := by
  refine handed_shaped (C := Tryz.checked) (X := fun w _ => laidMetH Tryz.prog Rows.digitsBasesRow.laid w) (fun _ _ _ hh h => h.of_heap hh) digitsBases_own started (by kernel_rfl) Tryz.func3
    (ChangeSpec.witness_shaped (enc := enc) (C := Tryz.checked) (os := os) (X := fun w _ => laidMetH Tryz.prog Rows.digitsBasesRow.laid w) false (World.laidAll Tryz.prog os Rows.digitsBasesRow.laid) #[.float .f64 0, .int .i64 0, .string ByteArray.empty] 8 (World.laidAll_os _ _ _)
      (World.shaped_of_ZipB (by kernel_rfl) (by kernel_rfl)) (by kernel_rfl) (by kernel_rfl) (by kernel_rfl)
      (by rw [MakeChecks.laidMetH_plain _ _ _ (by kernel_rfl)]; exact laidMet_laidAll _ (by kernel_rfl) (by kernel_rfl))) ?_
  intro W base args ds gs before hval0 hW hsz0 hL0 hsh
  have hval : ∀ (j : Nat) t v, Tryz.f3.params[j]? = some t → args[j]? = some v → Value.okWide Tryz.prog W .any base t v := hval0
  have hsz : (DataW.weightsEach Tryz.prog (Tryz.f3.params.toList ++ Rows.digitsBasesSpec.plain.varTypes Tryz.prog) (ds ++ gs)).all (· ≤ reachBytes) = true := hsz0
  have hL : laidMet Tryz.prog Rows.digitsBasesRow.laid W := by
    have := hL0
    rwa [MakeChecks.laidMetH_plain _ _ _ (by kernel_rfl)] at this
  have hLaid : Laid W := laid_of hL hsh (by simp [Rows.digitsBasesRow]) (by simp [Rows.digitsBasesRow]) (by simp [Rows.digitsBasesRow]) (by simp [Rows.digitsBasesRow]) (by simp [Rows.digitsBasesRow]) (by simp [Rows.digitsBasesRow])
  have hLB : LaidB W := laidB_of hL hsh (by simp [Rows.digitsBasesRow]) (by simp [Rows.digitsBasesRow])
  have hW' := hW
  obtain ⟨p, q, hA0, hV, rfl, hfz, hnd⟩ := hW
  have hA : DataW.TrodAll enc Tryz.prog W 0 (fun _ => true) true Tryz.f3.params.toList args.toList ds p := hA0
  rw [Tryz.params3] at hA hval hsz
  obtain ⟨v0, vs0, d0, ds0, p0, q0, hargs, rfl, rfl, h0, r0⟩ := trodAll_cons hA
  obtain ⟨v1, vs1, d1, ds1, p1, q1, rfl, rfl, rfl, h1, r1⟩ := trodAll_cons r0
  obtain ⟨v2, vs2, d2, ds2, p2, q2, rfl, rfl, rfl, h2, r2⟩ := trodAll_cons r1
  obtain ⟨rfl, rfl, rfl⟩ := trodAll_nil r2
  obtain rfl : args = #[v0, v1, v2] := by cases args; simp_all
  obtain ⟨rfl, rfl⟩ := trodVars_none hV
  obtain ⟨a0, rfl, rfl, rfl, w0⟩ := open_float Tryz.underlying22 (hval 0 22 v0 rfl rfl) h0
  obtain ⟨a1, rfl, rfl, rfl, w1⟩ := open_int Tryz.underlying3 (hval 1 3 v1 rfl rfl) h1
  obtain ⟨a2, rfl, rfl, rfl, w2⟩ := open_string Tryz.underlying23 (hval 2 23 v2 rfl rfl) h2
  have z2 := sized_string hsz (j := 2) (t := 23) rfl rfl
  simp only [reachBytes] at z2
  have z0 : a0 < 18446744073709551616 := by simpa [Lit.wf] using w0
  clear hA0 hval0 hsz0 hL0
  simp only [List.append_nil] at hW'
  refine (bases_walk a0 a1 a2 W z0 (by simpa using z2) hLaid hLB).mono fun e W' ⟨he, hg⟩ => ?_
  subst he
  exact ⟨_, rfl, _, _, _, [], [], [], hW', trodAll_cons_mk (shut_bool Tryz.underlying4 _) trodAll_mk0, (trodAll_cons_mk (shut_float Tryz.underlying22 w0) (trodAll_cons_mk (shut_int Tryz.underlying3 w1) (trodAll_cons_mk (shut_string Tryz.underlying23 w2) trodAll_mk0))), rfl, hg.frame _, fun h => by cases h⟩

theorem digitsBases_holds : Rows.DigitsBasesSaid :=
  OpenClaim.holds_of_wide 3 Tryz.f3 rfl rfl rfl rfl rfl rfl rfl ⟨rfl, rfl, rfl, rfl, rfl⟩ rfl rfl rfl rfl rfl (by kernel_rfl) Tryz.func3 (by kernel_rfl)
    (of_decide_eq_true (by kernel_rfl)) (by unfold Func.isWrapper; first | (rw [if_pos (by decide +kernel)]; kernel_rfl) | (rw [if_neg (by decide +kernel)]; exact ⟨rfl, rfl⟩))
    (fun os started H enc _ => digitsBases_lifted os started H enc)
theorem digitsBases_card : Rows.DigitsBasesCardSaid :=
  Claim7.holds_tied_plain_at .later [] _ true _ true digitsBases_holds (fun _ h => by cases h) (by kernel_rfl) (fun _ h => by cases h) digitsBases_row_tie rfl ⟨rfl, rfl⟩ (by kernel_rfl) rfl
    (fun f fn hf hfn => by
      obtain rfl : f = 3 := Option.some.inj ((show Tryz.prog.funcNamed Rows.digitsBasesRow.func = some 3 by kernel_rfl).symm.trans hf) |>.symm
      obtain rfl : fn = Tryz.f3 := (Option.some.inj (Tryz.func3.symm.trans hfn)).symm
      exact ⟨by kernel_rfl, fun j t ht => by
        rw [Tryz.params3] at ht
        have hm : t ∈ [22, 3, 23] := by simpa using Array.mem_of_getElem? ht
        have hall : ([22, 3, 23].all fun u => !Tryz.prog.wantsStandIn u) = true := by kernel_rfl
        exact (show Tryz.prog.wantsStandIn t = false by simpa using List.all_eq_true.1 hall t hm)⟩)
    (by kernel_rfl)
#print axioms digitsBases_card
end Go.Proofs.YtighenikjedojaaGreatDoor
