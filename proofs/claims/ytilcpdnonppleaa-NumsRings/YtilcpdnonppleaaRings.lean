/- NumsRings: for every two whole numbers the law returns true: the 32 bits of a sum and of a difference are those of both's 32 bits. No condition. -/
import Derived.Test.YtilcpdnonppleaaRows
import Derived.Test.YtilcpdnonppleaaNAwake
import Derived.ProofKit
import Derived.OpenShut
import Derived.ShutString
import Derived.SizedLaws
import Derived.Below
namespace Go.Proofs.Ytilcpdnonppleaa
set_option linter.unusedVariables false
open Go.ChangeShapes Go.WideShapes Go.ChangeAt Go.RowKit
open Go.ChangeMaps (open_string shut_string)
open Fl

theorem twice_gen (D E : Nat) (h : 1 + D = E) : 4503599627370496 * 2 ^ E = 9007199254740992 * 2 ^ D := by
  rw [← pow_split h, ← Nat.mul_assoc]
theorem int_rep53 (n : Nat) (h : n ≤ 9007199254740992) : ∃ g, g < 9218868437227405312 ∧ val g = n * 2 ^ 1074 := by
  by_cases hn : n < 9007199254740992
  · exact int_rep n hn
  · have e : n = 9007199254740992 := by omega
    obtain ⟨g, h1, h2⟩ := int_rep_gen 4503599627370496 1075 (by omega) (by omega)
    refine ⟨g, h1, h2.trans ?_⟩
    rw [e]
    exact twice_gen 1074 1075 rfl
theorem one_gen {v m D : Nat} (h : v = m * 2 ^ D) : m * 2 ^ D = v * 2 ^ 0 := by rw [h, Nat.pow_zero, Nat.mul_one]
theorem foi (n : Int) (h : n.natAbs ≤ 9007199254740992) : ∃ g, g < 9218868437227405312 ∧ val g = n.natAbs * 2 ^ 1074 ∧ floatOfInt .f64 n = Ieee.double.word (decide (n < 0)) g := by
  obtain ⟨g, h1, h2⟩ := int_rep53 n.natAbs h
  refine ⟨g, h1, h2, ?_⟩
  exact nearest_exact (decide (n < 0)) n.natAbs 0 g 1074 0 h1 (by omega) (one_gen (D := 1074) h2)
theorem foi_lt (n : Int) : floatOfInt .f64 n < 18446744073709551616 := by simpa [Lit.wf] using floatOfInt_wf .f64 n
theorem sv_foi_gen {v m D : Nat} {n : Int} (hv : v = n.natAbs * 2 ^ D) : (if decide (n < 0) = true then -(v : Int) else (v : Int)) = n * ((2 ^ D : Nat) : Int) := by
  rw [hv]
  by_cases h : n < 0
  · rw [decide_eq_true h, if_pos rfl, Int.natCast_mul, ← Int.neg_mul]
    congr 1; omega
  · rw [decide_eq_false h, if_neg (by decide), Int.natCast_mul]
    congr 1; omega
theorem sv_foi (n : Int) (g : Nat) (hv : val g = n.natAbs * 2 ^ 1074) : sv (decide (n < 0)) g = n * ((2 ^ 1074 : Nat) : Int) := sv_foi_gen (m := 0) (D := 1074) hv
theorem u32_foi (n : Int) (h : n.natAbs ≤ 9007199254740992) : u32 (floatOfInt .f64 n) = n % 4294967296 := by
  obtain ⟨g, h1, h2, e⟩ := foi n h
  have ht := tr_of g _ h2
  rw [e, word_eq]
  by_cases hn : n < 0
  · rw [decide_eq_true hn, if_pos rfl, u32_neg g _ h1 ht]
    omega
  · rw [decide_eq_false hn, if_neg (by decide), u32_pos g _ h1 ht]
    omega
theorem zero_gen {v D : Nat} {n : Int} (hv : v = n.natAbs * 2 ^ D) (h : v = 0) : n = 0 := by
  rw [h] at hv
  have := (Nat.mul_eq_zero.1 hv.symm).resolve_right (by have := Nat.two_pow_pos D; omega)
  omega
theorem add_foi (a b : Int) (ha : a.natAbs ≤ 4503599627370496) (hb : b.natAbs ≤ 4503599627370496) : Ieee.double.add (floatOfInt .f64 a) (floatOfInt .f64 b) = some (floatOfInt .f64 (a + b)) := by
  obtain ⟨g, g1, g2, e1⟩ := foi a (by omega)
  obtain ⟨h, h1, h2, e2⟩ := foi b (by omega)
  obtain ⟨k, k1, k2, e3⟩ := foi (a + b) (by omega)
  rw [e1, e2, e3]
  refine sum_exact _ _ _ g h k g1 h1 k1 ?_ (fun hk => ?_)
  · rw [sv_foi a g g2, sv_foi b h h2, sv_foi (a + b) k k2, Int.add_mul]
  · have := zero_gen (D := 1074) k2 ((val_zero k).2 hk)
    rw [decide_eq_false (by omega)]
    by_cases q : a < 0
    · rw [decide_eq_true q, decide_eq_false (by omega)]; rfl
    · rw [decide_eq_false q]; rfl
theorem sub_foi (a b : Int) (ha : a.natAbs ≤ 4503599627370496) (hb : b.natAbs ≤ 4503599627370496) : Ieee.double.sub (floatOfInt .f64 a) (floatOfInt .f64 b) = some (floatOfInt .f64 (a - b)) := by
  obtain ⟨g, g1, g2, e1⟩ := foi a (by omega)
  obtain ⟨h, h1, h2, e2⟩ := foi b (by omega)
  obtain ⟨k, k1, k2, e3⟩ := foi (a - b) (by omega)
  rw [e1, e2, e3]
  refine sub_exact _ _ _ g h k g1 h1 k1 ?_ (fun hk => ?_)
  · rw [sv_foi a g g2, sv_foi b h h2, sv_foi (a - b) k k2, Int.sub_mul]
  · have := zero_gen (D := 1074) k2 ((val_zero k).2 hk)
    rw [decide_eq_false (by omega)]
    by_cases q : a < 0
    · rw [decide_eq_true q, decide_eq_true (by omega)]; rfl
    · rw [decide_eq_false q]; rfl

set_option maxHeartbeats 1000000 in
set_option maxRecDepth 100000 in
theorem rings_small (a b : Int) (w : World) (ha : -4503599627370496 ≤ a) (ha' : a ≤ 4503599627370496) (hb : -4503599627370496 ≤ b) (hb' : b ≤ 4503599627370496) :
    Calls Try.prog 8 #[.int .i64 a, .int .i64 b] w fun e w' => e = .returned (.bool true) ∧ Below w.heap.size w w' := by
  have HA := Hid.mk' (fun W => awake_any W)
  have H1 := Hid.mk' (fun W => uint32_any (floatOfInt .f64 a) W (foi_lt a))
  have H2 := Hid.mk' (fun W => uint32_any (floatOfInt .f64 b) W (foi_lt b))
  have H3 := Hid.mk' (fun W => uint32_any (floatOfInt .f64 (a + b)) W (foi_lt _))
  have H4 := Hid.mk' (fun W => uint32_any (floatOfInt .f64 (a - b)) W (foi_lt _))
  have H5 := Hid.mk' (fun W => int32_any (floatOfInt .f64 a) W (foi_lt a))
  rw [u32_foi a (by omega)] at H1 H5
  rw [u32_foi b (by omega)] at H2
  rw [u32_foi (a + b) (by omega)] at H3
  rw [u32_foi (a - b) (by omega)] at H4
  have HP := Hid.mk' (fun W => run_add 22 _ _ _ W (add_foi a b (by omega) (by omega)))
  have HM := Hid.mk' (fun W => run_sub 22 _ _ _ W (sub_foi a b (by omega) (by omega)))
  obtain ⟨fa, hfa⟩ : ∃ fa, floatOfInt .f64 a = fa := ⟨_, rfl⟩
  obtain ⟨fb, hfb⟩ : ∃ fb, floatOfInt .f64 b = fb := ⟨_, rfl⟩
  obtain ⟨fp, hfp⟩ : ∃ fp, floatOfInt .f64 (a + b) = fp := ⟨_, rfl⟩
  obtain ⟨fm, hfm⟩ : ∃ fm, floatOfInt .f64 (a - b) = fm := ⟨_, rfl⟩
  rw [hfa] at H1 H5
  rw [hfb] at H2
  rw [hfp] at H3
  rw [hfm] at H4
  rw [hfa, hfb, hfp] at HP
  rw [hfa, hfb, hfm] at HM
  clear hfp hfm
  have q1 : ((a + b) % 4294967296 == (a % 4294967296 + b % 4294967296) % 4294967296) = true := by simp only [beq_iff_eq]; omega
  have q2 : ((a - b) % 4294967296 == (a % 4294967296 - b % 4294967296) % 4294967296) = true := by simp only [beq_iff_eq]; omega
  go_enter Try.func8, Try.ntmps8
  go_wp2_with fail
  refine (HA.out _).mono ?_; rintro e w1 ⟨rfl, hw1⟩; rw [hw1]; clear hw1 w1
  go_wp2_with fail
  rw [HP.out]
  go_wp2_with fail
  refine (H3.out _).mono ?_; rintro e w1 ⟨rfl, hw1⟩; rw [hw1]; clear hw1 w1
  go_wp2_with fail
  refine (H1.out _).mono ?_; rintro e w1 ⟨rfl, hw1⟩; rw [hw1]; clear hw1 w1
  go_wp2_with fail
  refine (H2.out _).mono ?_; rintro e w1 ⟨rfl, hw1⟩; rw [hw1]; clear hw1 w1
  go_wp2_with fail
  rw [HM.out]
  go_wp2_with fail
  refine (H4.out _).mono ?_; rintro e w1 ⟨rfl, hw1⟩; rw [hw1]; clear hw1 w1
  go_wp2_with fail
  refine (H1.out _).mono ?_; rintro e w1 ⟨rfl, hw1⟩; rw [hw1]; clear hw1 w1
  go_wp2_with fail
  refine (H2.out _).mono ?_; rintro e w1 ⟨rfl, hw1⟩; rw [hw1]; clear hw1 w1
  go_wp2_with fail
  refine (H5.out _).mono ?_; rintro e w1 ⟨rfl, hw1⟩; rw [hw1]; clear hw1 w1
  go_wp2_with fail
  refine (H1.out _).mono ?_; rintro e w1 ⟨rfl, hw1⟩; rw [hw1]; clear hw1 w1
  go_wp2_with fail
  go_ret
  exact ⟨ret_bool (by simp only [beq_iff_eq]; unfold wrap32; omega), Below.refl _ _⟩

set_option maxHeartbeats 1000000 in
set_option maxRecDepth 100000 in
theorem rings_walk (a b : Int) (ha : (Lit.int .i64 a).wf = true) (hb : (Lit.int .i64 b).wf = true) (w : World) :
    Calls Try.prog 8 #[.int .i64 a, .int .i64 b] w fun e w' => e = .returned (.bool true) ∧ Below w.heap.size w w' := by
  by_cases h : (-4503599627370496 ≤ a ∧ a ≤ 4503599627370496) ∧ (-4503599627370496 ≤ b ∧ b ≤ 4503599627370496)
  · exact rings_small a b w h.1.1 h.1.2 h.2.1 h.2.2
  · have HA := Hid.mk' (fun W => awake_any W)
    go_enter Try.func8, Try.ntmps8
    go_wp2_with (first | (go_at_call 9; first | (refine (HA.out _).mono ?_; rintro e w1 ⟨rfl, hw1⟩; rw [hw1]; clear hw1 w1)))
    all_goals
      go_ret
      exact ⟨rfl, Below.refl _ _⟩

theorem numsRings_own : ownKnob Try.prog.godebug = none := by kernel_rfl

set_option maxRecDepth 100000 in
theorem numsRings_lifted (os : Os) (started : os.Started) (H : Type) (enc : TypeId × Value → H) :
    ReturnsInHanded {} Try.checked os 8 .any (Rows.numsRingsSpec.pre6 enc Try.prog Try.f8 Rows.numsRingsRow.domain false) (Rows.numsRingsSpec.post enc Try.prog Try.f8 false true false false) := by
  refine returnsInHanded_of_change_sized (C := Try.checked) numsRings_own started (by kernel_rfl) Try.func8
    (ChangeSpec.witness6 (enc := enc) (C := Try.checked) false ⟨#[], #[.int .i64 0, .int .i64 0], []⟩ 8 (by kernel_rfl) (by kernel_rfl) (by kernel_rfl) (by kernel_rfl)) ?_
  intro W base args ds gs before hval0 hW hcnd hsz0 _
  have hval : ∀ (j : Nat) t v, Try.f8.params[j]? = some t → args[j]? = some v → Value.okWide Try.prog W .any base t v := hval0
  have hsz : (DataW.weightsEach Try.prog (Try.f8.params.toList ++ Rows.numsRingsSpec.plain.varTypes Try.prog) (ds ++ gs)).all (· ≤ reachBytes) = true := hsz0
  have hW' := hW
  obtain ⟨p, q, hA0, hV, rfl, hfz, hnd⟩ := hW
  have hA : DataW.TrodAll enc Try.prog W 0 (fun _ => true) true Try.f8.params.toList args.toList ds p := hA0
  rw [Try.params8] at hA hval hsz
  obtain ⟨v0, vs0, d0, ds0, p0, q0, hargs, rfl, rfl, h0, r0⟩ := trodAll_cons hA
  obtain ⟨v1, vs1, d1, ds1, p1, q1, rfl, rfl, rfl, h1, r1⟩ := trodAll_cons r0
  obtain ⟨rfl, rfl, rfl⟩ := trodAll_nil r1
  obtain rfl : args = #[v0, v1] := by cases args; simp_all
  obtain ⟨rfl, rfl⟩ := trodVars_none hV
  obtain ⟨a0, rfl, rfl, rfl, w0⟩ := open_int Try.underlying3 (hval 0 3 v0 rfl rfl) h0
  obtain ⟨a1, rfl, rfl, rfl, w1⟩ := open_int Try.underlying3 (hval 1 3 v1 rfl rfl) h1
  clear hA0 hval0 hsz0
  simp only [List.append_nil] at hW'
  refine (rings_walk a0 a1 w0 w1 W).mono fun e W' ⟨he, hg⟩ => ?_
  subst he
  exact ⟨_, rfl, _, _, _, [], [], [], hW', trodAll_cons_mk (shut_bool Try.underlying4 _) trodAll_mk0, (trodAll_cons_mk (shut_int Try.underlying3 w0) (trodAll_cons_mk (shut_int Try.underlying3 w1) trodAll_mk0)), rfl, hg.frame _, fun h => by cases h⟩

theorem numsRings_proved : Rows.NumsRingsSaid :=
  OpenClaim.holds_of_wide 8 Try.f8 rfl rfl rfl rfl rfl rfl rfl ⟨rfl, rfl, rfl, rfl, rfl⟩ rfl rfl rfl rfl rfl (by kernel_rfl) Try.func8 (by kernel_rfl)
    (of_decide_eq_true (by kernel_rfl)) (by unfold Func.isWrapper; first | (rw [if_pos (by decide +kernel)]; kernel_rfl) | (rw [if_neg (by decide +kernel)]; exact ⟨rfl, rfl⟩))
    (fun os started H enc _ => numsRings_lifted os started H enc)
#print axioms numsRings_proved

end Go.Proofs.Ytilcpdnonppleaa
