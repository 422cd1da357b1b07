/- UnitsPoints: for every text and every number the law returns true: units.Points tells the document's code points with their places, surrogates that stand alone too, units.Point their units, and put together again they are the text. No condition. -/
import Derived.Test.YtalnmophdebnfaaRows
import Derived.Test.YtalnmophdebnfaaPtsLaw
import Derived.ProofKit
import Derived.OpenShut
import Derived.ShutString
import Derived.SizedLaws
namespace Go.Proofs.Ytalnmophdebnfaa
set_option linter.unusedVariables false
open Go.ChangeShapes Go.WideShapes Go.ChangeAt Go.RowKit
open Go.ChangeMaps (open_string shut_string)
open Go.Shelf

set_option maxHeartbeats 1000000 in
set_option maxRecDepth 100000 in
theorem points_big (s : ByteArray) (r : Int) (hs : s.size ≤ 140737488351232) (w : World) (hbig : (4000 : Int) < (s.size : Int)) :
    Calls Try.prog 7 #[.string s, .int .i32 r] w fun e w' => e = .returned (.bool true) ∧ Below w.heap.size w w' := by
  refine (callsIn_wide (n := 3)).1 ?_
  refine callsIn_of_wp_marks Try.func7 rfl trivial ?_ rfl
  simp only [Try.ntmps7, List.size_toArray, List.length_cons, List.length_nil, Nat.reduceAdd, Nat.reduceSub, Array.replicate_succ, Array.replicate_zero, List.push_toArray, List.append_toArray, List.nil_append, List.cons_append]
  gi_wp2_with fail
  refine ⟨trivial, (callsIn_wide.2 (awake_any _)).mono ?_⟩
  rintro e w1 ⟨rfl, b1⟩
  have bR := Boxed.new w 4 (.bool false)
  have bR1 : Boxed w1 w.heap.size 4 (.bool false) := (b1.block w.heap.size (by simp)).trans bR
  have hc := bR1.cell
  have hf := bR1.frozen
  have hb : Below w.heap.size w w1 := ((Below.refl _ w).alloc (Nat.le_refl _) _).trans (b1.mono (by simp))
  clear b1 bR
  gi_wp2
  have hc2 := (bR1.set (.bool true)).cell
  refine ⟨.bool true, ?_, rfl, hb.setCell (p := ⟨w.heap.size, 0, none⟩) (Nat.le_refl _) _⟩
  simp [results, Try.results7, go_sem, hc2]

theorem points_walk (s : ByteArray) (r : Int) (hs : s.size ≤ 140737488351232) (wr : (Lit.int .i32 r).wf = true) (w : World) :
    Calls Try.prog 7 #[.string s, .int .i32 r] w fun e w' => e = .returned (.bool true) ∧ Below w.heap.size w w' := by
  by_cases hbig : (s.size : Int) ≤ 4000
  · by_cases hr : 0 ≤ r ∧ r ≤ 1114111
    · obtain ⟨n, rfl⟩ : ∃ n : Nat, r = n := ⟨r.toNat, by omega⟩
      refine points_small s n w hbig (pb n) (fun W => point_any n (by omega) W) (fun W => ?_)
      refine (rpoint_any n (by omega) W).mono ?_
      rintro e w' ⟨rfl, rfl⟩
      refine ⟨_, rfl, (Below.refl _ _).alloc (Nat.le_refl _) _, ?_⟩
      have hl : (pu n).length ≤ 2 := (pu_length n).2
      refine (rmake_any (pu n) (pu_lt n (by omega)) (by omega) _ _ (.inr ⟨W.heap.size, 0, (pu n).length, rfl, by simp, fun j hj => ?_⟩)).mono ?_
      · have := cells_new W (u16c (pu n)) 37 j (.int .u16 ((pu n)[j] : Nat)) (by simp [u16c, hj])
        rw [at_add] at this
        rw [Nat.zero_add]
        exact this
      · rintro e w'' ⟨rfl, b⟩
        rw [pb_pu]
        exact ⟨rfl, b⟩
    · have hr' : r < 0 ∨ 1114111 < r := by omega
      refine points_small s r w hbig [] (fun W => ?_) (fun W => ?_)
      · refine (point_bad r hr' W).mono ?_
        rintro e w' ⟨rfl, rfl⟩
        exact ⟨rfl, Below.refl _ _⟩
      · refine (rpoint_bad r hr' W).mono ?_
        rintro e w' ⟨rfl, rfl⟩
        refine ⟨_, rfl, Below.refl _ _, ?_⟩
        exact rmake_any [] (fun u hu => by cases hu) (by simp) _ _ (.inl ⟨0, rfl, rfl⟩)
  · exact points_big s r hs w (by omega)

theorem unitsPoints_own : ownKnob Try.prog.godebug = none := by kernel_rfl

set_option maxRecDepth 100000 in
theorem unitsPoints_lifted (os : Os) (started : os.Started) (H : Type) (enc : TypeId × Value → H) :
    ReturnsInHanded {} Try.checked os 7 .any (Rows.unitsPointsSpec.pre6 enc Try.prog Try.f7 Rows.unitsPointsRow.domain false) (Rows.unitsPointsSpec.post enc Try.prog Try.f7 false true false false) := by
  refine returnsInHanded_of_change_sized (C := Try.checked) unitsPoints_own started (by kernel_rfl) Try.func7
    (ChangeSpec.witness6 (enc := enc) (C := Try.checked) false ⟨#[], #[.string ByteArray.empty, .int .i32 0], []⟩ 8 (by kernel_rfl) (by kernel_rfl) (by kernel_rfl) (by kernel_rfl)) ?_
  intro W base args ds gs before hval0 hW hcnd hsz0 _
  have hval : ∀ (j : Nat) t v, Try.f7.params[j]? = some t → args[j]? = some v → Value.okWide Try.prog W .any base t v := hval0
  have hsz : (DataW.weightsEach Try.prog (Try.f7.params.toList ++ Rows.unitsPointsSpec.plain.varTypes Try.prog) (ds ++ gs)).all (· ≤ reachBytes) = true := hsz0
  have hW' := hW
  obtain ⟨p, q, hA0, hV, rfl, hfz, hnd⟩ := hW
  have hA : DataW.TrodAll enc Try.prog W 0 (fun _ => true) true Try.f7.params.toList args.toList ds p := hA0
  rw [Try.params7] at hA hval hsz
  obtain ⟨v0, vs0, d0, ds0, p0, q0, hargs, rfl, rfl, h0, r0⟩ := trodAll_cons hA
  obtain ⟨v1, vs1, d1, ds1, p1, q1, rfl, rfl, rfl, h1, r1⟩ := trodAll_cons r0
  obtain ⟨rfl, rfl, rfl⟩ := trodAll_nil r1
  obtain rfl : args = #[v0, v1] := by cases args; simp_all
  obtain ⟨rfl, rfl⟩ := trodVars_none hV
  obtain ⟨a0, rfl, rfl, rfl, w0⟩ := open_string Try.underlying22 (hval 0 22 v0 rfl rfl) h0
  have z0 := sized_string hsz (j := 0) (t := 22) rfl rfl
  simp only [reachBytes] at z0
  obtain ⟨a1, rfl, rfl, rfl, w1⟩ := open_int Try.underlying21 (hval 1 21 v1 rfl rfl) h1
  clear hA0 hval0 hsz0
  simp only [List.append_nil] at hW'
  refine (points_walk a0 a1 (by simpa using z0) w1 W).mono fun e W' ⟨he, hg⟩ => ?_
  subst he
  exact ⟨_, rfl, _, _, _, [], [], [], hW', trodAll_cons_mk (shut_bool Try.underlying4 _) trodAll_mk0, (trodAll_cons_mk (shut_string Try.underlying22 w0) (trodAll_cons_mk (shut_int Try.underlying21 w1) trodAll_mk0)), rfl, hg.frame _, fun h => by cases h⟩

theorem unitsPoints_proved : Rows.UnitsPointsSaid :=
  OpenClaim.holds_of_wide 7 Try.f7 rfl rfl rfl rfl rfl rfl rfl ⟨rfl, rfl, rfl, rfl, rfl⟩ rfl rfl rfl rfl rfl (by kernel_rfl) Try.func7 (by kernel_rfl)
    (of_decide_eq_true (by kernel_rfl)) (by unfold Func.isWrapper; first | (rw [if_pos (by decide +kernel)]; kernel_rfl) | (rw [if_neg (by decide +kernel)]; exact ⟨rfl, rfl⟩))
    (fun os started H enc _ => unitsPoints_lifted os started H enc)
#print axioms unitsPoints_proved

end Go.Proofs.Ytalnmophdebnfaa
