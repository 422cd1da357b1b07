/- UnitsPieces: for every text, place and pair of ends the law returns true: units.Units, Len, Make, Cut and At tell what the text's bytes say. No condition. -/
import Derived.Test.YtalnmophdebnfaaRows
import Derived.Test.YtalnmophdebnfaaAwake
import Derived.Test.YtalnmophdebnfaaRCut
import Derived.ProofKit
import Derived.OpenShut
import Derived.ShutString
import Derived.SizedLaws
namespace Go.Proofs.Ytalnmophdebnfaa
set_option linter.unusedVariables false
open Go.ChangeShapes Go.WideShapes Go.ChangeAt Go.RowKit
open Go.ChangeMaps (open_string shut_string)

set_option maxHeartbeats 1000000 in
set_option maxRecDepth 100000 in
theorem pieces_big (s : ByteArray) (i f t : Int) (hs : s.size ≤ 140737488351232) (w : World) (hbig : (4000 : Int) < (s.size : Int)) :
    Calls Try.prog 4 #[.string s, .int .i64 i, .int .i64 f, .int .i64 t] w fun e w' => e = .returned (.bool true) ∧ Below w.heap.size w w' := by
  go_enter Try.func4, Try.ntmps4
  go_wp2_with (go_at_call 9; refine (awake_any _).mono ?_; rintro e w1 ⟨rfl, b1⟩)
  go_ret
  exact ⟨rfl, b1⟩

theorem make_even (s : ByteArray) : (⟨(mkB (uns s)).toArray⟩ : ByteArray) = evenS s := by
  apply ByteArray.ext
  apply Array.ext'
  rw [evenS_bytes, mkB_uns]

set_option maxHeartbeats 2000000 in
set_option maxRecDepth 100000 in
theorem pieces_small (s : ByteArray) (i f t : Int) (w : World) (hbig : (s.size : Int) ≤ 4000) :
    Calls Try.prog 4 #[.string s, .int .i64 i, .int .i64 f, .int .i64 t] w fun e w' => e = .returned (.bool true) ∧ Below w.heap.size w w' := by
  have hs : (s.size : Int) ≤ 1048576 := by omega
  have hm : s.size ≤ maxLen := by unfold maxLen; omega
  go_enter Try.func4, Try.ntmps4
  go_wp2_with fail
  refine (awake_any _).mono ?_
  rintro e w1 ⟨rfl, b1⟩
  go_wp2_with fail
  refine (units_any s _ hs).mono ?_
  rintro e w2 ⟨v2, rfl, o2, b2⟩
  obtain ⟨x2, c2, rfl⟩ := own_slice' o2 |>.imp fun _ h => h.imp fun _ h => h.1
  go_wp2_with fail
  refine (runits_any s _ hs).mono ?_
  rintro e w3 ⟨v3, rfl, o3, b3⟩
  obtain ⟨x3, c3, rfl⟩ := own_slice' o3 |>.imp fun _ h => h.imp fun _ h => h.1
  have o2' := own_below o2 b3
  have b13 : Below w.heap.size w w3 := (b1.trans (b2.mono b1.size)).trans (b3.mono (Nat.le_trans b1.size b2.size))
  clear b1 b2 b3 o2
  go_wp2_with fail
  refine (len_any s _ hm).mono ?_
  rintro e w4 ⟨rfl, hw4⟩
  rw [hw4]; clear hw4 w4
  go_wp2_with fail
  refine (make_any (uns s) (uns_lt s) (by rw [uns_length]; omega) _ _ (Rd.own o3)).mono ?_
  rintro e w4 ⟨rfl, b4⟩
  rw [make_even]
  go_wp2_with fail
  refine (reven_any s _ hs).mono ?_
  rintro e w5 ⟨rfl, hw5⟩
  rw [hw5]; clear hw5 w5
  go_wp2_with fail
  refine (cut_any s f t _ hs).mono ?_
  rintro e w5 ⟨rfl, b5⟩
  go_wp2_with fail
  refine (rcut_any s f t _ hs).mono ?_
  rintro e w6 ⟨rfl, b6⟩
  have b36 : Below w3.heap.size w3 w6 := (b4.trans (b5.mono b4.size)).trans (b6.mono (Nat.le_trans b4.size b5.size))
  have p2 := own_below o2' b36
  have p3 := own_below o3 b36
  have b16 : Below w.heap.size w w6 := b13.trans (b36.mono b13.size)
  clear b4 b5 b6 b36 b13 o2' o3
  go_wp2
  go_loopw [55] (fun v wr => ∃ (k n : Nat), v = .int .i64 k ∧ k ≤ s.size / 2 ∧ wr = w6.drewN n) (fun v _ => s.size / 2 - (intOf v).toNat)
  case atStart => exact ⟨0, 0, rfl, Nat.zero_le _, rfl⟩
  case round =>
    obtain ⟨k, nn, rfl, hk, rfl⟩ := hrel
    by_cases hlt : k < s.size / 2
    · obtain ⟨g2, rfl⟩ := own_some p2 (by omega)
      obtain ⟨g3, rfl⟩ := own_some p3 (by omega)
      have e2 : w6.cell? ⟨g2, k, none⟩ = some (.int .u16 (un s k)) := own_cell p2 (uc_get s _ k hlt)
      have e3 : w6.cell? ⟨g3, k, none⟩ = some (.int .u16 (un s k)) := own_cell p3 (uc_get s _ k hlt)
      have i1 : (k : Int) < ((s.size / 2 : Nat) : Int) := by omega
      have i3 : (0 : Int) ≤ (k : Int) := by omega
      go_wp2
      go_quiet (fail)
      go_wp2
      go_roundw
      case rel => exact ⟨k + 1, _, by go_num, by omega, rfl⟩
      case measure => simp [intOf]; omega
    · by_cases hi0 : i < 0
      · go_wp2_with (go_at_call 21; refine (at_out s i _ hm (.inl hi0)).mono ?_; rintro e w7 ⟨rfl, n7, hw7⟩; rw [hw7]; clear hw7 w7)
        go_ret
        exact ⟨rfl, below_drewN b16 _⟩
      · by_cases hi1 : i < ((s.size / 2 : Nat) : Int)
        · obtain ⟨m, rfl⟩ : ∃ m : Nat, i = m := ⟨i.toNat, by omega⟩
          obtain ⟨g3, rfl⟩ := own_some p3 (by omega)
          have e3 : w6.cell? ⟨g3, m, none⟩ = some (.int .u16 (un s m)) := own_cell p3 (uc_get s _ m (by omega))
          have hA := Hid.mk' (fun W => at_in s m W hm (by omega))
          go_wp2_with (go_at_call 21; refine (hA.out _).mono ?_; rintro e w7 ⟨rfl, n7, hw7⟩; rw [hw7]; clear hw7 w7)
          go_ret
          exact ⟨rfl, below_drewN b16 _⟩
        · have hi2 : ((s.size / 2 : Nat) : Int) ≤ i := by omega
          go_wp2_with (go_at_call 21; refine (at_out s i _ hm (.inr hi2)).mono ?_; rintro e w7 ⟨rfl, n7, hw7⟩; rw [hw7]; clear hw7 w7)
          go_ret
          exact ⟨rfl, below_drewN b16 _⟩

theorem pieces_walk (s : ByteArray) (i f t : Int) (hs : s.size ≤ 140737488351232) (wi : (Lit.int .i64 i).wf = true) (wf : (Lit.int .i64 f).wf = true) (wt : (Lit.int .i64 t).wf = true) (w : World) :
    Calls Try.prog 4 #[.string s, .int .i64 i, .int .i64 f, .int .i64 t] w fun e w' => e = .returned (.bool true) ∧ Below w.heap.size w w' := by
  by_cases hbig : (s.size : Int) ≤ 4000
  · exact pieces_small s i f t w hbig
  · exact pieces_big s i f t hs w (by omega)

theorem unitsPieces_own : ownKnob Try.prog.godebug = none := by kernel_rfl

set_option maxRecDepth 100000 in
theorem unitsPieces_lifted (os : Os) (started : os.Started) (H : Type) (enc : TypeId × Value → H) :
    ReturnsInHanded {} Try.checked os 4 .any (Rows.unitsPiecesSpec.pre6 enc Try.prog Try.f4 Rows.unitsPiecesRow.domain false) (Rows.unitsPiecesSpec.post enc Try.prog Try.f4 false true false false) := by
  refine returnsInHanded_of_change_sized (C := Try.checked) unitsPieces_own started (by kernel_rfl) Try.func4
    (ChangeSpec.witness6 (enc := enc) (C := Try.checked) false ⟨#[], #[.string ByteArray.empty, .int .i64 0, .int .i64 0, .int .i64 0], []⟩ 8 (by kernel_rfl) (by kernel_rfl) (by kernel_rfl) (by kernel_rfl)) ?_
  intro W base args ds gs before hval0 hW hcnd hsz0 _
  have hval : ∀ (j : Nat) t v, Try.f4.params[j]? = some t → args[j]? = some v → Value.okWide Try.prog W .any base t v := hval0
  have hsz : (DataW.weightsEach Try.prog (Try.f4.params.toList ++ Rows.unitsPiecesSpec.plain.varTypes Try.prog) (ds ++ gs)).all (· ≤ reachBytes) = true := hsz0
  have hW' := hW
  obtain ⟨p, q, hA0, hV, rfl, hfz, hnd⟩ := hW
  have hA : DataW.TrodAll enc Try.prog W 0 (fun _ => true) true Try.f4.params.toList args.toList ds p := hA0
  rw [Try.params4] at hA hval hsz
  obtain ⟨v0, vs0, d0, ds0, p0, q0, hargs, rfl, rfl, h0, r0⟩ := trodAll_cons hA
  obtain ⟨v1, vs1, d1, ds1, p1, q1, rfl, rfl, rfl, h1, r1⟩ := trodAll_cons r0
  obtain ⟨v2, vs2, d2, ds2, p2, q2, rfl, rfl, rfl, h2, r2⟩ := trodAll_cons r1
  obtain ⟨v3, vs3, d3, ds3, p3, q3, rfl, rfl, rfl, h3, r3⟩ := trodAll_cons r2
  obtain ⟨rfl, rfl, rfl⟩ := trodAll_nil r3
  obtain rfl : args = #[v0, v1, v2, v3] := by cases args; simp_all
  obtain ⟨rfl, rfl⟩ := trodVars_none hV
  obtain ⟨a0, rfl, rfl, rfl, w0⟩ := open_string Try.underlying22 (hval 0 22 v0 rfl rfl) h0
  have z0 := sized_string hsz (j := 0) (t := 22) rfl rfl
  simp only [reachBytes] at z0
  obtain ⟨a1, rfl, rfl, rfl, w1⟩ := open_int Try.underlying3 (hval 1 3 v1 rfl rfl) h1
  obtain ⟨a2, rfl, rfl, rfl, w2⟩ := open_int Try.underlying3 (hval 2 3 v2 rfl rfl) h2
  obtain ⟨a3, rfl, rfl, rfl, w3⟩ := open_int Try.underlying3 (hval 3 3 v3 rfl rfl) h3
  clear hA0 hval0 hsz0
  simp only [List.append_nil] at hW'
  refine (pieces_walk a0 a1 a2 a3 (by simpa using z0) w1 w2 w3 W).mono fun e W' ⟨he, hg⟩ => ?_
  subst he
  exact ⟨_, rfl, _, _, _, [], [], [], hW', trodAll_cons_mk (shut_bool Try.underlying4 _) trodAll_mk0, (trodAll_cons_mk (shut_string Try.underlying22 w0) (trodAll_cons_mk (shut_int Try.underlying3 w1) (trodAll_cons_mk (shut_int Try.underlying3 w2) (trodAll_cons_mk (shut_int Try.underlying3 w3) trodAll_mk0)))), rfl, hg.frame _, fun h => by cases h⟩

theorem unitsPieces_proved : Rows.UnitsPiecesSaid :=
  OpenClaim.holds_of_wide 4 Try.f4 rfl rfl rfl rfl rfl rfl rfl ⟨rfl, rfl, rfl, rfl, rfl⟩ rfl rfl rfl rfl rfl (by kernel_rfl) Try.func4 (by kernel_rfl)
    (of_decide_eq_true (by kernel_rfl)) (by unfold Func.isWrapper; first | (rw [if_pos (by decide +kernel)]; kernel_rfl) | (rw [if_neg (by decide +kernel)]; exact ⟨rfl, rfl⟩))
    (fun os started H enc _ => unitsPieces_lifted os started H enc)
#print axioms unitsPieces_proved

end Go.Proofs.Ytalnmophdebnfaa
