/- UnitsBack: for every text the law returns true: UTF-8 that units.Text makes of a text without surrogates that stand alone is read by units.Of as that text again. No condition. -/
import Derived.Test.YtalnmophdebnfabRows
import Derived.Test.YtalnmophdebnfabAwake
import Derived.Test.YtalnmophdebnfabBack0
import Derived.Test.YtalnmophdebnfabRPts
import Derived.ProofKit
import Derived.OpenShut
import Derived.ShutString
import Derived.SizedLaws
namespace Go.Proofs.Ytalnmophdebnfab
set_option linter.unusedVariables false
open Go.ChangeShapes Go.WideShapes Go.ChangeAt Go.RowKit
open Go.ChangeMaps (open_string shut_string)

theorem rc_get' (l : List (Nat × Nat)) (k : Nat) (h : k < l.length) : (rc l)[k]? = some (.int .i32 (l[k].2 : Nat)) := by simp [rc, h]
theorem ebs_even (s : ByteArray) : (⟨(ebs s).toArray⟩ : ByteArray) = evenS s := by
  apply ByteArray.ext
  apply Array.ext'
  rw [evenS_bytes]

set_option maxHeartbeats 1000000 in
set_option maxRecDepth 100000 in
theorem back_big (s : ByteArray) (hs : s.size ≤ 140737488351232) (w : World) (hbig : (4000 : Int) < (s.size : Int)) :
    Calls Try.prog 3 #[.string s] w fun e w' => e = .returned (.bool true) ∧ Below w.heap.size w w' := by
  go_enter Try.func3, Try.ntmps3
  go_wp2_with (go_at_call 4; refine (awake_any _).mono ?_; rintro e w1 ⟨rfl, b1⟩)
  go_ret
  exact ⟨rfl, b1⟩

set_option maxHeartbeats 2000000 in
set_option maxRecDepth 100000 in
theorem back_small (s : ByteArray) (w : World) (hbig : (s.size : Int) ≤ 4000) :
    Calls Try.prog 3 #[.string s] w fun e w' => e = .returned (.bool true) ∧ Below w.heap.size w w' := by
  have hs : (s.size : Int) ≤ 1048576 := by omega
  have hpl := pts_length s
  have hps : ((⟨(textC (pts s)).toArray⟩ : ByteArray).size : Int) ≤ 1048576 := by
    have h1 : (⟨(textC (pts s)).toArray⟩ : ByteArray).size = (textC (pts s)).length := by simp [ByteArray.size]
    have h2 := textC_length (pts s)
    omega
  have HO := Hid.mk' (fun W => of_any ⟨(textC (pts s)).toArray⟩ W hps)
  clear hps
  go_enter Try.func3, Try.ntmps3
  go_wp2_with fail
  refine (awake_any _).mono ?_
  rintro e w1 ⟨rfl, b1⟩
  go_wp2_with fail
  refine (rpoints_any s _ hs).mono ?_
  rintro e w2 ⟨va, vr, rfl, oa, or, b2⟩
  obtain ⟨x, c, rfl⟩ := own_slice' or |>.imp fun _ h => h.imp fun _ h => h.1
  have b12 : Below w.heap.size w w2 := b1.trans (b2.mono b1.size)
  clear oa b1 b2
  go_wp2
  go_loop [22] (fun v => ∃ k : Nat, v = .int .i64 k ∧ k ≤ (pts s).length ∧ Hid (∀ j (h : j < (pts s).length), j < k → ¬ (55296 ≤ (pts s)[j].2 ∧ (pts s)[j].2 ≤ 57343))) (fun v => (pts s).length - (intOf v).toNat)
  case atStart => exact ⟨0, rfl, Nat.zero_le _, fun j h h0 => by omega⟩
  case round =>
    obtain ⟨k, rfl, hk, HK⟩ := hrel
    by_cases hlt : k < (pts s).length
    · obtain ⟨g, rfl⟩ := own_some or (by omega)
      have i1 : (k : Int) < ((pts s).length : Int) := by omega
      have hcl : w2.cell? ⟨g, k, none⟩ = some (.int .i32 ((pts s)[k].2 : Nat)) := own_cell or (rc_get' (pts s) k hlt)
      obtain ⟨z, hz⟩ : ∃ z : Int, ((pts s)[k].2 : Int) = z := ⟨_, rfl⟩
      have HZ := Hid.mk' hz
      rw [hz] at hcl
      clear hz
      by_cases c1 : 55296 ≤ z
      · by_cases c2 : z < 57344
        · go_wp2
          go_ret
          exact ⟨rfl, b12⟩
        · have HN : Hid (∀ j (h : j < (pts s).length), j < k + 1 → ¬ (55296 ≤ (pts s)[j].2 ∧ (pts s)[j].2 ≤ 57343)) := by
            intro j h hj
            by_cases e : j = k
            · subst e; have := HZ.out; omega
            · exact HK.out j h (by omega)
          go_wp2
          go_round
          case rel => exact ⟨k + 1, by go_num, by omega, HN⟩
          case measure => simp [intOf]; omega
      · have HN : Hid (∀ j (h : j < (pts s).length), j < k + 1 → ¬ (55296 ≤ (pts s)[j].2 ∧ (pts s)[j].2 ≤ 57343)) := by
          intro j h hj
          by_cases e : j = k
          · subst e; have := HZ.out; omega
          · exact HK.out j h (by omega)
        go_wp2
        go_round
        case rel => exact ⟨k + 1, by go_num, by omega, HN⟩
        case measure => simp [intOf]; omega
    · have hall : ∀ y ∈ pts s, ¬ (55296 ≤ y.2 ∧ y.2 ≤ 57343) := by
        intro y hy
        obtain ⟨j, hj, rfl⟩ := List.mem_iff_getElem.1 hy
        exact HK.out j hj (by omega)
      rw [of_text s hall] at HO
      dsimp only [ofEnd] at HO
      rw [ebs_even s] at HO
      clear hall HK
      go_wp2_with fail
      refine (text_core s _ hs).mono ?_
      rintro e w3 ⟨rfl, b3⟩
      go_wp2_with fail
      refine (HO.out _).mono ?_
      rintro e w4 ⟨rfl, b4⟩
      have b14 : Below w.heap.size w w4 := (b12.trans (b3.mono b12.size)).trans (b4.mono (Nat.le_trans b12.size b3.size))
      clear b3 b4
      go_wp2_with fail
      refine (reven_any s _ hs).mono ?_
      rintro e w5 ⟨rfl, hw5⟩
      rw [hw5]; clear hw5 w5
      go_wp2
      go_ret
      exact ⟨rfl, b14⟩

theorem back_walk (s : ByteArray) (hs : s.size ≤ 140737488351232) (w : World) :
    Calls Try.prog 3 #[.string s] w fun e w' => e = .returned (.bool true) ∧ Below w.heap.size w w' := by
  by_cases hbig : (s.size : Int) ≤ 4000
  · exact back_small s w hbig
  · exact back_big s hs w (by omega)

theorem unitsBack_own : ownKnob Try.prog.godebug = none := by kernel_rfl

set_option maxRecDepth 100000 in
theorem unitsBack_lifted (os : Os) (started : os.Started) (H : Type) (enc : TypeId × Value → H) :
    ReturnsInHanded {} Try.checked os 3 .any (Rows.unitsBackSpec.pre6 enc Try.prog Try.f3 Rows.unitsBackRow.domain false) (Rows.unitsBackSpec.post enc Try.prog Try.f3 false true false false) := by
  refine returnsInHanded_of_change_sized (C := Try.checked) unitsBack_own started (by kernel_rfl) Try.func3
    (ChangeSpec.witness6 (enc := enc) (C := Try.checked) false ⟨#[], #[.string ByteArray.empty], []⟩ 8 (by kernel_rfl) (by kernel_rfl) (by kernel_rfl) (by kernel_rfl)) ?_
  intro W base args ds gs before hval0 hW hcnd hsz0 _
  have hval : ∀ (j : Nat) t v, Try.f3.params[j]? = some t → args[j]? = some v → Value.okWide Try.prog W .any base t v := hval0
  have hsz : (DataW.weightsEach Try.prog (Try.f3.params.toList ++ Rows.unitsBackSpec.plain.varTypes Try.prog) (ds ++ gs)).all (· ≤ reachBytes) = true := hsz0
  have hW' := hW
  obtain ⟨p, q, hA0, hV, rfl, hfz, hnd⟩ := hW
  have hA : DataW.TrodAll enc Try.prog W 0 (fun _ => true) true Try.f3.params.toList args.toList ds p := hA0
  rw [Try.params3] at hA hval hsz
  obtain ⟨v0, vs0, d0, ds0, p0, q0, hargs, rfl, rfl, h0, r0⟩ := trodAll_cons hA
  obtain ⟨rfl, rfl, rfl⟩ := trodAll_nil r0
  obtain rfl : args = #[v0] := by cases args; simp_all
  obtain ⟨rfl, rfl⟩ := trodVars_none hV
  obtain ⟨a0, rfl, rfl, rfl, w0⟩ := open_string Try.underlying22 (hval 0 22 v0 rfl rfl) h0
  have z0 := sized_string hsz (j := 0) (t := 22) rfl rfl
  simp only [reachBytes] at z0
  clear hA0 hval0 hsz0
  simp only [List.append_nil] at hW'
  refine (back_walk a0 (by simpa using z0) W).mono fun e W' ⟨he, hg⟩ => ?_
  subst he
  exact ⟨_, rfl, _, _, _, [], [], [], hW', trodAll_cons_mk (shut_bool Try.underlying4 _) trodAll_mk0, (trodAll_cons_mk (shut_string Try.underlying22 w0) trodAll_mk0), rfl, hg.frame _, fun h => by cases h⟩

theorem unitsBack_proved : Rows.UnitsBackSaid :=
  OpenClaim.holds_of_wide 3 Try.f3 rfl rfl rfl rfl rfl rfl rfl ⟨rfl, rfl, rfl, rfl, rfl⟩ rfl rfl rfl rfl rfl (by kernel_rfl) Try.func3 (by kernel_rfl)
    (of_decide_eq_true (by kernel_rfl)) (by unfold Func.isWrapper; first | (rw [if_pos (by decide +kernel)]; kernel_rfl) | (rw [if_neg (by decide +kernel)]; exact ⟨rfl, rfl⟩))
    (fun os started H enc _ => unitsBack_lifted os started H enc)
#print axioms unitsBack_proved

end Go.Proofs.Ytalnmophdebnfab
