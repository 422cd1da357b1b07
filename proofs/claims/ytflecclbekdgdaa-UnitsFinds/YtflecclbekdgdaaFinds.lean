/- UnitsFinds: for every two texts and every place the law returns true: units.Find and units.Last tell where a text stands in another one, as the document says. No condition. -/
import Derived.Test.YtflecclbekdgdaaRows
import Derived.Test.YtflecclbekdgdaaAwake
import Derived.Test.YtflecclbekdgdaaRFind
import Derived.ProofKit
import Derived.OpenShut
import Derived.ShutString
import Derived.SizedLaws
namespace Go.Proofs.Ytflecclbekdgdaa
set_option linter.unusedVariables false
open Go.ChangeShapes Go.WideShapes Go.ChangeAt Go.RowKit
open Go.ChangeMaps (open_string shut_string)

theorem by_front (s : ByteArray) (e k : Nat) (h : k < e) (he : e ≤ s.size) : by' (s.extract 0 e) k = by' s k := by
  unfold by'
  rw [ByteArray.data_extract, Array.toList_extract, List.extract_eq_take_drop, List.getD_eq_getElem?_getD, List.getD_eq_getElem?_getD, List.getElem?_take, if_pos (by omega), List.getElem?_drop, Nat.zero_add]
theorem un_front (s : ByteArray) (b x : Nat) (h : x < b) (hb : b ≤ s.size / 2) : un (s.extract (2 * 0) (2 * b)) x = un s x := by
  unfold un
  rw [by_front s (2 * b) (2 * x) (by omega) (by omega), by_front s (2 * b) (2 * x + 1) (by omega) (by omega)]
theorem lastOf_some {l : List Nat} (hs : l.Pairwise (· < ·)) {p : Nat} (hp : p ∈ l) : ∃ q : Nat, lastOf l = (q : Int) ∧ q ∈ l ∧ ∀ r ∈ l, r ≤ q := by
  rcases List.eq_nil_or_concat l with e | ⟨l', q, e⟩
  · rw [e] at hp; cases hp
  · subst e
    rw [List.concat_eq_append] at hs ⊢
    refine ⟨q, lastOf_snoc _ _, by simp, fun r hr => ?_⟩
    rcases List.mem_append.1 hr with h | h
    · have := (List.pairwise_append.1 hs).2.2 r h q (by simp)
      omega
    · simp at h; omega
theorem lastOf_none {l : List Nat} (h : ∀ p, p ∉ l) : lastOf l = -1 := by
  cases l with
  | nil => rfl
  | cons q r => exact absurd (List.mem_cons_self ..) (h q)

/-- What units.Last answers is the last place. -/
theorem last_is (s t : ByteArray) (f k c : Int) (hk : (if (s.size : Int) / 2 - (t.size : Int) / 2 < f then (s.size : Int) / 2 - (t.size : Int) / 2 else f) = k) (hc : ((s.size : Int) / 2 < f ∧ c = (s.size : Int) / 2) ∨ (f ≤ (s.size : Int) / 2 ∧ c = f)) :
    (k < 0 → LastIs s t c (-1)) ∧ (0 ≤ k → t.size / 2 = 0 → LastIs s t c k) ∧ (∀ a : Nat, k = (a : Int) → 1 ≤ t.size / 2 → a + t.size / 2 ≤ s.size / 2 → LastIs s t c (lastOf (occ (un t) (un (s.extract (2 * 0) (2 * (a + t.size / 2)))) (t.size / 2) 0 (a + t.size / 2)))) := by
  have hkk : k ≤ (s.size : Int) / 2 - (t.size : Int) / 2 ∧ k ≤ f ∧ (k = (s.size : Int) / 2 - (t.size : Int) / 2 ∨ k = f) := by
    split at hk <;> omega
  have hle : ∀ p : Nat, standsB s t p = true → (p : Int) ≤ c → (p : Int) ≤ k := fun p h1 h2 => by
    have q := of_decide_eq_true h1
    omega
  refine ⟨fun h => .inl ⟨rfl, fun p h1 h2 => by have := hle p h1 h2; omega⟩, fun h0 hm => ?_, fun a ha hm han => ?_⟩
  · obtain ⟨a, rfl⟩ := Int.eq_ofNat_of_zero_le h0
    refine .inr ⟨a, rfl, by omega, decide_eq_true ⟨by omega, fun x hx => by omega⟩, fun q h1 h2 => by have := hle q h1 h2; omega⟩
  · have hmem : ∀ p, p ∈ occ (un t) (un (s.extract (2 * 0) (2 * (a + t.size / 2)))) (t.size / 2) 0 (a + t.size / 2) ↔ p ≤ a ∧ At' (un t) (un s) (t.size / 2) p := fun p => by
      rw [mem_occ]
      constructor
      · rintro ⟨_, h1, _, h2⟩
        exact ⟨by omega, fun x hx => by rw [h2 x hx, un_front s _ _ (by omega) han]⟩
      · rintro ⟨h1, h2⟩
        exact ⟨by omega, by omega, by omega, fun x hx => by rw [h2 x hx, un_front s _ _ (by omega) han]⟩
    have hst : ∀ p, p ≤ a → (standsB s t p = true ↔ At' (un t) (un s) (t.size / 2) p) := fun p hp => by
      unfold standsB
      rw [decide_eq_true_iff]
      exact ⟨fun h => h.2, fun h => ⟨by omega, h⟩⟩
    by_cases hex : ∃ p, p ∈ occ (un t) (un (s.extract (2 * 0) (2 * (a + t.size / 2)))) (t.size / 2) 0 (a + t.size / 2)
    · obtain ⟨p, hp⟩ := hex
      obtain ⟨q, q1, q2, q3⟩ := lastOf_some (occ_sorted _) hp
      have h1 := (hmem q).1 q2
      refine .inr ⟨q, q1, by omega, (hst q h1.1).2 h1.2, fun r h2 h3 => ?_⟩
      have h4 := hle r h2 h3
      exact q3 r ((hmem r).2 ⟨by omega, (hst r (by omega)).1 h2⟩)
    · rw [lastOf_none (fun p hp => hex ⟨p, hp⟩)]
      refine .inl ⟨rfl, fun p h1 h2 => ?_⟩
      have h4 := hle p h1 h2
      exact hex ⟨p, (hmem p).2 ⟨by omega, (hst p (by omega)).1 h1⟩⟩

/-- Both answers of Find are one. -/
theorem find_both (s t : ByteArray) (f : Int) (hs : (s.size : Int) ≤ 1048576) (ht : (t.size : Int) ≤ 1048576) (hf : -9223372036854775808 ≤ f ∧ f ≤ 9223372036854775807) :
    ∃ r : Int, (∀ w, Calls Try.prog 5 #[.string s, .string t, .int .i64 f] w fun e w' => e = .returned (.int .i64 r) ∧ Below w.heap.size w w') ∧ (∀ w, Calls Try.prog 6 #[.string s, .string t, .int .i64 f] w fun e w' => e = .returned (.int .i64 r) ∧ Below w.heap.size w w') := by
  obtain ⟨a, ha⟩ : ∃ a : Nat, (if 0 > f then 0 else f) = (a : Int) := ⟨(if 0 > f then 0 else f).toNat, by split <;> omega⟩
  have hal : (a : Int) ≤ 9223372036854775807 := by split at ha <;> omega
  by_cases hm : t.size / 2 = 0
  · refine ⟨(min a (s.size / 2) : Nat), fun w => find_none s t f a w hs ht hm ha, fun w => ?_⟩
    have := rfind_none s t f w hs ht hm
    rw [show max 0 (min f ((s.size / 2 : Nat) : Int)) = ((min a (s.size / 2) : Nat) : Int) by split at ha <;> omega] at this
    exact this
  · exact ⟨_, fun w => find_some s t f a w hs ht (by omega) ha hal, fun w => rfind_some s t f a w hs ht (by omega) (by split at ha <;> omega) hal⟩
/-- Both answers of Last are one. -/
theorem last_both (s t : ByteArray) (f : Int) (hs : (s.size : Int) ≤ 1048576) (ht : (t.size : Int) ≤ 1048576) :
    ∃ r : Int, (∀ w, Calls Try.prog 7 #[.string s, .string t, .int .i64 f] w fun e w' => e = .returned (.int .i64 r) ∧ Below w.heap.size w w') ∧ (∀ w, Calls Try.prog 8 #[.string s, .string t, .int .i64 f] w fun e w' => e = .returned (.int .i64 r) ∧ Below w.heap.size w w') := by
  obtain ⟨k, hk⟩ : ∃ k, (if (s.size : Int) / 2 - (t.size : Int) / 2 < f then (s.size : Int) / 2 - (t.size : Int) / 2 else f) = k := ⟨_, rfl⟩
  obtain ⟨c, hc⟩ : ∃ c, ((s.size : Int) / 2 < f ∧ c = (s.size : Int) / 2) ∨ (f ≤ (s.size : Int) / 2 ∧ c = f) := by
    by_cases q : (s.size : Int) / 2 < f
    · exact ⟨_, .inl ⟨q, rfl⟩⟩
    · exact ⟨_, .inr ⟨by omega, rfl⟩⟩
  obtain ⟨l1, l2, l3⟩ := last_is s t f k c hk hc
  have ref : ∀ r, LastIs s t c r → ∀ w, Calls Try.prog 8 #[.string s, .string t, .int .i64 f] w fun e w' => e = .returned (.int .i64 r) ∧ Below w.heap.size w w' := fun r hr w => by
    refine (rlast_any s t f c w hs ht hc).mono ?_
    rintro e w' ⟨⟨r', rfl, hr'⟩, hb⟩
    rw [hr'.inj hr]
    exact ⟨rfl, hb⟩
  by_cases h0 : k < 0
  · refine ⟨-1, fun w => ?_, ref _ (l1 h0)⟩
    have := last_none s t f k w hs ht hk (.inl h0)
    rw [if_pos h0] at this
    exact this
  · by_cases hm : t.size / 2 = 0
    · refine ⟨k, fun w => ?_, ref _ (l2 (by omega) hm)⟩
      have := last_none s t f k w hs ht hk (.inr hm)
      rw [if_neg h0] at this
      exact this
    · obtain ⟨a, rfl⟩ := Int.eq_ofNat_of_zero_le (show 0 ≤ k by omega)
      have han : a + t.size / 2 ≤ s.size / 2 := by split at hk <;> omega
      exact ⟨_, fun w => last_some s t f a w hs ht (by omega) hk han, ref _ (l3 a rfl (by omega) han)⟩

set_option maxHeartbeats 1000000 in
set_option maxRecDepth 100000 in
theorem finds_big (a b : ByteArray) (f : Int) (ha : a.size ≤ 140737488351232) (hb : b.size ≤ 140737488351232) (w : World) (hbig : (2000 : Int) < (a.size : Int) + (b.size : Int)) :
    Calls Try.prog 3 #[.string a, .string b, .int .i64 f] w fun e w' => e = .returned (.bool true) ∧ Below w.heap.size w w' := by
  go_enter Try.func3, Try.ntmps3
  go_wp2_with (go_at_call 4; refine (awake_any _).mono ?_; rintro e w1 ⟨rfl, b1⟩)
  go_ret
  exact ⟨rfl, b1⟩

set_option maxHeartbeats 1000000 in
set_option maxRecDepth 100000 in
theorem finds_small (a b : ByteArray) (f : Int) (w : World) (hf : -9223372036854775808 ≤ f ∧ f ≤ 9223372036854775807) (hbig : (a.size : Int) + (b.size : Int) ≤ 2000) :
    Calls Try.prog 3 #[.string a, .string b, .int .i64 f] w fun e w' => e = .returned (.bool true) ∧ Below w.heap.size w w' := by
  obtain ⟨r1, p1, p2⟩ := find_both a b f (by omega) (by omega) hf
  obtain ⟨r2, q1, q2⟩ := last_both a b f (by omega) (by omega)
  have H1 := Hid.mk' p1
  have H2 := Hid.mk' p2
  have H3 := Hid.mk' q1
  have H4 := Hid.mk' q2
  clear p1 p2 q1 q2
  go_enter Try.func3, Try.ntmps3
  go_wp2_with fail
  refine (awake_any _).mono ?_; rintro e w1 ⟨rfl, b1⟩
  go_wp2_with fail
  refine (H1.out _).mono ?_; rintro e w2 ⟨rfl, b2⟩
  go_wp2_with fail
  refine (H2.out _).mono ?_; rintro e w3 ⟨rfl, b3⟩
  go_wp2_with fail
  refine (H3.out _).mono ?_; rintro e w4 ⟨rfl, b4⟩
  go_wp2_with fail
  refine (H4.out _).mono ?_; rintro e w5 ⟨rfl, b5⟩
  go_wp2
  go_ret
  have h2 := b1.size
  have h3 := b2.size
  have h4 := b3.size
  have h5 := b4.size
  exact ⟨rfl, (((b1.trans (b2.mono h2)).trans (b3.mono (by omega))).trans (b4.mono (by omega))).trans (b5.mono (by omega))⟩

theorem finds_walk (a b : ByteArray) (f : Int) (ha : a.size ≤ 140737488351232) (hb : b.size ≤ 140737488351232) (hf : (Lit.int .i64 f).wf = true) (w : World) :
    Calls Try.prog 3 #[.string a, .string b, .int .i64 f] w fun e w' => e = .returned (.bool true) ∧ Below w.heap.size w w' := by
  have hf' : -9223372036854775808 ≤ f ∧ f ≤ 9223372036854775807 := by
    have h1 : IntKind.i64.min = -9223372036854775808 := rfl
    have h2 : IntKind.i64.max = 9223372036854775807 := rfl
    simp only [Lit.wf, h1, h2] at hf
    simpa using hf
  by_cases hbig : (a.size : Int) + (b.size : Int) ≤ 2000
  · exact finds_small a b f w hf' hbig
  · exact finds_big a b f ha hb w (by omega)

theorem unitsFinds_own : ownKnob Try.prog.godebug = none := by kernel_rfl

set_option maxRecDepth 100000 in
theorem unitsFinds_lifted (os : Os) (started : os.Started) (H : Type) (enc : TypeId × Value → H) :
    ReturnsInHanded {} Try.checked os 3 .any (Rows.unitsFindsSpec.pre6 enc Try.prog Try.f3 Rows.unitsFindsRow.domain false) (Rows.unitsFindsSpec.post enc Try.prog Try.f3 false true false false) := by
  refine returnsInHanded_of_change_sized (C := Try.checked) unitsFinds_own started (by kernel_rfl) Try.func3
    (ChangeSpec.witness6 (enc := enc) (C := Try.checked) false ⟨#[], #[.string ByteArray.empty, .string ByteArray.empty, .int .i64 0], []⟩ 8 (by kernel_rfl) (by kernel_rfl) (by kernel_rfl) (by kernel_rfl)) ?_
  intro W base args ds gs before hval0 hW hcnd hsz0 _
  have hval : ∀ (j : Nat) t v, Try.f3.params[j]? = some t → args[j]? = some v → Value.okWide Try.prog W .any base t v := hval0
  have hsz : (DataW.weightsEach Try.prog (Try.f3.params.toList ++ Rows.unitsFindsSpec.plain.varTypes Try.prog) (ds ++ gs)).all (· ≤ reachBytes) = true := hsz0
  have hW' := hW
  obtain ⟨p, q, hA0, hV, rfl, hfz, hnd⟩ := hW
  have hA : DataW.TrodAll enc Try.prog W 0 (fun _ => true) true Try.f3.params.toList args.toList ds p := hA0
  rw [Try.params3] at hA hval hsz
  obtain ⟨v0, vs0, d0, ds0, p0, q0, hargs, rfl, rfl, h0, r0⟩ := trodAll_cons hA
  obtain ⟨v1, vs1, d1, ds1, p1, q1, rfl, rfl, rfl, h1, r1⟩ := trodAll_cons r0
  obtain ⟨v2, vs2, d2, ds2, p2, q2, rfl, rfl, rfl, h2, r2⟩ := trodAll_cons r1
  obtain ⟨rfl, rfl, rfl⟩ := trodAll_nil r2
  obtain rfl : args = #[v0, v1, v2] := by cases args; simp_all
  obtain ⟨rfl, rfl⟩ := trodVars_none hV
  obtain ⟨a0, rfl, rfl, rfl, w0⟩ := open_string Try.underlying22 (hval 0 22 v0 rfl rfl) h0
  have z0 := sized_string hsz (j := 0) (t := 22) rfl rfl
  simp only [reachBytes] at z0
  obtain ⟨a1, rfl, rfl, rfl, w1⟩ := open_string Try.underlying22 (hval 1 22 v1 rfl rfl) h1
  have z1 := sized_string hsz (j := 1) (t := 22) rfl rfl
  simp only [reachBytes] at z1
  obtain ⟨a2, rfl, rfl, rfl, w2⟩ := open_int Try.underlying3 (hval 2 3 v2 rfl rfl) h2
  clear hA0 hval0 hsz0
  simp only [List.append_nil] at hW'
  refine (finds_walk a0 a1 a2 (by simpa using z0) (by simpa using z1) w2 W).mono fun e W' ⟨he, hg⟩ => ?_
  subst he
  exact ⟨_, rfl, _, _, _, [], [], [], hW', trodAll_cons_mk (shut_bool Try.underlying4 _) trodAll_mk0, (trodAll_cons_mk (shut_string Try.underlying22 w0) (trodAll_cons_mk (shut_string Try.underlying22 w1) (trodAll_cons_mk (shut_int Try.underlying3 w2) trodAll_mk0))), rfl, hg.frame _, fun h => by cases h⟩

theorem unitsFinds_proved : Rows.UnitsFindsSaid :=
  OpenClaim.holds_of_wide 3 Try.f3 rfl rfl rfl rfl rfl rfl rfl ⟨rfl, rfl, rfl, rfl, rfl⟩ rfl rfl rfl rfl rfl (by kernel_rfl) Try.func3 (by kernel_rfl)
    (of_decide_eq_true (by kernel_rfl)) (by unfold Func.isWrapper; first | (rw [if_pos (by decide +kernel)]; kernel_rfl) | (rw [if_neg (by decide +kernel)]; exact ⟨rfl, rfl⟩))
    (fun os started H enc _ => unitsFinds_lifted os started H enc)
#print axioms unitsFinds_proved

end Go.Proofs.Ytflecclbekdgdaa
