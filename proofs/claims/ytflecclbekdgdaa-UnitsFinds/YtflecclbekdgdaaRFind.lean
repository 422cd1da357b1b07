/- lintelref01.stands, Find, Last: the document's answer. -/
import Derived.Test.YtflecclbekdgdaaLast
import Derived.Test.YtflecclbekdgdaaCut
import Derived.Test.YtflecclbekdgdaaRCmp
namespace Go.Proofs.Ytflecclbekdgdaa
set_option linter.unusedVariables false
open Go.RowKit

theorem drewN_add (w : World) (a b : Nat) : (w.drewN a).drewN b = w.drewN (a + b) := by simp [World.drewN, Nat.add_assoc]
def standsB (s t : ByteArray) (p : Nat) : Bool := decide (p + t.size / 2 ≤ s.size / 2 ∧ At' (un t) (un s) (t.size / 2) p)

set_option maxHeartbeats 1000000 in
set_option maxRecDepth 100000 in
theorem stands_any (s t : ByteArray) (n1 n2 : Nat) (v1 v2 : Value) (p : Nat) (w : World) (hs : (s.size : Int) ≤ 1048576) (ht : (t.size : Int) ≤ 1048576) (hp : p ≤ s.size / 2)
    (o1 : w.ownsRow n1 31 1 v1 (s.size / 2) (uc s (s.size / 2))) (o2 : w.ownsRow n2 31 1 v2 (t.size / 2) (uc t (t.size / 2))) :
    Calls Try.prog 16 #[v1, v2, .int .i64 p] w fun e w' => e = .returned (.bool (standsB s t p)) ∧ ∃ n, w' = w.drewN n := by
  obtain ⟨x1, c1, rfl⟩ := own_slice' o1 |>.imp fun _ h => h.imp fun _ h => h.1
  obtain ⟨x2, c2, rfl⟩ := own_slice' o2 |>.imp fun _ h => h.imp fun _ h => h.1
  by_cases hfar : s.size / 2 < p + t.size / 2
  · have hb : standsB s t p = false := decide_eq_false (by omega)
    have hfar' : ((s.size / 2 : Nat) : Int) < (p : Int) + ((t.size / 2 : Nat) : Int) := by omega
    rw [hb]
    go_enter Try.func16, Try.ntmps16
    go_wp2
    go_ret
    exact ⟨rfl, 0, rfl⟩
  · have hfar' : ¬ ((s.size / 2 : Nat) : Int) < (p : Int) + ((t.size / 2 : Nat) : Int) := by omega
    go_enter Try.func16, Try.ntmps16
    go_wp2
    go_loopw [17] (fun v wr => ∃ (k n : Nat), v = .int .i64 k ∧ k ≤ t.size / 2 ∧ Hid (∀ x, x < k → un t x = un s (p + x)) ∧ wr = w.drewN n) (fun v _ => t.size / 2 - (intOf v).toNat)
    case atStart => exact ⟨0, 0, rfl, Nat.zero_le _, fun x hx => by omega, rfl⟩
    case round =>
      obtain ⟨k, nn, rfl, hk, HE, rfl⟩ := hrel
      by_cases hlt : k < t.size / 2
      · obtain ⟨g1, rfl⟩ := own_some o1 (by omega)
        obtain ⟨g2, rfl⟩ := own_some o2 (by omega)
        have e1 : w.cell? ⟨g1, p + k, none⟩ = some (.int .u16 (un s (p + k))) := own_cell o1 (uc_get s _ (p + k) (by omega))
        have e2 : w.cell? ⟨g2, k, none⟩ = some (.int .u16 (un t k)) := own_cell o2 (uc_get t _ k hlt)
        have i1 : (p : Int) + (k : Int) < ((s.size / 2 : Nat) : Int) := by omega
        have i2 : (k : Int) < ((t.size / 2 : Nat) : Int) := by omega
        have i3 : (0 : Int) ≤ (k : Int) := by omega
        have i4 : (0 : Int) ≤ (p : Int) + (k : Int) := by omega
        have i5 : ((p : Int) + (k : Int)).toNat = p + k := by omega
        by_cases he : un t k = un s (p + k)
        · have hne : ((un s (p + k) : Int) != (un t k : Int)) = false := by rw [he]; simp
          have HE' : Hid (∀ x, x < k + 1 → un t x = un s (p + x)) := fun x hx => by
            by_cases q : x = k
            · subst q; exact he
            · exact HE.out x (by omega)
          clear he
          go_wp2
          go_quiet (fail)
          go_wp2
          go_roundw
          case rel => exact ⟨k + 1, _, by go_num, by omega, HE', rfl⟩
          case measure => simp [intOf]; omega
        · have hne : ((un s (p + k) : Int) != (un t k : Int)) = true := by simp; omega
          have HB : Hid (standsB s t p = false) := decide_eq_false (fun q => he (q.2 k hlt))
          clear he
          go_wp2
          go_quiet (fail)
          go_wp2
          go_ret
          exact ⟨by rw [HB.out]; rfl, _, drewN_add _ _ _⟩
      · obtain rfl : k = t.size / 2 := by omega
        have HB : Hid (standsB s t p = true) := decide_eq_true ⟨by omega, HE.out⟩
        go_wp2
        go_ret
        exact ⟨by rw [HB.out]; rfl, _, rfl⟩

/- ---- Find ---- -/
theorem firstOf_least {l : List Nat} {i : Nat} (hs : l.Pairwise (· < ·)) (h : ∀ p ∈ l, i ≤ p) (hi : i ∈ l) : firstOf l = (i : Int) := by
  cases l with
  | nil => cases hi
  | cons q r =>
    have h1 := h q (List.mem_cons_self ..)
    rcases List.mem_cons.1 hi with e | e
    · rw [e]; rfl
    · have := (List.pairwise_cons.1 hs).1 i e
      omega
theorem firstOf_none {l : List Nat} (h : ∀ p, p ∉ l) : firstOf l = -1 := by
  cases l with
  | nil => rfl
  | cons q r => exact absurd (List.mem_cons_self ..) (h q)

set_option maxHeartbeats 2000000 in
set_option maxRecDepth 100000 in
theorem rfind_some (s t : ByteArray) (f : Int) (a : Nat) (w : World) (hs : (s.size : Int) ≤ 1048576) (ht : (t.size : Int) ≤ 1048576) (hm : 1 ≤ t.size / 2) (hfa : (f < 0 ∧ a = 0) ∨ (0 ≤ f ∧ f = a)) (ha : (a : Int) ≤ 9223372036854775807) :
    Calls Try.prog 6 #[.string s, .string t, .int .i64 f] w fun e w' => e = .returned (.int .i64 (firstOf (occ (un t) (un s) (t.size / 2) a (s.size / 2)))) ∧ Below w.heap.size w w' := by
  have hm' : ((t.size : Int) / 2 == 0) = false := by simp; omega
  have HM : Hid (∀ p, p ∈ occ (un t) (un s) (t.size / 2) a (s.size / 2) ↔ a ≤ p ∧ p + t.size / 2 ≤ s.size / 2 ∧ 1 ≤ p + t.size / 2 ∧ At' (un t) (un s) (t.size / 2) p) := fun p => mem_occ _ _
  have HO : Hid ((occ (un t) (un s) (t.size / 2) a (s.size / 2)).Pairwise (· < ·)) := occ_sorted _
  rcases hfa with ⟨h1, rfl⟩ | ⟨h1, rfl⟩
  all_goals
    go_enter Try.func6, Try.ntmps6
    go_wp2_with fail
    refine (runits_any s _ hs).mono ?_
    rintro e w1 ⟨v1, rfl, o1, b1⟩
    go_wp2_with fail
    refine (runits_any t _ ht).mono ?_
    rintro e w2 ⟨v2, rfl, o2, b2⟩
    have o1' := own_below o1 b2
    have b12 : Below w.heap.size w w2 := b1.trans (b2.mono b1.size)
    have HST := Hid.mk' (fun p n (hp : p ≤ s.size / 2) => stands_any s t _ _ _ _ p (w2.drewN n) hs ht hp (own_drewN o1' n) (own_drewN o2 n))
    obtain ⟨x1, c1, rfl⟩ := own_slice' o1' |>.imp fun _ h => h.imp fun _ h => h.1
    obtain ⟨x2, c2, rfl⟩ := own_slice' o2 |>.imp fun _ h => h.imp fun _ h => h.1
    clear o1 b1 b2 o1' o2
    go_wp2
  · go_loopw [9] (fun v wr => ∃ (i n : Nat), v = .int .i64 i ∧ 0 ≤ i ∧ Hid (∀ p, p ∈ occ (un t) (un s) (t.size / 2) 0 (s.size / 2) → i ≤ p) ∧ wr = w2.drewN n) (fun v _ => s.size / 2 - (intOf v).toNat)
    case atStart => exact ⟨0, 0, rfl, Nat.le_refl _, fun p hp => ((HM.out p).1 hp).1, rfl⟩
    case round =>
      obtain ⟨i, nn, rfl, hai, HE, rfl⟩ := hrel
      by_cases hlt : i < s.size / 2
      · have i1 : (i : Int) < ((s.size / 2 : Nat) : Int) := by omega
        have HS := Hid.mk' (HST.out i nn (by omega))
        by_cases hst : standsB s t i = true
        · have HF : Hid (firstOf (occ (un t) (un s) (t.size / 2) 0 (s.size / 2)) = (i : Int)) := by
            have q := of_decide_eq_true hst
            exact firstOf_least HO.out HE.out ((HM.out i).2 ⟨hai, q.1, by omega, q.2⟩)
          rw [hst] at HS
          clear hst
          go_wp2_with (go_at_call 16; refine HS.out.mono ?_; rintro e w3 ⟨rfl, n3, hw3⟩; rw [hw3]; clear hw3 w3)
          go_ret
          exact ⟨by rw [HF.out]; rfl, below_drewN b12 _⟩
        · have hst' : standsB s t i = false := by simpa using hst
          have HN : Hid (∀ p, p ∈ occ (un t) (un s) (t.size / 2) 0 (s.size / 2) → i + 1 ≤ p) := fun p hp => by
            have h2 := HE.out p hp
            have h3 := (HM.out p).1 hp
            by_cases e : p = i
            · subst e
              exact absurd (decide_eq_true ⟨h3.2.1, h3.2.2.2⟩) hst
            · omega
          rw [hst'] at HS
          clear hst hst'
          go_wp2_with (go_at_call 16; refine HS.out.mono ?_; rintro e w3 ⟨rfl, n3, hw3⟩; rw [hw3]; clear hw3 w3)
          go_roundw
          case rel => exact ⟨i + 1, _, by go_num, by omega, HN, rfl⟩
          case measure => simp [intOf]; omega
      · have i1 : ¬ (i : Int) < ((s.size / 2 : Nat) : Int) := by omega
        have HF : Hid (firstOf (occ (un t) (un s) (t.size / 2) 0 (s.size / 2)) = -1) := firstOf_none fun p hp => by
          have h2 := HE.out p hp
          have h3 := (HM.out p).1 hp
          omega
        go_wp2
        go_ret
        exact ⟨by rw [HF.out]; rfl, below_drewN b12 _⟩
  · go_loopw [9] (fun v wr => ∃ (i n : Nat), v = .int .i64 i ∧ a ≤ i ∧ Hid (∀ p, p ∈ occ (un t) (un s) (t.size / 2) a (s.size / 2) → i ≤ p) ∧ wr = w2.drewN n) (fun v _ => s.size / 2 - (intOf v).toNat)
    case atStart => exact ⟨a, 0, rfl, Nat.le_refl _, fun p hp => ((HM.out p).1 hp).1, rfl⟩
    case round =>
      obtain ⟨i, nn, rfl, hai, HE, rfl⟩ := hrel
      by_cases hlt : i < s.size / 2
      · have i1 : (i : Int) < ((s.size / 2 : Nat) : Int) := by omega
        have HS := Hid.mk' (HST.out i nn (by omega))
        by_cases hst : standsB s t i = true
        · have HF : Hid (firstOf (occ (un t) (un s) (t.size / 2) a (s.size / 2)) = (i : Int)) := by
            have q := of_decide_eq_true hst
            exact firstOf_least HO.out HE.out ((HM.out i).2 ⟨hai, q.1, by omega, q.2⟩)
          rw [hst] at HS
          clear hst
          go_wp2_with (go_at_call 16; refine HS.out.mono ?_; rintro e w3 ⟨rfl, n3, hw3⟩; rw [hw3]; clear hw3 w3)
          go_ret
          exact ⟨by rw [HF.out]; rfl, below_drewN b12 _⟩
        · have hst' : standsB s t i = false := by simpa using hst
          have HN : Hid (∀ p, p ∈ occ (un t) (un s) (t.size / 2) a (s.size / 2) → i + 1 ≤ p) := fun p hp => by
            have h2 := HE.out p hp
            have h3 := (HM.out p).1 hp
            by_cases e : p = i
            · subst e
              exact absurd (decide_eq_true ⟨h3.2.1, h3.2.2.2⟩) hst
            · omega
          rw [hst'] at HS
          clear hst hst'
          go_wp2_with (go_at_call 16; refine HS.out.mono ?_; rintro e w3 ⟨rfl, n3, hw3⟩; rw [hw3]; clear hw3 w3)
          go_roundw
          case rel => exact ⟨i + 1, _, by go_num, by omega, HN, rfl⟩
          case measure => simp [intOf]; omega
      · have i1 : ¬ (i : Int) < ((s.size / 2 : Nat) : Int) := by omega
        have HF : Hid (firstOf (occ (un t) (un s) (t.size / 2) a (s.size / 2)) = -1) := firstOf_none fun p hp => by
          have h2 := HE.out p hp
          have h3 := (HM.out p).1 hp
          omega
        go_wp2
        go_ret
        exact ⟨by rw [HF.out]; rfl, below_drewN b12 _⟩

set_option maxHeartbeats 1000000 in
set_option maxRecDepth 100000 in
theorem rfind_none (s t : ByteArray) (f : Int) (w : World) (hs : (s.size : Int) ≤ 1048576) (ht : (t.size : Int) ≤ 1048576) (hm : t.size / 2 = 0) :
    Calls Try.prog 6 #[.string s, .string t, .int .i64 f] w fun e w' => e = .returned (.int .i64 (max 0 (min f ((s.size / 2 : Nat) : Int)))) ∧ Below w.heap.size w w' := by
  have hm' : ((t.size : Int) / 2 == 0) = true := by simp; omega
  have HC := Hid.mk' (fun W => clamp_any f (s.size / 2) W)
  rw [show ((s.size / 2 : Nat) : Int) = (s.size : Int) / 2 by omega] at HC ⊢
  go_enter Try.func6, Try.ntmps6
  go_wp2_with fail
  refine (runits_any s _ hs).mono ?_
  rintro e w1 ⟨v1, rfl, o1, b1⟩
  go_wp2_with fail
  refine (runits_any t _ ht).mono ?_
  rintro e w2 ⟨v2, rfl, o2, b2⟩
  have b12 : Below w.heap.size w w2 := b1.trans (b2.mono b1.size)
  obtain ⟨x1, c1, rfl⟩ := own_slice' o1 |>.imp fun _ h => h.imp fun _ h => h.1
  obtain ⟨x2, c2, rfl⟩ := own_slice' o2 |>.imp fun _ h => h.imp fun _ h => h.1
  clear o1 b1 b2 o2
  go_wp2_with (go_at_call 15; refine (HC.out _).mono ?_; rintro e w3 ⟨rfl, hw3⟩; rw [hw3]; clear hw3 w3)
  go_ret
  exact ⟨rfl, b12⟩

/- ---- Last ---- -/
/-- The last place that is not above c. -/
def LastIs (s t : ByteArray) (c r : Int) : Prop := (r = -1 ∧ ∀ p : Nat, standsB s t p = true → ¬ (p : Int) ≤ c) ∨ (∃ p : Nat, r = (p : Int) ∧ (p : Int) ≤ c ∧ standsB s t p = true ∧ ∀ q : Nat, standsB s t q = true → (q : Int) ≤ c → q ≤ p)
theorem LastIs.inj {s t : ByteArray} {c r q : Int} (h : LastIs s t c r) (k : LastIs s t c q) : r = q := by
  rcases h with ⟨h1, h2⟩ | ⟨p, h1, h2, h3, h4⟩
  · rcases k with ⟨k1, k2⟩ | ⟨p', k1, k2, k3, k4⟩
    · rw [h1, k1]
    · exact absurd k2 (h2 p' k3)
  · rcases k with ⟨k1, k2⟩ | ⟨p', k1, k2, k3, k4⟩
    · exact absurd h2 (k2 p h3)
    · have := h4 p' k3 k2
      have := k4 p h3 h2
      omega

set_option maxHeartbeats 2000000 in
set_option maxRecDepth 100000 in
theorem rlast_any (s t : ByteArray) (f c : Int) (w : World) (hs : (s.size : Int) ≤ 1048576) (ht : (t.size : Int) ≤ 1048576) (hfc : ((s.size : Int) / 2 < f ∧ c = (s.size : Int) / 2) ∨ (f ≤ (s.size : Int) / 2 ∧ c = f)) :
    Calls Try.prog 8 #[.string s, .string t, .int .i64 f] w fun e w' => (∃ r, e = .returned (.int .i64 r) ∧ LastIs s t c r) ∧ Below w.heap.size w w' := by
  have hcn : c ≤ (s.size : Int) / 2 := by omega
  rcases hfc with ⟨h1, hc⟩ | ⟨h1, hc⟩
  all_goals
    go_enter Try.func8, Try.ntmps8
    go_wp2_with fail
    refine (runits_any s _ hs).mono ?_
    rintro e w1 ⟨v1, rfl, o1, b1⟩
    go_wp2_with fail
    refine (runits_any t _ ht).mono ?_
    rintro e w2 ⟨v2, rfl, o2, b2⟩
    have o1' := own_below o1 b2
    have b12 : Below w.heap.size w w2 := b1.trans (b2.mono b1.size)
    have HST := Hid.mk' (fun p n (hp : p ≤ s.size / 2) => stands_any s t _ _ _ _ p (w2.drewN n) hs ht hp (own_drewN o1' n) (own_drewN o2 n))
    obtain ⟨x1, c1, rfl⟩ := own_slice' o1' |>.imp fun _ h => h.imp fun _ h => h.1
    obtain ⟨x2, c2, rfl⟩ := own_slice' o2 |>.imp fun _ h => h.imp fun _ h => h.1
    clear o1 b1 b2 o1' o2
    go_wp2
  · go_loopw [9] (fun v wr => ∃ (z : Int) (n : Nat), v = .int .i64 z ∧ z ≤ c ∧ (-1 ≤ z ∨ z = c) ∧ Hid (∀ p : Nat, standsB s t p = true → (p : Int) ≤ c → (p : Int) ≤ z) ∧ wr = w2.drewN n) (fun v _ => (intOf v + 1).toNat)
    case atStart => exact ⟨c, 0, by rw [hc], Int.le_refl _, .inr rfl, fun p _ hp => hp, rfl⟩
    case round =>
      obtain ⟨z, nn, rfl, hzc, hz1, HE, rfl⟩ := hrel
      clear hc h1
      by_cases hz : 0 ≤ z
      · obtain ⟨i, rfl⟩ := Int.eq_ofNat_of_zero_le hz
        have HS := Hid.mk' (HST.out i nn (by omega))
        by_cases hst : standsB s t i = true
        · have HF : Hid (LastIs s t c (i : Int)) := .inr ⟨i, rfl, hzc, hst, fun q h2 h3 => by have := HE.out q h2 h3; omega⟩
          rw [hst] at HS
          clear hst
          go_wp2_with (go_at_call 16; refine HS.out.mono ?_; rintro e w3 ⟨rfl, n3, hw3⟩; rw [hw3]; clear hw3 w3)
          go_ret
          exact ⟨⟨_, rfl, HF.out⟩, below_drewN b12 _⟩
        · have hst' : standsB s t i = false := by simpa using hst
          have HN : Hid (∀ p : Nat, standsB s t p = true → (p : Int) ≤ c → (p : Int) ≤ (i : Int) - 1) := fun p h2 h3 => by
            have h4 := HE.out p h2 h3
            by_cases e : p = i
            · subst e; exact absurd h2 hst
            · omega
          rw [hst'] at HS
          clear hst hst'
          go_wp2_with (go_at_call 16; refine HS.out.mono ?_; rintro e w3 ⟨rfl, n3, hw3⟩; rw [hw3]; clear hw3 w3)
          go_roundw
          case rel => exact ⟨(i : Int) - 1, _, by go_num, by omega, .inl (by omega), HN, rfl⟩
          case measure => simp [intOf]
      · have HF : Hid (LastIs s t c (-1)) := .inl ⟨rfl, fun p h2 h3 => by have := HE.out p h2 h3; omega⟩
        go_wp2
        go_ret
        exact ⟨⟨_, rfl, HF.out⟩, below_drewN b12 _⟩
  · go_loopw [9] (fun v wr => ∃ (z : Int) (n : Nat), v = .int .i64 z ∧ z ≤ c ∧ (-1 ≤ z ∨ z = c) ∧ Hid (∀ p : Nat, standsB s t p = true → (p : Int) ≤ c → (p : Int) ≤ z) ∧ wr = w2.drewN n) (fun v _ => (intOf v + 1).toNat)
    case atStart => exact ⟨c, 0, by rw [hc], Int.le_refl _, .inr rfl, fun p _ hp => hp, rfl⟩
    case round =>
      obtain ⟨z, nn, rfl, hzc, hz1, HE, rfl⟩ := hrel
      clear hc h1
      by_cases hz : 0 ≤ z
      · obtain ⟨i, rfl⟩ := Int.eq_ofNat_of_zero_le hz
        have HS := Hid.mk' (HST.out i nn (by omega))
        by_cases hst : standsB s t i = true
        · have HF : Hid (LastIs s t c (i : Int)) := .inr ⟨i, rfl, hzc, hst, fun q h2 h3 => by have := HE.out q h2 h3; omega⟩
          rw [hst] at HS
          clear hst
          go_wp2_with (go_at_call 16; refine HS.out.mono ?_; rintro e w3 ⟨rfl, n3, hw3⟩; rw [hw3]; clear hw3 w3)
          go_ret
          exact ⟨⟨_, rfl, HF.out⟩, below_drewN b12 _⟩
        · have hst' : standsB s t i = false := by simpa using hst
          have HN : Hid (∀ p : Nat, standsB s t p = true → (p : Int) ≤ c → (p : Int) ≤ (i : Int) - 1) := fun p h2 h3 => by
            have h4 := HE.out p h2 h3
            by_cases e : p = i
            · subst e; exact absurd h2 hst
            · omega
          rw [hst'] at HS
          clear hst hst'
          go_wp2_with (go_at_call 16; refine HS.out.mono ?_; rintro e w3 ⟨rfl, n3, hw3⟩; rw [hw3]; clear hw3 w3)
          go_roundw
          case rel => exact ⟨(i : Int) - 1, _, by go_num, by omega, .inl (by omega), HN, rfl⟩
          case measure => simp [intOf]
      · have HF : Hid (LastIs s t c (-1)) := .inl ⟨rfl, fun p h2 h3 => by have := HE.out p h2 h3; omega⟩
        go_wp2
        go_ret
        exact ⟨⟨_, rfl, HF.out⟩, below_drewN b12 _⟩
end Go.Proofs.Ytflecclbekdgdaa
