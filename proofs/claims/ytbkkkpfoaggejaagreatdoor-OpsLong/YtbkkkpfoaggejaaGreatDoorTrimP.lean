/- digits.Blank, blankAt, blanksAhead, Trim. -/
import Derived.Test.YtbkkkpfoaggejaaGreatDoorTrim
import Derived.Test.YtbkkkpfoaggejaaGreatDoorCut
import Derived.Handy
namespace Go.Proofs.YtbkkkpfoaggejaaGreatDoor
set_option linter.unusedVariables false
open Go.RowKit

set_option maxHeartbeats 2000000 in
set_option maxRecDepth 100000 in
theorem blank_any (u : Nat) (w : World) (hu : u < 65536) :
    Calls Tryz.prog 170 #[.int .u16 u] w fun e w' => e = .returned (.bool (blankB u)) ∧ w' = w := by
  by_cases hm : u ∈ blanks
  · have hm2 := hm
    unfold blanks at hm2
    simp only [List.mem_cons, List.mem_nil_iff, or_false] at hm2
    rcases hm2 with rfl | rfl | rfl | rfl | rfl | rfl | rfl | rfl | rfl
    all_goals
      have HB : Hid (blankB _ = true) := decide_eq_true (.inr (.inr hm))
      clear hm
      go_enter Tryz.func170, Tryz.ntmps170
      go_wp2
      go_ret
      exact ⟨by rw [HB.out]; rfl, rfl⟩
  · have HB : Hid (blankB u = decide ((9 ≤ u ∧ u ≤ 13) ∨ (8192 ≤ u ∧ u ≤ 8202))) := by
      show _ = _
      unfold blankB
      rw [decide_eq_decide]
      simp [hm]
    have q0 : ((u : Int) == 32) = false := by rw [beq_eq_false_iff_ne]; exact fun e => hm (by unfold blanks; simp; omega)
    have q1 : ((u : Int) == 160) = false := by rw [beq_eq_false_iff_ne]; exact fun e => hm (by unfold blanks; simp; omega)
    have q2 : ((u : Int) == 5760) = false := by rw [beq_eq_false_iff_ne]; exact fun e => hm (by unfold blanks; simp; omega)
    have q3 : ((u : Int) == 8232) = false := by rw [beq_eq_false_iff_ne]; exact fun e => hm (by unfold blanks; simp; omega)
    have q4 : ((u : Int) == 8233) = false := by rw [beq_eq_false_iff_ne]; exact fun e => hm (by unfold blanks; simp; omega)
    have q5 : ((u : Int) == 8239) = false := by rw [beq_eq_false_iff_ne]; exact fun e => hm (by unfold blanks; simp; omega)
    have q6 : ((u : Int) == 8287) = false := by rw [beq_eq_false_iff_ne]; exact fun e => hm (by unfold blanks; simp; omega)
    have q7 : ((u : Int) == 12288) = false := by rw [beq_eq_false_iff_ne]; exact fun e => hm (by unfold blanks; simp; omega)
    have q8 : ((u : Int) == 65279) = false := by rw [beq_eq_false_iff_ne]; exact fun e => hm (by unfold blanks; simp; omega)
    clear hm
    by_cases a1 : 9 ≤ u ∧ u ≤ 13
    · rw [decide_eq_true (.inl a1)] at HB
      obtain ⟨a2, a3⟩ := a1
      go_enter Tryz.func170, Tryz.ntmps170
      go_wp2
      go_ret
      exact ⟨by rw [HB.out]; first | rfl | exact ret_bool (by simp; omega), rfl⟩
    · by_cases a2 : 8192 ≤ u ∧ u ≤ 8202
      · rw [decide_eq_true (.inr a2)] at HB
        obtain ⟨a3, a4⟩ := a2
        clear a1
        go_enter Tryz.func170, Tryz.ntmps170
        go_wp2
        go_ret
        exact ⟨by rw [HB.out]; first | rfl | exact ret_bool (by simp; omega), rfl⟩
      · rw [decide_eq_false (by omega)] at HB
        have c : u < 9 ∨ (13 < u ∧ u < 8192) ∨ 8202 < u := by omega
        clear a1 a2
        rcases c with c | ⟨c, c2⟩ | c
        all_goals
          go_enter Tryz.func170, Tryz.ntmps170
          go_wp2
          go_ret
          exact ⟨by rw [HB.out]; first | rfl | exact ret_bool (by simp; omega), rfl⟩
/-- Whether a blank stands at a place. -/
def blankI (s : ByteArray) (i : Int) : Bool := decide (0 ≤ i ∧ i < (s.size / 2 : Nat)) && blankB (un s i.toNat)
theorem un_lt' (s : ByteArray) (i : Nat) : un s i < 65536 := by
  unfold un by'
  have h1 := (s.data.toList.getD (2 * i) 0).toNat_lt
  have h2 := (s.data.toList.getD (2 * i + 1) 0).toNat_lt
  omega
set_option maxHeartbeats 1000000 in
set_option maxRecDepth 100000 in
theorem blankAt_any (s : ByteArray) (i : Int) (w : World) (hs : (s.size : Int) ≤ 1048576) :
    Calls Tryz.prog 151 #[.string s, .int .i64 i] w fun e w' => e = .returned (.bool (blankI s i)) ∧ ∃ n, w' = w.drewN n := by
  by_cases h : 0 ≤ i ∧ i < (s.size / 2 : Nat)
  · obtain ⟨k, rfl⟩ : ∃ k : Nat, i = k := ⟨i.toNat, by omega⟩
    have HE : Hid (blankI s k = blankB (un s k)) := by
      show _ = _
      unfold blankI
      rw [decide_eq_true h]
      simp
    have HA := Hid.mk' (fun W => at_in s k W (by unfold maxLen; omega) (by omega))
    have HB := Hid.mk' (fun W => blank_any (un s k) W (un_lt' s k))
    go_enter Tryz.func151, Tryz.ntmps151
    go_wp2_with fail
    refine (HA.out _).mono ?_
    rintro e w1 ⟨rfl, n1, hw1⟩
    rw [hw1]; clear hw1 w1
    go_wp2_with (go_at_call 170; refine (HB.out _).mono ?_; rintro e w1 ⟨rfl, hw1⟩; rw [hw1]; clear hw1 w1)
    go_ret
    exact ⟨by rw [HE.out]; rfl, _, rfl⟩
  · have HE : Hid (blankI s i = false) := by
      show _ = _
      unfold blankI
      rw [decide_eq_false h]
      rfl
    have HA := Hid.mk' (fun W => at_out s i W (by unfold maxLen; omega) (by omega))
    go_enter Tryz.func151, Tryz.ntmps151
    go_wp2_with fail
    refine (HA.out _).mono ?_
    rintro e w1 ⟨rfl, n1, hw1⟩
    rw [hw1]; clear hw1 w1
    go_wp2
    go_ret
    exact ⟨by rw [HE.out]; rfl, _, rfl⟩
theorem uns_at (s : ByteArray) (j : Nat) (h : j < (uns s).length) : (uns s)[j] = un s j := by simp [uns]
set_option maxHeartbeats 1000000 in
set_option maxRecDepth 100000 in
theorem blanksAhead_any (s : ByteArray) (w : World) (hs : (s.size : Int) ≤ 1048576) :
    Calls Tryz.prog 152 #[.string s] w fun e w' => e = .returned (.int .i64 (frontN (uns s) : Nat)) ∧ ∃ n, w' = w.drewN n := by
  have HC := Hid.mk' (fun i W => blankAt_any s i W hs)
  have hl := uns_length s
  go_enter Tryz.func152, Tryz.ntmps152
  go_wp2
  go_loopw [3] (fun v wr => ∃ k q : Nat, v = .int .i64 k ∧ k ≤ s.size / 2 ∧ Hid (∀ j, j < k → blankB (un s j) = true) ∧ wr = w.drewN q) (fun v _ => s.size / 2 - (intOf v).toNat)
  case atStart => exact ⟨0, 0, rfl, Nat.zero_le _, fun j hj => by omega, rfl⟩
  case round =>
    obtain ⟨k, q, rfl, hk, HE, rfl⟩ := hrel
    have HB := Hid.mk' (HC.out (k : Int) (w.drewN q))
    cases hb : blankI s k with
    | true =>
      rw [hb] at HB
      have hk2 : k < s.size / 2 := by
        unfold blankI at hb
        rw [Bool.and_eq_true, decide_eq_true_iff] at hb
        omega
      have HN : Hid (∀ j, j < k + 1 → blankB (un s j) = true) := fun j hj => by
        by_cases e : j = k
        · subst e
          unfold blankI at hb
          rw [Bool.and_eq_true] at hb
          exact hb.2
        · exact HE.out j (by omega)
      clear hb
      go_wp2_with (go_at_call 151; refine HB.out.mono ?_; rintro e w3 ⟨rfl, n3, hw3⟩; rw [hw3]; clear hw3 w3)
      go_roundw
      case rel => exact ⟨k + 1, _, by go_num, by omega, HN, rfl⟩
      case measure => simp [intOf]; omega
    | false =>
      rw [hb] at HB
      have HF : Hid (frontN (uns s) = k) := by
        refine takeWhile_len _ k (by rw [hl]; exact hk) (fun j hj hjk => ?_) (fun hk2 => ?_)
        · rw [uns_at]; exact HE.out j hjk
        · rw [uns_at]
          unfold blankI at hb
          rw [decide_eq_true (show 0 ≤ (k : Int) ∧ (k : Int) < (s.size / 2 : Nat) by rw [hl] at hk2; omega)] at hb
          simpa using hb
      clear hb
      go_wp2_with (go_at_call 151; refine HB.out.mono ?_; rintro e w3 ⟨rfl, n3, hw3⟩; rw [hw3]; clear hw3 w3)
      go_ret
      exact ⟨by rw [HF.out]; rfl, _, rfl⟩
theorem cut_trim (s : ByteArray) (T : Nat) (hT : T ≤ s.size / 2) (h1 : ∀ j, T ≤ j → j < s.size / 2 → blankB (un s j) = true) (h2 : T = 0 ∨ 0 < T ∧ blankB (un s (T - 1)) = false) :
    cutS s (frontN (uns s) : Nat) (T : Nat) = ⟨(mkB (trimN (uns s))).toArray⟩ := by
  have hl := uns_length s
  have hF := frontN_le (uns s)
  rw [hl] at hF
  have hfr : ∀ j, j < frontN (uns s) → blankB (un s j) = true := fun j hj => by
    have h3 : j < (uns s).length := by omega
    have hp := List.takeWhile_prefix (p := blankB) (l := uns s)
    have h5 : ((uns s).takeWhile blankB)[j]'hj = (uns s)[j] := hp.getElem hj
    have h4 : blankB (uns s)[j] = true := by
      rw [← h5]
      exact List.all_eq_true.1 List.all_takeWhile _ (List.getElem_mem _)
    rwa [uns_at] at h4
  rcases h2 with rfl | ⟨hT0, h2⟩
  · rw [cutS_no (by omega)]
    have : trimN (uns s) = ((uns s).drop (frontN (uns s))).take 0 := trim_none rfl (fun j hj _ => by
      rw [List.getElem_drop, uns_at]
      exact h1 _ (by omega) (by simp at hj; omega))
    rw [this]
    rfl
  · have hFT : frontN (uns s) < T := by
      by_cases h3 : frontN (uns s) < T
      · exact h3
      · have := hfr (T - 1) (by omega)
        rw [this] at h2; cases h2
    have e1 : trimN (uns s) = ((uns s).drop (frontN (uns s))).take (T - frontN (uns s)) := by
      refine trim_end rfl (by simp; omega) (by omega) (fun h => ?_) (fun j hj hmj => ?_)
      · rw [List.getElem_drop, uns_at, show frontN (uns s) + (T - frontN (uns s) - 1) = T - 1 by omega]
        exact h2
      · rw [List.getElem_drop, uns_at]
        exact h1 _ (by omega) (by simp at hj; omega)
    rw [e1, cutS_yes (frontN (uns s)) T (by omega) (by omega) hFT, mkB_takeK, mkB_drop, mkB_uns]
    refine ByteArray.ext (Array.ext' ?_)
    rw [ByteArray.data_extract]
    simp only [ebs, Array.toList_extract, List.extract_eq_take_drop, List.drop_take, List.take_take]
    congr 1
    omega
set_option maxHeartbeats 1000000 in
set_option maxRecDepth 100000 in
theorem trim_any (s : ByteArray) (w : World) (hs : (s.size : Int) ≤ 1048576) :
    Calls Tryz.prog 133 #[.string s] w fun e w' => e = .returned (.string ⟨(mkB (trimN (uns s))).toArray⟩) ∧ Below w.heap.size w w' := by
  have HC := Hid.mk' (fun i W => blankAt_any s i W hs)
  have HL := Hid.mk' (fun W => len_any s W (by unfold maxLen; omega))
  have HA := Hid.mk' (fun W => blanksAhead_any s W hs)
  go_enter Tryz.func133, Tryz.ntmps133
  go_wp2_with (go_at_call 99; refine (HL.out _).mono ?_; rintro e w1 ⟨rfl, hw1⟩; rw [hw1]; clear hw1 w1)
  go_loopw [3] (fun v wr => ∃ k q : Nat, v = .int .i64 k ∧ k ≤ s.size / 2 ∧ Hid (∀ j, k ≤ j → j < s.size / 2 → blankB (un s j) = true) ∧ wr = w.drewN q) (fun v _ => (intOf v).toNat)
  case atStart => exact ⟨s.size / 2, 0, rfl, Nat.le_refl _, fun j h1 h2 => by omega, rfl⟩
  case round =>
    obtain ⟨k, q, rfl, hk, HE, rfl⟩ := hrel
    have HB := Hid.mk' (HC.out ((k : Int) - 1) (w.drewN q))
    cases hb : blankI s ((k : Int) - 1) with
    | true =>
      rw [hb] at HB
      unfold blankI at hb
      rw [Bool.and_eq_true, decide_eq_true_iff] at hb
      have hk1 : 1 ≤ k := by omega
      have HN : Hid (∀ j, k - 1 ≤ j → j < s.size / 2 → blankB (un s j) = true) := fun j hj h2 => by
        by_cases e : j = k - 1
        · subst e
          have := hb.2
          rwa [show ((k : Int) - 1).toNat = k - 1 by omega] at this
        · exact HE.out j (by omega) h2
      clear hb
      go_wp2_with (go_at_call 151; refine HB.out.mono ?_; rintro e w3 ⟨rfl, n3, hw3⟩; rw [hw3]; clear hw3 w3)
      go_roundw
      case rel => exact ⟨k - 1, _, by go_num, by omega, HN, rfl⟩
      case measure => simp [intOf]; omega
    | false =>
      rw [hb] at HB
      have h2 : k = 0 ∨ 0 < k ∧ blankB (un s (k - 1)) = false := by
        rcases Nat.eq_zero_or_pos k with h | h
        · exact .inl h
        · refine .inr ⟨h, ?_⟩
          unfold blankI at hb
          rw [decide_eq_true (by omega), show ((k : Int) - 1).toNat = k - 1 by omega] at hb
          simpa using hb
      have HT := Hid.mk' (cut_trim s k hk HE.out h2)
      have HU := Hid.mk' (fun W => cut_any s (frontN (uns s) : Nat) (k : Nat) W hs)
      rw [HT.out] at HU
      clear hb h2
      go_wp2_with (go_at_call 151; refine HB.out.mono ?_; rintro e w3 ⟨rfl, n3, hw3⟩; rw [hw3]; clear hw3 w3)
      refine (HA.out _).mono ?_
      rintro e w4 ⟨rfl, n4, hw4⟩
      rw [hw4]; clear hw4 w4
      go_wp2_with fail
      refine (HU.out _).mono ?_
      rintro e w5 ⟨rfl, b5⟩
      go_wp2
      go_ret
      refine ⟨rfl, ?_⟩
      exact (kept_drewN w.heap.size 0 w _).1.trans (by simpa using b5)
end Go.Proofs.YtbkkkpfoaggejaaGreatDoor
