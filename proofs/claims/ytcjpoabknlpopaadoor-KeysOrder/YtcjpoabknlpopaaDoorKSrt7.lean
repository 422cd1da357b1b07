/- partialInsertionSortOrdered at uint32. -/
import Derived.Test.YtcjpoabknlpopaaDoorKSrt6
namespace Go.Proofs.YtcjpoabknlpopaaDoor
set_option linter.unusedVariables false
open Go.RowKit Go.Sort

theorem scanSorted_go (d : Array Int) (b i : Nat) (h : i < b) (hl : (!ltInt d[i]! d[i - 1]!) = true) : Sort.scanSorted ltInt d b i = Sort.scanSorted ltInt d b (i + 1) := by
  rw [Sort.scanSorted, if_pos (by simp only [Bool.and_eq_true, decide_eq_true_eq]; exact ⟨h, hl⟩)]
theorem scanSorted_end (d : Array Int) (b i : Nat) (h : ¬ i < b ∨ (!ltInt d[i]! d[i - 1]!) = false) : Sort.scanSorted ltInt d b i = i := by
  rw [Sort.scanSorted, if_neg]
  simp only [Bool.and_eq_true, decide_eq_true_eq]
  rintro ⟨h1, h2⟩
  rcases h with h | h
  · exact h h1
  · rw [h] at h2; cases h2
theorem shiftDown_go (d : Array Int) (j : Nat) (h : 1 ≤ j) (hl : ltInt d[j]! d[j - 1]! = true) : Sort.shiftDown ltInt j d = Sort.shiftDown ltInt (j - 1) (swp d j (j - 1)) := by
  obtain ⟨t, rfl⟩ : ∃ t, j = t + 1 := ⟨j - 1, by omega⟩
  rw [Sort.shiftDown, if_neg (by simp only [Nat.add_sub_cancel] at hl; simp [hl])]
  rfl
theorem shiftDown_end (d : Array Int) (j : Nat) (h : ¬ 1 ≤ j ∨ ltInt d[j]! d[j - 1]! = false) : Sort.shiftDown ltInt j d = d := by
  cases j with
  | zero => rfl
  | succ t =>
    rcases h with h | h
    · omega
    · rw [Sort.shiftDown, if_pos (by simp only [Nat.add_sub_cancel] at h; simp [h])]
theorem shiftUp_go (d : Array Int) (b j : Nat) (h : j < b) (hl : ltInt d[j]! d[j - 1]! = true) : Sort.shiftUp ltInt b j d = Sort.shiftUp ltInt b (j + 1) (swp d j (j - 1)) := by
  rw [Sort.shiftUp, if_pos h, if_neg (by simp [hl])]
theorem shiftUp_end (d : Array Int) (b j : Nat) (h : ¬ j < b ∨ ltInt d[j]! d[j - 1]! = false) : Sort.shiftUp ltInt b j d = d := by
  rw [Sort.shiftUp]
  rcases h with h | h
  · rw [if_neg h]
  · split
    · rw [if_pos (by simp [h])]
    · rfl
theorem pI_done (a b s i : Nat) (d : Array Int) {i2 : Nat} (h2 : i2 = Sort.scanSorted ltInt d b i) (h : i2 = b) : Sort.partialIns ltInt a b (s + 1) i d = (d, true) := by
  subst h2; rw [Sort.partialIns]; simp only []; rw [if_pos h]
theorem pI_short (a b s i : Nat) (d : Array Int) {i2 : Nat} (h2 : i2 = Sort.scanSorted ltInt d b i) (h : ¬ i2 = b) (h5 : b - a < 50) : Sort.partialIns ltInt a b (s + 1) i d = (d, false) := by
  subst h2; rw [Sort.partialIns]; simp only []; rw [if_neg h, if_pos h5]
theorem pI_go (a b s i : Nat) (d : Array Int) {i2 : Nat} (h2 : i2 = Sort.scanSorted ltInt d b i) (h : ¬ i2 = b) (h5 : ¬ b - a < 50) {d1 d2 d3 : Array Int} (e1 : d1 = swp d i2 (i2 - 1))
    (e2 : d2 = if i2 - a ≥ 2 then Sort.shiftDown ltInt (i2 - 1) d1 else d1) (e3 : d3 = if b - i2 ≥ 2 then Sort.shiftUp ltInt b (i2 + 1) d2 else d2) : Sort.partialIns ltInt a b (s + 1) i d = Sort.partialIns ltInt a b s i2 d3 := by
  subst h2 e1 e2 e3; rw [Sort.partialIns]; simp only []; rw [if_neg h, if_neg h5]
theorem shiftDown_size : ∀ (j : Nat) (d : Array Int), (Sort.shiftDown ltInt j d).size = d.size
  | 0, d => rfl
  | j + 1, d => by rw [Sort.shiftDown]; split; rfl; rw [shiftDown_size j, size_swp]
theorem shiftUp_size (b : Nat) : ∀ (k j : Nat) (d : Array Int), b - j = k → (Sort.shiftUp ltInt b j d).size = d.size
  | k, j, d, h => by
    rw [Sort.shiftUp]
    split
    · split
      · rfl
      · cases k with
        | zero => omega
        | succ k => rw [shiftUp_size b k (j + 1) _ (by omega), size_swp]
    · rfl

set_option maxHeartbeats 8000000 in
set_option maxRecDepth 100000 in
theorem partInsU (blk off cap a b : Nat) (d : Array Int) (w : World) (hH : Holds eU w blk off d) (hab : a < b) (hb : b ≤ d.size) (hsz : d.size < 4611686018427387904) :
    Calls Tryd.prog 50 #[.slice (some ⟨blk, off, none⟩) d.size cap, .int .i64 a, .int .i64 b] w fun e w' =>
      e = .returned (.bool (Sort.partialInsertionSort ltInt d a b).2) ∧ ∃ n, w' = putRow eU (Sort.ahead w n) blk off (Sort.partialInsertionSort ltInt d a b).1 := by
  have HH := Hid.mk' hH
  have HZ := Hid.mk' (putRow_self _ _ _ _ _ hH).symm
  clear hH
  go_enter Tryd.func50, Tryd.ntmps50
  go_wp2_with fail
  go_loopw [7, 8] (fun vi vj wr => ∃ (i s n : Nat) (dk : Array Int), vi = .int .i64 i ∧ vj = .int .i64 s ∧ s ≤ 5 ∧ a < i ∧ i ≤ b ∧ dk.size = d.size ∧ wr = putRow eU (Sort.ahead w n) blk off dk ∧ Hid (Sort.partialIns ltInt a b (5 - s) i dk = Sort.partialInsertionSort ltInt d a b)) (fun _ vj _ => 5 - (intOf vj).toNat)
  case atStart => exact ⟨a + 1, 0, 0, d, by go_num, by go_num, by omega, by omega, by omega, rfl, HZ.out, Hid.mk' rfl⟩
  case round =>
    obtain ⟨i, s, n, dk, rfl, rfl, hs5, hai, hib, hsk, hwr, HO⟩ := hrel
    have HW := Hid.mk' hwr
    clear hwr HZ
    by_cases hs : s < 5
    · obtain ⟨q, hq⟩ : ∃ q, 5 - s = q + 1 := ⟨4 - s, by omega⟩
      have zs : (s : Int) < 5 := by omega
      iterate 20 (first | go_values | go_skip | go_guarded | go_step)
      go_cut [7] from 13 to 132 (fun vi wc => ∃ (i2 m : Nat), vi = .int .i64 i2 ∧ i ≤ i2 ∧ i2 ≤ b ∧ wc = putRow eU (Sort.ahead w m) blk off dk ∧ Hid (i2 = Sort.scanSorted ltInt dk b i))
      case first =>
        go_wp2_with fail
        go_loopw [7] (fun vi wr => ∃ (i2 m : Nat), vi = .int .i64 i2 ∧ i ≤ i2 ∧ i2 ≤ b ∧ wr = putRow eU (Sort.ahead w m) blk off dk ∧ Hid (Sort.scanSorted ltInt dk b i2 = Sort.scanSorted ltInt dk b i)) (fun vi _ => ((b : Int) + 2 - (intOf vi)).toNat)
        case atStart => exact ⟨i, n, rfl, Nat.le_refl _, hib, HW.out, Hid.mk' rfl⟩
        case round =>
          obtain ⟨i2, m, rfl, hi2, hib2, hwr, HS⟩ := hrel
          have HW2 := Hid.mk' hwr
          obtain ⟨G, hG, hcw, hfw⟩ := row_facts HH.out hsk hwr
          have HG := Hid.mk' hG
          clear hwr hG
          by_cases hlt : i2 < b
          · have z1 : (i2 : Int) < (b : Int) := by omega
            have b3 : (i2 : Int) < (d.size : Int) := by omega
            have b4 : (0 : Int) ≤ (i2 : Int) - 1 := by omega
            have b5 : (i2 : Int) - 1 < (d.size : Int) := by omega
            go_wp2_with fail
            go_big_quiet (first | (go_at_call 51; refine Calls.quiet_of_same (lessU _ _ _)))
            go_wp2_with fail
            · have hl : (!ltInt (G i2) (G (i2 - 1))) = true := by first | assumption | simp_all
              go_roundw
              case rel => exact ⟨i2 + 1, m + nq, by go_num, by omega, by omega, by rw [HW2.out, putRow_drewN], Hid.mk' (by rw [← HS.out, scanSorted_go _ _ _ hlt (by rw [← HG.out, ← HG.out]; exact hl)])⟩
              case measure => simp [intOf]; omega
            · have hl : (!ltInt (G i2) (G (i2 - 1))) = false := by first | assumption | simp_all
              go_meet
              case rel => exact ⟨i2, m + nq, rfl, hi2, hib2, by rw [HW2.out, putRow_drewN], Hid.mk' (by rw [← HS.out, scanSorted_end _ _ _ (.inr (by rw [← HG.out, ← HG.out]; exact hl))])⟩
          · have z1 : (b : Int) ≤ (i2 : Int) := by omega
            have z1' : ¬ (i2 : Int) < (b : Int) := by omega
            go_wp2_with fail
            go_big_quiet (first | (go_at_call 51; refine Calls.quiet_of_same (lessU _ _ _)))
            go_wp2_with fail
            go_meet
            case rel => exact ⟨i2, m + nq, rfl, hi2, hib2, by rw [HW2.out, putRow_drewN], Hid.mk' (by rw [← HS.out, scanSorted_end _ _ _ (.inl hlt)])⟩
      obtain ⟨i2, m, rfl, hi2, hib2, hwc, HI2⟩ := hcut
      have HW2 := Hid.mk' hwc
      clear hwc HW
      by_cases hd : i2 = b
      · have zd : ((i2 : Int) == (b : Int)) = true := by simp [hd]
        go_wp2
        go_ret
        have e := HO.out
        rw [hq, pI_done a b q i dk HI2.out hd] at e
        rw [← e]
        exact ⟨rfl, m, HW2.out⟩
      · have zd : ((i2 : Int) == (b : Int)) = false := by simp; omega
        by_cases h50 : b - a < 50
        · have z50 : (b : Int) - (a : Int) < 50 := by omega
          go_wp2
          go_ret
          have e := HO.out
          rw [hq, pI_short a b q i dk HI2.out hd h50] at e
          rw [← e]
          exact ⟨rfl, m, HW2.out⟩
        · have z50 : ¬ (b : Int) - (a : Int) < 50 := by omega
          go_wp2_with fail
          have b3 : (i2 : Int) < (d.size : Int) := by omega
          have b4 : (0 : Int) ≤ (i2 : Int) - 1 := by omega
          have b5 : (i2 : Int) - 1 < (d.size : Int) := by omega
          obtain ⟨F, hF, hcf, hff⟩ := row_facts HH.out hsk HW2.out
          have HF := Hid.mk' hF
          have HE2 : Hid ((wc.setCell ⟨blk, off + i2, none⟩ (.int .u32 (F (i2 - 1)))).setCell ⟨blk, off + (i2 - 1), none⟩ (.int .u32 (F i2)) = putRow eU (Sort.ahead w m) blk off (swp dk i2 (i2 - 1))) := Hid.mk' (by
            rw [HW2.out, HF.out, HF.out]
            exact putRow_swp eU _ blk off dk i2 (i2 - 1) (by omega) (by omega))
          clear hF
          go_cut [7] from 13 to 132 (fun vi wc => vi = .int .i64 i2 ∧ wc = putRow eU (Sort.ahead w (m + 1)) blk off (swp dk i2 (i2 - 1)))
          case first =>
            go_big_region
            all_goals go_wp2_with fail
            go_meet
            case rel => exact ⟨rfl, by rw [HE2.out, putRow_drew, ahead_drew]⟩
          obtain ⟨rfl, hwc⟩ := hcut
          obtain ⟨d1, hd1⟩ : ∃ d1, d1 = swp dk i2 (i2 - 1) := ⟨_, rfl⟩
          rw [← hd1] at hwc
          have HW3 := Hid.mk' hwc
          have HD1 := Hid.mk' hd1
          have hs1 : d1.size = d.size := by rw [hd1, size_swp]; exact hsk
          clear hwc hd1 HE2 hcf hff HF HW2
          go_upto_if 61 with fail
          go_cut [7] from 13 to 132 (fun vi wc => vi = .int .i64 i2 ∧ ∃ (m : Nat) (dk2 : Array Int), Hid (dk2 = if i2 - a ≥ 2 then Sort.shiftDown ltInt (i2 - 1) d1 else d1) ∧ wc = putRow eU (Sort.ahead w m) blk off dk2)
          case first =>
            by_cases hc : i2 - a ≥ 2
            · have zc : (i2 : Int) - (a : Int) ≥ 2 := by omega
              go_wp2_with fail
              go_loopw [9] (fun vj wr => ∃ (j m : Nat) (dj : Array Int), vj = .int .i64 j ∧ j ≤ i2 - 1 ∧ dj.size = d.size ∧ wr = putRow eU (Sort.ahead w m) blk off dj ∧ Hid (Sort.shiftDown ltInt j dj = Sort.shiftDown ltInt (i2 - 1) d1)) (fun vj _ => (intOf vj).toNat)
              case atStart => exact ⟨i2 - 1, m + 1, d1, by first | go_num | (congr 1; omega), by omega, hs1, HW3.out, Hid.mk' rfl⟩
              case round =>
                obtain ⟨j, m2, dj, rfl, hj, hsj, hwr, HS⟩ := hrel
                have HW4 := Hid.mk' hwr
                obtain ⟨G, hG, hcw, hfw⟩ := row_facts HH.out hsj hwr
                have HG := Hid.mk' hG
                clear hwr hG
                by_cases ht : 1 ≤ j
                · have z1 : (j : Int) ≥ 1 := by omega
                  have b3 : (j : Int) < (d.size : Int) := by omega
                  have b4 : (0 : Int) ≤ (j : Int) - 1 := by omega
                  have b5 : (j : Int) - 1 < (d.size : Int) := by omega
                  go_wp2_with fail
                  go_big_quiet (first | (go_at_call 51; refine Calls.quiet_of_same (lessU _ _ _)))
                  go_wp2_with fail
                  · have hl0 : (!ltInt (G j) (G (j - 1))) = true := by assumption
                    have hl : ltInt (G j) (G (j - 1)) = false := by simpa using hl0
                    go_meet
                    case rel => exact ⟨rfl, m2 + nq, dj, Hid.mk' (by rw [if_pos hc, ← HS.out, shiftDown_end _ _ (.inr (by rw [← HG.out, ← HG.out]; exact hl))]), by rw [HW4.out, putRow_drewN]⟩
                  · have hl0 : (!ltInt (G j) (G (j - 1))) = false := by assumption
                    have hl : ltInt (G j) (G (j - 1)) = true := by simpa using hl0
                    obtain ⟨wq, hwq⟩ : ∃ wq, wr.drewN nq = wq := ⟨_, rfl⟩
                    have HW6 : Hid (wq = putRow eU (Sort.ahead w (m2 + nq)) blk off dj) := Hid.mk' (by rw [← hwq, HW4.out, putRow_drewN])
                    rw [hwq]
                    obtain ⟨F, hF, hcf, hff⟩ := row_facts HH.out hsj HW6.out
                    have HF := Hid.mk' hF
                    clear hF hwq hcw hfw
                    have HE2 : Hid ((wq.setCell ⟨blk, off + j, none⟩ (.int .u32 (F (j - 1)))).setCell ⟨blk, off + (j - 1), none⟩ (.int .u32 (F j)) = putRow eU (Sort.ahead w (m2 + nq)) blk off (swp dj j (j - 1))) := Hid.mk' (by
                      rw [HW6.out, HF.out, HF.out]
                      exact putRow_swp eU _ blk off dj j (j - 1) (by omega) (by omega))
                    go_big_region
                    all_goals go_wp2
                    go_roundw
                    case rel => exact ⟨j - 1, m2 + nq + 1, swp dj j (j - 1), by first | go_num | (congr 1; omega), by omega, by rw [size_swp]; exact hsj, by rw [HE2.out, putRow_drew, ahead_drew], Hid.mk' (by rw [← HS.out, shiftDown_go _ _ ht (by rw [← HG.out, ← HG.out]; exact hl)])⟩
                    case measure => simp [intOf]; omega
                · have z1 : ¬ (j : Int) ≥ 1 := by omega
                  go_wp2_with fail
                  go_meet
                  case rel => exact ⟨rfl, m2, dj, Hid.mk' (by rw [if_pos hc, ← HS.out, shiftDown_end _ _ (.inl ht)]), HW4.out⟩
            · have zc : ¬ (i2 : Int) - (a : Int) ≥ 2 := by omega
              go_wp2_with fail
              go_meet
              case rel => exact ⟨rfl, _, d1, Hid.mk' (by rw [if_neg hc]), HW3.out⟩
          obtain ⟨rfl, m3, d2, HD2, hwc⟩ := hcut
          have HW5 := Hid.mk' hwc
          have hs2 : d2.size = d.size := by rw [HD2.out]; split; rw [shiftDown_size]; exact hs1; exact hs1
          clear hwc HW3
          have FIN : ∀ (W : World) (m4 : Nat) (d3 : Array Int), d3 = (if b - i2 ≥ 2 then Sort.shiftUp ltInt b (i2 + 1) d2 else d2) → W = putRow eU (Sort.ahead w m4) blk off d3 → ∀ vs, vs = Value.int .i64 ((s : Int) + 1) →
              ∃ (i s n : Nat) (dk : Array Int), Value.int .i64 (i2 : Int) = .int .i64 i ∧ vs = .int .i64 s ∧ s ≤ 5 ∧ a < i ∧ i ≤ b ∧ dk.size = d.size ∧ W = putRow eU (Sort.ahead w n) blk off dk ∧ Hid (Sort.partialIns ltInt a b (5 - s) i dk = Sort.partialInsertionSort ltInt d a b) := by
            intro W m4 d3 hd3 hW vs hvs
            have hs3 : d3.size = d.size := by rw [hd3]; split; rw [shiftUp_size b _ _ _ rfl]; exact hs2; exact hs2
            refine ⟨i2, s + 1, m4, d3, rfl, by rw [hvs]; go_num, by omega, by omega, by omega, hs3, hW, Hid.mk' ?_⟩
            rw [show 5 - (s + 1) = q from by omega, ← pI_go a b q i dk HI2.out hd h50 HD1.out HD2.out hd3, ← hq]
            exact HO.out
          have HFIN := Hid.mk' FIN
          clear FIN
          by_cases hc : b - i2 ≥ 2
          · have zc : (b : Int) - (i2 : Int) ≥ 2 := by omega
            go_wp2_with fail
            go_loopw [10] (fun vj wr => ∃ (j m : Nat) (dj : Array Int), vj = .int .i64 j ∧ (i2 + 1 ≤ j ∧ j ≤ b) ∧ dj.size = d.size ∧ wr = putRow eU (Sort.ahead w m) blk off dj ∧ Hid (Sort.shiftUp ltInt b j dj = Sort.shiftUp ltInt b (i2 + 1) d2)) (fun vj _ => ((b : Int) + 1 - (intOf vj)).toNat)
            case atStart => exact ⟨i2 + 1, m3, d2, by first | go_num | (congr 1; omega), by omega, hs2, HW5.out, Hid.mk' rfl⟩
            case round =>
              obtain ⟨j, m2, dj, rfl, hj, hsj, hwr, HS⟩ := hrel
              have HW4 := Hid.mk' hwr
              obtain ⟨G, hG, hcw, hfw⟩ := row_facts HH.out hsj hwr
              have HG := Hid.mk' hG
              clear hwr hG
              by_cases ht : j < b
              · have z1 : (j : Int) < (b : Int) := by omega
                have b3 : (j : Int) < (d.size : Int) := by omega
                have b4 : (0 : Int) ≤ (j : Int) - 1 := by omega
                have b5 : (j : Int) - 1 < (d.size : Int) := by omega
                go_wp2_with fail
                go_big_quiet (first | (go_at_call 51; refine Calls.quiet_of_same (lessU _ _ _)))
                go_wp2_with fail
                · have hl0 : (!ltInt (G j) (G (j - 1))) = true := by assumption
                  have hl : ltInt (G j) (G (j - 1)) = false := by simpa using hl0
                  go_wp2
                  go_roundw
                  case rel => exact HFIN.out _ (m2 + nq) dj (by rw [if_pos hc, ← HS.out, shiftUp_end _ _ _ (.inr (by rw [← HG.out, ← HG.out]; exact hl))]) (by rw [HW4.out, putRow_drewN]) _ rfl
                  case measure => simp [intOf]; omega
                · have hl0 : (!ltInt (G j) (G (j - 1))) = false := by assumption
                  have hl : ltInt (G j) (G (j - 1)) = true := by simpa using hl0
                  obtain ⟨wq, hwq⟩ : ∃ wq, wr.drewN nq = wq := ⟨_, rfl⟩
                  have HW6 : Hid (wq = putRow eU (Sort.ahead w (m2 + nq)) blk off dj) := Hid.mk' (by rw [← hwq, HW4.out, putRow_drewN])
                  rw [hwq]
                  obtain ⟨F, hF, hcf, hff⟩ := row_facts HH.out hsj HW6.out
                  have HF := Hid.mk' hF
                  clear hF hwq hcw hfw
                  have HE2 : Hid ((wq.setCell ⟨blk, off + j, none⟩ (.int .u32 (F (j - 1)))).setCell ⟨blk, off + (j - 1), none⟩ (.int .u32 (F j)) = putRow eU (Sort.ahead w (m2 + nq)) blk off (swp dj j (j - 1))) := Hid.mk' (by
                    rw [HW6.out, HF.out, HF.out]
                    exact putRow_swp eU _ blk off dj j (j - 1) (by omega) (by omega))
                  go_big_region
                  all_goals go_wp2
                  go_roundw
                  case rel => exact ⟨j + 1, m2 + nq + 1, swp dj j (j - 1), by first | go_num | (congr 1; omega), by omega, by rw [size_swp]; exact hsj, by rw [HE2.out, putRow_drew, ahead_drew], Hid.mk' (by rw [← HS.out, shiftUp_go _ _ _ ht (by rw [← HG.out, ← HG.out]; exact hl)])⟩
                  case measure => simp [intOf]; omega
              · have z1 : ¬ (j : Int) < (b : Int) := by omega
                go_wp2_with fail
                go_wp2
                go_roundw
                case rel => exact HFIN.out _ (m2) dj (by rw [if_pos hc, ← HS.out, shiftUp_end _ _ _ (.inl ht)]) (HW4.out) _ rfl
                case measure => simp [intOf]; omega
          · have zc : ¬ (b : Int) - (i2 : Int) ≥ 2 := by omega
            go_wp2_with fail
            go_wp2
            go_roundw
            case rel => exact HFIN.out _ (_) d2 (by rw [if_neg hc]) (HW5.out) _ rfl
            case measure => simp [intOf]; omega
    · have zs : ¬ (s : Int) < 5 := by omega
      go_wp2
      go_ret
      have e := HO.out
      rw [show 5 - s = 0 from by omega] at e
      rw [← e]
      exact ⟨rfl, n, HW.out⟩
end Go.Proofs.YtcjpoabknlpopaaDoor
