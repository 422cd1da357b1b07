/- partitionOrdered at uint32 (written by tools/mksrt6.py). -/
import Derived.Test.YtcjpoabknlpopaaDoorKSrt5
import Derived.Sort.WalkC4
import Derived.Deep.CutRange
namespace Go.Proofs.YtcjpoabknlpopaaDoor
set_option linter.unusedVariables false
open Go.RowKit Go.Sort

set_option maxHeartbeats 8000000 in
set_option maxRecDepth 100000 in
theorem partU (blk off cap a b pivot : Nat) (d : Array Int) (w : World) (hH : Holds eU w blk off d) (hap : a < pivot) (hpb : pivot < b) (hb : b ≤ d.size) (hsz : d.size < 4611686018427387904) :
    Calls Tryd.prog 53 #[.slice (some ⟨blk, off, none⟩) d.size cap, .int .i64 a, .int .i64 b, .int .i64 pivot] w fun e w' =>
      e = .returned (.tuple #[.int .i64 (Sort.partition ltInt d a b pivot).1, .bool (Sort.partition ltInt d a b pivot).2.1]) ∧ ∃ n, w' = putRow eU (Sort.ahead w n) blk off (Sort.partition ltInt d a b pivot).2.2 := by
  have HH := Hid.mk' hH
  obtain ⟨G, hG, hcw, hfw⟩ := row_facts hH rfl (putRow_self _ _ _ _ _ hH).symm (m := 0)
  have b1 : (a : Int) < (d.size : Int) := by omega
  have b2 : (pivot : Int) < (d.size : Int) := by omega
  have HE : Hid ((w.setCell ⟨blk, off + a, none⟩ (.int .u32 (G pivot))).setCell ⟨blk, off + pivot, none⟩ (.int .u32 (G a)) = putRow eU w blk off (swp d a pivot)) := Hid.mk' (by
    rw [hG, hG]
    have e := putRow_swp eU w blk off d a pivot (by omega) (by omega)
    rwa [putRow_self _ _ _ _ _ hH] at e)
  clear hH hG
  go_enter Tryd.func53, Tryd.ntmps53
  go_wp2_with fail
  go_big_region
  iterate 26 (first | go_values | go_skip | go_step)
  rw [HE.out]
  obtain ⟨w1, hw1⟩ : ∃ w1, (putRow eU w blk off (swp d a pivot)).drew = w1 := ⟨_, rfl⟩
  rw [hw1]
  obtain ⟨dk, hdk⟩ : ∃ dk, dk = swp d a pivot := ⟨_, rfl⟩
  have HDK := Hid.mk' hdk
  obtain ⟨n, HW⟩ : ∃ n, Hid (w1 = putRow eU (Sort.ahead w n) blk off dk) := ⟨1, Hid.mk' (by rw [← hw1, putRow_drew, hdk]; rfl)⟩
  have hsk : dk.size = d.size := by rw [hdk]; exact size_swp d a pivot
  have e1 : ((a : Int) + 1) = ((a + 1 : Nat) : Int) := by omega
  have e2 : ((b : Int) - 1) = ((b - 1 : Nat) : Int) := by omega
  rw [e1, e2]
  clear e1 e2 hcw hfw hw1 hdk b2
  obtain ⟨i, hi⟩ : ∃ i, i = a + 1 := ⟨_, rfl⟩
  obtain ⟨j, hj⟩ : ∃ j, j = b - 1 := ⟨_, rfl⟩
  rw [← hi, ← hj]
  have hai : a < i := by omega
  have hij : i ≤ j + 1 := by omega
  have hjb : j < b := by omega
  have HI := Hid.mk' hi
  have HJ := Hid.mk' hj
  clear hi hj
  go_cut [10] from 30 (fun vi wc => ∃ (i2 m : Nat), vi = .int .i64 i2 ∧ i ≤ i2 ∧ i2 ≤ j + 1 ∧ wc = putRow eU (Sort.ahead w m) blk off dk ∧ Hid (i2 = Sort.scanUp (fun x => ltInt x dk[a]!) dk j i))
  case first =>
    go_wp2_with fail
    go_loopw [10] (fun vi wr => ∃ (i2 m : Nat), vi = .int .i64 i2 ∧ i ≤ i2 ∧ i2 ≤ j + 1 ∧ wr = putRow eU (Sort.ahead w m) blk off dk ∧ Hid (Sort.scanUp (fun x => ltInt x dk[a]!) dk j i2 = Sort.scanUp (fun x => ltInt x dk[a]!) dk j i)) (fun vi _ => ((j : Int) + 2 - (intOf vi)).toNat)
    case atStart => exact ⟨i, n, rfl, Nat.le_refl _, hij, HW.out, Hid.mk' rfl⟩
    case round =>
      obtain ⟨i2, m, rfl, hi2, hij2, hwr, HS⟩ := hrel
      have HW2 := Hid.mk' hwr
      obtain ⟨G, hG, hcw, hfw⟩ := row_facts HH.out hsk hwr
      have HG := Hid.mk' hG
      clear hwr hG
      by_cases hle : i2 ≤ j
      · have z1 : (i2 : Int) ≤ (j : Int) := by omega
        have b3 : (i2 : Int) < (d.size : Int) := by omega
        go_wp2_with fail
        go_big_quiet (first | (go_at_call 51; refine Calls.quiet_of_same (lessU _ _ _)))
        go_wp2_with fail
        · have hl : ltInt (G i2) (G a) = true := by assumption
          go_roundw
          case rel => exact ⟨i2 + 1, m + nq, by go_num, by omega, by omega, by rw [HW2.out, putRow_drewN], Hid.mk' (by rw [← HS.out, scanUp_go _ _ _ _ hle (by rw [← HG.out, ← HG.out]; exact hl)])⟩
          case measure => simp [intOf]; omega
        · have hl : ltInt (G i2) (G a) = false := by assumption
          go_meet
          case rel => exact ⟨i2, m + nq, rfl, hi2, hij2, by rw [HW2.out, putRow_drewN], Hid.mk' (by rw [← HS.out, scanUp_end _ _ _ _ (.inr (by rw [← HG.out, ← HG.out]; exact hl))])⟩
      · have z1 : (j : Int) < (i2 : Int) := by omega
        have z1' : ¬ (i2 : Int) ≤ (j : Int) := by omega
        go_wp2_with fail
        go_big_quiet (first | (go_at_call 51; refine Calls.quiet_of_same (lessU _ _ _)))
        go_wp2_with fail
        go_meet
        case rel => exact ⟨i2, m + nq, rfl, hi2, hij2, by rw [HW2.out, putRow_drewN], Hid.mk' (by rw [← HS.out, scanUp_end _ _ _ _ (.inl hle)])⟩
  obtain ⟨i2, m, rfl, hi2, hij2, hwc, HI2⟩ := hcut
  have HW2 := Hid.mk' hwc
  clear hwc HW
  iterate 2 (first | go_values | go_skip | go_step)
  go_cut [11] from 46 (fun vj wc => ∃ (j2 k2 : Nat), vj = .int .i64 j2 ∧ j2 ≤ j ∧ i2 ≤ j2 + 1 ∧ wc = putRow eU (Sort.ahead w k2) blk off dk ∧ Hid (j2 = Sort.scanDown (fun x => !ltInt x dk[a]!) dk i2 j))
  case first =>
    go_wp2_with fail
    go_loopw [11] (fun vj wr => ∃ (j2 k2 : Nat), vj = .int .i64 j2 ∧ j2 ≤ j ∧ i2 ≤ j2 + 1 ∧ wr = putRow eU (Sort.ahead w k2) blk off dk ∧ Hid (Sort.scanDown (fun x => !ltInt x dk[a]!) dk i2 j2 = Sort.scanDown (fun x => !ltInt x dk[a]!) dk i2 j)) (fun vj _ => (intOf vj).toNat)
    case atStart => exact ⟨j, m, rfl, Nat.le_refl _, hij2, HW2.out, Hid.mk' rfl⟩
    case round =>
      obtain ⟨j2, k2, rfl, hj2, hij3, hwr, HD⟩ := hrel
      have HW3 := Hid.mk' hwr
      obtain ⟨G3, hG3, hcw3, hfw3⟩ := row_facts HH.out hsk hwr
      have HG3 := Hid.mk' hG3
      clear hwr hG3
      by_cases hle3 : i2 ≤ j2
      · have z3 : (i2 : Int) ≤ (j2 : Int) := by omega
        have b4 : (j2 : Int) < (d.size : Int) := by omega
        go_wp2_with fail
        go_big_quiet (first | (go_at_call 51; refine Calls.quiet_of_same (lessU _ _ _)))
        go_wp2_with fail
        · have hl : (!ltInt (G3 j2) (G3 a)) = true := by first | assumption | simp_all
          go_roundw
          case rel => exact ⟨j2 - 1, k2 + nq, by congr 1; omega, by omega, by omega, by rw [HW3.out, putRow_drewN], Hid.mk' (by rw [← HD.out, scanDown_go _ _ _ _ hle3 (by omega) (by rw [← HG3.out, ← HG3.out]; exact hl)])⟩
          case measure => simp [intOf]; omega
        · have hl : (!ltInt (G3 j2) (G3 a)) = false := by first | assumption | simp_all
          go_meet
          case rel => exact ⟨j2, k2 + nq, rfl, hj2, hij3, by rw [HW3.out, putRow_drewN], Hid.mk' (by rw [← HD.out, scanDown_end _ _ _ _ (.inr (by rw [← HG3.out, ← HG3.out]; exact hl))])⟩
      · have z3 : (j2 : Int) < (i2 : Int) := by omega
        have z3' : ¬ (i2 : Int) ≤ (j2 : Int) := by omega
        go_wp2_with fail
        go_big_quiet (first | (go_at_call 51; refine Calls.quiet_of_same (lessU _ _ _)))
        go_wp2_with fail
        go_meet
        case rel => exact ⟨j2, k2 + nq, rfl, hj2, hij3, by rw [HW3.out, putRow_drewN], Hid.mk' (by rw [← HD.out, scanDown_end _ _ _ _ (.inl hle3)])⟩
  obtain ⟨j2, k2, rfl, hj2, hij3, hwc, HJ2⟩ := hcut
  have HW3 := Hid.mk' hwc
  obtain ⟨F, hF, hcf, hff⟩ := row_facts HH.out hsk hwc
  have HF := Hid.mk' hF
  clear hwc hF HW2
  go_wp2_with fail
  · have hgt : j2 < i2 := by omega
    have b5 : (j2 : Int) < (d.size : Int) := by omega
    have b6 : (a : Int) < (d.size : Int) := by omega
    have b7 : (0 : Int) ≤ (j2 : Int) := by omega
    obtain ⟨v', hy'⟩ := cell?_setCell_some (w := wc) (p := ⟨blk, off + j2, none⟩) (x := .int .u32 (F a)) (q := ⟨blk, off + a, none⟩) (hcf a (by omega))
    have HE2 : Hid ((wc.setCell ⟨blk, off + j2, none⟩ (.int .u32 (F a))).setCell ⟨blk, off + a, none⟩ (.int .u32 (F j2)) = putRow eU (Sort.ahead w k2) blk off (swp dk j2 a)) := Hid.mk' (by
      rw [HW3.out, HF.out, HF.out]
      exact putRow_swp eU _ blk off dk j2 a (by omega) (by omega))
    go_big_region
    all_goals go_wp2
    go_ret2
    have e := part_first_break ltInt d a b pivot HI.out HJ.out HDK.out HI2.out HJ2.out hgt
    rw [e]
    exact ⟨rfl, k2 + 1, by rw [HE2.out, putRow_drew, ahead_drew]⟩
  · have hgt : ¬ i2 > j2 := by omega
    have hlt2 : i2 < j2 := part_scans_lt ltInt a i j dk (by omega) HI2.out HJ2.out (by omega)
    have b5 : (i2 : Int) < (d.size : Int) := by omega
    have b6 : (j2 : Int) < (d.size : Int) := by omega
    have HE2 : Hid ((wc.setCell ⟨blk, off + i2, none⟩ (.int .u32 (F j2))).setCell ⟨blk, off + j2, none⟩ (.int .u32 (F i2)) = putRow eU (Sort.ahead w k2) blk off (swp dk i2 j2)) := Hid.mk' (by
      rw [HW3.out, HF.out, HF.out]
      exact putRow_swp eU _ blk off dk i2 j2 (by omega) (by omega))
    have HX := Hid.mk' (part_first_go ltInt d a b pivot HI.out HJ.out HDK.out HI2.out HJ2.out hgt)
    go_cut [10, 11] from 12 (fun vi vj wc => vi = .int .i64 i2 ∧ vj = .int .i64 j2 ∧ wc = putRow eU (Sort.ahead w (k2 + 1)) blk off (swp dk i2 j2))
    case first =>
      go_big_region
      all_goals go_wp2_with fail
      go_meet
      case rel => exact ⟨rfl, rfl, by rw [HE2.out, putRow_drew, ahead_drew]⟩
    obtain ⟨rfl, rfl, hwc⟩ := hcut
    have HWC := Hid.mk' hwc
    clear hwc
    go_wp2_with fail
    clear HI2 HJ2 HDK HE2 hcf hff HF HW3 HI HJ
    go_loopw [10, 11] (fun vi vj wr => ∃ (i j n : Nat) (dk : Array Int), vi = .int .i64 i ∧ vj = .int .i64 j ∧ a < i ∧ i ≤ j + 1 ∧ j < b ∧ dk.size = d.size ∧ wr = putRow eU (Sort.ahead w n) blk off dk ∧ Hid (Sort.partition ltInt d a b pivot = ((Sort.partLoop ltInt a i j dk).1, false, swp (Sort.partLoop ltInt a i j dk).2 (Sort.partLoop ltInt a i j dk).1 a))) (fun vi vj _ => ((intOf vj) + 2 - (intOf vi)).toNat)
    case atStart => exact ⟨i2 + 1, j2 - 1, k2 + 1, swp dk i2 j2, by go_num, by congr 1; omega, by omega, by omega, by omega, by rw [size_swp]; exact hsk, HWC.out, HX⟩
    case round =>
      clear hsk HX hij3 hj2 hi2 hij2 hij hai hjb hlt2 hgt b5 b6
      obtain ⟨i, j, n, dk, rfl, rfl, hai, hij, hjb, hsk, hwr, HO⟩ := hrel
      have HW := Hid.mk' hwr
      clear hwr
      skip
      iterate 3 (first | go_values | go_skip | go_step)
      go_cut [10] from 99 to 152 (fun vi wc => ∃ (i2 m : Nat), vi = .int .i64 i2 ∧ i ≤ i2 ∧ i2 ≤ j + 1 ∧ wc = putRow eU (Sort.ahead w m) blk off dk ∧ Hid (i2 = Sort.scanUp (fun x => ltInt x dk[a]!) dk j i))
      case first =>
        go_wp2_with fail
        go_loopw [10] (fun vi wr => ∃ (i2 m : Nat), vi = .int .i64 i2 ∧ i ≤ i2 ∧ i2 ≤ j + 1 ∧ wr = putRow eU (Sort.ahead w m) blk off dk ∧ Hid (Sort.scanUp (fun x => ltInt x dk[a]!) dk j i2 = Sort.scanUp (fun x => ltInt x dk[a]!) dk j i)) (fun vi _ => ((j : Int) + 2 - (intOf vi)).toNat)
        case atStart => exact ⟨i, n, rfl, Nat.le_refl _, hij, HW.out, Hid.mk' rfl⟩
        case round =>
          obtain ⟨i2, m, rfl, hi2, hij2, hwr, HS⟩ := hrel
          have HW2 := Hid.mk' hwr
          obtain ⟨G, hG, hcw, hfw⟩ := row_facts HH.out hsk hwr
          have HG := Hid.mk' hG
          clear hwr hG
          by_cases hle : i2 ≤ j
          · have z1 : (i2 : Int) ≤ (j : Int) := by omega
            have b3 : (i2 : Int) < (d.size : Int) := by omega
            go_wp2_with fail
            go_big_quiet (first | (go_at_call 51; refine Calls.quiet_of_same (lessU _ _ _)))
            go_wp2_with fail
            · have hl : ltInt (G i2) (G a) = true := by assumption
              go_roundw
              case rel => exact ⟨i2 + 1, m + nq, by go_num, by omega, by omega, by rw [HW2.out, putRow_drewN], Hid.mk' (by rw [← HS.out, scanUp_go _ _ _ _ hle (by rw [← HG.out, ← HG.out]; exact hl)])⟩
              case measure => simp [intOf]; omega
            · have hl : ltInt (G i2) (G a) = false := by assumption
              go_meet
              case rel => exact ⟨i2, m + nq, rfl, hi2, hij2, by rw [HW2.out, putRow_drewN], Hid.mk' (by rw [← HS.out, scanUp_end _ _ _ _ (.inr (by rw [← HG.out, ← HG.out]; exact hl))])⟩
          · have z1 : (j : Int) < (i2 : Int) := by omega
            have z1' : ¬ (i2 : Int) ≤ (j : Int) := by omega
            go_wp2_with fail
            go_big_quiet (first | (go_at_call 51; refine Calls.quiet_of_same (lessU _ _ _)))
            go_wp2_with fail
            go_meet
            case rel => exact ⟨i2, m + nq, rfl, hi2, hij2, by rw [HW2.out, putRow_drewN], Hid.mk' (by rw [← HS.out, scanUp_end _ _ _ _ (.inl hle)])⟩
      obtain ⟨i2, m, rfl, hi2, hij2, hwc, HI2⟩ := hcut
      have HW2 := Hid.mk' hwc
      clear hwc HW
      iterate 2 (first | go_values | go_skip | go_step)
      go_cut [11] from 99 to 152 (fun vj wc => ∃ (j2 k2 : Nat), vj = .int .i64 j2 ∧ j2 ≤ j ∧ i2 ≤ j2 + 1 ∧ wc = putRow eU (Sort.ahead w k2) blk off dk ∧ Hid (j2 = Sort.scanDown (fun x => !ltInt x dk[a]!) dk i2 j))
      case first =>
        go_wp2_with fail
        go_loopw [11] (fun vj wr => ∃ (j2 k2 : Nat), vj = .int .i64 j2 ∧ j2 ≤ j ∧ i2 ≤ j2 + 1 ∧ wr = putRow eU (Sort.ahead w k2) blk off dk ∧ Hid (Sort.scanDown (fun x => !ltInt x dk[a]!) dk i2 j2 = Sort.scanDown (fun x => !ltInt x dk[a]!) dk i2 j)) (fun vj _ => (intOf vj).toNat)
        case atStart => exact ⟨j, m, rfl, Nat.le_refl _, hij2, HW2.out, Hid.mk' rfl⟩
        case round =>
          obtain ⟨j2, k2, rfl, hj2, hij3, hwr, HD⟩ := hrel
          have HW3 := Hid.mk' hwr
          obtain ⟨G3, hG3, hcw3, hfw3⟩ := row_facts HH.out hsk hwr
          have HG3 := Hid.mk' hG3
          clear hwr hG3
          by_cases hle3 : i2 ≤ j2
          · have z3 : (i2 : Int) ≤ (j2 : Int) := by omega
            have b4 : (j2 : Int) < (d.size : Int) := by omega
            go_wp2_with fail
            go_big_quiet (first | (go_at_call 51; refine Calls.quiet_of_same (lessU _ _ _)))
            go_wp2_with fail
            · have hl : (!ltInt (G3 j2) (G3 a)) = true := by first | assumption | simp_all
              go_roundw
              case rel => exact ⟨j2 - 1, k2 + nq, by congr 1; omega, by omega, by omega, by rw [HW3.out, putRow_drewN], Hid.mk' (by rw [← HD.out, scanDown_go _ _ _ _ hle3 (by omega) (by rw [← HG3.out, ← HG3.out]; exact hl)])⟩
              case measure => simp [intOf]; omega
            · have hl : (!ltInt (G3 j2) (G3 a)) = false := by first | assumption | simp_all
              go_meet
              case rel => exact ⟨j2, k2 + nq, rfl, hj2, hij3, by rw [HW3.out, putRow_drewN], Hid.mk' (by rw [← HD.out, scanDown_end _ _ _ _ (.inr (by rw [← HG3.out, ← HG3.out]; exact hl))])⟩
          · have z3 : (j2 : Int) < (i2 : Int) := by omega
            have z3' : ¬ (i2 : Int) ≤ (j2 : Int) := by omega
            go_wp2_with fail
            go_big_quiet (first | (go_at_call 51; refine Calls.quiet_of_same (lessU _ _ _)))
            go_wp2_with fail
            go_meet
            case rel => exact ⟨j2, k2 + nq, rfl, hj2, hij3, by rw [HW3.out, putRow_drewN], Hid.mk' (by rw [← HD.out, scanDown_end _ _ _ _ (.inl hle3)])⟩
      obtain ⟨j2, k2, rfl, hj2, hij3, hwc, HJ2⟩ := hcut
      have HW3 := Hid.mk' hwc
      obtain ⟨F, hF, hcf, hff⟩ := row_facts HH.out hsk hwc
      have HF := Hid.mk' hF
      clear hwc hF HW2
      go_wp2_with fail
      · have hgt : j2 < i2 := by omega
        have b5 : (j2 : Int) < (d.size : Int) := by omega
        have b6 : (a : Int) < (d.size : Int) := by omega
        have b7 : (0 : Int) ≤ (j2 : Int) := by omega
        obtain ⟨v', hy'⟩ := cell?_setCell_some (w := wc) (p := ⟨blk, off + j2, none⟩) (x := .int .u32 (F a)) (q := ⟨blk, off + a, none⟩) (hcf a (by omega))
        have HE2 : Hid ((wc.setCell ⟨blk, off + j2, none⟩ (.int .u32 (F a))).setCell ⟨blk, off + a, none⟩ (.int .u32 (F j2)) = putRow eU (Sort.ahead w k2) blk off (swp dk j2 a)) := Hid.mk' (by
          rw [HW3.out, HF.out, HF.out]
          exact putRow_swp eU _ blk off dk j2 a (by omega) (by omega))
        go_big_region
        all_goals go_wp2
        go_ret2
        have e := HO.out
        rw [part_break ltInt a i j dk HI2.out HJ2.out hgt] at e
        rw [e]
        exact ⟨rfl, k2 + 1, by rw [HE2.out, putRow_drew, ahead_drew]⟩
      · have hgt : ¬ i2 > j2 := by omega
        have hlt2 : i2 < j2 := part_scans_lt ltInt a i j dk (by omega) HI2.out HJ2.out (by omega)
        have b5 : (i2 : Int) < (d.size : Int) := by omega
        have b6 : (j2 : Int) < (d.size : Int) := by omega
        have HE2 : Hid ((wc.setCell ⟨blk, off + i2, none⟩ (.int .u32 (F j2))).setCell ⟨blk, off + j2, none⟩ (.int .u32 (F i2)) = putRow eU (Sort.ahead w k2) blk off (swp dk i2 j2)) := Hid.mk' (by
          rw [HW3.out, HF.out, HF.out]
          exact putRow_swp eU _ blk off dk i2 j2 (by omega) (by omega))
        go_big_region
        all_goals go_wp2
        go_roundw
        case rel =>
          refine ⟨i2 + 1, j2 - 1, k2 + 1, swp dk i2 j2, by go_num, by congr 1; omega, by omega, by omega, by omega, by rw [size_swp]; exact hsk, by rw [HE2.out, putRow_drew, ahead_drew], Hid.mk' ?_⟩
          rw [← part_go ltInt a i j dk HI2.out HJ2.out hgt]
          exact HO.out
        case measure => simp [intOf]; omega
end Go.Proofs.YtcjpoabknlpopaaDoor
