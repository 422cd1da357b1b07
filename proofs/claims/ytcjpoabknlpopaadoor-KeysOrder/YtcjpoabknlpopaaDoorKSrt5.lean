/- partitionEqualOrdered at uint32. -/
import Derived.Test.YtcjpoabknlpopaaDoorKSrt4
import Derived.Sort.WalkC
namespace Go.Proofs.YtcjpoabknlpopaaDoor
set_option linter.unusedVariables false
open Go.RowKit Go.Sort

theorem size_swp2 (d : Array Int) (i j : Nat) : (swp d i j).size = d.size := size_swp d i j

set_option maxHeartbeats 4000000 in
set_option maxRecDepth 100000 in
/-- The loop of partitionEqual, from a row whose pivot stands ahead. -/
theorem partEqU (blk off cap a b pivot : Nat) (d : Array Int) (w : World) (hH : Holds eU w blk off d) (hap : a < pivot) (hpb : pivot < b) (hb : b ≤ d.size) (hsz : d.size < 4611686018427387904) :
    Calls Tryd.prog 52 #[.slice (some ⟨blk, off, none⟩) d.size cap, .int .i64 a, .int .i64 b, .int .i64 pivot] w fun e w' =>
      e = .returned (.int .i64 (Sort.partitionEqual ltInt d a b pivot).1) ∧ ∃ n, w' = putRow eU (Sort.ahead w n) blk off (Sort.partitionEqual ltInt d a b pivot).2 := by
  have HH := Hid.mk' hH
  obtain ⟨G, hG, hcw, hfw⟩ := row_facts hH rfl (putRow_self _ _ _ _ _ hH).symm (m := 0)
  have b1 : (a : Int) < (d.size : Int) := by omega
  have b2 : (pivot : Int) < (d.size : Int) := by omega
  have HE : Hid ((w.setCell ⟨blk, off + a, none⟩ (.int .u32 (G pivot))).setCell ⟨blk, off + pivot, none⟩ (.int .u32 (G a)) = putRow eU w blk off (swp d a pivot)) := Hid.mk' (by
    rw [hG, hG]
    have e := putRow_swp eU w blk off d a pivot (by omega) (by omega)
    rwa [putRow_self _ _ _ _ _ hH] at e)
  clear hH hG
  go_enter Tryd.func52, Tryd.ntmps52
  go_wp2_with fail
  go_big_region
  all_goals go_wp2_with fail
  go_loopw [9, 10] (fun vi vj wr => ∃ (i j n : Nat) (dk : Array Int), vi = .int .i64 i ∧ vj = .int .i64 j ∧ a < i ∧ i ≤ b ∧ j < b ∧ i ≤ j + 1 ∧ dk.size = d.size ∧ wr = putRow eU (Sort.ahead w n) blk off dk ∧ Sort.partEqLoop ltInt a i j dk = Sort.partitionEqual ltInt d a b pivot) (fun vi vj _ => ((intOf vj) + 2 - (intOf vi)).toNat)
  case atStart => exact ⟨a + 1, b - 1, 1, swp d a pivot, by go_num, by congr 1; omega, by omega, by omega, by omega, by omega, size_swp d a pivot, by rw [HE.out, putRow_drew]; rfl, rfl⟩
  case round =>
    obtain ⟨i, j, n, dk, rfl, rfl, hai, hib, hjb, hij, hsk, hwr, hO⟩ := hrel
    have HO := Hid.mk' hO
    have HW := Hid.mk' hwr
    clear hO hwr hcw hfw
    go_wp2_with fail
    go_loopw [9] (fun vi wr => ∃ (i2 m : Nat), vi = .int .i64 i2 ∧ i ≤ i2 ∧ i2 ≤ j + 1 ∧ wr = putRow eU (Sort.ahead w m) blk off dk ∧ Sort.scanUp (fun x => !ltInt dk[a]! x) dk j i2 = Sort.scanUp (fun x => !ltInt dk[a]! x) dk j i) (fun vi _ => ((j : Int) + 2 - (intOf vi)).toNat)
    case atStart => exact ⟨i, n, rfl, Nat.le_refl _, hij, HW.out, rfl⟩
    case round =>
      obtain ⟨i2, m, rfl, hi2, hij2, hwr, hS⟩ := hrel
      have HS := Hid.mk' hS
      have HW2 := Hid.mk' hwr
      obtain ⟨G, hG, hcw, hfw⟩ := row_facts HH.out hsk hwr
      have HG := Hid.mk' hG
      clear hS hwr hG
      by_cases hle : i2 ≤ j
      · have z1 : (i2 : Int) ≤ (j : Int) := by omega
        have b3 : (i2 : Int) < (d.size : Int) := by omega
        go_wp2_with fail
        go_big_quiet (first | (go_at_call 51; refine Calls.quiet_of_same (lessU _ _ _)))
        go_wp2_with fail
        · have hl : (!ltInt (G a) (G i2)) = true := by assumption
          go_roundw
          case rel => exact ⟨i2 + 1, m + nq, by go_num, by omega, by omega, by rw [HW2.out, putRow_drewN], by rw [← HS.out, scanUp_go _ _ _ _ hle (by rw [← HG.out, ← HG.out]; exact hl)]⟩
          case measure => simp [intOf]; omega
        · have hl : (!ltInt (G a) (G i2)) = false := by assumption
          have HI2 : Hid (i2 = Sort.scanUp (fun x => !ltInt dk[a]! x) dk j i) := Hid.mk' (by rw [← HS.out, scanUp_end _ _ _ _ (.inr (by rw [← HG.out, ← HG.out]; exact hl))])
          obtain ⟨wq, hwq⟩ : ∃ wq, wr.drewN nq = wq := ⟨_, rfl⟩
          have HWq : Hid (wq = putRow eU (Sort.ahead w (m + nq)) blk off dk) := Hid.mk' (by rw [← hwq, HW2.out, putRow_drewN])
          rw [hwq]
          clear hwq hcw hfw
          go_wp2_with fail
          go_loopw [10] (fun vj wr => ∃ (j2 k2 : Nat), vj = .int .i64 j2 ∧ j2 ≤ j ∧ i2 ≤ j2 + 1 ∧ wr = putRow eU (Sort.ahead w k2) blk off dk ∧ Sort.scanDown (fun x => ltInt dk[a]! x) dk i2 j2 = Sort.scanDown (fun x => ltInt dk[a]! x) dk i2 j) (fun vj _ => (intOf vj).toNat)
          case atStart => exact ⟨j, m + nq, rfl, Nat.le_refl _, hij2, HWq.out, rfl⟩
          case round =>
            obtain ⟨j2, k2, rfl, hj2, hij3, hwr, hD⟩ := hrel
            have HD := Hid.mk' hD
            have HW3 := Hid.mk' hwr
            obtain ⟨G3, hG3, hcw3, hfw3⟩ := row_facts HH.out hsk hwr
            have HG3 := Hid.mk' hG3
            clear hD hwr hG3
            by_cases hle3 : i2 ≤ j2
            · have z3 : (i2 : Int) ≤ (j2 : Int) := by omega
              have b4 : (j2 : Int) < (d.size : Int) := by omega
              go_wp2_with fail
              go_big_quiet (first | (go_at_call 51; refine Calls.quiet_of_same (lessU _ _ _)))
              go_wp2_with fail
              · have hl : ltInt (G3 a) (G3 j2) = true := by assumption
                go_roundw
                case rel => exact ⟨j2 - 1, k2 + nq, by congr 1; omega, by omega, by omega, by rw [HW3.out, putRow_drewN], by rw [← HD.out, scanDown_go _ _ _ _ hle3 (by omega) (by rw [← HG3.out, ← HG3.out]; exact hl)]⟩
                case measure => simp [intOf]; omega
              · have hl : ltInt (G3 a) (G3 j2) = false := by assumption
                have HJ2 : Hid (j2 = Sort.scanDown (fun x => ltInt dk[a]! x) dk i2 j) := Hid.mk' (by rw [← HD.out, scanDown_end _ _ _ _ (.inr (by rw [← HG3.out, ← HG3.out]; exact hl))])
                have hgt : ¬ j2 < i2 := by omega
                have z4 : ¬ (j2 : Int) < (i2 : Int) := by omega
                have hlt2 : i2 < j2 := scans_lt ltInt a i j dk (by omega) HI2.out HJ2.out (by omega)
                obtain ⟨wq3, hwq3⟩ : ∃ wq, wr.drewN nq = wq := ⟨_, rfl⟩
                have HW4 : Hid (wq3 = putRow eU (Sort.ahead w (k2 + nq)) blk off dk) := Hid.mk' (by rw [← hwq3, HW3.out, putRow_drewN])
                rw [hwq3]
                obtain ⟨F, hF, hcf, hff⟩ := row_facts HH.out hsk HW4.out
                have HF := Hid.mk' hF
                have b5 : (i2 : Int) < (d.size : Int) := by omega
                have b6 : (j2 : Int) < (d.size : Int) := by omega
                clear hF hwq3 hcw3 hfw3
                go_wp2_with fail
                go_big_region
                all_goals go_wp2
                go_roundw
                case rel =>
                  refine ⟨i2 + 1, j2 - 1, k2 + nq + 1, swp dk i2 j2, by go_num, by congr 1; omega, by omega, by omega, by omega, by omega, by rw [size_swp]; exact hsk, ?_, ?_⟩
                  · have e : (wq3.setCell ⟨blk, off + i2, none⟩ (.int .u32 (F j2))).setCell ⟨blk, off + j2, none⟩ (.int .u32 (F i2)) = putRow eU (Sort.ahead w (k2 + nq)) blk off (swp dk i2 j2) := by
                      rw [HW4.out, HF.out, HF.out]
                      exact putRow_swp eU _ blk off dk i2 j2 (by omega) (by omega)
                    rw [e, putRow_drew, ahead_drew]
                  · rw [← HO.out, partEq_go ltInt a i j dk HI2.out HJ2.out (by omega)]
                case measure => simp [intOf]; omega
            · have z3 : (j2 : Int) < (i2 : Int) := by omega
              have z3' : ¬ (i2 : Int) ≤ (j2 : Int) := by omega
              go_wp2_with fail
              go_big_quiet (first | (go_at_call 51; refine Calls.quiet_of_same (lessU _ _ _)))
              go_wp2_with fail
              · skip
                have HJ2 : Hid (j2 = Sort.scanDown (fun x => ltInt dk[a]! x) dk i2 j) := Hid.mk' (by rw [← HD.out, scanDown_end _ _ _ _ (.inl hle3)])
                have hgt : j2 < i2 := by omega
                have z4 : (j2 : Int) < (i2 : Int) := by omega
                go_wp2
                go_ret
                have e := partEq_break ltInt a i j dk HI2.out HJ2.out hgt
                rw [HO.out] at e
                rw [e]
                exact ⟨rfl, k2 + nq, by rw [HW3.out, putRow_drewN]⟩
      · have z1 : (j : Int) < (i2 : Int) := by omega
        have z1' : ¬ (i2 : Int) ≤ (j : Int) := by omega
        go_wp2_with fail
        go_big_quiet (first | (go_at_call 51; refine Calls.quiet_of_same (lessU _ _ _)))
        go_wp2_with fail
        · skip
          have HI2 : Hid (i2 = Sort.scanUp (fun x => !ltInt dk[a]! x) dk j i) := Hid.mk' (by rw [← HS.out, scanUp_end _ _ _ _ (.inl hle)])
          obtain ⟨wq, hwq⟩ : ∃ wq, wr.drewN nq = wq := ⟨_, rfl⟩
          have HWq : Hid (wq = putRow eU (Sort.ahead w (m + nq)) blk off dk) := Hid.mk' (by rw [← hwq, HW2.out, putRow_drewN])
          rw [hwq]
          clear hwq hcw hfw
          go_wp2_with fail
          go_loopw [10] (fun vj wr => ∃ (j2 k2 : Nat), vj = .int .i64 j2 ∧ j2 ≤ j ∧ i2 ≤ j2 + 1 ∧ wr = putRow eU (Sort.ahead w k2) blk off dk ∧ Sort.scanDown (fun x => ltInt dk[a]! x) dk i2 j2 = Sort.scanDown (fun x => ltInt dk[a]! x) dk i2 j) (fun vj _ => (intOf vj).toNat)
          case atStart => exact ⟨j, m + nq, rfl, Nat.le_refl _, hij2, HWq.out, rfl⟩
          case round =>
            obtain ⟨j2, k2, rfl, hj2, hij3, hwr, hD⟩ := hrel
            have HD := Hid.mk' hD
            have HW3 := Hid.mk' hwr
            obtain ⟨G3, hG3, hcw3, hfw3⟩ := row_facts HH.out hsk hwr
            have HG3 := Hid.mk' hG3
            clear hD hwr hG3
            by_cases hle3 : i2 ≤ j2
            · exact absurd hle3 (by omega)
            · have z3 : (j2 : Int) < (i2 : Int) := by omega
              have z3' : ¬ (i2 : Int) ≤ (j2 : Int) := by omega
              go_wp2_with fail
              go_big_quiet (first | (go_at_call 51; refine Calls.quiet_of_same (lessU _ _ _)))
              go_wp2_with fail
              · skip
                have HJ2 : Hid (j2 = Sort.scanDown (fun x => ltInt dk[a]! x) dk i2 j) := Hid.mk' (by rw [← HD.out, scanDown_end _ _ _ _ (.inl hle3)])
                have hgt : j2 < i2 := by omega
                have z4 : (j2 : Int) < (i2 : Int) := by omega
                go_wp2
                go_ret
                have e := partEq_break ltInt a i j dk HI2.out HJ2.out hgt
                rw [HO.out] at e
                rw [e]
                exact ⟨rfl, k2 + nq, by rw [HW3.out, putRow_drewN]⟩
end Go.Proofs.YtcjpoabknlpopaaDoor
