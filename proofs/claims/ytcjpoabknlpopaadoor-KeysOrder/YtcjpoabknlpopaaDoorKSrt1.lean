/- slices.Sort of []uint32 in general, walk by walk: siftDownOrdered, reverseRangeOrdered. -/
import Derived.Test.YtcjpoabknlpopaaDoorKIns
import Derived.Sort.WalkB2
import Derived.BigQuiet
import Derived.BigRegion
import Derived.CellFam
namespace Go.Proofs.YtcjpoabknlpopaaDoor
set_option linter.unusedVariables false
open Go.RowKit Go.Sort

theorem drew_world {w wr wq : World} {n a blk off : Nat} {dk : Array Int} (h : wr = putRow eU (Sort.ahead w n) blk off dk) (hq : wr.drewN a = wq) (b : Nat) : wq.drewN b = putRow eU (Sort.ahead w (n + a + b)) blk off dk := by
  rw [← hq, h, putRow_drewN, putRow_drewN]

set_option maxHeartbeats 4000000 in
set_option maxRecDepth 100000 in
theorem siftU (blk off cap lo hi first : Nat) (d : Array Int) (w : World) (hH : Holds eU w blk off d) (hb : first + hi ≤ d.size) (hlo : lo ≤ hi) (hsz : d.size < 4611686018427387904) (hc : d.size ≤ cap) :
    Calls Tryd.prog 61 #[.slice (some ⟨blk, off, none⟩) d.size cap, .int .i64 lo, .int .i64 hi, .int .i64 first] w fun e w' =>
      e = .returned (.tuple #[]) ∧ ∃ n, w' = putRow eU (Sort.ahead w n) blk off (Sort.siftDown ltInt hi first lo d) := by
  have HH := Hid.mk' hH
  clear hH
  go_enter Tryd.func61, Tryd.ntmps61
  go_wp2
  go_loopw [8] (fun v wr => ∃ (root n : Nat) (dk : Array Int), v = .int .i64 root ∧ root ≤ hi ∧ dk.size = d.size ∧ wr = putRow eU (Sort.ahead w n) blk off dk ∧ Sort.siftDown ltInt hi first root dk = Sort.siftDown ltInt hi first lo d) (fun v _ => hi - (intOf v).toNat)
  case atStart => exact ⟨lo, 0, d, rfl, hlo, rfl, (putRow_self _ _ _ _ _ HH.out).symm, rfl⟩
  case round =>
    obtain ⟨root, n, dk, rfl, hr, hsk, hwr, hO⟩ := hrel
    have HO := Hid.mk' hO
    obtain ⟨G, hG, hcw, hfw⟩ := row_facts HH.out hsk hwr
    have HW := Hid.mk' hwr
    have HG := Hid.mk' hG
    clear hO hwr hG
    by_cases h1 : 2 * root + 1 < hi
    · have h1z : ¬ ((hi : Int) ≤ 2 * (root : Int) + 1) := by omega
      by_cases h2 : 2 * root + 2 < hi
      · have h2z : 2 * (root : Int) + 1 + 1 < (hi : Int) := by omega
        go_wp2_with fail
        go_big_quiet (first | (go_at_call 51; refine Calls.quiet_of_same (lessU _ _ _)))
        go_wp2_with fail
        · have hL : ltInt (G (first + 2 * root + 1)) (G (first + 2 * root + 2)) = true := by assumption
          revert nq; intro nq1
          have hcq : ∀ t, t < d.size → (wr.drewN nq1).cell? ⟨blk, off + t, none⟩ = some (.int .u32 (G t)) := fun t ht => hcw t ht
          have hfq : ∀ t, t < d.size → (wr.drewN nq1).frozen? ⟨blk, off + t, none⟩ = false := fun t ht => hfw t ht
          obtain ⟨wq, hwq⟩ : ∃ wq, wr.drewN nq1 = wq := ⟨_, rfl⟩
          rw [hwq] at hcq hfq ⊢
          have HQ := Hid.mk' hwq
          clear hcw hfw hwq
          have b0 : (first : Int) + (root : Int) < (d.size : Int) := by omega
          go_big_quiet (first | (go_at_call 51; refine Calls.quiet_of_same (lessU _ _ _)))
          go_wp2_with fail
          · have hM : ltInt (G (first + root)) (G (first + 2 * root + 2)) = false := (by simpa using (show (!ltInt (G (first + root)) (G (first + 2 * root + 2))) = true by assumption))
            (try simp only [Exit.inBlock, Exit.then])
            refine bodyPost_ret (v := .tuple #[]) (results_none rfl _ _ _) rfl ⟨rfl, ?_⟩
            have hE := drew_world HW.out HQ.out nq
            have hF : Sort.siftDown ltInt hi first lo d = dk := by rw [← HO.out, sd_right_stop ltInt dk h2 (by rw [← HG.out, ← HG.out]; exact hL) (by rw [← HG.out, ← HG.out]; exact hM)]
            rw [hF]
            exact ⟨_, hE⟩
          · have hM : ltInt (G (first + root)) (G (first + 2 * root + 2)) = true := (by simpa using (show (!ltInt (G (first + root)) (G (first + 2 * root + 2))) = false by assumption))
            go_big_region
            all_goals go_wp2
            go_roundw
            case rel =>
              refine ⟨2 * root + 2, n + nq1 + (nq + 1), swp dk (first + root) (first + (2 * root + 2)), by congr 1 <;> omega, by omega, by rw [size_swp]; exact hsk, ?_, ?_⟩
              · rw [drew_world HW.out HQ.out _, HG.out, HG.out]
                exact putRow_swp eU _ blk off dk (first + root) (first + (2 * root + 2)) (by omega) (by omega)
              · rw [← HO.out, sd_right_go ltInt dk h2 (by rw [← HG.out, ← HG.out]; exact hL) (by rw [← HG.out, ← HG.out]; exact hM)]
            case measure => simp [intOf]; omega
        · have hL : ltInt (G (first + 2 * root + 1)) (G (first + 2 * root + 2)) = false := by assumption
          revert nq; intro nq1
          have hcq : ∀ t, t < d.size → (wr.drewN nq1).cell? ⟨blk, off + t, none⟩ = some (.int .u32 (G t)) := fun t ht => hcw t ht
          have hfq : ∀ t, t < d.size → (wr.drewN nq1).frozen? ⟨blk, off + t, none⟩ = false := fun t ht => hfw t ht
          obtain ⟨wq, hwq⟩ : ∃ wq, wr.drewN nq1 = wq := ⟨_, rfl⟩
          rw [hwq] at hcq hfq ⊢
          have HQ := Hid.mk' hwq
          clear hcw hfw hwq
          have b0 : (first : Int) + (root : Int) < (d.size : Int) := by omega
          go_big_quiet (first | (go_at_call 51; refine Calls.quiet_of_same (lessU _ _ _)))
          go_wp2_with fail
          · have hM : ltInt (G (first + root)) (G (first + 2 * root + 1)) = false := (by simpa using (show (!ltInt (G (first + root)) (G (first + 2 * root + 1))) = true by assumption))
            (try simp only [Exit.inBlock, Exit.then])
            refine bodyPost_ret (v := .tuple #[]) (results_none rfl _ _ _) rfl ⟨rfl, ?_⟩
            have hE := drew_world HW.out HQ.out nq
            have hF : Sort.siftDown ltInt hi first lo d = dk := by rw [← HO.out, sd_left_stop ltInt dk h1 (fun _ => by rw [← HG.out, ← HG.out]; exact hL) (by rw [← HG.out, ← HG.out]; exact hM)]
            rw [hF]
            exact ⟨_, hE⟩
          · have hM : ltInt (G (first + root)) (G (first + 2 * root + 1)) = true := (by simpa using (show (!ltInt (G (first + root)) (G (first + 2 * root + 1))) = false by assumption))
            go_big_region
            all_goals go_wp2
            go_roundw
            case rel =>
              refine ⟨2 * root + 1, n + nq1 + (nq + 1), swp dk (first + root) (first + (2 * root + 1)), by congr 1 <;> omega, by omega, by rw [size_swp]; exact hsk, ?_, ?_⟩
              · rw [drew_world HW.out HQ.out _, HG.out, HG.out]
                exact putRow_swp eU _ blk off dk (first + root) (first + (2 * root + 1)) (by omega) (by omega)
              · rw [← HO.out, sd_left_go ltInt dk h1 (fun _ => by rw [← HG.out, ← HG.out]; exact hL) (by rw [← HG.out, ← HG.out]; exact hM)]
            case measure => simp [intOf]; omega
      · have h2z : (hi : Int) ≤ 2 * (root : Int) + 1 + 1 := by omega
        have h2d : decide (2 * (root : Int) + 1 + 1 < (hi : Int)) = false := by simp; omega
        go_wp2_with fail
        go_big_quiet (first | (go_at_call 51; refine Calls.quiet_of_same (lessU _ _ _)))
        go_wp2_with fail
        · skip
          revert nq; intro nq1
          have hcq : ∀ t, t < d.size → (wr.drewN nq1).cell? ⟨blk, off + t, none⟩ = some (.int .u32 (G t)) := fun t ht => hcw t ht
          have hfq : ∀ t, t < d.size → (wr.drewN nq1).frozen? ⟨blk, off + t, none⟩ = false := fun t ht => hfw t ht
          obtain ⟨wq, hwq⟩ : ∃ wq, wr.drewN nq1 = wq := ⟨_, rfl⟩
          rw [hwq] at hcq hfq ⊢
          have HQ := Hid.mk' hwq
          clear hcw hfw hwq
          have b0 : (first : Int) + (root : Int) < (d.size : Int) := by omega
          go_big_quiet (first | (go_at_call 51; refine Calls.quiet_of_same (lessU _ _ _)))
          go_wp2_with fail
          · have hM : ltInt (G (first + root)) (G (first + 2 * root + 1)) = false := (by simpa using (show (!ltInt (G (first + root)) (G (first + 2 * root + 1))) = true by assumption))
            (try simp only [Exit.inBlock, Exit.then])
            refine bodyPost_ret (v := .tuple #[]) (results_none rfl _ _ _) rfl ⟨rfl, ?_⟩
            have hE := drew_world HW.out HQ.out nq
            have hF : Sort.siftDown ltInt hi first lo d = dk := by rw [← HO.out, sd_left_stop ltInt dk h1 (fun h => absurd h h2) (by rw [← HG.out, ← HG.out]; exact hM)]
            rw [hF]
            exact ⟨_, hE⟩
          · have hM : ltInt (G (first + root)) (G (first + 2 * root + 1)) = true := (by simpa using (show (!ltInt (G (first + root)) (G (first + 2 * root + 1))) = false by assumption))
            go_big_region
            all_goals go_wp2
            go_roundw
            case rel =>
              refine ⟨2 * root + 1, n + nq1 + (nq + 1), swp dk (first + root) (first + (2 * root + 1)), by congr 1 <;> omega, by omega, by rw [size_swp]; exact hsk, ?_, ?_⟩
              · rw [drew_world HW.out HQ.out _, HG.out, HG.out]
                exact putRow_swp eU _ blk off dk (first + root) (first + (2 * root + 1)) (by omega) (by omega)
              · rw [← HO.out, sd_left_go ltInt dk h1 (fun h => absurd h h2) (by rw [← HG.out, ← HG.out]; exact hM)]
            case measure => simp [intOf]; omega
    · have h1z : (hi : Int) ≤ 2 * (root : Int) + 1 := by omega
      go_wp2
      go_end0
      exact ⟨rfl, n, by rw [← HO.out, sd_end ltInt dk (by omega)]; exact HW.out⟩

set_option maxHeartbeats 2000000 in
set_option maxRecDepth 100000 in
theorem reverseU (blk off cap a b : Nat) (d : Array Int) (w : World) (hH : Holds eU w blk off d) (hab : a < b) (hb : b ≤ d.size) (hsz : d.size < 4611686018427387904) :
    Calls Tryd.prog 49 #[.slice (some ⟨blk, off, none⟩) d.size cap, .int .i64 a, .int .i64 b] w fun e w' =>
      e = .returned (.tuple #[]) ∧ ∃ n, w' = putRow eU (Sort.ahead w n) blk off (Sort.reverseRange d a b) := by
  have HH := Hid.mk' hH
  clear hH
  go_enter Tryd.func49, Tryd.ntmps49
  go_wp2
  go_loopw [6, 7] (fun vi vj wr => ∃ (i j n : Nat) (dk : Array Int), vi = .int .i64 i ∧ vj = .int .i64 j ∧ i ≤ j + 1 ∧ j < b ∧ dk.size = d.size ∧ wr = putRow eU (Sort.ahead w n) blk off dk ∧ Sort.reverseLoop i j dk = Sort.reverseRange d a b) (fun vi vj _ => ((intOf vj) - (intOf vi)).toNat)
  case atStart => exact ⟨a, b - 1, 0, d, rfl, by congr 1; omega, by omega, by omega, rfl, (putRow_self _ _ _ _ _ HH.out).symm, rfl⟩
  case round =>
    obtain ⟨i, j, n, dk, rfl, rfl, hij, hjb, hsk, hwr, hO⟩ := hrel
    have HO := Hid.mk' hO
    obtain ⟨G, hG, hcw, hfw⟩ := row_facts HH.out hsk hwr
    have HW := Hid.mk' hwr
    have HG := Hid.mk' hG
    clear hO hwr hG
    by_cases hlt : i < j
    · have hz : (i : Int) < (j : Int) := by omega
      have b1 : (i : Int) < (d.size : Int) := by omega
      have b2 : (j : Int) < (d.size : Int) := by omega
      go_wp2_with fail
      go_big_region
      all_goals go_wp2
      go_roundw
      case rel =>
        refine ⟨i + 1, j - 1, n + 1, swp dk i j, by go_num, by congr 1; omega, by omega, by omega, by rw [size_swp]; exact hsk, ?_, ?_⟩
        · have e : (wr.setCell ⟨blk, off + i, none⟩ (.int .u32 (G j))).setCell ⟨blk, off + j, none⟩ (.int .u32 (G i)) = putRow eU (Sort.ahead w n) blk off (swp dk i j) := by
            rw [HW.out, HG.out, HG.out]
            exact putRow_swp eU _ blk off dk i j (by omega) (by omega)
          rw [e, putRow_drew, ahead_drew]
        · rw [← HO.out, Sort.reverseLoop.eq_def i j dk, if_pos hlt]
      case measure => simp [intOf]; omega
    · have hz : ¬ (i : Int) < (j : Int) := by omega
      go_wp2
      go_end0
      exact ⟨rfl, n, by rw [← HO.out, Sort.reverseLoop.eq_def, if_neg hlt]; exact HW.out⟩

theorem row_same {w wr : World} {m blk off : Nat} {d dj : Array Int} (hH : Holds eU w blk off d) (hs : dj.size = d.size) (hw : wr = putRow eU (Sort.ahead w m) blk off dj) : Holds eU wr blk off dj := by
  rw [hw]
  exact holds_putRow eU _ blk off d dj (holds_ahead eU w m blk off d hH) hs
theorem row_row {w wr w2 : World} {m k blk off : Nat} {dj dk : Array Int} (hw : wr = putRow eU (Sort.ahead w m) blk off dj) (h2 : w2 = putRow eU (Sort.ahead wr k) blk off dk) (hs : dk.size = dj.size) : w2 = putRow eU (Sort.ahead w (m + k)) blk off dk := by
  rw [h2, hw]
  exact putRow_ahead_putRow eU w m k blk off dj dk hs

end Go.Proofs.YtcjpoabknlpopaaDoor
