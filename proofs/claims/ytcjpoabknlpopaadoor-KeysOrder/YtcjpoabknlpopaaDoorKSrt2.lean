/- heapSortOrdered at uint32. -/
import Derived.Test.YtcjpoabknlpopaaDoorKSrt1
namespace Go.Proofs.YtcjpoabknlpopaaDoor
set_option linter.unusedVariables false
open Go.RowKit Go.Sort

theorem size_sift (hi first root : Nat) (d : Array Int) : (Sort.siftDown ltInt hi first root d).size = d.size := by
  fun_induction Sort.siftDown ltInt hi first root d <;> simp_all [size_swp]

set_option maxHeartbeats 4000000 in
set_option maxRecDepth 100000 in
theorem heapU (blk off cap a b : Nat) (d : Array Int) (w : World) (hH : Holds eU w blk off d) (hab : a < b) (hb : b ≤ d.size) (hsz : d.size < 4611686018427387904) (hc : d.size ≤ cap) :
    Calls Tryd.prog 46 #[.slice (some ⟨blk, off, none⟩) d.size cap, .int .i64 a, .int .i64 b] w fun e w' =>
      e = .returned (.tuple #[]) ∧ ∃ n, w' = putRow eU (Sort.ahead w n) blk off (Sort.heapSort ltInt d a b) := by
  have HH := Hid.mk' hH
  clear hH
  have x1 : IntKind.i64.wrap ((b : Int) - (a : Int)) = ((b - a : Nat) : Int) := by rw [IntKind.wrap_i64]; omega
  go_enter Tryd.func46, Tryd.ntmps46
  go_wp2
  obtain ⟨L, hL⟩ : ∃ L, b - a = L := ⟨_, rfl⟩
  have HL := Hid.mk' hL
  rw [hL] at x1 ⊢
  clear hL
  have hLa : a + L ≤ d.size := by have := HL.out; omega
  have hL1 : 1 ≤ L := by have := HL.out; omega
  go_loopw [9] (fun v wr => ∃ (k n : Nat) (dk : Array Int), v = .int .i64 ((k : Int) - 1) ∧ k ≤ (L - 1) / 2 + 1 ∧ dk.size = d.size ∧ wr = putRow eU (Sort.ahead w n) blk off dk ∧ Sort.heapBuild ltInt L a k dk = Sort.heapBuild ltInt L a ((L - 1) / 2 + 1) d) (fun v _ => ((intOf v) + 1).toNat)
  case atStart => exact ⟨(L - 1) / 2 + 1, 0, d, by congr 1; omega, Nat.le_refl _, rfl, (putRow_self _ _ _ _ _ HH.out).symm, rfl⟩
  case round =>
    obtain ⟨k, n, dk, rfl, hk, hsk, hwr, hO⟩ := hrel
    have HO := Hid.mk' hO
    have HW := Hid.mk' hwr
    clear hO hwr
    cases k with
    | succ k =>
      have HS := Hid.mk' (siftU blk off cap k L a dk wr (row_same HH.out hsk HW.out) (by omega) (by omega) (by omega) (by omega))
      rw [hsk] at HS
      have e1 : ((k + 1 : Nat) : Int) - 1 = (k : Int) := by omega
      rw [e1]
      have z1 : (0 : Int) ≤ (k : Int) := by omega
      go_wp2_with fail
      refine HS.out.mono ?_
      rintro e w2 ⟨rfl, m, hm⟩
      have HM := Hid.mk' hm
      clear hm
      go_wp2
      go_roundw
      case rel => exact ⟨k, n + m, _, rfl, by omega, by rw [size_sift]; exact hsk, row_row HW.out HM.out (by rw [size_sift]), by rw [← HO.out]; rfl⟩
      case measure => simp [intOf]
    | zero =>
      have HB : Hid (dk = Sort.heapBuild ltInt L a ((L - 1) / 2 + 1) d) := Hid.mk' HO.out
      have z1 : ¬ (0 : Int) ≤ ((0 : Nat) : Int) - 1 := by omega
      go_wp2
      go_loopw [10] (fun v wr => ∃ (k n : Nat) (dk : Array Int), v = .int .i64 ((k : Int) - 1) ∧ k ≤ L ∧ dk.size = d.size ∧ wr = putRow eU (Sort.ahead w n) blk off dk ∧ Sort.heapPop ltInt a k dk = Sort.heapSort ltInt d a b) (fun v _ => ((intOf v) + 1).toNat)
      case atStart => exact ⟨L, n, dk, rfl, Nat.le_refl _, hsk, HW.out, by unfold Sort.heapSort; rw [HL.out, ← HB.out]⟩
      case round =>
        obtain ⟨k, n, dk, rfl, hk, hsk, hwr, hO⟩ := hrel
        have HO := Hid.mk' hO
        obtain ⟨G, hG, hcw, hfw⟩ := row_facts HH.out hsk hwr
        have HW := Hid.mk' hwr
        have HG := Hid.mk' hG
        clear hO hwr hG
        cases k with
        | succ k =>
          have e1 : ((k + 1 : Nat) : Int) - 1 = (k : Int) := by omega
          rw [e1]
          have z2 : (0 : Int) ≤ (k : Int) := by omega
          have b1 : (a : Int) < (d.size : Int) := by omega
          have b2 : (a : Int) + (k : Int) < (d.size : Int) := by omega
          have HS := Hid.mk' (fun (n' : Nat) (W : World) (hW : W = putRow eU (Sort.ahead w n') blk off (swp dk a (a + k))) => siftU blk off cap 0 k a (swp dk a (a + k)) W (row_same HH.out (by rw [size_swp]; exact hsk) hW) (by rw [size_swp]; omega) (by omega) (by rw [size_swp]; omega) (by rw [size_swp]; omega))
          rw [size_swp, hsk] at HS
          have HE : Hid ((wr.setCell ⟨blk, off + a, none⟩ (.int .u32 (G (a + k)))).setCell ⟨blk, off + (a + k), none⟩ (.int .u32 (G a)) = putRow eU (Sort.ahead w n) blk off (swp dk a (a + k))) := Hid.mk' (by
            rw [HW.out, HG.out, HG.out]
            exact putRow_swp eU _ blk off dk a (a + k) (by omega) (by omega))
          by_cases hk0 : k = 0
          · subst hk0
            have HE0 := HE.out
            have HS0 := HS.out
            simp only [Nat.add_zero] at HE0 HS0
            have HE := Hid.mk' HE0
            have HS := Hid.mk' HS0
            clear HE0 HS0
            have ez : ((0 : Nat) : Int) = 0 := rfl
            go_wp2_with fail
            go_big_region
            all_goals go_wp2_with fail
            refine (HS.out (n + 1) _ (by rw [HE.out, putRow_drew, ahead_drew])).mono ?_
            rintro e w2 ⟨rfl, m, hm⟩
            have HM := Hid.mk' hm
            clear hm
            go_wp2
            go_roundw
            case rel => exact ⟨0, n + 1 + m, _, rfl, by omega, by rw [size_sift, size_swp]; exact hsk, row_row (show _ = _ by rw [HE.out, putRow_drew, ahead_drew]) HM.out (by rw [size_sift]), by rw [← HO.out]; rfl⟩
            case measure => simp [intOf]
          · have hk1 : 0 < k := by omega
            go_wp2_with fail
            go_big_region
            all_goals go_wp2_with fail
            refine (HS.out (n + 1) _ (by rw [HE.out, putRow_drew, ahead_drew])).mono ?_
            rintro e w2 ⟨rfl, m, hm⟩
            have HM := Hid.mk' hm
            clear hm
            go_wp2
            go_roundw
            case rel => exact ⟨k, n + 1 + m, _, rfl, by omega, by rw [size_sift, size_swp]; exact hsk, row_row (show _ = _ by rw [HE.out, putRow_drew, ahead_drew]) HM.out (by rw [size_sift]), by rw [← HO.out]; rfl⟩
            case measure => simp [intOf]
        | zero =>
          have z2 : ¬ (0 : Int) ≤ ((0 : Nat) : Int) - 1 := by omega
          go_wp2
          go_end0
          exact ⟨rfl, n, by rw [← HO.out]; exact HW.out⟩

end Go.Proofs.YtcjpoabknlpopaaDoor
