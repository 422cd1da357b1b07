/- lintelref04.Index; cmp.Or of two numbers; both sides' Compare. -/
import Derived.Test.YtcjpoabknlpopaaDoorKPl
import Derived.Test.YtcjpoabknlpopaaDoorMake
namespace Go.Proofs.YtcjpoabknlpopaaDoor
set_option linter.unusedVariables false
open Go.RowKit

set_option maxHeartbeats 2000000 in
set_option maxRecDepth 100000 in
theorem rindex_any (s : ByteArray) (w : World) (hs : (s.size : Int) ≤ 140737488351232) :
    Calls Tryd.prog 21 #[.string s] w fun e w' => e = idxE s ∧ Below w.heap.size w w' := by
  have HU := Hid.mk' (runits_wide s w hs)
  obtain ⟨n, hn⟩ : ∃ n, s.size / 2 = n := ⟨_, rfl⟩
  rw [hn] at HU
  go_enter Tryd.func21, Tryd.ntmps21
  go_wp2_with fail
  refine (HU.out).mono ?_
  rintro e w1 ⟨v, rfl, o1, b1⟩
  rw [← hn] at o1
  have hR := Rd.own o1
  obtain ⟨x, c, hv⟩ : ∃ x c, v = .slice x n c := by
    rcases hR with ⟨c, rfl, _⟩ | ⟨g, o, c, rfl, _⟩
    · exact ⟨none, c, by rw [uns_length, hn]⟩
    · exact ⟨_, c, by rw [uns_length, hn]⟩
  subst hv
  clear HU o1
  by_cases h0 : n = 0 ∨ 10 < n
  · have HB := Hid.mk' (idxE_no (s := s) (by unfold idxB; rw [hn]; rcases h0 with h | h <;> simp [h] <;> omega))
    clear hn hR
    rcases h0 with rfl | h0
    · go_wp2
      go_ret2
      exact ⟨HB.out.symm, b1⟩
    · have h1 : (10 : Int) < (n : Int) := by omega
      have h2 : ((n : Int) == 0) = false := by simp; omega
      go_wp2
      go_ret2
      exact ⟨HB.out.symm, b1⟩
  · have hn1 : 1 ≤ n ∧ n ≤ 10 := by omega
    clear h0
    have h1 : ¬ (10 : Int) < (n : Int) := by omega
    have h2 : ((n : Int) == 0) = false := by simp; omega
    have hul : (uns s).length = n := by rw [uns_length, hn]
    rcases hR with ⟨c', _, h'⟩ | ⟨g, o, c', e', hg, hc⟩
    · rw [h'] at hul; simp at hul; omega
    simp only [Value.slice.injEq] at e'
    obtain ⟨rfl, hll, rfl⟩ := e'
    clear hll
    have hc2 : ∀ j, j < n → w1.cell? ⟨g, o + j, none⟩ = some (.int .u16 (un s j : Int)) := fun j hj => by
      rw [hc j (by omega)]; simp [uns]
    have HC2 := Hid.mk' hc2
    have c0 := hc2 0 (by omega)
    obtain ⟨z0, hz0⟩ : ∃ z : Int, (un s 0 : Int) = z := ⟨_, rfl⟩
    rw [hz0] at c0
    simp only [Nat.add_zero] at c0
    clear hc hc2 hul
    by_cases hz : un s 0 = 48 ∧ 1 < n
    · have HB := Hid.mk' (idxE_no (s := s) (by unfold idxB; rw [hn]; simp [hz]))
      obtain ⟨e0, h3⟩ := hz
      obtain rfl : z0 = 48 := by omega
      have h4 : (1 : Int) < (n : Int) := by omega
      clear hn e0 hz0
      go_wp2
      go_ret2
      exact ⟨HB.out.symm, b1⟩
    · have hcz : ((z0 == 48) = false) ∨ (z0 = 48 ∧ ¬ (1 : Int) < (n : Int)) := by simp; omega
      have HZ := Hid.mk' hz
      have HN := Hid.mk' hn
      clear hz hz0 hn
      rcases hcz with hcz | ⟨rfl, hcz⟩
      all_goals
        go_wp2
        go_loopw [5, 31] (fun vs vi wr => ∃ k : Nat, vs = .int .u64 (digN s k : Nat) ∧ vi = .int .i64 k ∧ k ≤ n ∧ Hid (digOk s k = true) ∧ wr = w1) (fun _ vi _ => n - (intOf vi).toNat)
        case atStart => exact ⟨0, rfl, rfl, Nat.zero_le _, Hid.mk' rfl, rfl⟩
        case round =>
          obtain ⟨k, rfl, rfl, hk, HK, rfl⟩ := hrel
          have hb := digN_lt s k HK.out
          have hb2 : 10 ^ k ≤ 10 ^ 10 := Nat.pow_le_pow_right (by omega) (by omega)
          obtain ⟨D, hD⟩ : ∃ D : Int, (digN s k : Int) = D := ⟨_, rfl⟩
          rw [hD]
          have hD1 : 0 ≤ D ∧ D < 10000000000 := by omega
          have HD := Hid.mk' hD
          clear hb hb2 hD
          by_cases hlt : k < n
          · have i1 : (k : Int) < (n : Int) := by omega
            have ck := HC2.out k hlt
            have hul := un_lt s k
            obtain ⟨z, hz⟩ : ∃ z : Int, (un s k : Int) = z := ⟨_, rfl⟩
            rw [hz] at ck
            have hz1 : 0 ≤ z ∧ z < 65536 := by omega
            have HZZ := Hid.mk' hz
            clear hul hz c0
            by_cases hd : 48 ≤ z ∧ z ≤ 57
            · have d1 : ¬ z < 48 := by omega
              have d2 : ¬ 57 < z := by omega
              have x1 : IntKind.u64.wrap (10 * D) = 10 * D := by rw [IntKind.wrap_u64]; omega
              have x2 : IntKind.u16.wrap (z - 48) = z - 48 := wraps_u16 _ (by omega) (by omega)
              have x3 : IntKind.u64.wrap (z - 48) = z - 48 := by rw [IntKind.wrap_u64]; omega
              have x4 : IntKind.u64.wrap (10 * D + (z - 48)) = 10 * D + (z - 48) := by rw [IntKind.wrap_u64]; omega
              have HH := Hid.mk' hd
              clear hd
              go_wp2
              go_roundw
              case rel =>
                refine ⟨k + 1, ?_, by go_num, by omega, Hid.mk' ?_, by first | rfl | trivial⟩
                · rw [digN]
                  have e1 := HD.out; have e2 := HZZ.out; have e3 := HH.out
                  congr 1
                  omega
                · rw [digOk, HK.out]
                  have e2 := HZZ.out; have e3 := HH.out
                  simp only [Bool.true_and, decide_eq_true_eq]
                  omega
              case measure => simp [intOf]; omega
            · have HB := Hid.mk' (idxE_no (s := s) (by
                have e : digOk s (k + 1) = false := by
                  rw [digOk, HK.out]
                  have e2 := HZZ.out
                  simp only [Bool.true_and, decide_eq_false_iff_not]
                  omega
                unfold idxB
                rw [HN.out, digOk_mono s (k + 1) e n (by omega)]
                simp))
              by_cases d1 : z < 48
              · go_wp2
                go_ret2
                exact ⟨HB.out.symm, b1⟩
              · have d2 : 57 < z := by omega
                go_wp2
                go_ret2
                exact ⟨HB.out.symm, b1⟩
          · obtain rfl : k = n := by omega
            by_cases hm : 4294967294 < D
            · have HB := Hid.mk' (idxE_no (s := s) (by
                have e1 := HD.out
                unfold idxB
                rw [HN.out]
                simp only [Bool.and_eq_false_iff, decide_eq_false_iff_not]
                exact .inr (by omega)))
              go_wp2
              go_ret2
              exact ⟨HB.out.symm, b1⟩
            · have HB := Hid.mk' (idxE_yes (s := s) (by
                have e1 := HD.out
                have e2 := HZ.out
                unfold idxB
                rw [HN.out, HK.out]
                simp only [Bool.and_eq_true, decide_eq_true_eq, Bool.not_eq_true', Bool.and_eq_false_iff, decide_eq_false_iff_not]
                exact ⟨⟨⟨by omega, by omega⟩, trivial⟩, by omega⟩))
              rw [HN.out] at HB
              have x5 : IntKind.u32.wrap D = D := by rw [IntKind.wrap_u32]; omega
              go_wp2
              go_ret2
              exact ⟨by rw [HB.out, HD.out]; rfl, b1⟩
end Go.Proofs.YtcjpoabknlpopaaDoor
