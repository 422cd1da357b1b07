/- Package keys: isSymbol, bare, own, Index. -/
import Derived.Test.YtmgngbhkgmkggaaGreatDoorCut
import Derived.Test.YtmgngbhkgmkggaaGreatDoorRCmp
import Derived.Test.YtmgngbhkgmkggaaGreatDoorSb
import Derived.Deep.RegionWith
namespace Go.Proofs.YtmgngbhkgmkggaaGreatDoor
set_option linter.unusedVariables false
open Go.RowKit

/-- A key's value. -/
def kv (s : ByteArray) (z : Int) : Value := .agg #[.string s, .int .i64 z]

theorem even_eq (s : ByteArray) : evenS s = s.extract 0 (2 * (s.size / 2)) := by unfold evenS; rw [Nat.mul_comm]
theorem cut_own (s : ByteArray) : cutS s 0 (((s.size / 2 : Nat)) : Int) = evenS s := by
  by_cases h : s.size / 2 = 0
  · rw [cutS_no (by omega), even_eq, h]
    exact (ByteArray.ext (by simp)).symm
  · rw [cutS_yes 0 (s.size / 2) (by omega) (by omega) (by omega), even_eq]

set_option maxHeartbeats 400000 in
theorem isSym_any (s : ByteArray) (z : Int) (w : World) :
    Calls Tryz.prog 68 #[.agg #[.string s, .int .i64 z]] w fun e w' => e = .returned (.bool (decide (0 < z))) ∧ w' = w.alloc (.cells #[.string s, .int .i64 z] 31) := by
  go_enter Tryz.func68, Tryz.ntmps68
  go_wp2
  go_ret
  exact ⟨rfl, rfl⟩

set_option maxHeartbeats 400000 in
theorem own_any (s : ByteArray) (w : World) (hs : (s.size : Int) ≤ 140737488351232) :
    Calls Tryz.prog 69 #[.string s] w fun e w' => e = .returned (.string (evenS s)) ∧ Below w.heap.size w w' := by
  have hm : s.size ≤ maxLen := by unfold maxLen; omega
  have HC := Hid.mk' (fun W => cut_wide s 0 ((s.size / 2 : Nat) : Int) W hs)
  rw [cut_own] at HC
  go_enter Tryz.func69, Tryz.ntmps69
  go_wp2_with (first | (go_at_call 63; refine (len_any _ _ hm).mono ?_; rintro e w1 ⟨rfl, hw1⟩; rw [hw1]; clear hw1 w1) | (go_at_call 80; refine (HC.out _).mono ?_; rintro e w2 ⟨rfl, b2⟩))
  go_ret
  exact ⟨rfl, b2⟩

theorem results_cell {fn : Func} {p : Tmp} {ty : TypeId} (h : fn.results = #[.cell p ty]) (tmps : Array Value) (P : Program) (w : World) :
    (results fn tmps).run P w = ((asAddr (tmps.getD p undef)).run P w).andThen fun a w₁ => (loadVar ty a).run P w₁ := by
  simp only [results, h]
  simp [Sem.run_bind, Result.andThen]

set_option maxHeartbeats 400000 in
theorem bare_sym (s : ByteArray) (z : Int) (w : World) (h : 0 < z) :
    Calls Tryz.prog 66 #[.agg #[.string s, .int .i64 z]] w fun e w' => e = .returned (.agg #[.string ⟨#[]⟩, .int .i64 z]) ∧ Below w.heap.size w w' := by
  go_enter Tryz.func66, Tryz.ntmps66
  go_wp2_with (first | (go_at_call 68; refine (isSym_any _ _ _).mono ?_; rintro e w1 ⟨rfl, hw1⟩; rw [hw1]; clear hw1 w1))
  (try simp only [Exit.inBlock, Exit.then])
  refine bodyPost_ret (v := .agg #[.string ⟨#[]⟩, .int .i64 z]) ?_ rfl ⟨rfl, ?_⟩
  · rw [results_cell rfl]
    go_simp
  · repeat' (first | exact Below.refl _ _ | refine Below.alloc ?_ (by simp <;> omega) _ | refine Below.setCell ?_ (by simp) _)

set_option maxHeartbeats 400000 in
theorem bare_text (s : ByteArray) (z : Int) (w : World) (hs : (s.size : Int) ≤ 140737488351232) (h : ¬ 0 < z) :
    Calls Tryz.prog 66 #[.agg #[.string s, .int .i64 z]] w fun e w' => e = .returned (.agg #[.string (evenS s), .int .i64 0]) ∧ Below w.heap.size w w' := by
  have hm : s.size ≤ maxLen := by unfold maxLen; omega
  have HL := Hid.mk' (fun W => len_any s W hm)
  obtain ⟨k, hk⟩ : ∃ k, s.size / 2 = k := ⟨_, rfl⟩
  rw [hk] at HL
  have HE : Hid (evenS s = s.extract 0 (2 * (k : Int)).toNat) := Hid.mk' (by rw [even_eq s, hk, show (2 * (k : Int)).toNat = 2 * k from by omega])
  have h1 : (0 : Int) ≤ 2 * (k : Int) := by omega
  have h2 : 2 * (k : Int) ≤ (s.size : Int) := by omega
  have x1 : IntKind.i64.wrap (2 * (k : Int)) = 2 * (k : Int) := by rw [IntKind.wrap_i64]; omega
  clear hk
  go_enter Tryz.func66, Tryz.ntmps66
  go_wp2_with (first | (go_at_call 68; refine (isSym_any _ _ _).mono ?_; rintro e w1 ⟨rfl, hw1⟩; rw [hw1]; clear hw1 w1))
  go_region_with (first | (go_at_call 63; refine (HL.out _).mono ?_; rintro e w1 ⟨rfl, hw1⟩; rw [hw1]; clear hw1 w1))
  all_goals go_wp2
  all_goals (try simp only [Exit.inBlock, Exit.then])
  all_goals refine bodyPost_ret (v := .agg #[.string (evenS s), .int .i64 0]) ?_ rfl ⟨rfl, ?_⟩
  all_goals first
    | (rw [results_cell rfl, HE.out]; go_simp)
    | (repeat' (first | exact Below.refl _ _ | refine Below.drew ?_ | refine Below.alloc ?_ (by simp <;> omega) _ | refine Below.setCell ?_ (by simp) _))

/-- The number of the first k units, as digits. -/
def digN (s : ByteArray) : Nat → Nat
  | 0 => 0
  | k + 1 => 10 * digN s k + (un s k - 48)
/-- Whether the first k units are digits. -/
def digOk (s : ByteArray) : Nat → Bool
  | 0 => true
  | k + 1 => digOk s k && decide (48 ≤ un s k ∧ un s k ≤ 57)
/-- Whether a text is an index. -/
def idxB (s : ByteArray) : Bool := decide (s.size / 2 ≠ 0 ∧ s.size / 2 ≤ 10) && !(decide (un s 0 = 48) && decide (1 < s.size / 2)) && digOk s (s.size / 2) && decide (digN s (s.size / 2) ≤ 4294967294)
/-- Its number, or nought. -/
def idxN (s : ByteArray) : Nat := if idxB s then digN s (s.size / 2) else 0
theorem digN_lt (s : ByteArray) : ∀ k, digOk s k = true → digN s k < 10 ^ k
  | 0, _ => by simp [digN]
  | k + 1, h => by
    simp only [digOk, Bool.and_eq_true, decide_eq_true_eq] at h
    have := digN_lt s k h.1
    rw [digN, Nat.pow_succ]
    omega
theorem digOk_mono (s : ByteArray) (k : Nat) (h : digOk s k = false) : ∀ n, k ≤ n → digOk s n = false
  | 0, hn => by obtain rfl : k = 0 := by omega
                exact h
  | n + 1, hn => by
    by_cases e : k = n + 1
    · rw [← e]; exact h
    · rw [digOk, digOk_mono s k h n (by omega)]; rfl
theorem idxN_lt (s : ByteArray) : idxN s ≤ 4294967294 := by
  unfold idxN
  split
  · rename_i h
    simp only [idxB, Bool.and_eq_true, decide_eq_true_eq] at h
    exact h.2
  · omega
/-- What Index answers. -/
def idxE (s : ByteArray) : Ending := .returned (.tuple #[.int .u32 (idxN s), .bool (idxB s)])
theorem idxE_no {s : ByteArray} (h : idxB s = false) : idxE s = .returned (.tuple #[.int .u32 0, .bool false]) := by unfold idxE idxN; rw [h]; rfl
theorem idxE_yes {s : ByteArray} (h : idxB s = true) : idxE s = .returned (.tuple #[.int .u32 (digN s (s.size / 2)), .bool true]) := by unfold idxE idxN; rw [h]; rfl

set_option maxHeartbeats 1000000 in
set_option maxRecDepth 100000 in
theorem index_any (s : ByteArray) (w : World) (hs : (s.size : Int) ≤ 140737488351232) :
    Calls Tryz.prog 67 #[.string s] w fun e w' => e = idxE s ∧ ∃ n, w' = w.drewN n := by
  have hm : s.size ≤ maxLen := by unfold maxLen; omega
  have HL := Hid.mk' (fun W => len_any s W hm)
  obtain ⟨n, hn⟩ : ∃ n, s.size / 2 = n := ⟨_, rfl⟩
  rw [hn] at HL
  by_cases h0 : n = 0 ∨ 10 < n
  · have HB := Hid.mk' (idxE_no (s := s) (by unfold idxB; rw [hn]; rcases h0 with h | h <;> simp [h] <;> omega))
    clear hn
    rcases h0 with rfl | h0
    · go_enter Tryz.func67, Tryz.ntmps67
      go_wp2_with (go_at_call 63; refine (HL.out _).mono ?_; rintro e w1 ⟨rfl, hw1⟩; rw [hw1]; clear hw1 w1)
      go_ret2
      exact ⟨HB.out.symm, 0, rfl⟩
    · have h1 : (10 : Int) < (n : Int) := by omega
      have h2 : ¬ (n : Int) = 0 := by omega
      go_enter Tryz.func67, Tryz.ntmps67
      go_wp2_with (go_at_call 63; refine (HL.out _).mono ?_; rintro e w1 ⟨rfl, hw1⟩; rw [hw1]; clear hw1 w1)
      go_ret2
      exact ⟨HB.out.symm, 0, rfl⟩
  · have hn1 : 1 ≤ n ∧ n ≤ 10 := by omega
    clear h0
    have h1 : ¬ (10 : Int) < (n : Int) := by omega
    have h2 : ((n : Int) == 0) = false := by simp; omega
    obtain ⟨z0, hz0⟩ : ∃ z : Int, (un s 0 : Int) = z := ⟨_, rfl⟩
    have HA : Hid (∀ W : World, Calls Tryz.prog 79 #[.string s, .int .i64 0] W fun e w' => e = .returned (.tuple #[.int .u16 z0, .bool true]) ∧ ∃ n, w' = W.drewN n) := Hid.mk' (fun W => by
      have h := at_in s 0 W hm (by omega)
      rw [hz0] at h
      exact h)
    have HAk := Hid.mk' (fun (k : Nat) (hk : k < n) W => at_in s k W hm (by omega))
    by_cases hz : un s 0 = 48 ∧ 1 < n
    · have HB := Hid.mk' (idxE_no (s := s) (by unfold idxB; rw [hn]; simp [hz]))
      obtain ⟨e0, h3⟩ := hz
      obtain rfl : z0 = 48 := by omega
      have h4 : (1 : Int) < (n : Int) := by omega
      clear hn e0 hz0
      go_enter Tryz.func67, Tryz.ntmps67
      go_wp2_with (first | (go_at_call 63; refine (HL.out _).mono ?_; rintro e w1 ⟨rfl, hw1⟩; rw [hw1]; clear hw1 w1) | (go_at_call 79; refine (HA.out _).mono ?_; rintro e w1 ⟨rfl, nq, hw1⟩; rw [hw1]; clear hw1 w1))
      go_ret2
      exact ⟨HB.out.symm, nq, rfl⟩
    · have hc : ((z0 == 48) = false) ∨ (z0 = 48 ∧ ¬ (1 : Int) < (n : Int)) := by simp; omega
      have HZ := Hid.mk' hz
      have HN := Hid.mk' hn
      clear hz hz0 hn
      rcases hc with hc | ⟨rfl, hc⟩
      all_goals
        go_enter Tryz.func67, Tryz.ntmps67
        go_wp2_with (first | (go_at_call 63; refine (HL.out _).mono ?_; rintro e w1 ⟨rfl, hw1⟩; rw [hw1]; clear hw1 w1) | (go_at_call 79; refine (HA.out _).mono ?_; rintro e w1 ⟨rfl, nq, hw1⟩; rw [hw1]; clear hw1 w1))
        go_loopw [7, 31] (fun vs vi wr => ∃ k m : Nat, vs = .int .u64 (digN s k : Nat) ∧ vi = .int .i64 k ∧ k ≤ n ∧ digOk s k = true ∧ wr = w.drewN m) (fun _ vi _ => n - (intOf vi).toNat)
        case atStart => exact ⟨0, nq, rfl, rfl, Nat.zero_le _, rfl, rfl⟩
        case round =>
          obtain ⟨k, m, rfl, rfl, hk, hok, rfl⟩ := hrel
          have HK := Hid.mk' hok
          have hb := digN_lt s k hok
          have hb2 : 10 ^ k ≤ 10 ^ 10 := Nat.pow_le_pow_right (by omega) (by omega)
          obtain ⟨D, hD⟩ : ∃ D : Int, (digN s k : Int) = D := ⟨_, rfl⟩
          rw [hD]
          have hD1 : 0 ≤ D ∧ D < 10000000000 := by omega
          have HD := Hid.mk' hD
          clear hok hb hb2 hD
          by_cases hlt : k < n
          · have i1 : (k : Int) < (n : Int) := by omega
            have HA2 := Hid.mk' (fun W => HAk.out k hlt W)
            have hul := un_lt s k
            obtain ⟨u, hu⟩ : ∃ u : Nat, un s k = u := ⟨_, rfl⟩
            rw [hu] at HA2 hul
            have HU := Hid.mk' hu
            obtain ⟨z, hz⟩ : ∃ z : Int, (u : Int) = z := ⟨_, rfl⟩
            simp only [hz] at HA2
            have HZZ := Hid.mk' hz
            have hz1 : 0 ≤ z ∧ z < 65536 := by omega
            clear hul hu hz
            by_cases hd : 48 ≤ z ∧ z ≤ 57
            · have d1 : ¬ z < 48 := by omega
              have d2 : ¬ 57 < z := by omega
              have x1 : IntKind.u64.wrap (10 * D) = 10 * D := by rw [IntKind.wrap_u64]; omega
              have x2 : IntKind.u16.wrap (z - 48) = z - 48 := wraps_u16 _ (by omega) (by omega)
              have x3 : IntKind.u64.wrap (z - 48) = z - 48 := by rw [IntKind.wrap_u64]; omega
              have x4 : IntKind.u64.wrap (10 * D + (z - 48)) = 10 * D + (z - 48) := by rw [IntKind.wrap_u64]; omega
              have HH := Hid.mk' hd
              clear hd
              go_wp2_with (first | (go_at_call 79; refine (HA2.out _).mono ?_; rintro e w1 ⟨rfl, nq2, hw1⟩; rw [hw1]; clear hw1 w1))
              go_roundw
              case rel =>
                have hz := HZZ.out; have hD := HD.out; have hd := HH.out
                refine ⟨k + 1, m + nq2, ?_, by go_num, by omega, ?_, rfl⟩
                · rw [digN, HU.out]
                  congr 1
                  omega
                · rw [digOk, HK.out, HU.out]; simp; omega
              case measure => simp [intOf]; omega
            · have hbad : digOk s n = false := digOk_mono s (k + 1) (by
                have hz := HZZ.out
                rw [digOk, HU.out]; simp; intro _; omega) n (by omega)
              have HB := Hid.mk' (idxE_no (s := s) (by unfold idxB; rw [HN.out, hbad]; simp))
              clear hbad
              by_cases d1 : z < 48
              · go_wp2_with (first | (go_at_call 79; refine (HA2.out _).mono ?_; rintro e w1 ⟨rfl, nq2, hw1⟩; rw [hw1]; clear hw1 w1))
                go_ret2
                exact ⟨HB.out.symm, m + nq2, rfl⟩
              · have d2 : 57 < z := by omega
                go_wp2_with (first | (go_at_call 79; refine (HA2.out _).mono ?_; rintro e w1 ⟨rfl, nq2, hw1⟩; rw [hw1]; clear hw1 w1))
                go_ret2
                exact ⟨HB.out.symm, m + nq2, rfl⟩
          · obtain rfl : k = n := by omega
            by_cases hbig : (4294967294 : Int) < D
            · have HB := Hid.mk' (idxE_no (s := s) (by
                have hD := HD.out
                unfold idxB; rw [HN.out]
                simp only [Bool.and_eq_false_iff, decide_eq_false_iff_not]; right; omega))
              go_wp2
              go_ret2
              exact ⟨HB.out.symm, m, rfl⟩
            · have HB := Hid.mk' (idxE_yes (s := s) (by
                have hD := HD.out; have hZ := HZ.out; have hK := HK.out
                unfold idxB; rw [HN.out, hK]
                simp only [Bool.and_eq_true, decide_eq_true_eq, Bool.not_eq_true', Bool.and_eq_false_iff, decide_eq_false_iff_not]
                exact ⟨⟨⟨by omega, by omega⟩, trivial⟩, by omega⟩))
              rw [HN.out, HD.out] at HB
              have x5 : IntKind.u32.wrap D = D := by rw [IntKind.wrap_u32]; omega
              have hbig2 : D ≤ 4294967294 := by omega
              clear hbig
              go_wp2
              go_ret2
              exact ⟨HB.out.symm, m, rfl⟩

end Go.Proofs.YtmgngbhkgmkggaaGreatDoor
