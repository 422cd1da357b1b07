/- internal/strconv.fmtEFG in the form 'e' (written by tools/mkfmte.py). -/
import Derived.Test.YtjnbnejfdleocaaGreatDoorFmtE
namespace Go.Proofs.YtjnbnejfdleocaaGreatDoor
set_option linter.unusedVariables false
open Go.RowKit Fl

set_option maxHeartbeats 1000000 in
set_option maxRecDepth 100000 in
theorem fmtE_one_neg1 (B g : Nat) (v0 : Value) (dp : Int) (w0 : World) (o0 : w0.ownsRow B 5 1 v0 0 []) (hBw : B ≤ w0.heap.size) (h1 : dp - 1 < 0) (x : Int) (hx : -(dp - 1) = x) (h2 : x < 10) (d : Nat) (hd : d < 256) (hc : w0.cell? ⟨g, 0, none⟩ = some (.int .u8 d)) :
    Calls Tryz.prog 135 #[v0, .bool false, .slice (some ⟨g, 0, none⟩) 32 32, .int .i64 dp, .int .i64 1, .int .i64 0, .int .u8 101, .bool true] w0 fun e w' => ∃ v', e = .returned v' ∧ w'.ownsRow B 5 1 v' (fmtN [d] (dp - 1)).length (u8c (fmtN [d] (dp - 1))) ∧ Kept B 5 w0 w' := by
  obtain ⟨i0, hi, hz0, hz1, hz2⟩ := info_parts info8
  have k0 := Kept.refl B 5 w0
  have s0 : B ≤ w0.heap.size := hBw
  have HX : Hid (u8c (expS (dp - 1)) = (.int .u8 45) :: [.int .u8 48, .int .u8 (x + 48)]) := by
    obtain ⟨n, hn⟩ : ∃ n : Nat, x = (n : Int) := ⟨(x).toNat, by omega⟩
    show _ = _
    unfold expS
    rw [if_pos (by omega), hx, hn]
    unfold expN
    rw [if_pos (by omega)]
    simp [u8c]
  go_enter Tryz.func135, Tryz.ntmps135
  go_wp2_with (at_builtin; refine wpList_append_own _ rfl _ _ 73 rfl B 5 i0 (.int .u8 0) 1 1 Tryz.underlying73 hi hz0 hz1 hz2 rfl (by decide) _ _ _ rfl (o0.alloc _) ⟨w0.heap.size, 0, none⟩ 1 1 [.int .u8 d] rfl rfl (cells_new _ _ _) (by intro u hu; simp at hu; first | (rcases hu with rfl | rfl | rfl <;> rfl) | (rcases hu with rfl | rfl <;> rfl) | (subst hu; rfl)) (by unfold maxLen; omega) (by omega) (by simp; omega) ?_)
  intro v1 w1 o1 g1 _
  have k1 := k0.trans (kept_append o0 (grown_of_alloc g1) (by have := k0.le; omega))
  have s1 : B ≤ w1.heap.size := Nat.le_trans hBw k1.le
  clear g1
  go_wp2_with (at_builtin; refine wpList_append_own _ rfl _ _ 73 rfl B 5 i0 (.int .u8 0) 1 1 Tryz.underlying73 hi hz0 hz1 hz2 rfl (by decide) _ _ _ rfl (o1.alloc _) ⟨w1.heap.size, 0, none⟩ 1 1 [.int .u8 101] rfl rfl (cells_new _ _ _) (by intro u hu; simp at hu; first | (rcases hu with rfl | rfl | rfl <;> rfl) | (rcases hu with rfl | rfl <;> rfl) | (subst hu; rfl)) (by unfold maxLen; omega) (by omega) (by simp; omega) ?_)
  intro v2 w2 o2 g2 _
  have k2 := k1.trans (kept_append o1 (grown_of_alloc g2) (by have := k1.le; omega))
  have s2 : B ≤ w2.heap.size := Nat.le_trans hBw k2.le
  clear g2
  go_wp2_with (at_builtin; refine wpList_append_own _ rfl _ _ 73 rfl B 5 i0 (.int .u8 0) 1 1 Tryz.underlying73 hi hz0 hz1 hz2 rfl (by decide) _ _ _ rfl (o2.alloc _) ⟨w2.heap.size, 0, none⟩ 1 1 [.int .u8 45] rfl rfl (cells_new _ _ _) (by intro u hu; simp at hu; first | (rcases hu with rfl | rfl | rfl <;> rfl) | (rcases hu with rfl | rfl <;> rfl) | (subst hu; rfl)) (by unfold maxLen; omega) (by omega) (by simp; omega) ?_)
  intro v3 w3 o3 g3 _
  have k3 := k2.trans (kept_append o2 (grown_of_alloc g3) (by have := k2.le; omega))
  have s3 : B ≤ w3.heap.size := Nat.le_trans hBw k3.le
  clear g3
  go_wp2_with (at_builtin; refine wpList_append_own _ rfl _ _ 73 rfl B 5 i0 (.int .u8 0) 1 1 Tryz.underlying73 hi hz0 hz1 hz2 rfl (by decide) _ _ _ rfl (o3.alloc _) ⟨w3.heap.size, 0, none⟩ 2 2 [.int .u8 48, .int .u8 (x + 48)] rfl rfl (cells_new _ _ _) (by intro u hu; simp at hu; first | (rcases hu with rfl | rfl | rfl <;> rfl) | (rcases hu with rfl | rfl <;> rfl) | (subst hu; rfl)) (by unfold maxLen; omega) (by omega) (by simp; omega) ?_)
  intro v4 w4 o4 g4 _
  have k4 := k3.trans (kept_append o3 (grown_of_alloc g4) (by have := k3.le; omega))
  have s4 : B ≤ w4.heap.size := Nat.le_trans hBw k4.le
  clear g4
  go_wp2
  go_ret
  refine ⟨_, rfl, ?_, k4⟩
  have e1 : fmtN [d] (dp - 1) = [d, 101] ++ expS (dp - 1) := rfl
  have e2 : (expS (dp - 1)).length = 1 + 2 := by rw [← u8c_length, HX.out]; rfl
  rw [e1, u8c_append, HX.out, List.length_append, e2]
  exact o4

set_option maxHeartbeats 1000000 in
set_option maxRecDepth 100000 in
theorem fmtE_one_neg2 (B g : Nat) (v0 : Value) (dp : Int) (w0 : World) (o0 : w0.ownsRow B 5 1 v0 0 []) (hBw : B ≤ w0.heap.size) (h1 : dp - 1 < 0) (x : Int) (hx : -(dp - 1) = x) (h2 : 10 ≤ x ∧ x < 100) (d : Nat) (hd : d < 256) (hc : w0.cell? ⟨g, 0, none⟩ = some (.int .u8 d)) :
    Calls Tryz.prog 135 #[v0, .bool false, .slice (some ⟨g, 0, none⟩) 32 32, .int .i64 dp, .int .i64 1, .int .i64 0, .int .u8 101, .bool true] w0 fun e w' => ∃ v', e = .returned v' ∧ w'.ownsRow B 5 1 v' (fmtN [d] (dp - 1)).length (u8c (fmtN [d] (dp - 1))) ∧ Kept B 5 w0 w' := by
  obtain ⟨i0, hi, hz0, hz1, hz2⟩ := info_parts info8
  have k0 := Kept.refl B 5 w0
  have s0 : B ≤ w0.heap.size := hBw
  have HX : Hid (u8c (expS (dp - 1)) = (.int .u8 45) :: [.int .u8 (x / 10 + 48), .int .u8 (x % 10 + 48)]) := by
    obtain ⟨n, hn⟩ : ∃ n : Nat, x = (n : Int) := ⟨(x).toNat, by omega⟩
    show _ = _
    unfold expS
    rw [if_pos (by omega), hx, hn]
    unfold expN
    rw [if_neg (by omega), if_pos (by omega)]
    simp [u8c]
  go_enter Tryz.func135, Tryz.ntmps135
  go_wp2_with (at_builtin; refine wpList_append_own _ rfl _ _ 73 rfl B 5 i0 (.int .u8 0) 1 1 Tryz.underlying73 hi hz0 hz1 hz2 rfl (by decide) _ _ _ rfl (o0.alloc _) ⟨w0.heap.size, 0, none⟩ 1 1 [.int .u8 d] rfl rfl (cells_new _ _ _) (by intro u hu; simp at hu; first | (rcases hu with rfl | rfl | rfl <;> rfl) | (rcases hu with rfl | rfl <;> rfl) | (subst hu; rfl)) (by unfold maxLen; omega) (by omega) (by simp; omega) ?_)
  intro v1 w1 o1 g1 _
  have k1 := k0.trans (kept_append o0 (grown_of_alloc g1) (by have := k0.le; omega))
  have s1 : B ≤ w1.heap.size := Nat.le_trans hBw k1.le
  clear g1
  go_wp2_with (at_builtin; refine wpList_append_own _ rfl _ _ 73 rfl B 5 i0 (.int .u8 0) 1 1 Tryz.underlying73 hi hz0 hz1 hz2 rfl (by decide) _ _ _ rfl (o1.alloc _) ⟨w1.heap.size, 0, none⟩ 1 1 [.int .u8 101] rfl rfl (cells_new _ _ _) (by intro u hu; simp at hu; first | (rcases hu with rfl | rfl | rfl <;> rfl) | (rcases hu with rfl | rfl <;> rfl) | (subst hu; rfl)) (by unfold maxLen; omega) (by omega) (by simp; omega) ?_)
  intro v2 w2 o2 g2 _
  have k2 := k1.trans (kept_append o1 (grown_of_alloc g2) (by have := k1.le; omega))
  have s2 : B ≤ w2.heap.size := Nat.le_trans hBw k2.le
  clear g2
  go_wp2_with (at_builtin; refine wpList_append_own _ rfl _ _ 73 rfl B 5 i0 (.int .u8 0) 1 1 Tryz.underlying73 hi hz0 hz1 hz2 rfl (by decide) _ _ _ rfl (o2.alloc _) ⟨w2.heap.size, 0, none⟩ 1 1 [.int .u8 45] rfl rfl (cells_new _ _ _) (by intro u hu; simp at hu; first | (rcases hu with rfl | rfl | rfl <;> rfl) | (rcases hu with rfl | rfl <;> rfl) | (subst hu; rfl)) (by unfold maxLen; omega) (by omega) (by simp; omega) ?_)
  intro v3 w3 o3 g3 _
  have k3 := k2.trans (kept_append o2 (grown_of_alloc g3) (by have := k2.le; omega))
  have s3 : B ≤ w3.heap.size := Nat.le_trans hBw k3.le
  clear g3
  go_wp2_with (at_builtin; refine wpList_append_own _ rfl _ _ 73 rfl B 5 i0 (.int .u8 0) 1 1 Tryz.underlying73 hi hz0 hz1 hz2 rfl (by decide) _ _ _ rfl (o3.alloc _) ⟨w3.heap.size, 0, none⟩ 2 2 [.int .u8 (x / 10 + 48), .int .u8 (x % 10 + 48)] rfl rfl (cells_new _ _ _) (by intro u hu; simp at hu; first | (rcases hu with rfl | rfl | rfl <;> rfl) | (rcases hu with rfl | rfl <;> rfl) | (subst hu; rfl)) (by unfold maxLen; omega) (by omega) (by simp; omega) ?_)
  intro v4 w4 o4 g4 _
  have k4 := k3.trans (kept_append o3 (grown_of_alloc g4) (by have := k3.le; omega))
  have s4 : B ≤ w4.heap.size := Nat.le_trans hBw k4.le
  clear g4
  go_wp2
  go_ret
  refine ⟨_, rfl, ?_, k4⟩
  have e1 : fmtN [d] (dp - 1) = [d, 101] ++ expS (dp - 1) := rfl
  have e2 : (expS (dp - 1)).length = 1 + 2 := by rw [← u8c_length, HX.out]; rfl
  rw [e1, u8c_append, HX.out, List.length_append, e2]
  exact o4

set_option maxHeartbeats 1000000 in
set_option maxRecDepth 100000 in
theorem fmtE_one_neg3 (B g : Nat) (v0 : Value) (dp : Int) (w0 : World) (o0 : w0.ownsRow B 5 1 v0 0 []) (hBw : B ≤ w0.heap.size) (h1 : dp - 1 < 0) (x : Int) (hx : -(dp - 1) = x) (h2 : 100 ≤ x ∧ x < 1000) (d : Nat) (hd : d < 256) (hc : w0.cell? ⟨g, 0, none⟩ = some (.int .u8 d)) :
    Calls Tryz.prog 135 #[v0, .bool false, .slice (some ⟨g, 0, none⟩) 32 32, .int .i64 dp, .int .i64 1, .int .i64 0, .int .u8 101, .bool true] w0 fun e w' => ∃ v', e = .returned v' ∧ w'.ownsRow B 5 1 v' (fmtN [d] (dp - 1)).length (u8c (fmtN [d] (dp - 1))) ∧ Kept B 5 w0 w' := by
  obtain ⟨i0, hi, hz0, hz1, hz2⟩ := info_parts info8
  have k0 := Kept.refl B 5 w0
  have s0 : B ≤ w0.heap.size := hBw
  have HX : Hid (u8c (expS (dp - 1)) = (.int .u8 45) :: [.int .u8 (x / 100 + 48), .int .u8 (x / 10 % 10 + 48), .int .u8 (x % 10 + 48)]) := by
    obtain ⟨n, hn⟩ : ∃ n : Nat, x = (n : Int) := ⟨(x).toNat, by omega⟩
    show _ = _
    unfold expS
    rw [if_pos (by omega), hx, hn]
    unfold expN
    rw [if_neg (by omega), if_neg (by omega)]
    simp [u8c]
  go_enter Tryz.func135, Tryz.ntmps135
  go_wp2_with (at_builtin; refine wpList_append_own _ rfl _ _ 73 rfl B 5 i0 (.int .u8 0) 1 1 Tryz.underlying73 hi hz0 hz1 hz2 rfl (by decide) _ _ _ rfl (o0.alloc _) ⟨w0.heap.size, 0, none⟩ 1 1 [.int .u8 d] rfl rfl (cells_new _ _ _) (by intro u hu; simp at hu; first | (rcases hu with rfl | rfl | rfl <;> rfl) | (rcases hu with rfl | rfl <;> rfl) | (subst hu; rfl)) (by unfold maxLen; omega) (by omega) (by simp; omega) ?_)
  intro v1 w1 o1 g1 _
  have k1 := k0.trans (kept_append o0 (grown_of_alloc g1) (by have := k0.le; omega))
  have s1 : B ≤ w1.heap.size := Nat.le_trans hBw k1.le
  clear g1
  go_wp2_with (at_builtin; refine wpList_append_own _ rfl _ _ 73 rfl B 5 i0 (.int .u8 0) 1 1 Tryz.underlying73 hi hz0 hz1 hz2 rfl (by decide) _ _ _ rfl (o1.alloc _) ⟨w1.heap.size, 0, none⟩ 1 1 [.int .u8 101] rfl rfl (cells_new _ _ _) (by intro u hu; simp at hu; first | (rcases hu with rfl | rfl | rfl <;> rfl) | (rcases hu with rfl | rfl <;> rfl) | (subst hu; rfl)) (by unfold maxLen; omega) (by omega) (by simp; omega) ?_)
  intro v2 w2 o2 g2 _
  have k2 := k1.trans (kept_append o1 (grown_of_alloc g2) (by have := k1.le; omega))
  have s2 : B ≤ w2.heap.size := Nat.le_trans hBw k2.le
  clear g2
  go_wp2_with (at_builtin; refine wpList_append_own _ rfl _ _ 73 rfl B 5 i0 (.int .u8 0) 1 1 Tryz.underlying73 hi hz0 hz1 hz2 rfl (by decide) _ _ _ rfl (o2.alloc _) ⟨w2.heap.size, 0, none⟩ 1 1 [.int .u8 45] rfl rfl (cells_new _ _ _) (by intro u hu; simp at hu; first | (rcases hu with rfl | rfl | rfl <;> rfl) | (rcases hu with rfl | rfl <;> rfl) | (subst hu; rfl)) (by unfold maxLen; omega) (by omega) (by simp; omega) ?_)
  intro v3 w3 o3 g3 _
  have k3 := k2.trans (kept_append o2 (grown_of_alloc g3) (by have := k2.le; omega))
  have s3 : B ≤ w3.heap.size := Nat.le_trans hBw k3.le
  clear g3
  go_wp2_with (at_builtin; refine wpList_append_own _ rfl _ _ 73 rfl B 5 i0 (.int .u8 0) 1 1 Tryz.underlying73 hi hz0 hz1 hz2 rfl (by decide) _ _ _ rfl (o3.alloc _) ⟨w3.heap.size, 0, none⟩ 3 3 [.int .u8 (x / 100 + 48), .int .u8 (x / 10 % 10 + 48), .int .u8 (x % 10 + 48)] rfl rfl (cells_new _ _ _) (by intro u hu; simp at hu; first | (rcases hu with rfl | rfl | rfl <;> rfl) | (rcases hu with rfl | rfl <;> rfl) | (subst hu; rfl)) (by unfold maxLen; omega) (by omega) (by simp; omega) ?_)
  intro v4 w4 o4 g4 _
  have k4 := k3.trans (kept_append o3 (grown_of_alloc g4) (by have := k3.le; omega))
  have s4 : B ≤ w4.heap.size := Nat.le_trans hBw k4.le
  clear g4
  go_wp2
  go_ret
  refine ⟨_, rfl, ?_, k4⟩
  have e1 : fmtN [d] (dp - 1) = [d, 101] ++ expS (dp - 1) := rfl
  have e2 : (expS (dp - 1)).length = 1 + 3 := by rw [← u8c_length, HX.out]; rfl
  rw [e1, u8c_append, HX.out, List.length_append, e2]
  exact o4

set_option maxHeartbeats 1000000 in
set_option maxRecDepth 100000 in
theorem fmtE_one_pos1 (B g : Nat) (v0 : Value) (dp : Int) (w0 : World) (o0 : w0.ownsRow B 5 1 v0 0 []) (hBw : B ≤ w0.heap.size) (h1 : 0 ≤ dp - 1) (h2 : (dp - 1) < 10) (d : Nat) (hd : d < 256) (hc : w0.cell? ⟨g, 0, none⟩ = some (.int .u8 d)) :
    Calls Tryz.prog 135 #[v0, .bool false, .slice (some ⟨g, 0, none⟩) 32 32, .int .i64 dp, .int .i64 1, .int .i64 0, .int .u8 101, .bool true] w0 fun e w' => ∃ v', e = .returned v' ∧ w'.ownsRow B 5 1 v' (fmtN [d] (dp - 1)).length (u8c (fmtN [d] (dp - 1))) ∧ Kept B 5 w0 w' := by
  obtain ⟨i0, hi, hz0, hz1, hz2⟩ := info_parts info8
  have k0 := Kept.refl B 5 w0
  have s0 : B ≤ w0.heap.size := hBw
  have HX : Hid (u8c (expS (dp - 1)) = (.int .u8 43) :: [.int .u8 48, .int .u8 ((dp - 1) + 48)]) := by
    obtain ⟨n, hn⟩ : ∃ n : Nat, (dp - 1) = (n : Int) := ⟨((dp - 1)).toNat, by omega⟩
    show _ = _
    unfold expS
    rw [if_neg (by omega), hn]
    unfold expN
    rw [if_pos (by omega)]
    simp [u8c]
  go_enter Tryz.func135, Tryz.ntmps135
  go_wp2_with (at_builtin; refine wpList_append_own _ rfl _ _ 73 rfl B 5 i0 (.int .u8 0) 1 1 Tryz.underlying73 hi hz0 hz1 hz2 rfl (by decide) _ _ _ rfl (o0.alloc _) ⟨w0.heap.size, 0, none⟩ 1 1 [.int .u8 d] rfl rfl (cells_new _ _ _) (by intro u hu; simp at hu; first | (rcases hu with rfl | rfl | rfl <;> rfl) | (rcases hu with rfl | rfl <;> rfl) | (subst hu; rfl)) (by unfold maxLen; omega) (by omega) (by simp; omega) ?_)
  intro v1 w1 o1 g1 _
  have k1 := k0.trans (kept_append o0 (grown_of_alloc g1) (by have := k0.le; omega))
  have s1 : B ≤ w1.heap.size := Nat.le_trans hBw k1.le
  clear g1
  go_wp2_with (at_builtin; refine wpList_append_own _ rfl _ _ 73 rfl B 5 i0 (.int .u8 0) 1 1 Tryz.underlying73 hi hz0 hz1 hz2 rfl (by decide) _ _ _ rfl (o1.alloc _) ⟨w1.heap.size, 0, none⟩ 1 1 [.int .u8 101] rfl rfl (cells_new _ _ _) (by intro u hu; simp at hu; first | (rcases hu with rfl | rfl | rfl <;> rfl) | (rcases hu with rfl | rfl <;> rfl) | (subst hu; rfl)) (by unfold maxLen; omega) (by omega) (by simp; omega) ?_)
  intro v2 w2 o2 g2 _
  have k2 := k1.trans (kept_append o1 (grown_of_alloc g2) (by have := k1.le; omega))
  have s2 : B ≤ w2.heap.size := Nat.le_trans hBw k2.le
  clear g2
  go_wp2_with (at_builtin; refine wpList_append_own _ rfl _ _ 73 rfl B 5 i0 (.int .u8 0) 1 1 Tryz.underlying73 hi hz0 hz1 hz2 rfl (by decide) _ _ _ rfl (o2.alloc _) ⟨w2.heap.size, 0, none⟩ 1 1 [.int .u8 43] rfl rfl (cells_new _ _ _) (by intro u hu; simp at hu; first | (rcases hu with rfl | rfl | rfl <;> rfl) | (rcases hu with rfl | rfl <;> rfl) | (subst hu; rfl)) (by unfold maxLen; omega) (by omega) (by simp; omega) ?_)
  intro v3 w3 o3 g3 _
  have k3 := k2.trans (kept_append o2 (grown_of_alloc g3) (by have := k2.le; omega))
  have s3 : B ≤ w3.heap.size := Nat.le_trans hBw k3.le
  clear g3
  go_wp2_with (at_builtin; refine wpList_append_own _ rfl _ _ 73 rfl B 5 i0 (.int .u8 0) 1 1 Tryz.underlying73 hi hz0 hz1 hz2 rfl (by decide) _ _ _ rfl (o3.alloc _) ⟨w3.heap.size, 0, none⟩ 2 2 [.int .u8 48, .int .u8 ((dp - 1) + 48)] rfl rfl (cells_new _ _ _) (by intro u hu; simp at hu; first | (rcases hu with rfl | rfl | rfl <;> rfl) | (rcases hu with rfl | rfl <;> rfl) | (subst hu; rfl)) (by unfold maxLen; omega) (by omega) (by simp; omega) ?_)
  intro v4 w4 o4 g4 _
  have k4 := k3.trans (kept_append o3 (grown_of_alloc g4) (by have := k3.le; omega))
  have s4 : B ≤ w4.heap.size := Nat.le_trans hBw k4.le
  clear g4
  go_wp2
  go_ret
  refine ⟨_, rfl, ?_, k4⟩
  have e1 : fmtN [d] (dp - 1) = [d, 101] ++ expS (dp - 1) := rfl
  have e2 : (expS (dp - 1)).length = 1 + 2 := by rw [← u8c_length, HX.out]; rfl
  rw [e1, u8c_append, HX.out, List.length_append, e2]
  exact o4

set_option maxHeartbeats 1000000 in
set_option maxRecDepth 100000 in
theorem fmtE_one_pos2 (B g : Nat) (v0 : Value) (dp : Int) (w0 : World) (o0 : w0.ownsRow B 5 1 v0 0 []) (hBw : B ≤ w0.heap.size) (h1 : 0 ≤ dp - 1) (h2 : 10 ≤ (dp - 1) ∧ (dp - 1) < 100) (d : Nat) (hd : d < 256) (hc : w0.cell? ⟨g, 0, none⟩ = some (.int .u8 d)) :
    Calls Tryz.prog 135 #[v0, .bool false, .slice (some ⟨g, 0, none⟩) 32 32, .int .i64 dp, .int .i64 1, .int .i64 0, .int .u8 101, .bool true] w0 fun e w' => ∃ v', e = .returned v' ∧ w'.ownsRow B 5 1 v' (fmtN [d] (dp - 1)).length (u8c (fmtN [d] (dp - 1))) ∧ Kept B 5 w0 w' := by
  obtain ⟨i0, hi, hz0, hz1, hz2⟩ := info_parts info8
  have k0 := Kept.refl B 5 w0
  have s0 : B ≤ w0.heap.size := hBw
  have HX : Hid (u8c (expS (dp - 1)) = (.int .u8 43) :: [.int .u8 ((dp - 1) / 10 + 48), .int .u8 ((dp - 1) % 10 + 48)]) := by
    obtain ⟨n, hn⟩ : ∃ n : Nat, (dp - 1) = (n : Int) := ⟨((dp - 1)).toNat, by omega⟩
    show _ = _
    unfold expS
    rw [if_neg (by omega), hn]
    unfold expN
    rw [if_neg (by omega), if_pos (by omega)]
    simp [u8c]
  go_enter Tryz.func135, Tryz.ntmps135
  go_wp2_with (at_builtin; refine wpList_append_own _ rfl _ _ 73 rfl B 5 i0 (.int .u8 0) 1 1 Tryz.underlying73 hi hz0 hz1 hz2 rfl (by decide) _ _ _ rfl (o0.alloc _) ⟨w0.heap.size, 0, none⟩ 1 1 [.int .u8 d] rfl rfl (cells_new _ _ _) (by intro u hu; simp at hu; first | (rcases hu with rfl | rfl | rfl <;> rfl) | (rcases hu with rfl | rfl <;> rfl) | (subst hu; rfl)) (by unfold maxLen; omega) (by omega) (by simp; omega) ?_)
  intro v1 w1 o1 g1 _
  have k1 := k0.trans (kept_append o0 (grown_of_alloc g1) (by have := k0.le; omega))
  have s1 : B ≤ w1.heap.size := Nat.le_trans hBw k1.le
  clear g1
  go_wp2_with (at_builtin; refine wpList_append_own _ rfl _ _ 73 rfl B 5 i0 (.int .u8 0) 1 1 Tryz.underlying73 hi hz0 hz1 hz2 rfl (by decide) _ _ _ rfl (o1.alloc _) ⟨w1.heap.size, 0, none⟩ 1 1 [.int .u8 101] rfl rfl (cells_new _ _ _) (by intro u hu; simp at hu; first | (rcases hu with rfl | rfl | rfl <;> rfl) | (rcases hu with rfl | rfl <;> rfl) | (subst hu; rfl)) (by unfold maxLen; omega) (by omega) (by simp; omega) ?_)
  intro v2 w2 o2 g2 _
  have k2 := k1.trans (kept_append o1 (grown_of_alloc g2) (by have := k1.le; omega))
  have s2 : B ≤ w2.heap.size := Nat.le_trans hBw k2.le
  clear g2
  go_wp2_with (at_builtin; refine wpList_append_own _ rfl _ _ 73 rfl B 5 i0 (.int .u8 0) 1 1 Tryz.underlying73 hi hz0 hz1 hz2 rfl (by decide) _ _ _ rfl (o2.alloc _) ⟨w2.heap.size, 0, none⟩ 1 1 [.int .u8 43] rfl rfl (cells_new _ _ _) (by intro u hu; simp at hu; first | (rcases hu with rfl | rfl | rfl <;> rfl) | (rcases hu with rfl | rfl <;> rfl) | (subst hu; rfl)) (by unfold maxLen; omega) (by omega) (by simp; omega) ?_)
  intro v3 w3 o3 g3 _
  have k3 := k2.trans (kept_append o2 (grown_of_alloc g3) (by have := k2.le; omega))
  have s3 : B ≤ w3.heap.size := Nat.le_trans hBw k3.le
  clear g3
  go_wp2_with (at_builtin; refine wpList_append_own _ rfl _ _ 73 rfl B 5 i0 (.int .u8 0) 1 1 Tryz.underlying73 hi hz0 hz1 hz2 rfl (by decide) _ _ _ rfl (o3.alloc _) ⟨w3.heap.size, 0, none⟩ 2 2 [.int .u8 ((dp - 1) / 10 + 48), .int .u8 ((dp - 1) % 10 + 48)] rfl rfl (cells_new _ _ _) (by intro u hu; simp at hu; first | (rcases hu with rfl | rfl | rfl <;> rfl) | (rcases hu with rfl | rfl <;> rfl) | (subst hu; rfl)) (by unfold maxLen; omega) (by omega) (by simp; omega) ?_)
  intro v4 w4 o4 g4 _
  have k4 := k3.trans (kept_append o3 (grown_of_alloc g4) (by have := k3.le; omega))
  have s4 : B ≤ w4.heap.size := Nat.le_trans hBw k4.le
  clear g4
  go_wp2
  go_ret
  refine ⟨_, rfl, ?_, k4⟩
  have e1 : fmtN [d] (dp - 1) = [d, 101] ++ expS (dp - 1) := rfl
  have e2 : (expS (dp - 1)).length = 1 + 2 := by rw [← u8c_length, HX.out]; rfl
  rw [e1, u8c_append, HX.out, List.length_append, e2]
  exact o4

set_option maxHeartbeats 1000000 in
set_option maxRecDepth 100000 in
theorem fmtE_one_pos3 (B g : Nat) (v0 : Value) (dp : Int) (w0 : World) (o0 : w0.ownsRow B 5 1 v0 0 []) (hBw : B ≤ w0.heap.size) (h1 : 0 ≤ dp - 1) (h2 : 100 ≤ (dp - 1) ∧ (dp - 1) < 1000) (d : Nat) (hd : d < 256) (hc : w0.cell? ⟨g, 0, none⟩ = some (.int .u8 d)) :
    Calls Tryz.prog 135 #[v0, .bool false, .slice (some ⟨g, 0, none⟩) 32 32, .int .i64 dp, .int .i64 1, .int .i64 0, .int .u8 101, .bool true] w0 fun e w' => ∃ v', e = .returned v' ∧ w'.ownsRow B 5 1 v' (fmtN [d] (dp - 1)).length (u8c (fmtN [d] (dp - 1))) ∧ Kept B 5 w0 w' := by
  obtain ⟨i0, hi, hz0, hz1, hz2⟩ := info_parts info8
  have k0 := Kept.refl B 5 w0
  have s0 : B ≤ w0.heap.size := hBw
  have HX : Hid (u8c (expS (dp - 1)) = (.int .u8 43) :: [.int .u8 ((dp - 1) / 100 + 48), .int .u8 ((dp - 1) / 10 % 10 + 48), .int .u8 ((dp - 1) % 10 + 48)]) := by
    obtain ⟨n, hn⟩ : ∃ n : Nat, (dp - 1) = (n : Int) := ⟨((dp - 1)).toNat, by omega⟩
    show _ = _
    unfold expS
    rw [if_neg (by omega), hn]
    unfold expN
    rw [if_neg (by omega), if_neg (by omega)]
    simp [u8c]
  go_enter Tryz.func135, Tryz.ntmps135
  go_wp2_with (at_builtin; refine wpList_append_own _ rfl _ _ 73 rfl B 5 i0 (.int .u8 0) 1 1 Tryz.underlying73 hi hz0 hz1 hz2 rfl (by decide) _ _ _ rfl (o0.alloc _) ⟨w0.heap.size, 0, none⟩ 1 1 [.int .u8 d] rfl rfl (cells_new _ _ _) (by intro u hu; simp at hu; first | (rcases hu with rfl | rfl | rfl <;> rfl) | (rcases hu with rfl | rfl <;> rfl) | (subst hu; rfl)) (by unfold maxLen; omega) (by omega) (by simp; omega) ?_)
  intro v1 w1 o1 g1 _
  have k1 := k0.trans (kept_append o0 (grown_of_alloc g1) (by have := k0.le; omega))
  have s1 : B ≤ w1.heap.size := Nat.le_trans hBw k1.le
  clear g1
  go_wp2_with (at_builtin; refine wpList_append_own _ rfl _ _ 73 rfl B 5 i0 (.int .u8 0) 1 1 Tryz.underlying73 hi hz0 hz1 hz2 rfl (by decide) _ _ _ rfl (o1.alloc _) ⟨w1.heap.size, 0, none⟩ 1 1 [.int .u8 101] rfl rfl (cells_new _ _ _) (by intro u hu; simp at hu; first | (rcases hu with rfl | rfl | rfl <;> rfl) | (rcases hu with rfl | rfl <;> rfl) | (subst hu; rfl)) (by unfold maxLen; omega) (by omega) (by simp; omega) ?_)
  intro v2 w2 o2 g2 _
  have k2 := k1.trans (kept_append o1 (grown_of_alloc g2) (by have := k1.le; omega))
  have s2 : B ≤ w2.heap.size := Nat.le_trans hBw k2.le
  clear g2
  go_wp2_with (at_builtin; refine wpList_append_own _ rfl _ _ 73 rfl B 5 i0 (.int .u8 0) 1 1 Tryz.underlying73 hi hz0 hz1 hz2 rfl (by decide) _ _ _ rfl (o2.alloc _) ⟨w2.heap.size, 0, none⟩ 1 1 [.int .u8 43] rfl rfl (cells_new _ _ _) (by intro u hu; simp at hu; first | (rcases hu with rfl | rfl | rfl <;> rfl) | (rcases hu with rfl | rfl <;> rfl) | (subst hu; rfl)) (by unfold maxLen; omega) (by omega) (by simp; omega) ?_)
  intro v3 w3 o3 g3 _
  have k3 := k2.trans (kept_append o2 (grown_of_alloc g3) (by have := k2.le; omega))
  have s3 : B ≤ w3.heap.size := Nat.le_trans hBw k3.le
  clear g3
  go_wp2_with (at_builtin; refine wpList_append_own _ rfl _ _ 73 rfl B 5 i0 (.int .u8 0) 1 1 Tryz.underlying73 hi hz0 hz1 hz2 rfl (by decide) _ _ _ rfl (o3.alloc _) ⟨w3.heap.size, 0, none⟩ 3 3 [.int .u8 ((dp - 1) / 100 + 48), .int .u8 ((dp - 1) / 10 % 10 + 48), .int .u8 ((dp - 1) % 10 + 48)] rfl rfl (cells_new _ _ _) (by intro u hu; simp at hu; first | (rcases hu with rfl | rfl | rfl <;> rfl) | (rcases hu with rfl | rfl <;> rfl) | (subst hu; rfl)) (by unfold maxLen; omega) (by omega) (by simp; omega) ?_)
  intro v4 w4 o4 g4 _
  have k4 := k3.trans (kept_append o3 (grown_of_alloc g4) (by have := k3.le; omega))
  have s4 : B ≤ w4.heap.size := Nat.le_trans hBw k4.le
  clear g4
  go_wp2
  go_ret
  refine ⟨_, rfl, ?_, k4⟩
  have e1 : fmtN [d] (dp - 1) = [d, 101] ++ expS (dp - 1) := rfl
  have e2 : (expS (dp - 1)).length = 1 + 3 := by rw [← u8c_length, HX.out]; rfl
  rw [e1, u8c_append, HX.out, List.length_append, e2]
  exact o4
section
open Go.RowKit Fl

set_option maxHeartbeats 1000000 in
set_option maxRecDepth 100000 in
theorem fmtE_more_neg1 (B g : Nat) (v0 : Value) (dp : Int) (w0 : World) (o0 : w0.ownsRow B 5 1 v0 0 []) (hBw : B ≤ w0.heap.size) (h1 : dp - 1 < 0) (x : Int) (hx : -(dp - 1) = x) (h2 : x < 10) (d m : Nat) (r : List Nat) (HM : Hid (r.length = m)) (hr : 1 ≤ m) (hr2 : m ≤ 19) (hd : d < 256) (hc : w0.cell? ⟨g, 0, none⟩ = some (.int .u8 d)) (hcr : ∀ j u, (u8c r)[j]? = some u → w0.cell? ⟨g, 1 + j, none⟩ = some u) (cs : Array Value) (fz : Nat × Nat) (hg : w0.heap[g]? = some (.cells cs 151 fz)) :
    Calls Tryz.prog 135 #[v0, .bool false, .slice (some ⟨g, 0, none⟩) 32 32, .int .i64 dp, .int .i64 ((m : Int) + 1), .int .i64 (m : Int), .int .u8 101, .bool true] w0 fun e w' => ∃ v', e = .returned v' ∧ w'.ownsRow B 5 1 v' (fmtN (d :: r) (dp - 1)).length (u8c (fmtN (d :: r) (dp - 1))) ∧ Kept B 5 w0 w' := by
  obtain ⟨i0, hi, hz0, hz1, hz2⟩ := info_parts info8
  have k0 := Kept.refl B 5 w0
  have s0 : B ≤ w0.heap.size := hBw
  have HX : Hid (u8c (expS (dp - 1)) = (.int .u8 45) :: [.int .u8 48, .int .u8 (x + 48)]) := by
    obtain ⟨n, hn⟩ : ∃ n : Nat, x = (n : Int) := ⟨(x).toNat, by omega⟩
    show _ = _
    unfold expS
    rw [if_pos (by omega), hx, hn]
    unfold expN
    rw [if_pos (by omega)]
    simp [u8c]
  have HR := Hid.mk' hcr
  have HG := Hid.mk' hg
  clear hcr hg
  have q1 : ((m : Int) + 1 != 0) = true := by rw [bne_iff_ne]; omega
  have q2 : ((m : Int) + 1 == 0) = false := by rw [beq_eq_false_iff_ne]; omega
  go_enter Tryz.func135, Tryz.ntmps135
  go_wp2_with (at_builtin; refine wpList_append_own _ rfl _ _ 73 rfl B 5 i0 (.int .u8 0) 1 1 Tryz.underlying73 hi hz0 hz1 hz2 rfl (by decide) _ _ _ rfl (o0.alloc _) ⟨w0.heap.size, 0, none⟩ 1 1 [.int .u8 d] rfl rfl (cells_new _ _ _) (by intro u hu; simp at hu; first | (rcases hu with rfl | rfl | rfl <;> rfl) | (rcases hu with rfl | rfl <;> rfl) | (subst hu; rfl)) (by unfold maxLen; omega) (by omega) (by simp; omega) ?_)
  intro v1 w1 o1 g1 _
  have k1 := k0.trans (kept_append o0 (grown_of_alloc g1) (by have := k0.le; omega))
  have s1 : B ≤ w1.heap.size := Nat.le_trans hBw k1.le
  clear g1
  go_wp2_with (at_builtin; refine wpList_append_own _ rfl _ _ 73 rfl B 5 i0 (.int .u8 0) 1 1 Tryz.underlying73 hi hz0 hz1 hz2 rfl (by decide) _ _ _ rfl (o1.alloc _) ⟨w1.heap.size, 0, none⟩ 1 1 [.int .u8 46] rfl rfl (cells_new _ _ _) (by intro u hu; simp at hu; first | (rcases hu with rfl | rfl | rfl <;> rfl) | (rcases hu with rfl | rfl <;> rfl) | (subst hu; rfl)) (by unfold maxLen; omega) (by omega) (by simp; omega) ?_)
  intro v2 w2 o2 g2 _
  have k2 := k1.trans (kept_append o1 (grown_of_alloc g2) (by have := k1.le; omega))
  have s2 : B ≤ w2.heap.size := Nat.le_trans hBw k2.le
  clear g2
  go_wp2_with (at_builtin; refine wpList_append_own _ rfl _ _ 73 rfl B 5 i0 (.int .u8 0) 1 1 Tryz.underlying73 hi hz0 hz1 hz2 rfl (by decide) _ _ _ rfl o2 ⟨g, 1, none⟩ m 31 (u8c r) ?a1 ?a2 ?a3 (oneCell_u8c r) (by unfold maxLen; omega) (by omega) s2 ?_)
  case a1 => rfl
  case a2 => rw [u8c_length, HM.out]; omega
  case a3 =>
    intro j u hj
    have := HR.out j u hj
    rw [Lib.add_plain, cell_of_heap HG.out (kept_heap k2 HG.out (by decide)) (1 + j)]
    exact this
  intro v3 w3 o3 g3 _
  have k3 := k2.trans (kept_append o2 g3 s2)
  have s3 : B ≤ w3.heap.size := Nat.le_trans hBw k3.le
  clear g3
  go_wp2
  go_loop [0, 114] (fun u v => u = v3 ∧ v = .int .i64 0) (fun _ _ => 0)
  case atStart => exact ⟨rfl, rfl⟩
  case round =>
    obtain ⟨rfl, rfl⟩ := hrel
    go_wp2_with (at_builtin; refine wpList_append_own _ rfl _ _ 73 rfl B 5 i0 (.int .u8 0) 1 1 Tryz.underlying73 hi hz0 hz1 hz2 rfl (by decide) _ _ _ rfl (o3.alloc _) ⟨w3.heap.size, 0, none⟩ 1 1 [.int .u8 101] rfl rfl (cells_new _ _ _) (by intro u hu; simp at hu; first | (rcases hu with rfl | rfl | rfl <;> rfl) | (rcases hu with rfl | rfl <;> rfl) | (subst hu; rfl)) (by unfold maxLen; omega) (by omega) (by simp; omega) ?_)
    intro v4 w4 o4 g4 _
    have k4 := k3.trans (kept_append o3 (grown_of_alloc g4) (by have := k3.le; omega))
    have s4 : B ≤ w4.heap.size := Nat.le_trans hBw k4.le
    clear g4
    go_wp2_with (at_builtin; refine wpList_append_own _ rfl _ _ 73 rfl B 5 i0 (.int .u8 0) 1 1 Tryz.underlying73 hi hz0 hz1 hz2 rfl (by decide) _ _ _ rfl (o4.alloc _) ⟨w4.heap.size, 0, none⟩ 1 1 [.int .u8 45] rfl rfl (cells_new _ _ _) (by intro u hu; simp at hu; first | (rcases hu with rfl | rfl | rfl <;> rfl) | (rcases hu with rfl | rfl <;> rfl) | (subst hu; rfl)) (by unfold maxLen; omega) (by omega) (by simp; omega) ?_)
    intro v5 w5 o5 g5 _
    have k5 := k4.trans (kept_append o4 (grown_of_alloc g5) (by have := k4.le; omega))
    have s5 : B ≤ w5.heap.size := Nat.le_trans hBw k5.le
    clear g5
    go_wp2_with (at_builtin; refine wpList_append_own _ rfl _ _ 73 rfl B 5 i0 (.int .u8 0) 1 1 Tryz.underlying73 hi hz0 hz1 hz2 rfl (by decide) _ _ _ rfl (o5.alloc _) ⟨w5.heap.size, 0, none⟩ 2 2 [.int .u8 48, .int .u8 (x + 48)] rfl rfl (cells_new _ _ _) (by intro u hu; simp at hu; first | (rcases hu with rfl | rfl | rfl <;> rfl) | (rcases hu with rfl | rfl <;> rfl) | (subst hu; rfl)) (by unfold maxLen; omega) (by omega) (by simp; omega) ?_)
    intro v6 w6 o6 g6 _
    have k6 := k5.trans (kept_append o5 (grown_of_alloc g6) (by have := k5.le; omega))
    have s6 : B ≤ w6.heap.size := Nat.le_trans hBw k6.le
    clear g6
    go_wp2
    go_ret
    refine ⟨_, rfl, ?_, k6⟩
    have e1 : fmtN (d :: r) (dp - 1) = [d, 46] ++ r ++ (101 :: expS (dp - 1)) := by cases r with
      | nil => have := HM.out; simp at this; omega
      | cons a b => rfl
    have e2 : (expS (dp - 1)).length = 1 + 2 := by rw [← u8c_length, HX.out]; rfl
    have e3 : u8c (101 :: expS (dp - 1)) = (.int .u8 101) :: (.int .u8 45) :: [.int .u8 48, .int .u8 (x + 48)] := by show _ :: u8c (expS (dp - 1)) = _; rw [HX.out]; rfl
    exact own_eq o6 (by rw [e1]; simp only [List.length_append, List.length_cons, List.length_nil, e2, HM.out]; try omega) (by rw [e1, u8c_append, e3, u8c_append]; simp [u8c])

set_option maxHeartbeats 1000000 in
set_option maxRecDepth 100000 in
theorem fmtE_more_neg2 (B g : Nat) (v0 : Value) (dp : Int) (w0 : World) (o0 : w0.ownsRow B 5 1 v0 0 []) (hBw : B ≤ w0.heap.size) (h1 : dp - 1 < 0) (x : Int) (hx : -(dp - 1) = x) (h2 : 10 ≤ x ∧ x < 100) (d m : Nat) (r : List Nat) (HM : Hid (r.length = m)) (hr : 1 ≤ m) (hr2 : m ≤ 19) (hd : d < 256) (hc : w0.cell? ⟨g, 0, none⟩ = some (.int .u8 d)) (hcr : ∀ j u, (u8c r)[j]? = some u → w0.cell? ⟨g, 1 + j, none⟩ = some u) (cs : Array Value) (fz : Nat × Nat) (hg : w0.heap[g]? = some (.cells cs 151 fz)) :
    Calls Tryz.prog 135 #[v0, .bool false, .slice (some ⟨g, 0, none⟩) 32 32, .int .i64 dp, .int .i64 ((m : Int) + 1), .int .i64 (m : Int), .int .u8 101, .bool true] w0 fun e w' => ∃ v', e = .returned v' ∧ w'.ownsRow B 5 1 v' (fmtN (d :: r) (dp - 1)).length (u8c (fmtN (d :: r) (dp - 1))) ∧ Kept B 5 w0 w' := by
  obtain ⟨i0, hi, hz0, hz1, hz2⟩ := info_parts info8
  have k0 := Kept.refl B 5 w0
  have s0 : B ≤ w0.heap.size := hBw
  have HX : Hid (u8c (expS (dp - 1)) = (.int .u8 45) :: [.int .u8 (x / 10 + 48), .int .u8 (x % 10 + 48)]) := by
    obtain ⟨n, hn⟩ : ∃ n : Nat, x = (n : Int) := ⟨(x).toNat, by omega⟩
    show _ = _
    unfold expS
    rw [if_pos (by omega), hx, hn]
    unfold expN
    rw [if_neg (by omega), if_pos (by omega)]
    simp [u8c]
  have HR := Hid.mk' hcr
  have HG := Hid.mk' hg
  clear hcr hg
  have q1 : ((m : Int) + 1 != 0) = true := by rw [bne_iff_ne]; omega
  have q2 : ((m : Int) + 1 == 0) = false := by rw [beq_eq_false_iff_ne]; omega
  go_enter Tryz.func135, Tryz.ntmps135
  go_wp2_with (at_builtin; refine wpList_append_own _ rfl _ _ 73 rfl B 5 i0 (.int .u8 0) 1 1 Tryz.underlying73 hi hz0 hz1 hz2 rfl (by decide) _ _ _ rfl (o0.alloc _) ⟨w0.heap.size, 0, none⟩ 1 1 [.int .u8 d] rfl rfl (cells_new _ _ _) (by intro u hu; simp at hu; first | (rcases hu with rfl | rfl | rfl <;> rfl) | (rcases hu with rfl | rfl <;> rfl) | (subst hu; rfl)) (by unfold maxLen; omega) (by omega) (by simp; omega) ?_)
  intro v1 w1 o1 g1 _
  have k1 := k0.trans (kept_append o0 (grown_of_alloc g1) (by have := k0.le; omega))
  have s1 : B ≤ w1.heap.size := Nat.le_trans hBw k1.le
  clear g1
  go_wp2_with (at_builtin; refine wpList_append_own _ rfl _ _ 73 rfl B 5 i0 (.int .u8 0) 1 1 Tryz.underlying73 hi hz0 hz1 hz2 rfl (by decide) _ _ _ rfl (o1.alloc _) ⟨w1.heap.size, 0, none⟩ 1 1 [.int .u8 46] rfl rfl (cells_new _ _ _) (by intro u hu; simp at hu; first | (rcases hu with rfl | rfl | rfl <;> rfl) | (rcases hu with rfl | rfl <;> rfl) | (subst hu; rfl)) (by unfold maxLen; omega) (by omega) (by simp; omega) ?_)
  intro v2 w2 o2 g2 _
  have k2 := k1.trans (kept_append o1 (grown_of_alloc g2) (by have := k1.le; omega))
  have s2 : B ≤ w2.heap.size := Nat.le_trans hBw k2.le
  clear g2
  go_wp2_with (at_builtin; refine wpList_append_own _ rfl _ _ 73 rfl B 5 i0 (.int .u8 0) 1 1 Tryz.underlying73 hi hz0 hz1 hz2 rfl (by decide) _ _ _ rfl o2 ⟨g, 1, none⟩ m 31 (u8c r) ?a1 ?a2 ?a3 (oneCell_u8c r) (by unfold maxLen; omega) (by omega) s2 ?_)
  case a1 => rfl
  case a2 => rw [u8c_length, HM.out]; omega
  case a3 =>
    intro j u hj
    have := HR.out j u hj
    rw [Lib.add_plain, cell_of_heap HG.out (kept_heap k2 HG.out (by decide)) (1 + j)]
    exact this
  intro v3 w3 o3 g3 _
  have k3 := k2.trans (kept_append o2 g3 s2)
  have s3 : B ≤ w3.heap.size := Nat.le_trans hBw k3.le
  clear g3
  go_wp2
  go_loop [0, 114] (fun u v => u = v3 ∧ v = .int .i64 0) (fun _ _ => 0)
  case atStart => exact ⟨rfl, rfl⟩
  case round =>
    obtain ⟨rfl, rfl⟩ := hrel
    go_wp2_with (at_builtin; refine wpList_append_own _ rfl _ _ 73 rfl B 5 i0 (.int .u8 0) 1 1 Tryz.underlying73 hi hz0 hz1 hz2 rfl (by decide) _ _ _ rfl (o3.alloc _) ⟨w3.heap.size, 0, none⟩ 1 1 [.int .u8 101] rfl rfl (cells_new _ _ _) (by intro u hu; simp at hu; first | (rcases hu with rfl | rfl | rfl <;> rfl) | (rcases hu with rfl | rfl <;> rfl) | (subst hu; rfl)) (by unfold maxLen; omega) (by omega) (by simp; omega) ?_)
    intro v4 w4 o4 g4 _
    have k4 := k3.trans (kept_append o3 (grown_of_alloc g4) (by have := k3.le; omega))
    have s4 : B ≤ w4.heap.size := Nat.le_trans hBw k4.le
    clear g4
    go_wp2_with (at_builtin; refine wpList_append_own _ rfl _ _ 73 rfl B 5 i0 (.int .u8 0) 1 1 Tryz.underlying73 hi hz0 hz1 hz2 rfl (by decide) _ _ _ rfl (o4.alloc _) ⟨w4.heap.size, 0, none⟩ 1 1 [.int .u8 45] rfl rfl (cells_new _ _ _) (by intro u hu; simp at hu; first | (rcases hu with rfl | rfl | rfl <;> rfl) | (rcases hu with rfl | rfl <;> rfl) | (subst hu; rfl)) (by unfold maxLen; omega) (by omega) (by simp; omega) ?_)
    intro v5 w5 o5 g5 _
    have k5 := k4.trans (kept_append o4 (grown_of_alloc g5) (by have := k4.le; omega))
    have s5 : B ≤ w5.heap.size := Nat.le_trans hBw k5.le
    clear g5
    go_wp2_with (at_builtin; refine wpList_append_own _ rfl _ _ 73 rfl B 5 i0 (.int .u8 0) 1 1 Tryz.underlying73 hi hz0 hz1 hz2 rfl (by decide) _ _ _ rfl (o5.alloc _) ⟨w5.heap.size, 0, none⟩ 2 2 [.int .u8 (x / 10 + 48), .int .u8 (x % 10 + 48)] rfl rfl (cells_new _ _ _) (by intro u hu; simp at hu; first | (rcases hu with rfl | rfl | rfl <;> rfl) | (rcases hu with rfl | rfl <;> rfl) | (subst hu; rfl)) (by unfold maxLen; omega) (by omega) (by simp; omega) ?_)
    intro v6 w6 o6 g6 _
    have k6 := k5.trans (kept_append o5 (grown_of_alloc g6) (by have := k5.le; omega))
    have s6 : B ≤ w6.heap.size := Nat.le_trans hBw k6.le
    clear g6
    go_wp2
    go_ret
    refine ⟨_, rfl, ?_, k6⟩
    have e1 : fmtN (d :: r) (dp - 1) = [d, 46] ++ r ++ (101 :: expS (dp - 1)) := by cases r with
      | nil => have := HM.out; simp at this; omega
      | cons a b => rfl
    have e2 : (expS (dp - 1)).length = 1 + 2 := by rw [← u8c_length, HX.out]; rfl
    have e3 : u8c (101 :: expS (dp - 1)) = (.int .u8 101) :: (.int .u8 45) :: [.int .u8 (x / 10 + 48), .int .u8 (x % 10 + 48)] := by show _ :: u8c (expS (dp - 1)) = _; rw [HX.out]; rfl
    exact own_eq o6 (by rw [e1]; simp only [List.length_append, List.length_cons, List.length_nil, e2, HM.out]; try omega) (by rw [e1, u8c_append, e3, u8c_append]; simp [u8c])

set_option maxHeartbeats 1000000 in
set_option maxRecDepth 100000 in
theorem fmtE_more_neg3 (B g : Nat) (v0 : Value) (dp : Int) (w0 : World) (o0 : w0.ownsRow B 5 1 v0 0 []) (hBw : B ≤ w0.heap.size) (h1 : dp - 1 < 0) (x : Int) (hx : -(dp - 1) = x) (h2 : 100 ≤ x ∧ x < 1000) (d m : Nat) (r : List Nat) (HM : Hid (r.length = m)) (hr : 1 ≤ m) (hr2 : m ≤ 19) (hd : d < 256) (hc : w0.cell? ⟨g, 0, none⟩ = some (.int .u8 d)) (hcr : ∀ j u, (u8c r)[j]? = some u → w0.cell? ⟨g, 1 + j, none⟩ = some u) (cs : Array Value) (fz : Nat × Nat) (hg : w0.heap[g]? = some (.cells cs 151 fz)) :
    Calls Tryz.prog 135 #[v0, .bool false, .slice (some ⟨g, 0, none⟩) 32 32, .int .i64 dp, .int .i64 ((m : Int) + 1), .int .i64 (m : Int), .int .u8 101, .bool true] w0 fun e w' => ∃ v', e = .returned v' ∧ w'.ownsRow B 5 1 v' (fmtN (d :: r) (dp - 1)).length (u8c (fmtN (d :: r) (dp - 1))) ∧ Kept B 5 w0 w' := by
  obtain ⟨i0, hi, hz0, hz1, hz2⟩ := info_parts info8
  have k0 := Kept.refl B 5 w0
  have s0 : B ≤ w0.heap.size := hBw
  have HX : Hid (u8c (expS (dp - 1)) = (.int .u8 45) :: [.int .u8 (x / 100 + 48), .int .u8 (x / 10 % 10 + 48), .int .u8 (x % 10 + 48)]) := by
    obtain ⟨n, hn⟩ : ∃ n : Nat, x = (n : Int) := ⟨(x).toNat, by omega⟩
    show _ = _
    unfold expS
    rw [if_pos (by omega), hx, hn]
    unfold expN
    rw [if_neg (by omega), if_neg (by omega)]
    simp [u8c]
  have HR := Hid.mk' hcr
  have HG := Hid.mk' hg
  clear hcr hg
  have q1 : ((m : Int) + 1 != 0) = true := by rw [bne_iff_ne]; omega
  have q2 : ((m : Int) + 1 == 0) = false := by rw [beq_eq_false_iff_ne]; omega
  go_enter Tryz.func135, Tryz.ntmps135
  go_wp2_with (at_builtin; refine wpList_append_own _ rfl _ _ 73 rfl B 5 i0 (.int .u8 0) 1 1 Tryz.underlying73 hi hz0 hz1 hz2 rfl (by decide) _ _ _ rfl (o0.alloc _) ⟨w0.heap.size, 0, none⟩ 1 1 [.int .u8 d] rfl rfl (cells_new _ _ _) (by intro u hu; simp at hu; first | (rcases hu with rfl | rfl | rfl <;> rfl) | (rcases hu with rfl | rfl <;> rfl) | (subst hu; rfl)) (by unfold maxLen; omega) (by omega) (by simp; omega) ?_)
  intro v1 w1 o1 g1 _
  have k1 := k0.trans (kept_append o0 (grown_of_alloc g1) (by have := k0.le; omega))
  have s1 : B ≤ w1.heap.size := Nat.le_trans hBw k1.le
  clear g1
  go_wp2_with (at_builtin; refine wpList_append_own _ rfl _ _ 73 rfl B 5 i0 (.int .u8 0) 1 1 Tryz.underlying73 hi hz0 hz1 hz2 rfl (by decide) _ _ _ rfl (o1.alloc _) ⟨w1.heap.size, 0, none⟩ 1 1 [.int .u8 46] rfl rfl (cells_new _ _ _) (by intro u hu; simp at hu; first | (rcases hu with rfl | rfl | rfl <;> rfl) | (rcases hu with rfl | rfl <;> rfl) | (subst hu; rfl)) (by unfold maxLen; omega) (by omega) (by simp; omega) ?_)
  intro v2 w2 o2 g2 _
  have k2 := k1.trans (kept_append o1 (grown_of_alloc g2) (by have := k1.le; omega))
  have s2 : B ≤ w2.heap.size := Nat.le_trans hBw k2.le
  clear g2
  go_wp2_with (at_builtin; refine wpList_append_own _ rfl _ _ 73 rfl B 5 i0 (.int .u8 0) 1 1 Tryz.underlying73 hi hz0 hz1 hz2 rfl (by decide) _ _ _ rfl o2 ⟨g, 1, none⟩ m 31 (u8c r) ?a1 ?a2 ?a3 (oneCell_u8c r) (by unfold maxLen; omega) (by omega) s2 ?_)
  case a1 => rfl
  case a2 => rw [u8c_length, HM.out]; omega
  case a3 =>
    intro j u hj
    have := HR.out j u hj
    rw [Lib.add_plain, cell_of_heap HG.out (kept_heap k2 HG.out (by decide)) (1 + j)]
    exact this
  intro v3 w3 o3 g3 _
  have k3 := k2.trans (kept_append o2 g3 s2)
  have s3 : B ≤ w3.heap.size := Nat.le_trans hBw k3.le
  clear g3
  go_wp2
  go_loop [0, 114] (fun u v => u = v3 ∧ v = .int .i64 0) (fun _ _ => 0)
  case atStart => exact ⟨rfl, rfl⟩
  case round =>
    obtain ⟨rfl, rfl⟩ := hrel
    go_wp2_with (at_builtin; refine wpList_append_own _ rfl _ _ 73 rfl B 5 i0 (.int .u8 0) 1 1 Tryz.underlying73 hi hz0 hz1 hz2 rfl (by decide) _ _ _ rfl (o3.alloc _) ⟨w3.heap.size, 0, none⟩ 1 1 [.int .u8 101] rfl rfl (cells_new _ _ _) (by intro u hu; simp at hu; first | (rcases hu with rfl | rfl | rfl <;> rfl) | (rcases hu with rfl | rfl <;> rfl) | (subst hu; rfl)) (by unfold maxLen; omega) (by omega) (by simp; omega) ?_)
    intro v4 w4 o4 g4 _
    have k4 := k3.trans (kept_append o3 (grown_of_alloc g4) (by have := k3.le; omega))
    have s4 : B ≤ w4.heap.size := Nat.le_trans hBw k4.le
    clear g4
    go_wp2_with (at_builtin; refine wpList_append_own _ rfl _ _ 73 rfl B 5 i0 (.int .u8 0) 1 1 Tryz.underlying73 hi hz0 hz1 hz2 rfl (by decide) _ _ _ rfl (o4.alloc _) ⟨w4.heap.size, 0, none⟩ 1 1 [.int .u8 45] rfl rfl (cells_new _ _ _) (by intro u hu; simp at hu; first | (rcases hu with rfl | rfl | rfl <;> rfl) | (rcases hu with rfl | rfl <;> rfl) | (subst hu; rfl)) (by unfold maxLen; omega) (by omega) (by simp; omega) ?_)
    intro v5 w5 o5 g5 _
    have k5 := k4.trans (kept_append o4 (grown_of_alloc g5) (by have := k4.le; omega))
    have s5 : B ≤ w5.heap.size := Nat.le_trans hBw k5.le
    clear g5
    go_wp2_with (at_builtin; refine wpList_append_own _ rfl _ _ 73 rfl B 5 i0 (.int .u8 0) 1 1 Tryz.underlying73 hi hz0 hz1 hz2 rfl (by decide) _ _ _ rfl (o5.alloc _) ⟨w5.heap.size, 0, none⟩ 3 3 [.int .u8 (x / 100 + 48), .int .u8 (x / 10 % 10 + 48), .int .u8 (x % 10 + 48)] rfl rfl (cells_new _ _ _) (by intro u hu; simp at hu; first | (rcases hu with rfl | rfl | rfl <;> rfl) | (rcases hu with rfl | rfl <;> rfl) | (subst hu; rfl)) (by unfold maxLen; omega) (by omega) (by simp; omega) ?_)
    intro v6 w6 o6 g6 _
    have k6 := k5.trans (kept_append o5 (grown_of_alloc g6) (by have := k5.le; omega))
    have s6 : B ≤ w6.heap.size := Nat.le_trans hBw k6.le
    clear g6
    go_wp2
    go_ret
    refine ⟨_, rfl, ?_, k6⟩
    have e1 : fmtN (d :: r) (dp - 1) = [d, 46] ++ r ++ (101 :: expS (dp - 1)) := by cases r with
      | nil => have := HM.out; simp at this; omega
      | cons a b => rfl
    have e2 : (expS (dp - 1)).length = 1 + 3 := by rw [← u8c_length, HX.out]; rfl
    have e3 : u8c (101 :: expS (dp - 1)) = (.int .u8 101) :: (.int .u8 45) :: [.int .u8 (x / 100 + 48), .int .u8 (x / 10 % 10 + 48), .int .u8 (x % 10 + 48)] := by show _ :: u8c (expS (dp - 1)) = _; rw [HX.out]; rfl
    exact own_eq o6 (by rw [e1]; simp only [List.length_append, List.length_cons, List.length_nil, e2, HM.out]; try omega) (by rw [e1, u8c_append, e3, u8c_append]; simp [u8c])
end
section
open Go.RowKit Fl

set_option maxHeartbeats 1000000 in
set_option maxRecDepth 100000 in
theorem fmtE_more_pos1 (B g : Nat) (v0 : Value) (dp : Int) (w0 : World) (o0 : w0.ownsRow B 5 1 v0 0 []) (hBw : B ≤ w0.heap.size) (h1 : 0 ≤ dp - 1) (h2 : (dp - 1) < 10) (d m : Nat) (r : List Nat) (HM : Hid (r.length = m)) (hr : 1 ≤ m) (hr2 : m ≤ 19) (hd : d < 256) (hc : w0.cell? ⟨g, 0, none⟩ = some (.int .u8 d)) (hcr : ∀ j u, (u8c r)[j]? = some u → w0.cell? ⟨g, 1 + j, none⟩ = some u) (cs : Array Value) (fz : Nat × Nat) (hg : w0.heap[g]? = some (.cells cs 151 fz)) :
    Calls Tryz.prog 135 #[v0, .bool false, .slice (some ⟨g, 0, none⟩) 32 32, .int .i64 dp, .int .i64 ((m : Int) + 1), .int .i64 (m : Int), .int .u8 101, .bool true] w0 fun e w' => ∃ v', e = .returned v' ∧ w'.ownsRow B 5 1 v' (fmtN (d :: r) (dp - 1)).length (u8c (fmtN (d :: r) (dp - 1))) ∧ Kept B 5 w0 w' := by
  obtain ⟨i0, hi, hz0, hz1, hz2⟩ := info_parts info8
  have k0 := Kept.refl B 5 w0
  have s0 : B ≤ w0.heap.size := hBw
  have HX : Hid (u8c (expS (dp - 1)) = (.int .u8 43) :: [.int .u8 48, .int .u8 ((dp - 1) + 48)]) := by
    obtain ⟨n, hn⟩ : ∃ n : Nat, (dp - 1) = (n : Int) := ⟨((dp - 1)).toNat, by omega⟩
    show _ = _
    unfold expS
    rw [if_neg (by omega), hn]
    unfold expN
    rw [if_pos (by omega)]
    simp [u8c]
  have HR := Hid.mk' hcr
  have HG := Hid.mk' hg
  clear hcr hg
  have q1 : ((m : Int) + 1 != 0) = true := by rw [bne_iff_ne]; omega
  have q2 : ((m : Int) + 1 == 0) = false := by rw [beq_eq_false_iff_ne]; omega
  go_enter Tryz.func135, Tryz.ntmps135
  go_wp2_with (at_builtin; refine wpList_append_own _ rfl _ _ 73 rfl B 5 i0 (.int .u8 0) 1 1 Tryz.underlying73 hi hz0 hz1 hz2 rfl (by decide) _ _ _ rfl (o0.alloc _) ⟨w0.heap.size, 0, none⟩ 1 1 [.int .u8 d] rfl rfl (cells_new _ _ _) (by intro u hu; simp at hu; first | (rcases hu with rfl | rfl | rfl <;> rfl) | (rcases hu with rfl | rfl <;> rfl) | (subst hu; rfl)) (by unfold maxLen; omega) (by omega) (by simp; omega) ?_)
  intro v1 w1 o1 g1 _
  have k1 := k0.trans (kept_append o0 (grown_of_alloc g1) (by have := k0.le; omega))
  have s1 : B ≤ w1.heap.size := Nat.le_trans hBw k1.le
  clear g1
  go_wp2_with (at_builtin; refine wpList_append_own _ rfl _ _ 73 rfl B 5 i0 (.int .u8 0) 1 1 Tryz.underlying73 hi hz0 hz1 hz2 rfl (by decide) _ _ _ rfl (o1.alloc _) ⟨w1.heap.size, 0, none⟩ 1 1 [.int .u8 46] rfl rfl (cells_new _ _ _) (by intro u hu; simp at hu; first | (rcases hu with rfl | rfl | rfl <;> rfl) | (rcases hu with rfl | rfl <;> rfl) | (subst hu; rfl)) (by unfold maxLen; omega) (by omega) (by simp; omega) ?_)
  intro v2 w2 o2 g2 _
  have k2 := k1.trans (kept_append o1 (grown_of_alloc g2) (by have := k1.le; omega))
  have s2 : B ≤ w2.heap.size := Nat.le_trans hBw k2.le
  clear g2
  go_wp2_with (at_builtin; refine wpList_append_own _ rfl _ _ 73 rfl B 5 i0 (.int .u8 0) 1 1 Tryz.underlying73 hi hz0 hz1 hz2 rfl (by decide) _ _ _ rfl o2 ⟨g, 1, none⟩ m 31 (u8c r) ?a1 ?a2 ?a3 (oneCell_u8c r) (by unfold maxLen; omega) (by omega) s2 ?_)
  case a1 => rfl
  case a2 => rw [u8c_length, HM.out]; omega
  case a3 =>
    intro j u hj
    have := HR.out j u hj
    rw [Lib.add_plain, cell_of_heap HG.out (kept_heap k2 HG.out (by decide)) (1 + j)]
    exact this
  intro v3 w3 o3 g3 _
  have k3 := k2.trans (kept_append o2 g3 s2)
  have s3 : B ≤ w3.heap.size := Nat.le_trans hBw k3.le
  clear g3
  go_wp2
  go_loop [0, 114] (fun u v => u = v3 ∧ v = .int .i64 0) (fun _ _ => 0)
  case atStart => exact ⟨rfl, rfl⟩
  case round =>
    obtain ⟨rfl, rfl⟩ := hrel
    go_wp2_with (at_builtin; refine wpList_append_own _ rfl _ _ 73 rfl B 5 i0 (.int .u8 0) 1 1 Tryz.underlying73 hi hz0 hz1 hz2 rfl (by decide) _ _ _ rfl (o3.alloc _) ⟨w3.heap.size, 0, none⟩ 1 1 [.int .u8 101] rfl rfl (cells_new _ _ _) (by intro u hu; simp at hu; first | (rcases hu with rfl | rfl | rfl <;> rfl) | (rcases hu with rfl | rfl <;> rfl) | (subst hu; rfl)) (by unfold maxLen; omega) (by omega) (by simp; omega) ?_)
    intro v4 w4 o4 g4 _
    have k4 := k3.trans (kept_append o3 (grown_of_alloc g4) (by have := k3.le; omega))
    have s4 : B ≤ w4.heap.size := Nat.le_trans hBw k4.le
    clear g4
    go_wp2_with (at_builtin; refine wpList_append_own _ rfl _ _ 73 rfl B 5 i0 (.int .u8 0) 1 1 Tryz.underlying73 hi hz0 hz1 hz2 rfl (by decide) _ _ _ rfl (o4.alloc _) ⟨w4.heap.size, 0, none⟩ 1 1 [.int .u8 43] rfl rfl (cells_new _ _ _) (by intro u hu; simp at hu; first | (rcases hu with rfl | rfl | rfl <;> rfl) | (rcases hu with rfl | rfl <;> rfl) | (subst hu; rfl)) (by unfold maxLen; omega) (by omega) (by simp; omega) ?_)
    intro v5 w5 o5 g5 _
    have k5 := k4.trans (kept_append o4 (grown_of_alloc g5) (by have := k4.le; omega))
    have s5 : B ≤ w5.heap.size := Nat.le_trans hBw k5.le
    clear g5
    go_wp2_with (at_builtin; refine wpList_append_own _ rfl _ _ 73 rfl B 5 i0 (.int .u8 0) 1 1 Tryz.underlying73 hi hz0 hz1 hz2 rfl (by decide) _ _ _ rfl (o5.alloc _) ⟨w5.heap.size, 0, none⟩ 2 2 [.int .u8 48, .int .u8 ((dp - 1) + 48)] rfl rfl (cells_new _ _ _) (by intro u hu; simp at hu; first | (rcases hu with rfl | rfl | rfl <;> rfl) | (rcases hu with rfl | rfl <;> rfl) | (subst hu; rfl)) (by unfold maxLen; omega) (by omega) (by simp; omega) ?_)
    intro v6 w6 o6 g6 _
    have k6 := k5.trans (kept_append o5 (grown_of_alloc g6) (by have := k5.le; omega))
    have s6 : B ≤ w6.heap.size := Nat.le_trans hBw k6.le
    clear g6
    go_wp2
    go_ret
    refine ⟨_, rfl, ?_, k6⟩
    have e1 : fmtN (d :: r) (dp - 1) = [d, 46] ++ r ++ (101 :: expS (dp - 1)) := by cases r with
      | nil => have := HM.out; simp at this; omega
      | cons a b => rfl
    have e2 : (expS (dp - 1)).length = 1 + 2 := by rw [← u8c_length, HX.out]; rfl
    have e3 : u8c (101 :: expS (dp - 1)) = (.int .u8 101) :: (.int .u8 43) :: [.int .u8 48, .int .u8 ((dp - 1) + 48)] := by show _ :: u8c (expS (dp - 1)) = _; rw [HX.out]; rfl
    exact own_eq o6 (by rw [e1]; simp only [List.length_append, List.length_cons, List.length_nil, e2, HM.out]; try omega) (by rw [e1, u8c_append, e3, u8c_append]; simp [u8c])

set_option maxHeartbeats 1000000 in
set_option maxRecDepth 100000 in
theorem fmtE_more_pos2 (B g : Nat) (v0 : Value) (dp : Int) (w0 : World) (o0 : w0.ownsRow B 5 1 v0 0 []) (hBw : B ≤ w0.heap.size) (h1 : 0 ≤ dp - 1) (h2 : 10 ≤ (dp - 1) ∧ (dp - 1) < 100) (d m : Nat) (r : List Nat) (HM : Hid (r.length = m)) (hr : 1 ≤ m) (hr2 : m ≤ 19) (hd : d < 256) (hc : w0.cell? ⟨g, 0, none⟩ = some (.int .u8 d)) (hcr : ∀ j u, (u8c r)[j]? = some u → w0.cell? ⟨g, 1 + j, none⟩ = some u) (cs : Array Value) (fz : Nat × Nat) (hg : w0.heap[g]? = some (.cells cs 151 fz)) :
    Calls Tryz.prog 135 #[v0, .bool false, .slice (some ⟨g, 0, none⟩) 32 32, .int .i64 dp, .int .i64 ((m : Int) + 1), .int .i64 (m : Int), .int .u8 101, .bool true] w0 fun e w' => ∃ v', e = .returned v' ∧ w'.ownsRow B 5 1 v' (fmtN (d :: r) (dp - 1)).length (u8c (fmtN (d :: r) (dp - 1))) ∧ Kept B 5 w0 w' := by
  obtain ⟨i0, hi, hz0, hz1, hz2⟩ := info_parts info8
  have k0 := Kept.refl B 5 w0
  have s0 : B ≤ w0.heap.size := hBw
  have HX : Hid (u8c (expS (dp - 1)) = (.int .u8 43) :: [.int .u8 ((dp - 1) / 10 + 48), .int .u8 ((dp - 1) % 10 + 48)]) := by
    obtain ⟨n, hn⟩ : ∃ n : Nat, (dp - 1) = (n : Int) := ⟨((dp - 1)).toNat, by omega⟩
    show _ = _
    unfold expS
    rw [if_neg (by omega), hn]
    unfold expN
    rw [if_neg (by omega), if_pos (by omega)]
    simp [u8c]
  have HR := Hid.mk' hcr
  have HG := Hid.mk' hg
  clear hcr hg
  have q1 : ((m : Int) + 1 != 0) = true := by rw [bne_iff_ne]; omega
  have q2 : ((m : Int) + 1 == 0) = false := by rw [beq_eq_false_iff_ne]; omega
  go_enter Tryz.func135, Tryz.ntmps135
  go_wp2_with (at_builtin; refine wpList_append_own _ rfl _ _ 73 rfl B 5 i0 (.int .u8 0) 1 1 Tryz.underlying73 hi hz0 hz1 hz2 rfl (by decide) _ _ _ rfl (o0.alloc _) ⟨w0.heap.size, 0, none⟩ 1 1 [.int .u8 d] rfl rfl (cells_new _ _ _) (by intro u hu; simp at hu; first | (rcases hu with rfl | rfl | rfl <;> rfl) | (rcases hu with rfl | rfl <;> rfl) | (subst hu; rfl)) (by unfold maxLen; omega) (by omega) (by simp; omega) ?_)
  intro v1 w1 o1 g1 _
  have k1 := k0.trans (kept_append o0 (grown_of_alloc g1) (by have := k0.le; omega))
  have s1 : B ≤ w1.heap.size := Nat.le_trans hBw k1.le
  clear g1
  go_wp2_with (at_builtin; refine wpList_append_own _ rfl _ _ 73 rfl B 5 i0 (.int .u8 0) 1 1 Tryz.underlying73 hi hz0 hz1 hz2 rfl (by decide) _ _ _ rfl (o1.alloc _) ⟨w1.heap.size, 0, none⟩ 1 1 [.int .u8 46] rfl rfl (cells_new _ _ _) (by intro u hu; simp at hu; first | (rcases hu with rfl | rfl | rfl <;> rfl) | (rcases hu with rfl | rfl <;> rfl) | (subst hu; rfl)) (by unfold maxLen; omega) (by omega) (by simp; omega) ?_)
  intro v2 w2 o2 g2 _
  have k2 := k1.trans (kept_append o1 (grown_of_alloc g2) (by have := k1.le; omega))
  have s2 : B ≤ w2.heap.size := Nat.le_trans hBw k2.le
  clear g2
  go_wp2_with (at_builtin; refine wpList_append_own _ rfl _ _ 73 rfl B 5 i0 (.int .u8 0) 1 1 Tryz.underlying73 hi hz0 hz1 hz2 rfl (by decide) _ _ _ rfl o2 ⟨g, 1, none⟩ m 31 (u8c r) ?a1 ?a2 ?a3 (oneCell_u8c r) (by unfold maxLen; omega) (by omega) s2 ?_)
  case a1 => rfl
  case a2 => rw [u8c_length, HM.out]; omega
  case a3 =>
    intro j u hj
    have := HR.out j u hj
    rw [Lib.add_plain, cell_of_heap HG.out (kept_heap k2 HG.out (by decide)) (1 + j)]
    exact this
  intro v3 w3 o3 g3 _
  have k3 := k2.trans (kept_append o2 g3 s2)
  have s3 : B ≤ w3.heap.size := Nat.le_trans hBw k3.le
  clear g3
  go_wp2
  go_loop [0, 114] (fun u v => u = v3 ∧ v = .int .i64 0) (fun _ _ => 0)
  case atStart => exact ⟨rfl, rfl⟩
  case round =>
    obtain ⟨rfl, rfl⟩ := hrel
    go_wp2_with (at_builtin; refine wpList_append_own _ rfl _ _ 73 rfl B 5 i0 (.int .u8 0) 1 1 Tryz.underlying73 hi hz0 hz1 hz2 rfl (by decide) _ _ _ rfl (o3.alloc _) ⟨w3.heap.size, 0, none⟩ 1 1 [.int .u8 101] rfl rfl (cells_new _ _ _) (by intro u hu; simp at hu; first | (rcases hu with rfl | rfl | rfl <;> rfl) | (rcases hu with rfl | rfl <;> rfl) | (subst hu; rfl)) (by unfold maxLen; omega) (by omega) (by simp; omega) ?_)
    intro v4 w4 o4 g4 _
    have k4 := k3.trans (kept_append o3 (grown_of_alloc g4) (by have := k3.le; omega))
    have s4 : B ≤ w4.heap.size := Nat.le_trans hBw k4.le
    clear g4
    go_wp2_with (at_builtin; refine wpList_append_own _ rfl _ _ 73 rfl B 5 i0 (.int .u8 0) 1 1 Tryz.underlying73 hi hz0 hz1 hz2 rfl (by decide) _ _ _ rfl (o4.alloc _) ⟨w4.heap.size, 0, none⟩ 1 1 [.int .u8 43] rfl rfl (cells_new _ _ _) (by intro u hu; simp at hu; first | (rcases hu with rfl | rfl | rfl <;> rfl) | (rcases hu with rfl | rfl <;> rfl) | (subst hu; rfl)) (by unfold maxLen; omega) (by omega) (by simp; omega) ?_)
    intro v5 w5 o5 g5 _
    have k5 := k4.trans (kept_append o4 (grown_of_alloc g5) (by have := k4.le; omega))
    have s5 : B ≤ w5.heap.size := Nat.le_trans hBw k5.le
    clear g5
    go_wp2_with (at_builtin; refine wpList_append_own _ rfl _ _ 73 rfl B 5 i0 (.int .u8 0) 1 1 Tryz.underlying73 hi hz0 hz1 hz2 rfl (by decide) _ _ _ rfl (o5.alloc _) ⟨w5.heap.size, 0, none⟩ 2 2 [.int .u8 ((dp - 1) / 10 + 48), .int .u8 ((dp - 1) % 10 + 48)] rfl rfl (cells_new _ _ _) (by intro u hu; simp at hu; first | (rcases hu with rfl | rfl | rfl <;> rfl) | (rcases hu with rfl | rfl <;> rfl) | (subst hu; rfl)) (by unfold maxLen; omega) (by omega) (by simp; omega) ?_)
    intro v6 w6 o6 g6 _
    have k6 := k5.trans (kept_append o5 (grown_of_alloc g6) (by have := k5.le; omega))
    have s6 : B ≤ w6.heap.size := Nat.le_trans hBw k6.le
    clear g6
    go_wp2
    go_ret
    refine ⟨_, rfl, ?_, k6⟩
    have e1 : fmtN (d :: r) (dp - 1) = [d, 46] ++ r ++ (101 :: expS (dp - 1)) := by cases r with
      | nil => have := HM.out; simp at this; omega
      | cons a b => rfl
    have e2 : (expS (dp - 1)).length = 1 + 2 := by rw [← u8c_length, HX.out]; rfl
    have e3 : u8c (101 :: expS (dp - 1)) = (.int .u8 101) :: (.int .u8 43) :: [.int .u8 ((dp - 1) / 10 + 48), .int .u8 ((dp - 1) % 10 + 48)] := by show _ :: u8c (expS (dp - 1)) = _; rw [HX.out]; rfl
    exact own_eq o6 (by rw [e1]; simp only [List.length_append, List.length_cons, List.length_nil, e2, HM.out]; try omega) (by rw [e1, u8c_append, e3, u8c_append]; simp [u8c])

set_option maxHeartbeats 1000000 in
set_option maxRecDepth 100000 in
theorem fmtE_more_pos3 (B g : Nat) (v0 : Value) (dp : Int) (w0 : World) (o0 : w0.ownsRow B 5 1 v0 0 []) (hBw : B ≤ w0.heap.size) (h1 : 0 ≤ dp - 1) (h2 : 100 ≤ (dp - 1) ∧ (dp - 1) < 1000) (d m : Nat) (r : List Nat) (HM : Hid (r.length = m)) (hr : 1 ≤ m) (hr2 : m ≤ 19) (hd : d < 256) (hc : w0.cell? ⟨g, 0, none⟩ = some (.int .u8 d)) (hcr : ∀ j u, (u8c r)[j]? = some u → w0.cell? ⟨g, 1 + j, none⟩ = some u) (cs : Array Value) (fz : Nat × Nat) (hg : w0.heap[g]? = some (.cells cs 151 fz)) :
    Calls Tryz.prog 135 #[v0, .bool false, .slice (some ⟨g, 0, none⟩) 32 32, .int .i64 dp, .int .i64 ((m : Int) + 1), .int .i64 (m : Int), .int .u8 101, .bool true] w0 fun e w' => ∃ v', e = .returned v' ∧ w'.ownsRow B 5 1 v' (fmtN (d :: r) (dp - 1)).length (u8c (fmtN (d :: r) (dp - 1))) ∧ Kept B 5 w0 w' := by
  obtain ⟨i0, hi, hz0, hz1, hz2⟩ := info_parts info8
  have k0 := Kept.refl B 5 w0
  have s0 : B ≤ w0.heap.size := hBw
  have HX : Hid (u8c (expS (dp - 1)) = (.int .u8 43) :: [.int .u8 ((dp - 1) / 100 + 48), .int .u8 ((dp - 1) / 10 % 10 + 48), .int .u8 ((dp - 1) % 10 + 48)]) := by
    obtain ⟨n, hn⟩ : ∃ n : Nat, (dp - 1) = (n : Int) := ⟨((dp - 1)).toNat, by omega⟩
    show _ = _
    unfold expS
    rw [if_neg (by omega), hn]
    unfold expN
    rw [if_neg (by omega), if_neg (by omega)]
    simp [u8c]
  have HR := Hid.mk' hcr
  have HG := Hid.mk' hg
  clear hcr hg
  have q1 : ((m : Int) + 1 != 0) = true := by rw [bne_iff_ne]; omega
  have q2 : ((m : Int) + 1 == 0) = false := by rw [beq_eq_false_iff_ne]; omega
  go_enter Tryz.func135, Tryz.ntmps135
  go_wp2_with (at_builtin; refine wpList_append_own _ rfl _ _ 73 rfl B 5 i0 (.int .u8 0) 1 1 Tryz.underlying73 hi hz0 hz1 hz2 rfl (by decide) _ _ _ rfl (o0.alloc _) ⟨w0.heap.size, 0, none⟩ 1 1 [.int .u8 d] rfl rfl (cells_new _ _ _) (by intro u hu; simp at hu; first | (rcases hu with rfl | rfl | rfl <;> rfl) | (rcases hu with rfl | rfl <;> rfl) | (subst hu; rfl)) (by unfold maxLen; omega) (by omega) (by simp; omega) ?_)
  intro v1 w1 o1 g1 _
  have k1 := k0.trans (kept_append o0 (grown_of_alloc g1) (by have := k0.le; omega))
  have s1 : B ≤ w1.heap.size := Nat.le_trans hBw k1.le
  clear g1
  go_wp2_with (at_builtin; refine wpList_append_own _ rfl _ _ 73 rfl B 5 i0 (.int .u8 0) 1 1 Tryz.underlying73 hi hz0 hz1 hz2 rfl (by decide) _ _ _ rfl (o1.alloc _) ⟨w1.heap.size, 0, none⟩ 1 1 [.int .u8 46] rfl rfl (cells_new _ _ _) (by intro u hu; simp at hu; first | (rcases hu with rfl | rfl | rfl <;> rfl) | (rcases hu with rfl | rfl <;> rfl) | (subst hu; rfl)) (by unfold maxLen; omega) (by omega) (by simp; omega) ?_)
  intro v2 w2 o2 g2 _
  have k2 := k1.trans (kept_append o1 (grown_of_alloc g2) (by have := k1.le; omega))
  have s2 : B ≤ w2.heap.size := Nat.le_trans hBw k2.le
  clear g2
  go_wp2_with (at_builtin; refine wpList_append_own _ rfl _ _ 73 rfl B 5 i0 (.int .u8 0) 1 1 Tryz.underlying73 hi hz0 hz1 hz2 rfl (by decide) _ _ _ rfl o2 ⟨g, 1, none⟩ m 31 (u8c r) ?a1 ?a2 ?a3 (oneCell_u8c r) (by unfold maxLen; omega) (by omega) s2 ?_)
  case a1 => rfl
  case a2 => rw [u8c_length, HM.out]; omega
  case a3 =>
    intro j u hj
    have := HR.out j u hj
    rw [Lib.add_plain, cell_of_heap HG.out (kept_heap k2 HG.out (by decide)) (1 + j)]
    exact this
  intro v3 w3 o3 g3 _
  have k3 := k2.trans (kept_append o2 g3 s2)
  have s3 : B ≤ w3.heap.size := Nat.le_trans hBw k3.le
  clear g3
  go_wp2
  go_loop [0, 114] (fun u v => u = v3 ∧ v = .int .i64 0) (fun _ _ => 0)
  case atStart => exact ⟨rfl, rfl⟩
  case round =>
    obtain ⟨rfl, rfl⟩ := hrel
    go_wp2_with (at_builtin; refine wpList_append_own _ rfl _ _ 73 rfl B 5 i0 (.int .u8 0) 1 1 Tryz.underlying73 hi hz0 hz1 hz2 rfl (by decide) _ _ _ rfl (o3.alloc _) ⟨w3.heap.size, 0, none⟩ 1 1 [.int .u8 101] rfl rfl (cells_new _ _ _) (by intro u hu; simp at hu; first | (rcases hu with rfl | rfl | rfl <;> rfl) | (rcases hu with rfl | rfl <;> rfl) | (subst hu; rfl)) (by unfold maxLen; omega) (by omega) (by simp; omega) ?_)
    intro v4 w4 o4 g4 _
    have k4 := k3.trans (kept_append o3 (grown_of_alloc g4) (by have := k3.le; omega))
    have s4 : B ≤ w4.heap.size := Nat.le_trans hBw k4.le
    clear g4
    go_wp2_with (at_builtin; refine wpList_append_own _ rfl _ _ 73 rfl B 5 i0 (.int .u8 0) 1 1 Tryz.underlying73 hi hz0 hz1 hz2 rfl (by decide) _ _ _ rfl (o4.alloc _) ⟨w4.heap.size, 0, none⟩ 1 1 [.int .u8 43] rfl rfl (cells_new _ _ _) (by intro u hu; simp at hu; first | (rcases hu with rfl | rfl | rfl <;> rfl) | (rcases hu with rfl | rfl <;> rfl) | (subst hu; rfl)) (by unfold maxLen; omega) (by omega) (by simp; omega) ?_)
    intro v5 w5 o5 g5 _
    have k5 := k4.trans (kept_append o4 (grown_of_alloc g5) (by have := k4.le; omega))
    have s5 : B ≤ w5.heap.size := Nat.le_trans hBw k5.le
    clear g5
    go_wp2_with (at_builtin; refine wpList_append_own _ rfl _ _ 73 rfl B 5 i0 (.int .u8 0) 1 1 Tryz.underlying73 hi hz0 hz1 hz2 rfl (by decide) _ _ _ rfl (o5.alloc _) ⟨w5.heap.size, 0, none⟩ 3 3 [.int .u8 ((dp - 1) / 100 + 48), .int .u8 ((dp - 1) / 10 % 10 + 48), .int .u8 ((dp - 1) % 10 + 48)] rfl rfl (cells_new _ _ _) (by intro u hu; simp at hu; first | (rcases hu with rfl | rfl | rfl <;> rfl) | (rcases hu with rfl | rfl <;> rfl) | (subst hu; rfl)) (by unfold maxLen; omega) (by omega) (by simp; omega) ?_)
    intro v6 w6 o6 g6 _
    have k6 := k5.trans (kept_append o5 (grown_of_alloc g6) (by have := k5.le; omega))
    have s6 : B ≤ w6.heap.size := Nat.le_trans hBw k6.le
    clear g6
    go_wp2
    go_ret
    refine ⟨_, rfl, ?_, k6⟩
    have e1 : fmtN (d :: r) (dp - 1) = [d, 46] ++ r ++ (101 :: expS (dp - 1)) := by cases r with
      | nil => have := HM.out; simp at this; omega
      | cons a b => rfl
    have e2 : (expS (dp - 1)).length = 1 + 3 := by rw [← u8c_length, HX.out]; rfl
    have e3 : u8c (101 :: expS (dp - 1)) = (.int .u8 101) :: (.int .u8 43) :: [.int .u8 ((dp - 1) / 100 + 48), .int .u8 ((dp - 1) / 10 % 10 + 48), .int .u8 ((dp - 1) % 10 + 48)] := by show _ :: u8c (expS (dp - 1)) = _; rw [HX.out]; rfl
    exact own_eq o6 (by rw [e1]; simp only [List.length_append, List.length_cons, List.length_nil, e2, HM.out]; try omega) (by rw [e1, u8c_append, e3, u8c_append]; simp [u8c])
end
end Go.Proofs.YtjnbnejfdleocaaGreatDoor
