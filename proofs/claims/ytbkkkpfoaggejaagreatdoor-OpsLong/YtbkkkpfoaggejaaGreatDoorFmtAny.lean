/- internal/strconv.fmtEFG in the form 'e' with all digits (written by tools/mkfmte.py). internal/strconv.fmtEFG in the form 'e' (written by tools/mkfmte.py). internal/strconv.fmtEFG in the form 'e': all cases. -/
import Derived.Test.YtbkkkpfoaggejaaGreatDoorSetDig
namespace Go.Proofs.YtbkkkpfoaggejaaGreatDoor
set_option linter.unusedVariables false
open Go.RowKit Fl

def u8c (l : List Nat) : List Value := l.map fun (n : Nat) => Value.int .u8 (n : Int)
theorem u8c_append (a b : List Nat) : u8c (a ++ b) = u8c a ++ u8c b := by simp [u8c]
theorem u8c_length (a : List Nat) : (u8c a).length = a.length := by simp [u8c]
theorem oneCell_u8c (l : List Nat) : ∀ u ∈ u8c l, u.oneCell' = true := by
  intro u hu
  simp only [u8c, List.mem_map] at hu
  obtain ⟨a, _, rfl⟩ := hu
  rfl
theorem own_eq {w : World} {B : Nat} {e : TypeId} {sz : Nat} {v : Value} {n n' : Nat} {xs xs' : List Value} (h : w.ownsRow B e sz v n xs) (hn : n' = n) (hx : xs' = xs) : w.ownsRow B e sz v n' xs' := by subst hn hx; exact h
def expN (x : Nat) : List Nat := if x < 10 then [48, x + 48] else if x < 100 then [x / 10 + 48, x % 10 + 48] else [x / 100 + 48, x / 10 % 10 + 48, x % 10 + 48]
def expS (X : Int) : List Nat := if X < 0 then 45 :: expN (-X).toNat else 43 :: expN X.toNat
/-- Digits as a number with a power of ten. -/
def fmtN (ds : List Nat) (X : Int) : List Nat := match ds with
  | [] => [48, 101] ++ expS 0
  | [d] => [d, 101] ++ expS X
  | d :: r => [d, 46] ++ r ++ (101 :: expS X)
theorem kept_heap {B g : Nat} {e T : TypeId} {cs : Array Value} {fz : Nat × Nat} {w w' : World} (k : Kept B e w w') (h : w.heap[g]? = some (.cells cs T fz)) (hne : T ≠ e) : w'.heap[g]? = some (.cells cs T fz) :=
  k.2 g _ h (by simp) (fun c fz hc => by cases hc; exact hne rfl)
theorem cell_of_heap {g : Nat} {w w' : World} {o : Obj} (h : w.heap[g]? = some o) (h' : w'.heap[g]? = some o) (j : Nat) : w'.cell? ⟨g, j, none⟩ = w.cell? ⟨g, j, none⟩ := by
  unfold World.cell?
  simp only [h, h']

set_option maxHeartbeats 1000000 in
set_option maxRecDepth 100000 in
theorem fmtE_none (B g : Nat) (v0 : Value) (dp : Int) (w0 : World) (o0 : w0.ownsRow B 5 1 v0 0 []) (hBw : B ≤ w0.heap.size)  :
    Calls Tryz.prog 244 #[v0, .bool false, .slice (some ⟨g, 0, none⟩) 32 32, .int .i64 dp, .int .i64 0, .int .i64 0, .int .u8 101, .bool true] w0 fun e w' => ∃ v', e = .returned v' ∧ w'.ownsRow B 5 1 v' (fmtN [] (dp - 1)).length (u8c (fmtN [] (dp - 1))) ∧ Kept B 5 w0 w' := by
  obtain ⟨i0, hi, hz0, hz1, hz2⟩ := info_parts info8
  have k0 := Kept.refl B 5 w0
  have s0 : B ≤ w0.heap.size := hBw
  go_enter Tryz.func244, Tryz.ntmps244
  go_wp2_with (at_builtin; refine wpList_append_own _ rfl _ _ 54 rfl B 5 i0 (.int .u8 0) 1 1 Tryz.underlying54 hi hz0 hz1 hz2 rfl (by decide) _ _ _ rfl (o0.alloc _) ⟨w0.heap.size, 0, none⟩ 1 1 [.int .u8 48] rfl rfl (cells_new _ _ _) (by intro u hu; simp at hu; first | (rcases hu with rfl | rfl | rfl <;> rfl) | (rcases hu with rfl | rfl <;> rfl) | (subst hu; rfl)) (by unfold maxLen; omega) (by omega) (by simp; omega) ?_)
  intro v1 w1 o1 g1 _
  have k1 := k0.trans (kept_append o0 (grown_of_alloc g1) (by have := k0.le; omega))
  have s1 : B ≤ w1.heap.size := Nat.le_trans hBw k1.le
  clear g1
  go_wp2_with (at_builtin; refine wpList_append_own _ rfl _ _ 54 rfl B 5 i0 (.int .u8 0) 1 1 Tryz.underlying54 hi hz0 hz1 hz2 rfl (by decide) _ _ _ rfl (o1.alloc _) ⟨w1.heap.size, 0, none⟩ 1 1 [.int .u8 101] rfl rfl (cells_new _ _ _) (by intro u hu; simp at hu; first | (rcases hu with rfl | rfl | rfl <;> rfl) | (rcases hu with rfl | rfl <;> rfl) | (subst hu; rfl)) (by unfold maxLen; omega) (by omega) (by simp; omega) ?_)
  intro v2 w2 o2 g2 _
  have k2 := k1.trans (kept_append o1 (grown_of_alloc g2) (by have := k1.le; omega))
  have s2 : B ≤ w2.heap.size := Nat.le_trans hBw k2.le
  clear g2
  go_wp2_with (at_builtin; refine wpList_append_own _ rfl _ _ 54 rfl B 5 i0 (.int .u8 0) 1 1 Tryz.underlying54 hi hz0 hz1 hz2 rfl (by decide) _ _ _ rfl (o2.alloc _) ⟨w2.heap.size, 0, none⟩ 1 1 [.int .u8 43] rfl rfl (cells_new _ _ _) (by intro u hu; simp at hu; first | (rcases hu with rfl | rfl | rfl <;> rfl) | (rcases hu with rfl | rfl <;> rfl) | (subst hu; rfl)) (by unfold maxLen; omega) (by omega) (by simp; omega) ?_)
  intro v3 w3 o3 g3 _
  have k3 := k2.trans (kept_append o2 (grown_of_alloc g3) (by have := k2.le; omega))
  have s3 : B ≤ w3.heap.size := Nat.le_trans hBw k3.le
  clear g3
  go_wp2_with (at_builtin; refine wpList_append_own _ rfl _ _ 54 rfl B 5 i0 (.int .u8 0) 1 1 Tryz.underlying54 hi hz0 hz1 hz2 rfl (by decide) _ _ _ rfl (o3.alloc _) ⟨w3.heap.size, 0, none⟩ 2 2 [.int .u8 48, .int .u8 48] rfl rfl (cells_new _ _ _) (by intro u hu; simp at hu; first | (rcases hu with rfl | rfl | rfl <;> rfl) | (rcases hu with rfl | rfl <;> rfl) | (subst hu; rfl)) (by unfold maxLen; omega) (by omega) (by simp; omega) ?_)
  intro v4 w4 o4 g4 _
  have k4 := k3.trans (kept_append o3 (grown_of_alloc g4) (by have := k3.le; omega))
  have s4 : B ≤ w4.heap.size := Nat.le_trans hBw k4.le
  clear g4
  go_wp2
  go_ret
  exact ⟨_, rfl, o4, k4⟩
end Go.Proofs.YtbkkkpfoaggejaaGreatDoor

namespace Go.Proofs.YtbkkkpfoaggejaaGreatDoor
set_option linter.unusedVariables false
open Go.RowKit Fl

set_option maxHeartbeats 1000000 in
set_option maxRecDepth 100000 in
theorem fmtE_one_neg1 (B g : Nat) (v0 : Value) (dp : Int) (w0 : World) (o0 : w0.ownsRow B 5 1 v0 0 []) (hBw : B ≤ w0.heap.size) (h1 : dp - 1 < 0) (x : Int) (hx : -(dp - 1) = x) (h2 : x < 10) (d : Nat) (hd : d < 256) (hc : w0.cell? ⟨g, 0, none⟩ = some (.int .u8 d)) :
    Calls Tryz.prog 244 #[v0, .bool false, .slice (some ⟨g, 0, none⟩) 32 32, .int .i64 dp, .int .i64 1, .int .i64 0, .int .u8 101, .bool true] w0 fun e w' => ∃ v', e = .returned v' ∧ w'.ownsRow B 5 1 v' (fmtN [d] (dp - 1)).length (u8c (fmtN [d] (dp - 1))) ∧ Kept B 5 w0 w' := by
  obtain ⟨i0, hi, hz0, hz1, hz2⟩ := info_parts info8
  have k0 := Kept.refl B 5 w0
  have s0 : B ≤ w0.heap.size := hBw
  have HX : Hid (u8c (expS (dp - 1)) = (.int .u8 45) :: [.int .u8 48, .int .u8 (x + 48)]) := by
    obtain ⟨n, hn⟩ : ∃ n : Nat, x = (n : Int) := ⟨(x).toNat, by omega⟩
    show _ = _
    unfold expS
    rw [if_pos (by omega), hx, hn]
    unfold expN
    rw [if_pos (by omega)]
    simp [u8c]
  go_enter Tryz.func244, Tryz.ntmps244
  go_wp2_with (at_builtin; refine wpList_append_own _ rfl _ _ 54 rfl B 5 i0 (.int .u8 0) 1 1 Tryz.underlying54 hi hz0 hz1 hz2 rfl (by decide) _ _ _ rfl (o0.alloc _) ⟨w0.heap.size, 0, none⟩ 1 1 [.int .u8 d] rfl rfl (cells_new _ _ _) (by intro u hu; simp at hu; first | (rcases hu with rfl | rfl | rfl <;> rfl) | (rcases hu with rfl | rfl <;> rfl) | (subst hu; rfl)) (by unfold maxLen; omega) (by omega) (by simp; omega) ?_)
  intro v1 w1 o1 g1 _
  have k1 := k0.trans (kept_append o0 (grown_of_alloc g1) (by have := k0.le; omega))
  have s1 : B ≤ w1.heap.size := Nat.le_trans hBw k1.le
  clear g1
  go_wp2_with (at_builtin; refine wpList_append_own _ rfl _ _ 54 rfl B 5 i0 (.int .u8 0) 1 1 Tryz.underlying54 hi hz0 hz1 hz2 rfl (by decide) _ _ _ rfl (o1.alloc _) ⟨w1.heap.size, 0, none⟩ 1 1 [.int .u8 101] rfl rfl (cells_new _ _ _) (by intro u hu; simp at hu; first | (rcases hu with rfl | rfl | rfl <;> rfl) | (rcases hu with rfl | rfl <;> rfl) | (subst hu; rfl)) (by unfold maxLen; omega) (by omega) (by simp; omega) ?_)
  intro v2 w2 o2 g2 _
  have k2 := k1.trans (kept_append o1 (grown_of_alloc g2) (by have := k1.le; omega))
  have s2 : B ≤ w2.heap.size := Nat.le_trans hBw k2.le
  clear g2
  go_wp2_with (at_builtin; refine wpList_append_own _ rfl _ _ 54 rfl B 5 i0 (.int .u8 0) 1 1 Tryz.underlying54 hi hz0 hz1 hz2 rfl (by decide) _ _ _ rfl (o2.alloc _) ⟨w2.heap.size, 0, none⟩ 1 1 [.int .u8 45] rfl rfl (cells_new _ _ _) (by intro u hu; simp at hu; first | (rcases hu with rfl | rfl | rfl <;> rfl) | (rcases hu with rfl | rfl <;> rfl) | (subst hu; rfl)) (by unfold maxLen; omega) (by omega) (by simp; omega) ?_)
  intro v3 w3 o3 g3 _
  have k3 := k2.trans (kept_append o2 (grown_of_alloc g3) (by have := k2.le; omega))
  have s3 : B ≤ w3.heap.size := Nat.le_trans hBw k3.le
  clear g3
  go_wp2_with (at_builtin; refine wpList_append_own _ rfl _ _ 54 rfl B 5 i0 (.int .u8 0) 1 1 Tryz.underlying54 hi hz0 hz1 hz2 rfl (by decide) _ _ _ rfl (o3.alloc _) ⟨w3.heap.size, 0, none⟩ 2 2 [.int .u8 48, .int .u8 (x + 48)] rfl rfl (cells_new _ _ _) (by intro u hu; simp at hu; first | (rcases hu with rfl | rfl | rfl <;> rfl) | (rcases hu with rfl | rfl <;> rfl) | (subst hu; rfl)) (by unfold maxLen; omega) (by omega) (by simp; omega) ?_)
  intro v4 w4 o4 g4 _
  have k4 := k3.trans (kept_append o3 (grown_of_alloc g4) (by have := k3.le; omega))
  have s4 : B ≤ w4.heap.size := Nat.le_trans hBw k4.le
  clear g4
  go_wp2
  go_ret
  refine ⟨_, rfl, ?_, k4⟩
  have e1 : fmtN [d] (dp - 1) = [d, 101] ++ expS (dp - 1) := rfl
  have e2 : (expS (dp - 1)).length = 1 + 2 := by rw [← u8c_length, HX.out]; rfl
  rw [e1, u8c_append, HX.out, List.length_append, e2]
  exact o4

set_option maxHeartbeats 1000000 in
set_option maxRecDepth 100000 in
theorem fmtE_one_neg2 (B g : Nat) (v0 : Value) (dp : Int) (w0 : World) (o0 : w0.ownsRow B 5 1 v0 0 []) (hBw : B ≤ w0.heap.size) (h1 : dp - 1 < 0) (x : Int) (hx : -(dp - 1) = x) (h2 : 10 ≤ x ∧ x < 100) (d : Nat) (hd : d < 256) (hc : w0.cell? ⟨g, 0, none⟩ = some (.int .u8 d)) :
    Calls Tryz.prog 244 #[v0, .bool false, .slice (some ⟨g, 0, none⟩) 32 32, .int .i64 dp, .int .i64 1, .int .i64 0, .int .u8 101, .bool true] w0 fun e w' => ∃ v', e = .returned v' ∧ w'.ownsRow B 5 1 v' (fmtN [d] (dp - 1)).length (u8c (fmtN [d] (dp - 1))) ∧ Kept B 5 w0 w' := by
  obtain ⟨i0, hi, hz0, hz1, hz2⟩ := info_parts info8
  have k0 := Kept.refl B 5 w0
  have s0 : B ≤ w0.heap.size := hBw
  have HX : Hid (u8c (expS (dp - 1)) = (.int .u8 45) :: [.int .u8 (x / 10 + 48), .int .u8 (x % 10 + 48)]) := by
    obtain ⟨n, hn⟩ : ∃ n : Nat, x = (n : Int) := ⟨(x).toNat, by omega⟩
    show _ = _
    unfold expS
    rw [if_pos (by omega), hx, hn]
    unfold expN
    rw [if_neg (by omega), if_pos (by omega)]
    simp [u8c]
  go_enter Tryz.func244, Tryz.ntmps244
  go_wp2_with (at_builtin; refine wpList_append_own _ rfl _ _ 54 rfl B 5 i0 (.int .u8 0) 1 1 Tryz.underlying54 hi hz0 hz1 hz2 rfl (by decide) _ _ _ rfl (o0.alloc _) ⟨w0.heap.size, 0, none⟩ 1 1 [.int .u8 d] rfl rfl (cells_new _ _ _) (by intro u hu; simp at hu; first | (rcases hu with rfl | rfl | rfl <;> rfl) | (rcases hu with rfl | rfl <;> rfl) | (subst hu; rfl)) (by unfold maxLen; omega) (by omega) (by simp; omega) ?_)
  intro v1 w1 o1 g1 _
  have k1 := k0.trans (kept_append o0 (grown_of_alloc g1) (by have := k0.le; omega))
  have s1 : B ≤ w1.heap.size := Nat.le_trans hBw k1.le
  clear g1
  go_wp2_with (at_builtin; refine wpList_append_own _ rfl _ _ 54 rfl B 5 i0 (.int .u8 0) 1 1 Tryz.underlying54 hi hz0 hz1 hz2 rfl (by decide) _ _ _ rfl (o1.alloc _) ⟨w1.heap.size, 0, none⟩ 1 1 [.int .u8 101] rfl rfl (cells_new _ _ _) (by intro u hu; simp at hu; first | (rcases hu with rfl | rfl | rfl <;> rfl) | (rcases hu with rfl | rfl <;> rfl) | (subst hu; rfl)) (by unfold maxLen; omega) (by omega) (by simp; omega) ?_)
  intro v2 w2 o2 g2 _
  have k2 := k1.trans (kept_append o1 (grown_of_alloc g2) (by have := k1.le; omega))
  have s2 : B ≤ w2.heap.size := Nat.le_trans hBw k2.le
  clear g2
  go_wp2_with (at_builtin; refine wpList_append_own _ rfl _ _ 54 rfl B 5 i0 (.int .u8 0) 1 1 Tryz.underlying54 hi hz0 hz1 hz2 rfl (by decide) _ _ _ rfl (o2.alloc _) ⟨w2.heap.size, 0, none⟩ 1 1 [.int .u8 45] rfl rfl (cells_new _ _ _) (by intro u hu; simp at hu; first | (rcases hu with rfl | rfl | rfl <;> rfl) | (rcases hu with rfl | rfl <;> rfl) | (subst hu; rfl)) (by unfold maxLen; omega) (by omega) (by simp; omega) ?_)
  intro v3 w3 o3 g3 _
  have k3 := k2.trans (kept_append o2 (grown_of_alloc g3) (by have := k2.le; omega))
  have s3 : B ≤ w3.heap.size := Nat.le_trans hBw k3.le
  clear g3
  go_wp2_with (at_builtin; refine wpList_append_own _ rfl _ _ 54 rfl B 5 i0 (.int .u8 0) 1 1 Tryz.underlying54 hi hz0 hz1 hz2 rfl (by decide) _ _ _ rfl (o3.alloc _) ⟨w3.heap.size, 0, none⟩ 2 2 [.int .u8 (x / 10 + 48), .int .u8 (x % 10 + 48)] rfl rfl (cells_new _ _ _) (by intro u hu; simp at hu; first | (rcases hu with rfl | rfl | rfl <;> rfl) | (rcases hu with rfl | rfl <;> rfl) | (subst hu; rfl)) (by unfold maxLen; omega) (by omega) (by simp; omega) ?_)
  intro v4 w4 o4 g4 _
  have k4 := k3.trans (kept_append o3 (grown_of_alloc g4) (by have := k3.le; omega))
  have s4 : B ≤ w4.heap.size := Nat.le_trans hBw k4.le
  clear g4
  go_wp2
  go_ret
  refine ⟨_, rfl, ?_, k4⟩
  have e1 : fmtN [d] (dp - 1) = [d, 101] ++ expS (dp - 1) := rfl
  have e2 : (expS (dp - 1)).length = 1 + 2 := by rw [← u8c_length, HX.out]; rfl
  rw [e1, u8c_append, HX.out, List.length_append, e2]
  exact o4

set_option maxHeartbeats 1000000 in
set_option maxRecDepth 100000 in
theorem fmtE_one_neg3 (B g : Nat) (v0 : Value) (dp : Int) (w0 : World) (o0 : w0.ownsRow B 5 1 v0 0 []) (hBw : B ≤ w0.heap.size) (h1 : dp - 1 < 0) (x : Int) (hx : -(dp - 1) = x) (h2 : 100 ≤ x ∧ x < 1000) (d : Nat) (hd : d < 256) (hc : w0.cell? ⟨g, 0, none⟩ = some (.int .u8 d)) :
    Calls Tryz.prog 244 #[v0, .bool false, .slice (some ⟨g, 0, none⟩) 32 32, .int .i64 dp, .int .i64 1, .int .i64 0, .int .u8 101, .bool true] w0 fun e w' => ∃ v', e = .returned v' ∧ w'.ownsRow B 5 1 v' (fmtN [d] (dp - 1)).length (u8c (fmtN [d] (dp - 1))) ∧ Kept B 5 w0 w' := by
  obtain ⟨i0, hi, hz0, hz1, hz2⟩ := info_parts info8
  have k0 := Kept.refl B 5 w0
  have s0 : B ≤ w0.heap.size := hBw
  have HX : Hid (u8c (expS (dp - 1)) = (.int .u8 45) :: [.int .u8 (x / 100 + 48), .int .u8 (x / 10 % 10 + 48), .int .u8 (x % 10 + 48)]) := by
    obtain ⟨n, hn⟩ : ∃ n : Nat, x = (n : Int) := ⟨(x).toNat, by omega⟩
    show _ = _
    unfold expS
    rw [if_pos (by omega), hx, hn]
    unfold expN
    rw [if_neg (by omega), if_neg (by omega)]
    simp [u8c]
  go_enter Tryz.func244, Tryz.ntmps244
  go_wp2_with (at_builtin; refine wpList_append_own _ rfl _ _ 54 rfl B 5 i0 (.int .u8 0) 1 1 Tryz.underlying54 hi hz0 hz1 hz2 rfl (by decide) _ _ _ rfl (o0.alloc _) ⟨w0.heap.size, 0, none⟩ 1 1 [.int .u8 d] rfl rfl (cells_new _ _ _) (by intro u hu; simp at hu; first | (rcases hu with rfl | rfl | rfl <;> rfl) | (rcases hu with rfl | rfl <;> rfl) | (subst hu; rfl)) (by unfold maxLen; omega) (by omega) (by simp; omega) ?_)
  intro v1 w1 o1 g1 _
  have k1 := k0.trans (kept_append o0 (grown_of_alloc g1) (by have := k0.le; omega))
  have s1 : B ≤ w1.heap.size := Nat.le_trans hBw k1.le
  clear g1
  go_wp2_with (at_builtin; refine wpList_append_own _ rfl _ _ 54 rfl B 5 i0 (.int .u8 0) 1 1 Tryz.underlying54 hi hz0 hz1 hz2 rfl (by decide) _ _ _ rfl (o1.alloc _) ⟨w1.heap.size, 0, none⟩ 1 1 [.int .u8 101] rfl rfl (cells_new _ _ _) (by intro u hu; simp at hu; first | (rcases hu with rfl | rfl | rfl <;> rfl) | (rcases hu with rfl | rfl <;> rfl) | (subst hu; rfl)) (by unfold maxLen; omega) (by omega) (by simp; omega) ?_)
  intro v2 w2 o2 g2 _
  have k2 := k1.trans (kept_append o1 (grown_of_alloc g2) (by have := k1.le; omega))
  have s2 : B ≤ w2.heap.size := Nat.le_trans hBw k2.le
  clear g2
  go_wp2_with (at_builtin; refine wpList_append_own _ rfl _ _ 54 rfl B 5 i0 (.int .u8 0) 1 1 Tryz.underlying54 hi hz0 hz1 hz2 rfl (by decide) _ _ _ rfl (o2.alloc _) ⟨w2.heap.size, 0, none⟩ 1 1 [.int .u8 45] rfl rfl (cells_new _ _ _) (by intro u hu; simp at hu; first | (rcases hu with rfl | rfl | rfl <;> rfl) | (rcases hu with rfl | rfl <;> rfl) | (subst hu; rfl)) (by unfold maxLen; omega) (by omega) (by simp; omega) ?_)
  intro v3 w3 o3 g3 _
  have k3 := k2.trans (kept_append o2 (grown_of_alloc g3) (by have := k2.le; omega))
  have s3 : B ≤ w3.heap.size := Nat.le_trans hBw k3.le
  clear g3
  go_wp2_with (at_builtin; refine wpList_append_own _ rfl _ _ 54 rfl B 5 i0 (.int .u8 0) 1 1 Tryz.underlying54 hi hz0 hz1 hz2 rfl (by decide) _ _ _ rfl (o3.alloc _) ⟨w3.heap.size, 0, none⟩ 3 3 [.int .u8 (x / 100 + 48), .int .u8 (x / 10 % 10 + 48), .int .u8 (x % 10 + 48)] rfl rfl (cells_new _ _ _) (by intro u hu; simp at hu; first | (rcases hu with rfl | rfl | rfl <;> rfl) | (rcases hu with rfl | rfl <;> rfl) | (subst hu; rfl)) (by unfold maxLen; omega) (by omega) (by simp; omega) ?_)
  intro v4 w4 o4 g4 _
  have k4 := k3.trans (kept_append o3 (grown_of_alloc g4) (by have := k3.le; omega))
  have s4 : B ≤ w4.heap.size := Nat.le_trans hBw k4.le
  clear g4
  go_wp2
  go_ret
  refine ⟨_, rfl, ?_, k4⟩
  have e1 : fmtN [d] (dp - 1) = [d, 101] ++ expS (dp - 1) := rfl
  have e2 : (expS (dp - 1)).length = 1 + 3 := by rw [← u8c_length, HX.out]; rfl
  rw [e1, u8c_append, HX.out, List.length_append, e2]
  exact o4

set_option maxHeartbeats 1000000 in
set_option maxRecDepth 100000 in
theorem fmtE_one_pos1 (B g : Nat) (v0 : Value) (dp : Int) (w0 : World) (o0 : w0.ownsRow B 5 1 v0 0 []) (hBw : B ≤ w0.heap.size) (h1 : 0 ≤ dp - 1) (h2 : (dp - 1) < 10) (d : Nat) (hd : d < 256) (hc : w0.cell? ⟨g, 0, none⟩ = some (.int .u8 d)) :
    Calls Tryz.prog 244 #[v0, .bool false, .slice (some ⟨g, 0, none⟩) 32 32, .int .i64 dp, .int .i64 1, .int .i64 0, .int .u8 101, .bool true] w0 fun e w' => ∃ v', e = .returned v' ∧ w'.ownsRow B 5 1 v' (fmtN [d] (dp - 1)).length (u8c (fmtN [d] (dp - 1))) ∧ Kept B 5 w0 w' := by
  obtain ⟨i0, hi, hz0, hz1, hz2⟩ := info_parts info8
  have k0 := Kept.refl B 5 w0
  have s0 : B ≤ w0.heap.size := hBw
  have HX : Hid (u8c (expS (dp - 1)) = (.int .u8 43) :: [.int .u8 48, .int .u8 ((dp - 1) + 48)]) := by
    obtain ⟨n, hn⟩ : ∃ n : Nat, (dp - 1) = (n : Int) := ⟨((dp - 1)).toNat, by omega⟩
    show _ = _
    unfold expS
    rw [if_neg (by omega), hn]
    unfold expN
    rw [if_pos (by omega)]
    simp [u8c]
  go_enter Tryz.func244, Tryz.ntmps244
  go_wp2_with (at_builtin; refine wpList_append_own _ rfl _ _ 54 rfl B 5 i0 (.int .u8 0) 1 1 Tryz.underlying54 hi hz0 hz1 hz2 rfl (by decide) _ _ _ rfl (o0.alloc _) ⟨w0.heap.size, 0, none⟩ 1 1 [.int .u8 d] rfl rfl (cells_new _ _ _) (by intro u hu; simp at hu; first | (rcases hu with rfl | rfl | rfl <;> rfl) | (rcases hu with rfl | rfl <;> rfl) | (subst hu; rfl)) (by unfold maxLen; omega) (by omega) (by simp; omega) ?_)
  intro v1 w1 o1 g1 _
  have k1 := k0.trans (kept_append o0 (grown_of_alloc g1) (by have := k0.le; omega))
  have s1 : B ≤ w1.heap.size := Nat.le_trans hBw k1.le
  clear g1
  go_wp2_with (at_builtin; refine wpList_append_own _ rfl _ _ 54 rfl B 5 i0 (.int .u8 0) 1 1 Tryz.underlying54 hi hz0 hz1 hz2 rfl (by decide) _ _ _ rfl (o1.alloc _) ⟨w1.heap.size, 0, none⟩ 1 1 [.int .u8 101] rfl rfl (cells_new _ _ _) (by intro u hu; simp at hu; first | (rcases hu with rfl | rfl | rfl <;> rfl) | (rcases hu with rfl | rfl <;> rfl) | (subst hu; rfl)) (by unfold maxLen; omega) (by omega) (by simp; omega) ?_)
  intro v2 w2 o2 g2 _
  have k2 := k1.trans (kept_append o1 (grown_of_alloc g2) (by have := k1.le; omega))
  have s2 : B ≤ w2.heap.size := Nat.le_trans hBw k2.le
  clear g2
  go_wp2_with (at_builtin; refine wpList_append_own _ rfl _ _ 54 rfl B 5 i0 (.int .u8 0) 1 1 Tryz.underlying54 hi hz0 hz1 hz2 rfl (by decide) _ _ _ rfl (o2.alloc _) ⟨w2.heap.size, 0, none⟩ 1 1 [.int .u8 43] rfl rfl (cells_new _ _ _) (by intro u hu; simp at hu; first | (rcases hu with rfl | rfl | rfl <;> rfl) | (rcases hu with rfl | rfl <;> rfl) | (subst hu; rfl)) (by unfold maxLen; omega) (by omega) (by simp; omega) ?_)
  intro v3 w3 o3 g3 _
  have k3 := k2.trans (kept_append o2 (grown_of_alloc g3) (by have := k2.le; omega))
  have s3 : B ≤ w3.heap.size := Nat.le_trans hBw k3.le
  clear g3
  go_wp2_with (at_builtin; refine wpList_append_own _ rfl _ _ 54 rfl B 5 i0 (.int .u8 0) 1 1 Tryz.underlying54 hi hz0 hz1 hz2 rfl (by decide) _ _ _ rfl (o3.alloc _) ⟨w3.heap.size, 0, none⟩ 2 2 [.int .u8 48, .int .u8 ((dp - 1) + 48)] rfl rfl (cells_new _ _ _) (by intro u hu; simp at hu; first | (rcases hu with rfl | rfl | rfl <;> rfl) | (rcases hu with rfl | rfl <;> rfl) | (subst hu; rfl)) (by unfold maxLen; omega) (by omega) (by simp; omega) ?_)
  intro v4 w4 o4 g4 _
  have k4 := k3.trans (kept_append o3 (grown_of_alloc g4) (by have := k3.le; omega))
  have s4 : B ≤ w4.heap.size := Nat.le_trans hBw k4.le
  clear g4
  go_wp2
  go_ret
  refine ⟨_, rfl, ?_, k4⟩
  have e1 : fmtN [d] (dp - 1) = [d, 101] ++ expS (dp - 1) := rfl
  have e2 : (expS (dp - 1)).length = 1 + 2 := by rw [← u8c_length, HX.out]; rfl
  rw [e1, u8c_append, HX.out, List.length_append, e2]
  exact o4

set_option maxHeartbeats 1000000 in
set_option maxRecDepth 100000 in
theorem fmtE_one_pos2 (B g : Nat) (v0 : Value) (dp : Int) (w0 : World) (o0 : w0.ownsRow B 5 1 v0 0 []) (hBw : B ≤ w0.heap.size) (h1 : 0 ≤ dp - 1) (h2 : 10 ≤ (dp - 1) ∧ (dp - 1) < 100) (d : Nat) (hd : d < 256) (hc : w0.cell? ⟨g, 0, none⟩ = some (.int .u8 d)) :
    Calls Tryz.prog 244 #[v0, .bool false, .slice (some ⟨g, 0, none⟩) 32 32, .int .i64 dp, .int .i64 1, .int .i64 0, .int .u8 101, .bool true] w0 fun e w' => ∃ v', e = .returned v' ∧ w'.ownsRow B 5 1 v' (fmtN [d] (dp - 1)).length (u8c (fmtN [d] (dp - 1))) ∧ Kept B 5 w0 w' := by
  obtain ⟨i0, hi, hz0, hz1, hz2⟩ := info_parts info8
  have k0 := Kept.refl B 5 w0
  have s0 : B ≤ w0.heap.size := hBw
  have HX : Hid (u8c (expS (dp - 1)) = (.int .u8 43) :: [.int .u8 ((dp - 1) / 10 + 48), .int .u8 ((dp - 1) % 10 + 48)]) := by
    obtain ⟨n, hn⟩ : ∃ n : Nat, (dp - 1) = (n : Int) := ⟨((dp - 1)).toNat, by omega⟩
    show _ = _
    unfold expS
    rw [if_neg (by omega), hn]
    unfold expN
    rw [if_neg (by omega), if_pos (by omega)]
    simp [u8c]
  go_enter Tryz.func244, Tryz.ntmps244
  go_wp2_with (at_builtin; refine wpList_append_own _ rfl _ _ 54 rfl B 5 i0 (.int .u8 0) 1 1 Tryz.underlying54 hi hz0 hz1 hz2 rfl (by decide) _ _ _ rfl (o0.alloc _) ⟨w0.heap.size, 0, none⟩ 1 1 [.int .u8 d] rfl rfl (cells_new _ _ _) (by intro u hu; simp at hu; first | (rcases hu with rfl | rfl | rfl <;> rfl) | (rcases hu with rfl | rfl <;> rfl) | (subst hu; rfl)) (by unfold maxLen; omega) (by omega) (by simp; omega) ?_)
  intro v1 w1 o1 g1 _
  have k1 := k0.trans (kept_append o0 (grown_of_alloc g1) (by have := k0.le; omega))
  have s1 : B ≤ w1.heap.size := Nat.le_trans hBw k1.le
  clear g1
  go_wp2_with (at_builtin; refine wpList_append_own _ rfl _ _ 54 rfl B 5 i0 (.int .u8 0) 1 1 Tryz.underlying54 hi hz0 hz1 hz2 rfl (by decide) _ _ _ rfl (o1.alloc _) ⟨w1.heap.size, 0, none⟩ 1 1 [.int .u8 101] rfl rfl (cells_new _ _ _) (by intro u hu; simp at hu; first | (rcases hu with rfl | rfl | rfl <;> rfl) | (rcases hu with rfl | rfl <;> rfl) | (subst hu; rfl)) (by unfold maxLen; omega) (by omega) (by simp; omega) ?_)
  intro v2 w2 o2 g2 _
  have k2 := k1.trans (kept_append o1 (grown_of_alloc g2) (by have := k1.le; omega))
  have s2 : B ≤ w2.heap.size := Nat.le_trans hBw k2.le
  clear g2
  go_wp2_with (at_builtin; refine wpList_append_own _ rfl _ _ 54 rfl B 5 i0 (.int .u8 0) 1 1 Tryz.underlying54 hi hz0 hz1 hz2 rfl (by decide) _ _ _ rfl (o2.alloc _) ⟨w2.heap.size, 0, none⟩ 1 1 [.int .u8 43] rfl rfl (cells_new _ _ _) (by intro u hu; simp at hu; first | (rcases hu with rfl | rfl | rfl <;> rfl) | (rcases hu with rfl | rfl <;> rfl) | (subst hu; rfl)) (by unfold maxLen; omega) (by omega) (by simp; omega) ?_)
  intro v3 w3 o3 g3 _
  have k3 := k2.trans (kept_append o2 (grown_of_alloc g3) (by have := k2.le; omega))
  have s3 : B ≤ w3.heap.size := Nat.le_trans hBw k3.le
  clear g3
  go_wp2_with (at_builtin; refine wpList_append_own _ rfl _ _ 54 rfl B 5 i0 (.int .u8 0) 1 1 Tryz.underlying54 hi hz0 hz1 hz2 rfl (by decide) _ _ _ rfl (o3.alloc _) ⟨w3.heap.size, 0, none⟩ 2 2 [.int .u8 ((dp - 1) / 10 + 48), .int .u8 ((dp - 1) % 10 + 48)] rfl rfl (cells_new _ _ _) (by intro u hu; simp at hu; first | (rcases hu with rfl | rfl | rfl <;> rfl) | (rcases hu with rfl | rfl <;> rfl) | (subst hu; rfl)) (by unfold maxLen; omega) (by omega) (by simp; omega) ?_)
  intro v4 w4 o4 g4 _
  have k4 := k3.trans (kept_append o3 (grown_of_alloc g4) (by have := k3.le; omega))
  have s4 : B ≤ w4.heap.size := Nat.le_trans hBw k4.le
  clear g4
  go_wp2
  go_ret
  refine ⟨_, rfl, ?_, k4⟩
  have e1 : fmtN [d] (dp - 1) = [d, 101] ++ expS (dp - 1) := rfl
  have e2 : (expS (dp - 1)).length = 1 + 2 := by rw [← u8c_length, HX.out]; rfl
  rw [e1, u8c_append, HX.out, List.length_append, e2]
  exact o4

set_option maxHeartbeats 1000000 in
set_option maxRecDepth 100000 in
theorem fmtE_one_pos3 (B g : Nat) (v0 : Value) (dp : Int) (w0 : World) (o0 : w0.ownsRow B 5 1 v0 0 []) (hBw : B ≤ w0.heap.size) (h1 : 0 ≤ dp - 1) (h2 : 100 ≤ (dp - 1) ∧ (dp - 1) < 1000) (d : Nat) (hd : d < 256) (hc : w0.cell? ⟨g, 0, none⟩ = some (.int .u8 d)) :
    Calls Tryz.prog 244 #[v0, .bool false, .slice (some ⟨g, 0, none⟩) 32 32, .int .i64 dp, .int .i64 1, .int .i64 0, .int .u8 101, .bool true] w0 fun e w' => ∃ v', e = .returned v' ∧ w'.ownsRow B 5 1 v' (fmtN [d] (dp - 1)).length (u8c (fmtN [d] (dp - 1))) ∧ Kept B 5 w0 w' := by
  obtain ⟨i0, hi, hz0, hz1, hz2⟩ := info_parts info8
  have k0 := Kept.refl B 5 w0
  have s0 : B ≤ w0.heap.size := hBw
  have HX : Hid (u8c (expS (dp - 1)) = (.int .u8 43) :: [.int .u8 ((dp - 1) / 100 + 48), .int .u8 ((dp - 1) / 10 % 10 + 48), .int .u8 ((dp - 1) % 10 + 48)]) := by
    obtain ⟨n, hn⟩ : ∃ n : Nat, (dp - 1) = (n : Int) := ⟨((dp - 1)).toNat, by omega⟩
    show _ = _
    unfold expS
    rw [if_neg (by omega), hn]
    unfold expN
    rw [if_neg (by omega), if_neg (by omega)]
    simp [u8c]
  go_enter Tryz.func244, Tryz.ntmps244
  go_wp2_with (at_builtin; refine wpList_append_own _ rfl _ _ 54 rfl B 5 i0 (.int .u8 0) 1 1 Tryz.underlying54 hi hz0 hz1 hz2 rfl (by decide) _ _ _ rfl (o0.alloc _) ⟨w0.heap.size, 0, none⟩ 1 1 [.int .u8 d] rfl rfl (cells_new _ _ _) (by intro u hu; simp at hu; first | (rcases hu with rfl | rfl | rfl <;> rfl) | (rcases hu with rfl | rfl <;> rfl) | (subst hu; rfl)) (by unfold maxLen; omega) (by omega) (by simp; omega) ?_)
  intro v1 w1 o1 g1 _
  have k1 := k0.trans (kept_append o0 (grown_of_alloc g1) (by have := k0.le; omega))
  have s1 : B ≤ w1.heap.size := Nat.le_trans hBw k1.le
  clear g1
  go_wp2_with (at_builtin; refine wpList_append_own _ rfl _ _ 54 rfl B 5 i0 (.int .u8 0) 1 1 Tryz.underlying54 hi hz0 hz1 hz2 rfl (by decide) _ _ _ rfl (o1.alloc _) ⟨w1.heap.size, 0, none⟩ 1 1 [.int .u8 101] rfl rfl (cells_new _ _ _) (by intro u hu; simp at hu; first | (rcases hu with rfl | rfl | rfl <;> rfl) | (rcases hu with rfl | rfl <;> rfl) | (subst hu; rfl)) (by unfold maxLen; omega) (by omega) (by simp; omega) ?_)
  intro v2 w2 o2 g2 _
  have k2 := k1.trans (kept_append o1 (grown_of_alloc g2) (by have := k1.le; omega))
  have s2 : B ≤ w2.heap.size := Nat.le_trans hBw k2.le
  clear g2
  go_wp2_with (at_builtin; refine wpList_append_own _ rfl _ _ 54 rfl B 5 i0 (.int .u8 0) 1 1 Tryz.underlying54 hi hz0 hz1 hz2 rfl (by decide) _ _ _ rfl (o2.alloc _) ⟨w2.heap.size, 0, none⟩ 1 1 [.int .u8 43] rfl rfl (cells_new _ _ _) (by intro u hu; simp at hu; first | (rcases hu with rfl | rfl | rfl <;> rfl) | (rcases hu with rfl | rfl <;> rfl) | (subst hu; rfl)) (by unfold maxLen; omega) (by omega) (by simp; omega) ?_)
  intro v3 w3 o3 g3 _
  have k3 := k2.trans (kept_append o2 (grown_of_alloc g3) (by have := k2.le; omega))
  have s3 : B ≤ w3.heap.size := Nat.le_trans hBw k3.le
  clear g3
  go_wp2_with (at_builtin; refine wpList_append_own _ rfl _ _ 54 rfl B 5 i0 (.int .u8 0) 1 1 Tryz.underlying54 hi hz0 hz1 hz2 rfl (by decide) _ _ _ rfl (o3.alloc _) ⟨w3.heap.size, 0, none⟩ 3 3 [.int .u8 ((dp - 1) / 100 + 48), .int .u8 ((dp - 1) / 10 % 10 + 48), .int .u8 ((dp - 1) % 10 + 48)] rfl rfl (cells_new _ _ _) (by intro u hu; simp at hu; first | (rcases hu with rfl | rfl | rfl <;> rfl) | (rcases hu with rfl | rfl <;> rfl) | (subst hu; rfl)) (by unfold maxLen; omega) (by omega) (by simp; omega) ?_)
  intro v4 w4 o4 g4 _
  have k4 := k3.trans (kept_append o3 (grown_of_alloc g4) (by have := k3.le; omega))
  have s4 : B ≤ w4.heap.size := Nat.le_trans hBw k4.le
  clear g4
  go_wp2
  go_ret
  refine ⟨_, rfl, ?_, k4⟩
  have e1 : fmtN [d] (dp - 1) = [d, 101] ++ expS (dp - 1) := rfl
  have e2 : (expS (dp - 1)).length = 1 + 3 := by rw [← u8c_length, HX.out]; rfl
  rw [e1, u8c_append, HX.out, List.length_append, e2]
  exact o4
section
open Go.RowKit Fl

set_option maxHeartbeats 1000000 in
set_option maxRecDepth 100000 in
theorem fmtE_more_neg1 (B g : Nat) (v0 : Value) (dp : Int) (w0 : World) (o0 : w0.ownsRow B 5 1 v0 0 []) (hBw : B ≤ w0.heap.size) (h1 : dp - 1 < 0) (x : Int) (hx : -(dp - 1) = x) (h2 : x < 10) (d m : Nat) (r : List Nat) (HM : Hid (r.length = m)) (hr : 1 ≤ m) (hr2 : m ≤ 19) (hd : d < 256) (hc : w0.cell? ⟨g, 0, none⟩ = some (.int .u8 d)) (hcr : ∀ j u, (u8c r)[j]? = some u → w0.cell? ⟨g, 1 + j, none⟩ = some u) (cs : Array Value) (fz : Nat × Nat) (hg : w0.heap[g]? = some (.cells cs 228 fz)) :
    Calls Tryz.prog 244 #[v0, .bool false, .slice (some ⟨g, 0, none⟩) 32 32, .int .i64 dp, .int .i64 ((m : Int) + 1), .int .i64 (m : Int), .int .u8 101, .bool true] w0 fun e w' => ∃ v', e = .returned v' ∧ w'.ownsRow B 5 1 v' (fmtN (d :: r) (dp - 1)).length (u8c (fmtN (d :: r) (dp - 1))) ∧ Kept B 5 w0 w' := by
  obtain ⟨i0, hi, hz0, hz1, hz2⟩ := info_parts info8
  have k0 := Kept.refl B 5 w0
  have s0 : B ≤ w0.heap.size := hBw
  have HX : Hid (u8c (expS (dp - 1)) = (.int .u8 45) :: [.int .u8 48, .int .u8 (x + 48)]) := by
    obtain ⟨n, hn⟩ : ∃ n : Nat, x = (n : Int) := ⟨(x).toNat, by omega⟩
    show _ = _
    unfold expS
    rw [if_pos (by omega), hx, hn]
    unfold expN
    rw [if_pos (by omega)]
    simp [u8c]
  have HR := Hid.mk' hcr
  have HG := Hid.mk' hg
  clear hcr hg
  have q1 : ((m : Int) + 1 != 0) = true := by rw [bne_iff_ne]; omega
  have q2 : ((m : Int) + 1 == 0) = false := by rw [beq_eq_false_iff_ne]; omega
  go_enter Tryz.func244, Tryz.ntmps244
  go_wp2_with (at_builtin; refine wpList_append_own _ rfl _ _ 54 rfl B 5 i0 (.int .u8 0) 1 1 Tryz.underlying54 hi hz0 hz1 hz2 rfl (by decide) _ _ _ rfl (o0.alloc _) ⟨w0.heap.size, 0, none⟩ 1 1 [.int .u8 d] rfl rfl (cells_new _ _ _) (by intro u hu; simp at hu; first | (rcases hu with rfl | rfl | rfl <;> rfl) | (rcases hu with rfl | rfl <;> rfl) | (subst hu; rfl)) (by unfold maxLen; omega) (by omega) (by simp; omega) ?_)
  intro v1 w1 o1 g1 _
  have k1 := k0.trans (kept_append o0 (grown_of_alloc g1) (by have := k0.le; omega))
  have s1 : B ≤ w1.heap.size := Nat.le_trans hBw k1.le
  clear g1
  go_wp2_with (at_builtin; refine wpList_append_own _ rfl _ _ 54 rfl B 5 i0 (.int .u8 0) 1 1 Tryz.underlying54 hi hz0 hz1 hz2 rfl (by decide) _ _ _ rfl (o1.alloc _) ⟨w1.heap.size, 0, none⟩ 1 1 [.int .u8 46] rfl rfl (cells_new _ _ _) (by intro u hu; simp at hu; first | (rcases hu with rfl | rfl | rfl <;> rfl) | (rcases hu with rfl | rfl <;> rfl) | (subst hu; rfl)) (by unfold maxLen; omega) (by omega) (by simp; omega) ?_)
  intro v2 w2 o2 g2 _
  have k2 := k1.trans (kept_append o1 (grown_of_alloc g2) (by have := k1.le; omega))
  have s2 : B ≤ w2.heap.size := Nat.le_trans hBw k2.le
  clear g2
  go_wp2_with (at_builtin; refine wpList_append_own _ rfl _ _ 54 rfl B 5 i0 (.int .u8 0) 1 1 Tryz.underlying54 hi hz0 hz1 hz2 rfl (by decide) _ _ _ rfl o2 ⟨g, 1, none⟩ m 31 (u8c r) ?a1 ?a2 ?a3 (oneCell_u8c r) (by unfold maxLen; omega) (by omega) s2 ?_)
  case a1 => rfl
  case a2 => rw [u8c_length, HM.out]; omega
  case a3 =>
    intro j u hj
    have := HR.out j u hj
    rw [Lib.add_plain, cell_of_heap HG.out (kept_heap k2 HG.out (by decide)) (1 + j)]
    exact this
  intro v3 w3 o3 g3 _
  have k3 := k2.trans (kept_append o2 g3 s2)
  have s3 : B ≤ w3.heap.size := Nat.le_trans hBw k3.le
  clear g3
  go_wp2
  go_loop [0, 114] (fun u v => u = v3 ∧ v = .int .i64 0) (fun _ _ => 0)
  case atStart => exact ⟨rfl, rfl⟩
  case round =>
    obtain ⟨rfl, rfl⟩ := hrel
    go_wp2_with (at_builtin; refine wpList_append_own _ rfl _ _ 54 rfl B 5 i0 (.int .u8 0) 1 1 Tryz.underlying54 hi hz0 hz1 hz2 rfl (by decide) _ _ _ rfl (o3.alloc _) ⟨w3.heap.size, 0, none⟩ 1 1 [.int .u8 101] rfl rfl (cells_new _ _ _) (by intro u hu; simp at hu; first | (rcases hu with rfl | rfl | rfl <;> rfl) | (rcases hu with rfl | rfl <;> rfl) | (subst hu; rfl)) (by unfold maxLen; omega) (by omega) (by simp; omega) ?_)
    intro v4 w4 o4 g4 _
    have k4 := k3.trans (kept_append o3 (grown_of_alloc g4) (by have := k3.le; omega))
    have s4 : B ≤ w4.heap.size := Nat.le_trans hBw k4.le
    clear g4
    go_wp2_with (at_builtin; refine wpList_append_own _ rfl _ _ 54 rfl B 5 i0 (.int .u8 0) 1 1 Tryz.underlying54 hi hz0 hz1 hz2 rfl (by decide) _ _ _ rfl (o4.alloc _) ⟨w4.heap.size, 0, none⟩ 1 1 [.int .u8 45] rfl rfl (cells_new _ _ _) (by intro u hu; simp at hu; first | (rcases hu with rfl | rfl | rfl <;> rfl) | (rcases hu with rfl | rfl <;> rfl) | (subst hu; rfl)) (by unfold maxLen; omega) (by omega) (by simp; omega) ?_)
    intro v5 w5 o5 g5 _
    have k5 := k4.trans (kept_append o4 (grown_of_alloc g5) (by have := k4.le; omega))
    have s5 : B ≤ w5.heap.size := Nat.le_trans hBw k5.le
    clear g5
    go_wp2_with (at_builtin; refine wpList_append_own _ rfl _ _ 54 rfl B 5 i0 (.int .u8 0) 1 1 Tryz.underlying54 hi hz0 hz1 hz2 rfl (by decide) _ _ _ rfl (o5.alloc _) ⟨w5.heap.size, 0, none⟩ 2 2 [.int .u8 48, .int .u8 (x + 48)] rfl rfl (cells_new _ _ _) (by intro u hu; simp at hu; first | (rcases hu with rfl | rfl | rfl <;> rfl) | (rcases hu with rfl | rfl <;> rfl) | (subst hu; rfl)) (by unfold maxLen; omega) (by omega) (by simp; omega) ?_)
    intro v6 w6 o6 g6 _
    have k6 := k5.trans (kept_append o5 (grown_of_alloc g6) (by have := k5.le; omega))
    have s6 : B ≤ w6.heap.size := Nat.le_trans hBw k6.le
    clear g6
    go_wp2
    go_ret
    refine ⟨_, rfl, ?_, k6⟩
    have e1 : fmtN (d :: r) (dp - 1) = [d, 46] ++ r ++ (101 :: expS (dp - 1)) := by cases r with
      | nil => have := HM.out; simp at this; omega
      | cons a b => rfl
    have e2 : (expS (dp - 1)).length = 1 + 2 := by rw [← u8c_length, HX.out]; rfl
    have e3 : u8c (101 :: expS (dp - 1)) = (.int .u8 101) :: (.int .u8 45) :: [.int .u8 48, .int .u8 (x + 48)] := by show _ :: u8c (expS (dp - 1)) = _; rw [HX.out]; rfl
    exact own_eq o6 (by rw [e1]; simp only [List.length_append, List.length_cons, List.length_nil, e2, HM.out]; try omega) (by rw [e1, u8c_append, e3, u8c_append]; simp [u8c])

set_option maxHeartbeats 1000000 in
set_option maxRecDepth 100000 in
theorem fmtE_more_neg2 (B g : Nat) (v0 : Value) (dp : Int) (w0 : World) (o0 : w0.ownsRow B 5 1 v0 0 []) (hBw : B ≤ w0.heap.size) (h1 : dp - 1 < 0) (x : Int) (hx : -(dp - 1) = x) (h2 : 10 ≤ x ∧ x < 100) (d m : Nat) (r : List Nat) (HM : Hid (r.length = m)) (hr : 1 ≤ m) (hr2 : m ≤ 19) (hd : d < 256) (hc : w0.cell? ⟨g, 0, none⟩ = some (.int .u8 d)) (hcr : ∀ j u, (u8c r)[j]? = some u → w0.cell? ⟨g, 1 + j, none⟩ = some u) (cs : Array Value) (fz : Nat × Nat) (hg : w0.heap[g]? = some (.cells cs 228 fz)) :
    Calls Tryz.prog 244 #[v0, .bool false, .slice (some ⟨g, 0, none⟩) 32 32, .int .i64 dp, .int .i64 ((m : Int) + 1), .int .i64 (m : Int), .int .u8 101, .bool true] w0 fun e w' => ∃ v', e = .returned v' ∧ w'.ownsRow B 5 1 v' (fmtN (d :: r) (dp - 1)).length (u8c (fmtN (d :: r) (dp - 1))) ∧ Kept B 5 w0 w' := by
  obtain ⟨i0, hi, hz0, hz1, hz2⟩ := info_parts info8
  have k0 := Kept.refl B 5 w0
  have s0 : B ≤ w0.heap.size := hBw
  have HX : Hid (u8c (expS (dp - 1)) = (.int .u8 45) :: [.int .u8 (x / 10 + 48), .int .u8 (x % 10 + 48)]) := by
    obtain ⟨n, hn⟩ : ∃ n : Nat, x = (n : Int) := ⟨(x).toNat, by omega⟩
    show _ = _
    unfold expS
    rw [if_pos (by omega), hx, hn]
    unfold expN
    rw [if_neg (by omega), if_pos (by omega)]
    simp [u8c]
  have HR := Hid.mk' hcr
  have HG := Hid.mk' hg
  clear hcr hg
  have q1 : ((m : Int) + 1 != 0) = true := by rw [bne_iff_ne]; omega
  have q2 : ((m : Int) + 1 == 0) = false := by rw [beq_eq_false_iff_ne]; omega
  go_enter Tryz.func244, Tryz.ntmps244
  go_wp2_with (at_builtin; refine wpList_append_own _ rfl _ _ 54 rfl B 5 i0 (.int .u8 0) 1 1 Tryz.underlying54 hi hz0 hz1 hz2 rfl (by decide) _ _ _ rfl (o0.alloc _) ⟨w0.heap.size, 0, none⟩ 1 1 [.int .u8 d] rfl rfl (cells_new _ _ _) (by intro u hu; simp at hu; first | (rcases hu with rfl | rfl | rfl <;> rfl) | (rcases hu with rfl | rfl <;> rfl) | (subst hu; rfl)) (by unfold maxLen; omega) (by omega) (by simp; omega) ?_)
  intro v1 w1 o1 g1 _
  have k1 := k0.trans (kept_append o0 (grown_of_alloc g1) (by have := k0.le; omega))
  have s1 : B ≤ w1.heap.size := Nat.le_trans hBw k1.le
  clear g1
  go_wp2_with (at_builtin; refine wpList_append_own _ rfl _ _ 54 rfl B 5 i0 (.int .u8 0) 1 1 Tryz.underlying54 hi hz0 hz1 hz2 rfl (by decide) _ _ _ rfl (o1.alloc _) ⟨w1.heap.size, 0, none⟩ 1 1 [.int .u8 46] rfl rfl (cells_new _ _ _) (by intro u hu; simp at hu; first | (rcases hu with rfl | rfl | rfl <;> rfl) | (rcases hu with rfl | rfl <;> rfl) | (subst hu; rfl)) (by unfold maxLen; omega) (by omega) (by simp; omega) ?_)
  intro v2 w2 o2 g2 _
  have k2 := k1.trans (kept_append o1 (grown_of_alloc g2) (by have := k1.le; omega))
  have s2 : B ≤ w2.heap.size := Nat.le_trans hBw k2.le
  clear g2
  go_wp2_with (at_builtin; refine wpList_append_own _ rfl _ _ 54 rfl B 5 i0 (.int .u8 0) 1 1 Tryz.underlying54 hi hz0 hz1 hz2 rfl (by decide) _ _ _ rfl o2 ⟨g, 1, none⟩ m 31 (u8c r) ?a1 ?a2 ?a3 (oneCell_u8c r) (by unfold maxLen; omega) (by omega) s2 ?_)
  case a1 => rfl
  case a2 => rw [u8c_length, HM.out]; omega
  case a3 =>
    intro j u hj
    have := HR.out j u hj
    rw [Lib.add_plain, cell_of_heap HG.out (kept_heap k2 HG.out (by decide)) (1 + j)]
    exact this
  intro v3 w3 o3 g3 _
  have k3 := k2.trans (kept_append o2 g3 s2)
  have s3 : B ≤ w3.heap.size := Nat.le_trans hBw k3.le
  clear g3
  go_wp2
  go_loop [0, 114] (fun u v => u = v3 ∧ v = .int .i64 0) (fun _ _ => 0)
  case atStart => exact ⟨rfl, rfl⟩
  case round =>
    obtain ⟨rfl, rfl⟩ := hrel
    go_wp2_with (at_builtin; refine wpList_append_own _ rfl _ _ 54 rfl B 5 i0 (.int .u8 0) 1 1 Tryz.underlying54 hi hz0 hz1 hz2 rfl (by decide) _ _ _ rfl (o3.alloc _) ⟨w3.heap.size, 0, none⟩ 1 1 [.int .u8 101] rfl rfl (cells_new _ _ _) (by intro u hu; simp at hu; first | (rcases hu with rfl | rfl | rfl <;> rfl) | (rcases hu with rfl | rfl <;> rfl) | (subst hu; rfl)) (by unfold maxLen; omega) (by omega) (by simp; omega) ?_)
    intro v4 w4 o4 g4 _
    have k4 := k3.trans (kept_append o3 (grown_of_alloc g4) (by have := k3.le; omega))
    have s4 : B ≤ w4.heap.size := Nat.le_trans hBw k4.le
    clear g4
    go_wp2_with (at_builtin; refine wpList_append_own _ rfl _ _ 54 rfl B 5 i0 (.int .u8 0) 1 1 Tryz.underlying54 hi hz0 hz1 hz2 rfl (by decide) _ _ _ rfl (o4.alloc _) ⟨w4.heap.size, 0, none⟩ 1 1 [.int .u8 45] rfl rfl (cells_new _ _ _) (by intro u hu; simp at hu; first | (rcases hu with rfl | rfl | rfl <;> rfl) | (rcases hu with rfl | rfl <;> rfl) | (subst hu; rfl)) (by unfold maxLen; omega) (by omega) (by simp; omega) ?_)
    intro v5 w5 o5 g5 _
    have k5 := k4.trans (kept_append o4 (grown_of_alloc g5) (by have := k4.le; omega))
    have s5 : B ≤ w5.heap.size := Nat.le_trans hBw k5.le
    clear g5
    go_wp2_with (at_builtin; refine wpList_append_own _ rfl _ _ 54 rfl B 5 i0 (.int .u8 0) 1 1 Tryz.underlying54 hi hz0 hz1 hz2 rfl (by decide) _ _ _ rfl (o5.alloc _) ⟨w5.heap.size, 0, none⟩ 2 2 [.int .u8 (x / 10 + 48), .int .u8 (x % 10 + 48)] rfl rfl (cells_new _ _ _) (by intro u hu; simp at hu; first | (rcases hu with rfl | rfl | rfl <;> rfl) | (rcases hu with rfl | rfl <;> rfl) | (subst hu; rfl)) (by unfold maxLen; omega) (by omega) (by simp; omega) ?_)
    intro v6 w6 o6 g6 _
    have k6 := k5.trans (kept_append o5 (grown_of_alloc g6) (by have := k5.le; omega))
    have s6 : B ≤ w6.heap.size := Nat.le_trans hBw k6.le
    clear g6
    go_wp2
    go_ret
    refine ⟨_, rfl, ?_, k6⟩
    have e1 : fmtN (d :: r) (dp - 1) = [d, 46] ++ r ++ (101 :: expS (dp - 1)) := by cases r with
      | nil => have := HM.out; simp at this; omega
      | cons a b => rfl
    have e2 : (expS (dp - 1)).length = 1 + 2 := by rw [← u8c_length, HX.out]; rfl
    have e3 : u8c (101 :: expS (dp - 1)) = (.int .u8 101) :: (.int .u8 45) :: [.int .u8 (x / 10 + 48), .int .u8 (x % 10 + 48)] := by show _ :: u8c (expS (dp - 1)) = _; rw [HX.out]; rfl
    exact own_eq o6 (by rw [e1]; simp only [List.length_append, List.length_cons, List.length_nil, e2, HM.out]; try omega) (by rw [e1, u8c_append, e3, u8c_append]; simp [u8c])

set_option maxHeartbeats 1000000 in
set_option maxRecDepth 100000 in
theorem fmtE_more_neg3 (B g : Nat) (v0 : Value) (dp : Int) (w0 : World) (o0 : w0.ownsRow B 5 1 v0 0 []) (hBw : B ≤ w0.heap.size) (h1 : dp - 1 < 0) (x : Int) (hx : -(dp - 1) = x) (h2 : 100 ≤ x ∧ x < 1000) (d m : Nat) (r : List Nat) (HM : Hid (r.length = m)) (hr : 1 ≤ m) (hr2 : m ≤ 19) (hd : d < 256) (hc : w0.cell? ⟨g, 0, none⟩ = some (.int .u8 d)) (hcr : ∀ j u, (u8c r)[j]? = some u → w0.cell? ⟨g, 1 + j, none⟩ = some u) (cs : Array Value) (fz : Nat × Nat) (hg : w0.heap[g]? = some (.cells cs 228 fz)) :
    Calls Tryz.prog 244 #[v0, .bool false, .slice (some ⟨g, 0, none⟩) 32 32, .int .i64 dp, .int .i64 ((m : Int) + 1), .int .i64 (m : Int), .int .u8 101, .bool true] w0 fun e w' => ∃ v', e = .returned v' ∧ w'.ownsRow B 5 1 v' (fmtN (d :: r) (dp - 1)).length (u8c (fmtN (d :: r) (dp - 1))) ∧ Kept B 5 w0 w' := by
  obtain ⟨i0, hi, hz0, hz1, hz2⟩ := info_parts info8
  have k0 := Kept.refl B 5 w0
  have s0 : B ≤ w0.heap.size := hBw
  have HX : Hid (u8c (expS (dp - 1)) = (.int .u8 45) :: [.int .u8 (x / 100 + 48), .int .u8 (x / 10 % 10 + 48), .int .u8 (x % 10 + 48)]) := by
    obtain ⟨n, hn⟩ : ∃ n : Nat, x = (n : Int) := ⟨(x).toNat, by omega⟩
    show _ = _
    unfold expS
    rw [if_pos (by omega), hx, hn]
    unfold expN
    rw [if_neg (by omega), if_neg (by omega)]
    simp [u8c]
  have HR := Hid.mk' hcr
  have HG := Hid.mk' hg
  clear hcr hg
  have q1 : ((m : Int) + 1 != 0) = true := by rw [bne_iff_ne]; omega
  have q2 : ((m : Int) + 1 == 0) = false := by rw [beq_eq_false_iff_ne]; omega
  go_enter Tryz.func244, Tryz.ntmps244
  go_wp2_with (at_builtin; refine wpList_append_own _ rfl _ _ 54 rfl B 5 i0 (.int .u8 0) 1 1 Tryz.underlying54 hi hz0 hz1 hz2 rfl (by decide) _ _ _ rfl (o0.alloc _) ⟨w0.heap.size, 0, none⟩ 1 1 [.int .u8 d] rfl rfl (cells_new _ _ _) (by intro u hu; simp at hu; first | (rcases hu with rfl | rfl | rfl <;> rfl) | (rcases hu with rfl | rfl <;> rfl) | (subst hu; rfl)) (by unfold maxLen; omega) (by omega) (by simp; omega) ?_)
  intro v1 w1 o1 g1 _
  have k1 := k0.trans (kept_append o0 (grown_of_alloc g1) (by have := k0.le; omega))
  have s1 : B ≤ w1.heap.size := Nat.le_trans hBw k1.le
  clear g1
  go_wp2_with (at_builtin; refine wpList_append_own _ rfl _ _ 54 rfl B 5 i0 (.int .u8 0) 1 1 Tryz.underlying54 hi hz0 hz1 hz2 rfl (by decide) _ _ _ rfl (o1.alloc _) ⟨w1.heap.size, 0, none⟩ 1 1 [.int .u8 46] rfl rfl (cells_new _ _ _) (by intro u hu; simp at hu; first | (rcases hu with rfl | rfl | rfl <;> rfl) | (rcases hu with rfl | rfl <;> rfl) | (subst hu; rfl)) (by unfold maxLen; omega) (by omega) (by simp; omega) ?_)
  intro v2 w2 o2 g2 _
  have k2 := k1.trans (kept_append o1 (grown_of_alloc g2) (by have := k1.le; omega))
  have s2 : B ≤ w2.heap.size := Nat.le_trans hBw k2.le
  clear g2
  go_wp2_with (at_builtin; refine wpList_append_own _ rfl _ _ 54 rfl B 5 i0 (.int .u8 0) 1 1 Tryz.underlying54 hi hz0 hz1 hz2 rfl (by decide) _ _ _ rfl o2 ⟨g, 1, none⟩ m 31 (u8c r) ?a1 ?a2 ?a3 (oneCell_u8c r) (by unfold maxLen; omega) (by omega) s2 ?_)
  case a1 => rfl
  case a2 => rw [u8c_length, HM.out]; omega
  case a3 =>
    intro j u hj
    have := HR.out j u hj
    rw [Lib.add_plain, cell_of_heap HG.out (kept_heap k2 HG.out (by decide)) (1 + j)]
    exact this
  intro v3 w3 o3 g3 _
  have k3 := k2.trans (kept_append o2 g3 s2)
  have s3 : B ≤ w3.heap.size := Nat.le_trans hBw k3.le
  clear g3
  go_wp2
  go_loop [0, 114] (fun u v => u = v3 ∧ v = .int .i64 0) (fun _ _ => 0)
  case atStart => exact ⟨rfl, rfl⟩
  case round =>
    obtain ⟨rfl, rfl⟩ := hrel
    go_wp2_with (at_builtin; refine wpList_append_own _ rfl _ _ 54 rfl B 5 i0 (.int .u8 0) 1 1 Tryz.underlying54 hi hz0 hz1 hz2 rfl (by decide) _ _ _ rfl (o3.alloc _) ⟨w3.heap.size, 0, none⟩ 1 1 [.int .u8 101] rfl rfl (cells_new _ _ _) (by intro u hu; simp at hu; first | (rcases hu with rfl | rfl | rfl <;> rfl) | (rcases hu with rfl | rfl <;> rfl) | (subst hu; rfl)) (by unfold maxLen; omega) (by omega) (by simp; omega) ?_)
    intro v4 w4 o4 g4 _
    have k4 := k3.trans (kept_append o3 (grown_of_alloc g4) (by have := k3.le; omega))
    have s4 : B ≤ w4.heap.size := Nat.le_trans hBw k4.le
    clear g4
    go_wp2_with (at_builtin; refine wpList_append_own _ rfl _ _ 54 rfl B 5 i0 (.int .u8 0) 1 1 Tryz.underlying54 hi hz0 hz1 hz2 rfl (by decide) _ _ _ rfl (o4.alloc _) ⟨w4.heap.size, 0, none⟩ 1 1 [.int .u8 45] rfl rfl (cells_new _ _ _) (by intro u hu; simp at hu; first | (rcases hu with rfl | rfl | rfl <;> rfl) | (rcases hu with rfl | rfl <;> rfl) | (subst hu; rfl)) (by unfold maxLen; omega) (by omega) (by simp; omega) ?_)
    intro v5 w5 o5 g5 _
    have k5 := k4.trans (kept_append o4 (grown_of_alloc g5) (by have := k4.le; omega))
    have s5 : B ≤ w5.heap.size := Nat.le_trans hBw k5.le
    clear g5
    go_wp2_with (at_builtin; refine wpList_append_own _ rfl _ _ 54 rfl B 5 i0 (.int .u8 0) 1 1 Tryz.underlying54 hi hz0 hz1 hz2 rfl (by decide) _ _ _ rfl (o5.alloc _) ⟨w5.heap.size, 0, none⟩ 3 3 [.int .u8 (x / 100 + 48), .int .u8 (x / 10 % 10 + 48), .int .u8 (x % 10 + 48)] rfl rfl (cells_new _ _ _) (by intro u hu; simp at hu; first | (rcases hu with rfl | rfl | rfl <;> rfl) | (rcases hu with rfl | rfl <;> rfl) | (subst hu; rfl)) (by unfold maxLen; omega) (by omega) (by simp; omega) ?_)
    intro v6 w6 o6 g6 _
    have k6 := k5.trans (kept_append o5 (grown_of_alloc g6) (by have := k5.le; omega))
    have s6 : B ≤ w6.heap.size := Nat.le_trans hBw k6.le
    clear g6
    go_wp2
    go_ret
    refine ⟨_, rfl, ?_, k6⟩
    have e1 : fmtN (d :: r) (dp - 1) = [d, 46] ++ r ++ (101 :: expS (dp - 1)) := by cases r with
      | nil => have := HM.out; simp at this; omega
      | cons a b => rfl
    have e2 : (expS (dp - 1)).length = 1 + 3 := by rw [← u8c_length, HX.out]; rfl
    have e3 : u8c (101 :: expS (dp - 1)) = (.int .u8 101) :: (.int .u8 45) :: [.int .u8 (x / 100 + 48), .int .u8 (x / 10 % 10 + 48), .int .u8 (x % 10 + 48)] := by show _ :: u8c (expS (dp - 1)) = _; rw [HX.out]; rfl
    exact own_eq o6 (by rw [e1]; simp only [List.length_append, List.length_cons, List.length_nil, e2, HM.out]; try omega) (by rw [e1, u8c_append, e3, u8c_append]; simp [u8c])
end
section
open Go.RowKit Fl

set_option maxHeartbeats 1000000 in
set_option maxRecDepth 100000 in
theorem fmtE_more_pos1 (B g : Nat) (v0 : Value) (dp : Int) (w0 : World) (o0 : w0.ownsRow B 5 1 v0 0 []) (hBw : B ≤ w0.heap.size) (h1 : 0 ≤ dp - 1) (h2 : (dp - 1) < 10) (d m : Nat) (r : List Nat) (HM : Hid (r.length = m)) (hr : 1 ≤ m) (hr2 : m ≤ 19) (hd : d < 256) (hc : w0.cell? ⟨g, 0, none⟩ = some (.int .u8 d)) (hcr : ∀ j u, (u8c r)[j]? = some u → w0.cell? ⟨g, 1 + j, none⟩ = some u) (cs : Array Value) (fz : Nat × Nat) (hg : w0.heap[g]? = some (.cells cs 228 fz)) :
    Calls Tryz.prog 244 #[v0, .bool false, .slice (some ⟨g, 0, none⟩) 32 32, .int .i64 dp, .int .i64 ((m : Int) + 1), .int .i64 (m : Int), .int .u8 101, .bool true] w0 fun e w' => ∃ v', e = .returned v' ∧ w'.ownsRow B 5 1 v' (fmtN (d :: r) (dp - 1)).length (u8c (fmtN (d :: r) (dp - 1))) ∧ Kept B 5 w0 w' := by
  obtain ⟨i0, hi, hz0, hz1, hz2⟩ := info_parts info8
  have k0 := Kept.refl B 5 w0
  have s0 : B ≤ w0.heap.size := hBw
  have HX : Hid (u8c (expS (dp - 1)) = (.int .u8 43) :: [.int .u8 48, .int .u8 ((dp - 1) + 48)]) := by
    obtain ⟨n, hn⟩ : ∃ n : Nat, (dp - 1) = (n : Int) := ⟨((dp - 1)).toNat, by omega⟩
    show _ = _
    unfold expS
    rw [if_neg (by omega), hn]
    unfold expN
    rw [if_pos (by omega)]
    simp [u8c]
  have HR := Hid.mk' hcr
  have HG := Hid.mk' hg
  clear hcr hg
  have q1 : ((m : Int) + 1 != 0) = true := by rw [bne_iff_ne]; omega
  have q2 : ((m : Int) + 1 == 0) = false := by rw [beq_eq_false_iff_ne]; omega
  go_enter Tryz.func244, Tryz.ntmps244
  go_wp2_with (at_builtin; refine wpList_append_own _ rfl _ _ 54 rfl B 5 i0 (.int .u8 0) 1 1 Tryz.underlying54 hi hz0 hz1 hz2 rfl (by decide) _ _ _ rfl (o0.alloc _) ⟨w0.heap.size, 0, none⟩ 1 1 [.int .u8 d] rfl rfl (cells_new _ _ _) (by intro u hu; simp at hu; first | (rcases hu with rfl | rfl | rfl <;> rfl) | (rcases hu with rfl | rfl <;> rfl) | (subst hu; rfl)) (by unfold maxLen; omega) (by omega) (by simp; omega) ?_)
  intro v1 w1 o1 g1 _
  have k1 := k0.trans (kept_append o0 (grown_of_alloc g1) (by have := k0.le; omega))
  have s1 : B ≤ w1.heap.size := Nat.le_trans hBw k1.le
  clear g1
  go_wp2_with (at_builtin; refine wpList_append_own _ rfl _ _ 54 rfl B 5 i0 (.int .u8 0) 1 1 Tryz.underlying54 hi hz0 hz1 hz2 rfl (by decide) _ _ _ rfl (o1.alloc _) ⟨w1.heap.size, 0, none⟩ 1 1 [.int .u8 46] rfl rfl (cells_new _ _ _) (by intro u hu; simp at hu; first | (rcases hu with rfl | rfl | rfl <;> rfl) | (rcases hu with rfl | rfl <;> rfl) | (subst hu; rfl)) (by unfold maxLen; omega) (by omega) (by simp; omega) ?_)
  intro v2 w2 o2 g2 _
  have k2 := k1.trans (kept_append o1 (grown_of_alloc g2) (by have := k1.le; omega))
  have s2 : B ≤ w2.heap.size := Nat.le_trans hBw k2.le
  clear g2
  go_wp2_with (at_builtin; refine wpList_append_own _ rfl _ _ 54 rfl B 5 i0 (.int .u8 0) 1 1 Tryz.underlying54 hi hz0 hz1 hz2 rfl (by decide) _ _ _ rfl o2 ⟨g, 1, none⟩ m 31 (u8c r) ?a1 ?a2 ?a3 (oneCell_u8c r) (by unfold maxLen; omega) (by omega) s2 ?_)
  case a1 => rfl
  case a2 => rw [u8c_length, HM.out]; omega
  case a3 =>
    intro j u hj
    have := HR.out j u hj
    rw [Lib.add_plain, cell_of_heap HG.out (kept_heap k2 HG.out (by decide)) (1 + j)]
    exact this
  intro v3 w3 o3 g3 _
  have k3 := k2.trans (kept_append o2 g3 s2)
  have s3 : B ≤ w3.heap.size := Nat.le_trans hBw k3.le
  clear g3
  go_wp2
  go_loop [0, 114] (fun u v => u = v3 ∧ v = .int .i64 0) (fun _ _ => 0)
  case atStart => exact ⟨rfl, rfl⟩
  case round =>
    obtain ⟨rfl, rfl⟩ := hrel
    go_wp2_with (at_builtin; refine wpList_append_own _ rfl _ _ 54 rfl B 5 i0 (.int .u8 0) 1 1 Tryz.underlying54 hi hz0 hz1 hz2 rfl (by decide) _ _ _ rfl (o3.alloc _) ⟨w3.heap.size, 0, none⟩ 1 1 [.int .u8 101] rfl rfl (cells_new _ _ _) (by intro u hu; simp at hu; first | (rcases hu with rfl | rfl | rfl <;> rfl) | (rcases hu with rfl | rfl <;> rfl) | (subst hu; rfl)) (by unfold maxLen; omega) (by omega) (by simp; omega) ?_)
    intro v4 w4 o4 g4 _
    have k4 := k3.trans (kept_append o3 (grown_of_alloc g4) (by have := k3.le; omega))
    have s4 : B ≤ w4.heap.size := Nat.le_trans hBw k4.le
    clear g4
    go_wp2_with (at_builtin; refine wpList_append_own _ rfl _ _ 54 rfl B 5 i0 (.int .u8 0) 1 1 Tryz.underlying54 hi hz0 hz1 hz2 rfl (by decide) _ _ _ rfl (o4.alloc _) ⟨w4.heap.size, 0, none⟩ 1 1 [.int .u8 43] rfl rfl (cells_new _ _ _) (by intro u hu; simp at hu; first | (rcases hu with rfl | rfl | rfl <;> rfl) | (rcases hu with rfl | rfl <;> rfl) | (subst hu; rfl)) (by unfold maxLen; omega) (by omega) (by simp; omega) ?_)
    intro v5 w5 o5 g5 _
    have k5 := k4.trans (kept_append o4 (grown_of_alloc g5) (by have := k4.le; omega))
    have s5 : B ≤ w5.heap.size := Nat.le_trans hBw k5.le
    clear g5
    go_wp2_with (at_builtin; refine wpList_append_own _ rfl _ _ 54 rfl B 5 i0 (.int .u8 0) 1 1 Tryz.underlying54 hi hz0 hz1 hz2 rfl (by decide) _ _ _ rfl (o5.alloc _) ⟨w5.heap.size, 0, none⟩ 2 2 [.int .u8 48, .int .u8 ((dp - 1) + 48)] rfl rfl (cells_new _ _ _) (by intro u hu; simp at hu; first | (rcases hu with rfl | rfl | rfl <;> rfl) | (rcases hu with rfl | rfl <;> rfl) | (subst hu; rfl)) (by unfold maxLen; omega) (by omega) (by simp; omega) ?_)
    intro v6 w6 o6 g6 _
    have k6 := k5.trans (kept_append o5 (grown_of_alloc g6) (by have := k5.le; omega))
    have s6 : B ≤ w6.heap.size := Nat.le_trans hBw k6.le
    clear g6
    go_wp2
    go_ret
    refine ⟨_, rfl, ?_, k6⟩
    have e1 : fmtN (d :: r) (dp - 1) = [d, 46] ++ r ++ (101 :: expS (dp - 1)) := by cases r with
      | nil => have := HM.out; simp at this; omega
      | cons a b => rfl
    have e2 : (expS (dp - 1)).length = 1 + 2 := by rw [← u8c_length, HX.out]; rfl
    have e3 : u8c (101 :: expS (dp - 1)) = (.int .u8 101) :: (.int .u8 43) :: [.int .u8 48, .int .u8 ((dp - 1) + 48)] := by show _ :: u8c (expS (dp - 1)) = _; rw [HX.out]; rfl
    exact own_eq o6 (by rw [e1]; simp only [List.length_append, List.length_cons, List.length_nil, e2, HM.out]; try omega) (by rw [e1, u8c_append, e3, u8c_append]; simp [u8c])

set_option maxHeartbeats 1000000 in
set_option maxRecDepth 100000 in
theorem fmtE_more_pos2 (B g : Nat) (v0 : Value) (dp : Int) (w0 : World) (o0 : w0.ownsRow B 5 1 v0 0 []) (hBw : B ≤ w0.heap.size) (h1 : 0 ≤ dp - 1) (h2 : 10 ≤ (dp - 1) ∧ (dp - 1) < 100) (d m : Nat) (r : List Nat) (HM : Hid (r.length = m)) (hr : 1 ≤ m) (hr2 : m ≤ 19) (hd : d < 256) (hc : w0.cell? ⟨g, 0, none⟩ = some (.int .u8 d)) (hcr : ∀ j u, (u8c r)[j]? = some u → w0.cell? ⟨g, 1 + j, none⟩ = some u) (cs : Array Value) (fz : Nat × Nat) (hg : w0.heap[g]? = some (.cells cs 228 fz)) :
    Calls Tryz.prog 244 #[v0, .bool false, .slice (some ⟨g, 0, none⟩) 32 32, .int .i64 dp, .int .i64 ((m : Int) + 1), .int .i64 (m : Int), .int .u8 101, .bool true] w0 fun e w' => ∃ v', e = .returned v' ∧ w'.ownsRow B 5 1 v' (fmtN (d :: r) (dp - 1)).length (u8c (fmtN (d :: r) (dp - 1))) ∧ Kept B 5 w0 w' := by
  obtain ⟨i0, hi, hz0, hz1, hz2⟩ := info_parts info8
  have k0 := Kept.refl B 5 w0
  have s0 : B ≤ w0.heap.size := hBw
  have HX : Hid (u8c (expS (dp - 1)) = (.int .u8 43) :: [.int .u8 ((dp - 1) / 10 + 48), .int .u8 ((dp - 1) % 10 + 48)]) := by
    obtain ⟨n, hn⟩ : ∃ n : Nat, (dp - 1) = (n : Int) := ⟨((dp - 1)).toNat, by omega⟩
    show _ = _
    unfold expS
    rw [if_neg (by omega), hn]
    unfold expN
    rw [if_neg (by omega), if_pos (by omega)]
    simp [u8c]
  have HR := Hid.mk' hcr
  have HG := Hid.mk' hg
  clear hcr hg
  have q1 : ((m : Int) + 1 != 0) = true := by rw [bne_iff_ne]; omega
  have q2 : ((m : Int) + 1 == 0) = false := by rw [beq_eq_false_iff_ne]; omega
  go_enter Tryz.func244, Tryz.ntmps244
  go_wp2_with (at_builtin; refine wpList_append_own _ rfl _ _ 54 rfl B 5 i0 (.int .u8 0) 1 1 Tryz.underlying54 hi hz0 hz1 hz2 rfl (by decide) _ _ _ rfl (o0.alloc _) ⟨w0.heap.size, 0, none⟩ 1 1 [.int .u8 d] rfl rfl (cells_new _ _ _) (by intro u hu; simp at hu; first | (rcases hu with rfl | rfl | rfl <;> rfl) | (rcases hu with rfl | rfl <;> rfl) | (subst hu; rfl)) (by unfold maxLen; omega) (by omega) (by simp; omega) ?_)
  intro v1 w1 o1 g1 _
  have k1 := k0.trans (kept_append o0 (grown_of_alloc g1) (by have := k0.le; omega))
  have s1 : B ≤ w1.heap.size := Nat.le_trans hBw k1.le
  clear g1
  go_wp2_with (at_builtin; refine wpList_append_own _ rfl _ _ 54 rfl B 5 i0 (.int .u8 0) 1 1 Tryz.underlying54 hi hz0 hz1 hz2 rfl (by decide) _ _ _ rfl (o1.alloc _) ⟨w1.heap.size, 0, none⟩ 1 1 [.int .u8 46] rfl rfl (cells_new _ _ _) (by intro u hu; simp at hu; first | (rcases hu with rfl | rfl | rfl <;> rfl) | (rcases hu with rfl | rfl <;> rfl) | (subst hu; rfl)) (by unfold maxLen; omega) (by omega) (by simp; omega) ?_)
  intro v2 w2 o2 g2 _
  have k2 := k1.trans (kept_append o1 (grown_of_alloc g2) (by have := k1.le; omega))
  have s2 : B ≤ w2.heap.size := Nat.le_trans hBw k2.le
  clear g2
  go_wp2_with (at_builtin; refine wpList_append_own _ rfl _ _ 54 rfl B 5 i0 (.int .u8 0) 1 1 Tryz.underlying54 hi hz0 hz1 hz2 rfl (by decide) _ _ _ rfl o2 ⟨g, 1, none⟩ m 31 (u8c r) ?a1 ?a2 ?a3 (oneCell_u8c r) (by unfold maxLen; omega) (by omega) s2 ?_)
  case a1 => rfl
  case a2 => rw [u8c_length, HM.out]; omega
  case a3 =>
    intro j u hj
    have := HR.out j u hj
    rw [Lib.add_plain, cell_of_heap HG.out (kept_heap k2 HG.out (by decide)) (1 + j)]
    exact this
  intro v3 w3 o3 g3 _
  have k3 := k2.trans (kept_append o2 g3 s2)
  have s3 : B ≤ w3.heap.size := Nat.le_trans hBw k3.le
  clear g3
  go_wp2
  go_loop [0, 114] (fun u v => u = v3 ∧ v = .int .i64 0) (fun _ _ => 0)
  case atStart => exact ⟨rfl, rfl⟩
  case round =>
    obtain ⟨rfl, rfl⟩ := hrel
    go_wp2_with (at_builtin; refine wpList_append_own _ rfl _ _ 54 rfl B 5 i0 (.int .u8 0) 1 1 Tryz.underlying54 hi hz0 hz1 hz2 rfl (by decide) _ _ _ rfl (o3.alloc _) ⟨w3.heap.size, 0, none⟩ 1 1 [.int .u8 101] rfl rfl (cells_new _ _ _) (by intro u hu; simp at hu; first | (rcases hu with rfl | rfl | rfl <;> rfl) | (rcases hu with rfl | rfl <;> rfl) | (subst hu; rfl)) (by unfold maxLen; omega) (by omega) (by simp; omega) ?_)
    intro v4 w4 o4 g4 _
    have k4 := k3.trans (kept_append o3 (grown_of_alloc g4) (by have := k3.le; omega))
    have s4 : B ≤ w4.heap.size := Nat.le_trans hBw k4.le
    clear g4
    go_wp2_with (at_builtin; refine wpList_append_own _ rfl _ _ 54 rfl B 5 i0 (.int .u8 0) 1 1 Tryz.underlying54 hi hz0 hz1 hz2 rfl (by decide) _ _ _ rfl (o4.alloc _) ⟨w4.heap.size, 0, none⟩ 1 1 [.int .u8 43] rfl rfl (cells_new _ _ _) (by intro u hu; simp at hu; first | (rcases hu with rfl | rfl | rfl <;> rfl) | (rcases hu with rfl | rfl <;> rfl) | (subst hu; rfl)) (by unfold maxLen; omega) (by omega) (by simp; omega) ?_)
    intro v5 w5 o5 g5 _
    have k5 := k4.trans (kept_append o4 (grown_of_alloc g5) (by have := k4.le; omega))
    have s5 : B ≤ w5.heap.size := Nat.le_trans hBw k5.le
    clear g5
    go_wp2_with (at_builtin; refine wpList_append_own _ rfl _ _ 54 rfl B 5 i0 (.int .u8 0) 1 1 Tryz.underlying54 hi hz0 hz1 hz2 rfl (by decide) _ _ _ rfl (o5.alloc _) ⟨w5.heap.size, 0, none⟩ 2 2 [.int .u8 ((dp - 1) / 10 + 48), .int .u8 ((dp - 1) % 10 + 48)] rfl rfl (cells_new _ _ _) (by intro u hu; simp at hu; first | (rcases hu with rfl | rfl | rfl <;> rfl) | (rcases hu with rfl | rfl <;> rfl) | (subst hu; rfl)) (by unfold maxLen; omega) (by omega) (by simp; omega) ?_)
    intro v6 w6 o6 g6 _
    have k6 := k5.trans (kept_append o5 (grown_of_alloc g6) (by have := k5.le; omega))
    have s6 : B ≤ w6.heap.size := Nat.le_trans hBw k6.le
    clear g6
    go_wp2
    go_ret
    refine ⟨_, rfl, ?_, k6⟩
    have e1 : fmtN (d :: r) (dp - 1) = [d, 46] ++ r ++ (101 :: expS (dp - 1)) := by cases r with
      | nil => have := HM.out; simp at this; omega
      | cons a b => rfl
    have e2 : (expS (dp - 1)).length = 1 + 2 := by rw [← u8c_length, HX.out]; rfl
    have e3 : u8c (101 :: expS (dp - 1)) = (.int .u8 101) :: (.int .u8 43) :: [.int .u8 ((dp - 1) / 10 + 48), .int .u8 ((dp - 1) % 10 + 48)] := by show _ :: u8c (expS (dp - 1)) = _; rw [HX.out]; rfl
    exact own_eq o6 (by rw [e1]; simp only [List.length_append, List.length_cons, List.length_nil, e2, HM.out]; try omega) (by rw [e1, u8c_append, e3, u8c_append]; simp [u8c])

set_option maxHeartbeats 1000000 in
set_option maxRecDepth 100000 in
theorem fmtE_more_pos3 (B g : Nat) (v0 : Value) (dp : Int) (w0 : World) (o0 : w0.ownsRow B 5 1 v0 0 []) (hBw : B ≤ w0.heap.size) (h1 : 0 ≤ dp - 1) (h2 : 100 ≤ (dp - 1) ∧ (dp - 1) < 1000) (d m : Nat) (r : List Nat) (HM : Hid (r.length = m)) (hr : 1 ≤ m) (hr2 : m ≤ 19) (hd : d < 256) (hc : w0.cell? ⟨g, 0, none⟩ = some (.int .u8 d)) (hcr : ∀ j u, (u8c r)[j]? = some u → w0.cell? ⟨g, 1 + j, none⟩ = some u) (cs : Array Value) (fz : Nat × Nat) (hg : w0.heap[g]? = some (.cells cs 228 fz)) :
    Calls Tryz.prog 244 #[v0, .bool false, .slice (some ⟨g, 0, none⟩) 32 32, .int .i64 dp, .int .i64 ((m : Int) + 1), .int .i64 (m : Int), .int .u8 101, .bool true] w0 fun e w' => ∃ v', e = .returned v' ∧ w'.ownsRow B 5 1 v' (fmtN (d :: r) (dp - 1)).length (u8c (fmtN (d :: r) (dp - 1))) ∧ Kept B 5 w0 w' := by
  obtain ⟨i0, hi, hz0, hz1, hz2⟩ := info_parts info8
  have k0 := Kept.refl B 5 w0
  have s0 : B ≤ w0.heap.size := hBw
  have HX : Hid (u8c (expS (dp - 1)) = (.int .u8 43) :: [.int .u8 ((dp - 1) / 100 + 48), .int .u8 ((dp - 1) / 10 % 10 + 48), .int .u8 ((dp - 1) % 10 + 48)]) := by
    obtain ⟨n, hn⟩ : ∃ n : Nat, (dp - 1) = (n : Int) := ⟨((dp - 1)).toNat, by omega⟩
    show _ = _
    unfold expS
    rw [if_neg (by omega), hn]
    unfold expN
    rw [if_neg (by omega), if_neg (by omega)]
    simp [u8c]
  have HR := Hid.mk' hcr
  have HG := Hid.mk' hg
  clear hcr hg
  have q1 : ((m : Int) + 1 != 0) = true := by rw [bne_iff_ne]; omega
  have q2 : ((m : Int) + 1 == 0) = false := by rw [beq_eq_false_iff_ne]; omega
  go_enter Tryz.func244, Tryz.ntmps244
  go_wp2_with (at_builtin; refine wpList_append_own _ rfl _ _ 54 rfl B 5 i0 (.int .u8 0) 1 1 Tryz.underlying54 hi hz0 hz1 hz2 rfl (by decide) _ _ _ rfl (o0.alloc _) ⟨w0.heap.size, 0, none⟩ 1 1 [.int .u8 d] rfl rfl (cells_new _ _ _) (by intro u hu; simp at hu; first | (rcases hu with rfl | rfl | rfl <;> rfl) | (rcases hu with rfl | rfl <;> rfl) | (subst hu; rfl)) (by unfold maxLen; omega) (by omega) (by simp; omega) ?_)
  intro v1 w1 o1 g1 _
  have k1 := k0.trans (kept_append o0 (grown_of_alloc g1) (by have := k0.le; omega))
  have s1 : B ≤ w1.heap.size := Nat.le_trans hBw k1.le
  clear g1
  go_wp2_with (at_builtin; refine wpList_append_own _ rfl _ _ 54 rfl B 5 i0 (.int .u8 0) 1 1 Tryz.underlying54 hi hz0 hz1 hz2 rfl (by decide) _ _ _ rfl (o1.alloc _) ⟨w1.heap.size, 0, none⟩ 1 1 [.int .u8 46] rfl rfl (cells_new _ _ _) (by intro u hu; simp at hu; first | (rcases hu with rfl | rfl | rfl <;> rfl) | (rcases hu with rfl | rfl <;> rfl) | (subst hu; rfl)) (by unfold maxLen; omega) (by omega) (by simp; omega) ?_)
  intro v2 w2 o2 g2 _
  have k2 := k1.trans (kept_append o1 (grown_of_alloc g2) (by have := k1.le; omega))
  have s2 : B ≤ w2.heap.size := Nat.le_trans hBw k2.le
  clear g2
  go_wp2_with (at_builtin; refine wpList_append_own _ rfl _ _ 54 rfl B 5 i0 (.int .u8 0) 1 1 Tryz.underlying54 hi hz0 hz1 hz2 rfl (by decide) _ _ _ rfl o2 ⟨g, 1, none⟩ m 31 (u8c r) ?a1 ?a2 ?a3 (oneCell_u8c r) (by unfold maxLen; omega) (by omega) s2 ?_)
  case a1 => rfl
  case a2 => rw [u8c_length, HM.out]; omega
  case a3 =>
    intro j u hj
    have := HR.out j u hj
    rw [Lib.add_plain, cell_of_heap HG.out (kept_heap k2 HG.out (by decide)) (1 + j)]
    exact this
  intro v3 w3 o3 g3 _
  have k3 := k2.trans (kept_append o2 g3 s2)
  have s3 : B ≤ w3.heap.size := Nat.le_trans hBw k3.le
  clear g3
  go_wp2
  go_loop [0, 114] (fun u v => u = v3 ∧ v = .int .i64 0) (fun _ _ => 0)
  case atStart => exact ⟨rfl, rfl⟩
  case round =>
    obtain ⟨rfl, rfl⟩ := hrel
    go_wp2_with (at_builtin; refine wpList_append_own _ rfl _ _ 54 rfl B 5 i0 (.int .u8 0) 1 1 Tryz.underlying54 hi hz0 hz1 hz2 rfl (by decide) _ _ _ rfl (o3.alloc _) ⟨w3.heap.size, 0, none⟩ 1 1 [.int .u8 101] rfl rfl (cells_new _ _ _) (by intro u hu; simp at hu; first | (rcases hu with rfl | rfl | rfl <;> rfl) | (rcases hu with rfl | rfl <;> rfl) | (subst hu; rfl)) (by unfold maxLen; omega) (by omega) (by simp; omega) ?_)
    intro v4 w4 o4 g4 _
    have k4 := k3.trans (kept_append o3 (grown_of_alloc g4) (by have := k3.le; omega))
    have s4 : B ≤ w4.heap.size := Nat.le_trans hBw k4.le
    clear g4
    go_wp2_with (at_builtin; refine wpList_append_own _ rfl _ _ 54 rfl B 5 i0 (.int .u8 0) 1 1 Tryz.underlying54 hi hz0 hz1 hz2 rfl (by decide) _ _ _ rfl (o4.alloc _) ⟨w4.heap.size, 0, none⟩ 1 1 [.int .u8 43] rfl rfl (cells_new _ _ _) (by intro u hu; simp at hu; first | (rcases hu with rfl | rfl | rfl <;> rfl) | (rcases hu with rfl | rfl <;> rfl) | (subst hu; rfl)) (by unfold maxLen; omega) (by omega) (by simp; omega) ?_)
    intro v5 w5 o5 g5 _
    have k5 := k4.trans (kept_append o4 (grown_of_alloc g5) (by have := k4.le; omega))
    have s5 : B ≤ w5.heap.size := Nat.le_trans hBw k5.le
    clear g5
    go_wp2_with (at_builtin; refine wpList_append_own _ rfl _ _ 54 rfl B 5 i0 (.int .u8 0) 1 1 Tryz.underlying54 hi hz0 hz1 hz2 rfl (by decide) _ _ _ rfl (o5.alloc _) ⟨w5.heap.size, 0, none⟩ 3 3 [.int .u8 ((dp - 1) / 100 + 48), .int .u8 ((dp - 1) / 10 % 10 + 48), .int .u8 ((dp - 1) % 10 + 48)] rfl rfl (cells_new _ _ _) (by intro u hu; simp at hu; first | (rcases hu with rfl | rfl | rfl <;> rfl) | (rcases hu with rfl | rfl <;> rfl) | (subst hu; rfl)) (by unfold maxLen; omega) (by omega) (by simp; omega) ?_)
    intro v6 w6 o6 g6 _
    have k6 := k5.trans (kept_append o5 (grown_of_alloc g6) (by have := k5.le; omega))
    have s6 : B ≤ w6.heap.size := Nat.le_trans hBw k6.le
    clear g6
    go_wp2
    go_ret
    refine ⟨_, rfl, ?_, k6⟩
    have e1 : fmtN (d :: r) (dp - 1) = [d, 46] ++ r ++ (101 :: expS (dp - 1)) := by cases r with
      | nil => have := HM.out; simp at this; omega
      | cons a b => rfl
    have e2 : (expS (dp - 1)).length = 1 + 3 := by rw [← u8c_length, HX.out]; rfl
    have e3 : u8c (101 :: expS (dp - 1)) = (.int .u8 101) :: (.int .u8 43) :: [.int .u8 ((dp - 1) / 100 + 48), .int .u8 ((dp - 1) / 10 % 10 + 48), .int .u8 ((dp - 1) % 10 + 48)] := by show _ :: u8c (expS (dp - 1)) = _; rw [HX.out]; rfl
    exact own_eq o6 (by rw [e1]; simp only [List.length_append, List.length_cons, List.length_nil, e2, HM.out]; try omega) (by rw [e1, u8c_append, e3, u8c_append]; simp [u8c])
end
end Go.Proofs.YtbkkkpfoaggejaaGreatDoor

namespace Go.Proofs.YtbkkkpfoaggejaaGreatDoor
set_option linter.unusedVariables false
open Go.RowKit Fl

theorem fmtE_any (B g : Nat) (v0 : Value) (dp : Int) (w0 : World) (o0 : w0.ownsRow B 5 1 v0 0 []) (hBw : B ≤ w0.heap.size) (ds : List Nat) (hds : ds.length ≤ 20) (hb : ∀ d ∈ ds, d < 256)
    (hc : ∀ j (h : j < ds.length), w0.cell? ⟨g, j, none⟩ = some (.int .u8 (ds[j] : Nat))) (hg : RowT w0 g 228) (hdp : -998 ≤ dp ∧ dp ≤ 1000) :
    Calls Tryz.prog 244 #[v0, .bool false, .slice (some ⟨g, 0, none⟩) 32 32, .int .i64 dp, .int .i64 (ds.length : Nat), .int .i64 (ds.length - 1 : Nat), .int .u8 101, .bool true] w0 fun e w' => ∃ v', e = .returned v' ∧ w'.ownsRow B 5 1 v' (fmtN ds (dp - 1)).length (u8c (fmtN ds (dp - 1))) ∧ Kept B 5 w0 w' := by
  obtain ⟨cs, fz, hg⟩ := hg
  rcases ds with _ | ⟨d, r⟩
  · exact fmtE_none B g v0 dp w0 o0 hBw
  · have hd : d < 256 := hb d (by simp)
    have hc0 : w0.cell? ⟨g, 0, none⟩ = some (.int .u8 (d : Nat)) := hc 0 (by simp)
    rcases r with _ | ⟨d2, r⟩
    · by_cases h1 : dp - 1 < 0
      · obtain ⟨x, hx⟩ : ∃ x, -(dp - 1) = x := ⟨_, rfl⟩
        by_cases a1 : x < 10
        · exact fmtE_one_neg1 B g v0 dp w0 o0 hBw h1 x hx a1 d hd hc0
        · by_cases a2 : x < 100
          · exact fmtE_one_neg2 B g v0 dp w0 o0 hBw h1 x hx ⟨by omega, a2⟩ d hd hc0
          · exact fmtE_one_neg3 B g v0 dp w0 o0 hBw h1 x hx ⟨by omega, by omega⟩ d hd hc0
      · by_cases a1 : dp - 1 < 10
        · exact fmtE_one_pos1 B g v0 dp w0 o0 hBw (by omega) a1 d hd hc0
        · by_cases a2 : dp - 1 < 100
          · exact fmtE_one_pos2 B g v0 dp w0 o0 hBw (by omega) ⟨by omega, a2⟩ d hd hc0
          · exact fmtE_one_pos3 B g v0 dp w0 o0 hBw (by omega) ⟨by omega, by omega⟩ d hd hc0
    · have hr1 : 1 ≤ (d2 :: r).length := by simp
      generalize d2 :: r = q at *
      have hr2 : q.length ≤ 19 := by simp at hds; omega
      have hcr : ∀ j u, (u8c q)[j]? = some u → w0.cell? ⟨g, 1 + j, none⟩ = some u := fun j u h => by
        obtain ⟨hj, e⟩ := List.getElem?_eq_some_iff.1 h
        rw [u8c_length] at hj
        have := hc (j + 1) (by simp; omega)
        rw [show 1 + j = j + 1 by omega, this, ← e]
        simp [u8c]
      have e1 : ((d :: q).length : Int) = (q.length : Int) + 1 := by simp
      have e2 : (((d :: q).length - 1 : Nat) : Int) = (q.length : Int) := by simp
      rw [e1, e2]
      by_cases h1 : dp - 1 < 0
      · obtain ⟨x, hx⟩ : ∃ x, -(dp - 1) = x := ⟨_, rfl⟩
        by_cases a1 : x < 10
        · exact fmtE_more_neg1 B g v0 dp w0 o0 hBw h1 x hx a1 d _ q rfl hr1 hr2 hd hc0 hcr cs fz hg
        · by_cases a2 : x < 100
          · exact fmtE_more_neg2 B g v0 dp w0 o0 hBw h1 x hx ⟨by omega, a2⟩ d _ q rfl hr1 hr2 hd hc0 hcr cs fz hg
          · exact fmtE_more_neg3 B g v0 dp w0 o0 hBw h1 x hx ⟨by omega, by omega⟩ d _ q rfl hr1 hr2 hd hc0 hcr cs fz hg
      · by_cases a1 : dp - 1 < 10
        · exact fmtE_more_pos1 B g v0 dp w0 o0 hBw (by omega) a1 d _ q rfl hr1 hr2 hd hc0 hcr cs fz hg
        · by_cases a2 : dp - 1 < 100
          · exact fmtE_more_pos2 B g v0 dp w0 o0 hBw (by omega) ⟨by omega, a2⟩ d _ q rfl hr1 hr2 hd hc0 hcr cs fz hg
          · exact fmtE_more_pos3 B g v0 dp w0 o0 hBw (by omega) ⟨by omega, by omega⟩ d _ q rfl hr1 hr2 hd hc0 hcr cs fz hg

/-- How many decimal digits the program counts. -/
def ndN (d : Nat) : Nat := if d = 0 then 0 else Lib.nDigits d
set_option maxHeartbeats 1000000 in
theorem numDigits_zero (w : World) (htab : Lib.TabIs Tryz.prog w "internal/strconv.uint64pow10" .u64 Lib.pow10Tab) :
    Calls Tryz.prog 233 #[.int .u64 0] w fun e w' => e = .returned (.int .i64 0) ∧ w' = w := by
  have c0 : w.cell? ⟨8, 0, none⟩ = some (.int .u64 1) := htab.cell (by kernel_rfl) 0 (by decide)
  go_enter Tryz.func233, Tryz.ntmps233
  go_wp2_with (first | (go_at_call 144; refine (Tryz.bits_Len64 _ _ (by omega) (by omega)).mono ?_; rintro e w1 ⟨rfl, hw1⟩; rw [hw1]; clear hw1 w1; rw [show Lib.bitLen (0 : Int).toNat = 0 by decide]) | (go_at_call 247; refine (log10Pow2_any _ _ ⟨by omega, by omega⟩).mono ?_; rintro e w1 ⟨rfl, hw1⟩; rw [hw1]; clear hw1 w1) | (go_at_call 257; refine (Tryz.internal_strconv_bool2_int _ _).mono ?_; rintro e w1 ⟨rfl, hw1⟩; rw [hw1]; clear hw1 w1))
  go_ret
  exact ⟨rfl, rfl⟩
theorem numDigits_any (d : Nat) (hd : d < 18446744073709551616) (w : World) (htab : Lib.TabIs Tryz.prog w "internal/strconv.uint64pow10" .u64 Lib.pow10Tab) :
    Calls Tryz.prog 233 #[.int .u64 (d : Nat)] w fun e w' => e = .returned (.int .i64 (ndN d : Nat)) ∧ w' = w := by
  unfold ndN
  by_cases h : d = 0
  · subst h
    rw [if_pos rfl]
    exact numDigits_zero w htab
  · rw [if_neg h]
    exact Tryz.internal_strconv_numDigits d (by omega) hd w htab
theorem ndN_lt (d : Nat) (hd : d < 18446744073709551616) : ndN d ≤ 20 ∧ d < 10 ^ ndN d := by
  unfold ndN
  by_cases h : d = 0
  · rw [if_pos h, h]; decide
  · rw [if_neg h]
    have := Lib.numDigits_eq d (by omega) hd
    exact ⟨by split at this <;> omega, Lib.lt_pow_nDigits d⟩
/-- The digits that are shown, without noughts at the end. -/
def digL (d : Nat) : List Nat := (List.range (trimTo d (ndN d) (ndN d))).map (dgN d (ndN d))
theorem digL_length (d : Nat) : (digL d).length = trimTo d (ndN d) (ndN d) := by simp [digL]
theorem digL_digit (d : Nat) : ∀ c ∈ digL d, 48 ≤ c ∧ c ≤ 57 := by
  intro c hc
  simp only [digL, List.mem_map] at hc
  obtain ⟨t, _, rfl⟩ := hc
  exact dgN_lt _ _ _
/-- The text of a positive number. -/
def ffT (b : Nat) : List Nat := fmtN (digL (ffS b).1.toNat) ((ndN (ffS b).1.toNat : Int) + (ffS b).2 - 1)
theorem ffT_01 : ffT 4591870180066957722 = [49, 101, 45, 48, 49] := by kernel_rfl
theorem ffT_e21 : ffT 4921056587992461136 = [49, 101, 43, 50, 49] := by kernel_rfl
end Go.Proofs.YtbkkkpfoaggejaaGreatDoor
