/- internal/strconv.fmtEFG in the form 'e' with all digits (written by tools/mkfmte.py). -/
import Derived.Test.YtjnbnejfdleocaaGreatDoorSetDig
namespace Go.Proofs.YtjnbnejfdleocaaGreatDoor
set_option linter.unusedVariables false
open Go.RowKit Fl

def u8c (l : List Nat) : List Value := l.map fun (n : Nat) => Value.int .u8 (n : Int)
theorem u8c_append (a b : List Nat) : u8c (a ++ b) = u8c a ++ u8c b := by simp [u8c]
theorem u8c_length (a : List Nat) : (u8c a).length = a.length := by simp [u8c]
theorem oneCell_u8c (l : List Nat) : ∀ u ∈ u8c l, u.oneCell' = true := by
  intro u hu
  simp only [u8c, List.mem_map] at hu
  obtain ⟨a, _, rfl⟩ := hu
  rfl
theorem own_eq {w : World} {B : Nat} {e : TypeId} {sz : Nat} {v : Value} {n n' : Nat} {xs xs' : List Value} (h : w.ownsRow B e sz v n xs) (hn : n' = n) (hx : xs' = xs) : w.ownsRow B e sz v n' xs' := by subst hn hx; exact h
def expN (x : Nat) : List Nat := if x < 10 then [48, x + 48] else if x < 100 then [x / 10 + 48, x % 10 + 48] else [x / 100 + 48, x / 10 % 10 + 48, x % 10 + 48]
def expS (X : Int) : List Nat := if X < 0 then 45 :: expN (-X).toNat else 43 :: expN X.toNat
/-- Digits as a number with a power of ten. -/
def fmtN (ds : List Nat) (X : Int) : List Nat := match ds with
  | [] => [48, 101] ++ expS 0
  | [d] => [d, 101] ++ expS X
  | d :: r => [d, 46] ++ r ++ (101 :: expS X)
theorem kept_heap {B g : Nat} {e T : TypeId} {cs : Array Value} {fz : Nat × Nat} {w w' : World} (k : Kept B e w w') (h : w.heap[g]? = some (.cells cs T fz)) (hne : T ≠ e) : w'.heap[g]? = some (.cells cs T fz) :=
  k.2 g _ h (by simp) (fun c fz hc => by cases hc; exact hne rfl)
theorem cell_of_heap {g : Nat} {w w' : World} {o : Obj} (h : w.heap[g]? = some o) (h' : w'.heap[g]? = some o) (j : Nat) : w'.cell? ⟨g, j, none⟩ = w.cell? ⟨g, j, none⟩ := by
  unfold World.cell?
  simp only [h, h']

set_option maxHeartbeats 1000000 in
set_option maxRecDepth 100000 in
theorem fmtE_none (B g : Nat) (v0 : Value) (dp : Int) (w0 : World) (o0 : w0.ownsRow B 5 1 v0 0 []) (hBw : B ≤ w0.heap.size)  :
    Calls Tryz.prog 135 #[v0, .bool false, .slice (some ⟨g, 0, none⟩) 32 32, .int .i64 dp, .int .i64 0, .int .i64 0, .int .u8 101, .bool true] w0 fun e w' => ∃ v', e = .returned v' ∧ w'.ownsRow B 5 1 v' (fmtN [] (dp - 1)).length (u8c (fmtN [] (dp - 1))) ∧ Kept B 5 w0 w' := by
  obtain ⟨i0, hi, hz0, hz1, hz2⟩ := info_parts info8
  have k0 := Kept.refl B 5 w0
  have s0 : B ≤ w0.heap.size := hBw
  go_enter Tryz.func135, Tryz.ntmps135
  go_wp2_with (at_builtin; refine wpList_append_own _ rfl _ _ 73 rfl B 5 i0 (.int .u8 0) 1 1 Tryz.underlying73 hi hz0 hz1 hz2 rfl (by decide) _ _ _ rfl (o0.alloc _) ⟨w0.heap.size, 0, none⟩ 1 1 [.int .u8 48] rfl rfl (cells_new _ _ _) (by intro u hu; simp at hu; first | (rcases hu with rfl | rfl | rfl <;> rfl) | (rcases hu with rfl | rfl <;> rfl) | (subst hu; rfl)) (by unfold maxLen; omega) (by omega) (by simp; omega) ?_)
  intro v1 w1 o1 g1 _
  have k1 := k0.trans (kept_append o0 (grown_of_alloc g1) (by have := k0.le; omega))
  have s1 : B ≤ w1.heap.size := Nat.le_trans hBw k1.le
  clear g1
  go_wp2_with (at_builtin; refine wpList_append_own _ rfl _ _ 73 rfl B 5 i0 (.int .u8 0) 1 1 Tryz.underlying73 hi hz0 hz1 hz2 rfl (by decide) _ _ _ rfl (o1.alloc _) ⟨w1.heap.size, 0, none⟩ 1 1 [.int .u8 101] rfl rfl (cells_new _ _ _) (by intro u hu; simp at hu; first | (rcases hu with rfl | rfl | rfl <;> rfl) | (rcases hu with rfl | rfl <;> rfl) | (subst hu; rfl)) (by unfold maxLen; omega) (by omega) (by simp; omega) ?_)
  intro v2 w2 o2 g2 _
  have k2 := k1.trans (kept_append o1 (grown_of_alloc g2) (by have := k1.le; omega))
  have s2 : B ≤ w2.heap.size := Nat.le_trans hBw k2.le
  clear g2
  go_wp2_with (at_builtin; refine wpList_append_own _ rfl _ _ 73 rfl B 5 i0 (.int .u8 0) 1 1 Tryz.underlying73 hi hz0 hz1 hz2 rfl (by decide) _ _ _ rfl (o2.alloc _) ⟨w2.heap.size, 0, none⟩ 1 1 [.int .u8 43] rfl rfl (cells_new _ _ _) (by intro u hu; simp at hu; first | (rcases hu with rfl | rfl | rfl <;> rfl) | (rcases hu with rfl | rfl <;> rfl) | (subst hu; rfl)) (by unfold maxLen; omega) (by omega) (by simp; omega) ?_)
  intro v3 w3 o3 g3 _
  have k3 := k2.trans (kept_append o2 (grown_of_alloc g3) (by have := k2.le; omega))
  have s3 : B ≤ w3.heap.size := Nat.le_trans hBw k3.le
  clear g3
  go_wp2_with (at_builtin; refine wpList_append_own _ rfl _ _ 73 rfl B 5 i0 (.int .u8 0) 1 1 Tryz.underlying73 hi hz0 hz1 hz2 rfl (by decide) _ _ _ rfl (o3.alloc _) ⟨w3.heap.size, 0, none⟩ 2 2 [.int .u8 48, .int .u8 48] rfl rfl (cells_new _ _ _) (by intro u hu; simp at hu; first | (rcases hu with rfl | rfl | rfl <;> rfl) | (rcases hu with rfl | rfl <;> rfl) | (subst hu; rfl)) (by unfold maxLen; omega) (by omega) (by simp; omega) ?_)
  intro v4 w4 o4 g4 _
  have k4 := k3.trans (kept_append o3 (grown_of_alloc g4) (by have := k3.le; omega))
  have s4 : B ≤ w4.heap.size := Nat.le_trans hBw k4.le
  clear g4
  go_wp2
  go_ret
  exact ⟨_, rfl, o4, k4⟩
end Go.Proofs.YtjnbnejfdleocaaGreatDoor
