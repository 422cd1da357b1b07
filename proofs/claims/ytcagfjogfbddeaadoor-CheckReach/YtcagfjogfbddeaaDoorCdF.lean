/- Package code: what an instruction takes. -/
import Derived.Test.YtcagfjogfbddeaaDoorCdE
namespace Go.Proofs.YtcagfjogfbddeaaDoor
set_option linter.unusedVariables false
set_option linter.unusedSimpArgs false
open Go.RowKit

/-- The table of letters lies there. -/
def LaidL (w : World) : Prop := ∀ k, k < 50 → w.cell? ⟨0, k, none⟩ = some (.string (Sb (lets.getD k [])))
theorem LaidL.fr {rb : Nat} {W W' : World} (h : LaidL W) (f : Fr rb W W') (hr : 0 ≠ rb) : LaidL W' := fun k hk => f.cell hr (h k hk)
theorem isOp_any (z : Int) (w : World) : Calls Tryd.prog 29 #[.int .i64 z] w fun e w' => e = .returned (.bool (decide (0 ≤ z ∧ z ≤ 70))) ∧ w' = w := by
  by_cases h0 : 0 ≤ z <;> by_cases h1 : z ≤ 70
  all_goals
    first
      | rw [decide_eq_true (show 0 ≤ z ∧ z ≤ 70 from ⟨h0, h1⟩)]
      | rw [decide_eq_false (fun q => h1 q.2)]
      | rw [decide_eq_false (fun q => h0 q.1)]
    go_enter Tryd.func29, Tryd.ntmps29
    go_wp2
    go_ret
    exact ⟨by first | rfl | simp_all, rfl⟩
set_option maxHeartbeats 1000000 in
set_option maxRecDepth 100000 in
theorem operands_any (op : Nat) (w : World) (h : op ≤ 70) (hl : Hid (LaidL w)) : Calls Tryd.prog 20 #[.int .i64 (op : Int)] w fun e w' => e = .returned (.string (Sb (letsOf op))) ∧ w' = w := by
  have HI := Hid.mk' (fun W => isOp_any (op : Int) W)
  rw [decide_eq_true (show 0 ≤ (op : Int) ∧ (op : Int) ≤ 70 by omega)] at HI
  by_cases h9 : (49 : Int) < (op : Int)
  · have c0 := hl.out 49 (by omega)
    have e : letsOf op = lets.getD 49 [] := by unfold letsOf; rw [show min op 49 = 49 by omega]
    rw [← e] at c0
    clear e
    go_enter Tryd.func20, Tryd.ntmps20
    go_wp2_with (go_at_call 29; refine (HI.out _).mono ?_; rintro e w1 ⟨rfl, hw1⟩; rw [hw1]; clear hw1 w1)
    go_ret
    exact ⟨rfl, rfl⟩
  · have c0 := hl.out op (by omega)
    have e : letsOf op = lets.getD op [] := by unfold letsOf; rw [show min op 49 = op by omega]
    rw [← e] at c0
    have h50 : (op : Int) < 50 := by omega
    clear e
    go_enter Tryd.func20, Tryd.ntmps20
    go_wp2_with (go_at_call 29; refine (HI.out _).mono ?_; rintro e w1 ⟨rfl, hw1⟩; rw [hw1]; clear hw1 w1)
    go_ret
    exact ⟨rfl, rfl⟩
theorem lets_ok (op : Nat) : (letsOf op).length ≤ 4 ∧ ∀ b ∈ letsOf op, b.toNat < 128 := by
  have key : ∀ k : Fin 50, (lets.getD k.val []).length ≤ 4 ∧ ∀ b ∈ lets.getD k.val [], b.toNat < 128 := by decide +kernel
  exact key ⟨min op 49, by omega⟩
/-- Room for four operands, some of them read. -/
def arr4 (l : List Nat) : Array Value := #[.int .i64 (l.getD 0 0 : Nat), .int .i64 (l.getD 1 0 : Nat), .int .i64 (l.getD 2 0 : Nat), .int .i64 (l.getD 3 0 : Nat)]
theorem arr4_set (l : List Nat) (n : Nat) (h : l.length < 4) : (arr4 l).setIfInBounds l.length (.int .i64 (n : Int)) = arr4 (l ++ [n]) := by
  match l, h with
  | [], _ => rfl
  | [a], _ => rfl
  | [a, b], _ => rfl
  | [a, b, c], _ => rfl
theorem arr4_get (l : List Nat) (j : Nat) (h : j < 4) : (arr4 l)[j]? = some (.int .i64 ((l.getD j 0 : Nat) : Int)) := by
  have : j = 0 ∨ j = 1 ∨ j = 2 ∨ j = 3 := by omega
  rcases this with rfl | rfl | rfl | rfl <;> rfl
theorem Fr.iter {rb k : Nat} {w X : World} (h : Fr rb w X) (hk : w.heap.size ≤ k) (s : ByteArray) (p : Nat) : Fr rb w (X.iterAt k s p) :=
  ⟨h.os, h.tape, h.output, by rw [Lib.iterAt_size]; exact h.size, fun j ob hj ho => by
    have hlt := (Array.getElem?_eq_some_iff.1 ho).1
    rw [Lib.iterAt_other _ _ _ _ _ (show j ≠ k by omega)]
    exact h.same j ob hj ho⟩
theorem Fr.iterSelf {k : Nat} {X : World} (s : ByteArray) (p : Nat) : Fr k X (X.iterAt k s p) :=
  ⟨rfl, rfl, rfl, by rw [Lib.iterAt_size]; exact Nat.le_refl _, fun j ob hj ho => by
    rw [Lib.iterAt_other _ _ _ _ _ hj]
    exact ho⟩
end Go.Proofs.YtcagfjogfbddeaaDoor
