/- Numbers compared in three ways: nums.Same and the document's. -/
import Derived.Test.YtbkkkpfoaggejaaGreatDoorMf
namespace Go.Proofs.YtbkkkpfoaggejaaGreatDoor
set_option linter.unusedVariables false
open Go.RowKit Fl

theorem key_inj (x y : Nat) (hx : x < 18446744073709551616) (hy : y < 18446744073709551616) (hs : decide (9223372036854775808 ≤ x) = decide (9223372036854775808 ≤ y)) (h : key x = key y) : x = y := by
  have hs' : 9223372036854775808 ≤ x ↔ 9223372036854775808 ≤ y := decide_eq_decide.1 hs
  unfold key at h
  by_cases e : 9223372036854775808 ≤ x
  · have := hs'.1 e
    rw [if_pos e, if_pos this] at h
    omega
  · have : ¬ 9223372036854775808 ≤ y := fun q => e (hs'.2 q)
    rw [if_neg e, if_neg this] at h
    omega
theorem eqf (x y : Nat) (hx : x < 18446744073709551616) (hy : y < 18446744073709551616) : (FloatKind.f64.format.order x y == some Ordering.eq) = decide (¬ nan x ∧ ¬ nan y ∧ key x = key y) := by
  rw [f64]
  by_cases n : nan x ∨ nan y
  · rw [order_nan x y hx hy n, decide_eq_false (fun h => n.elim h.1 h.2.1)]; rfl
  · have n1 : ¬ nan x := fun h => n (.inl h)
    have n2 : ¬ nan y := fun h => n (.inr h)
    rw [order_key x y hx hy n1 n2]
    by_cases e : key x = key y
    · rw [decide_eq_true ⟨n1, n2, e⟩, Int.compare_eq_eq.2 e]; rfl
    · have : compare (key x) (key y) ≠ .eq := fun q => e (Int.compare_eq_eq.1 q)
      rw [decide_eq_false (fun h => e h.2.2)]
      generalize compare (key x) (key y) = o at this ⊢
      cases o <;> simp at this ⊢
theorem alike_eq (x y : Nat) (hx : x < 18446744073709551616) (hy : y < 18446744073709551616) :
    (decide (nan x) && decide (nan y) || decide (¬ nan x ∧ ¬ nan y ∧ key x = key y) && (decide (9223372036854775808 ≤ x) == decide (9223372036854775808 ≤ y))) = alike x y := by
  unfold alike
  by_cases hn : nan x ∧ nan y
  · rw [decide_eq_true hn.1, decide_eq_true hn.2, decide_eq_true (show x = y ∨ nan x ∧ nan y from .inr hn)]; rfl
  · by_cases e : x = y
    · subst e
      have hnx : ¬ nan x := fun h => hn ⟨h, h⟩
      rw [decide_eq_true (show ¬ nan x ∧ ¬ nan x ∧ key x = key x from ⟨hnx, hnx, rfl⟩), decide_eq_true (show x = x ∨ nan x ∧ nan x from .inl rfl), decide_eq_false hnx]
      simp
    · rw [decide_eq_false (show ¬ (x = y ∨ nan x ∧ nan y) from fun h => h.elim e hn)]
      have h1 : (decide (nan x) && decide (nan y)) = false := by
        by_cases a : nan x <;> by_cases b : nan y <;> simp [a, b] <;> exact hn ⟨a, b⟩
      rw [h1, Bool.false_or]
      by_cases k : ¬ nan x ∧ ¬ nan y ∧ key x = key y
      · rw [decide_eq_true k, Bool.true_and]
        have : decide (9223372036854775808 ≤ x) ≠ decide (9223372036854775808 ≤ y) := fun hs => e (key_inj x y hx hy hs k.2.2)
        exact beq_false_of_ne this
      · rw [decide_eq_false k]; rfl

def sameB (x y : Nat) (how : Int) : Bool := if how = 0 then decide (¬ nan x ∧ ¬ nan y ∧ key x = key y) else if how = 1 then (decide (¬ nan x ∧ ¬ nan y ∧ key x = key y) || decide (nan x) && decide (nan y)) else if how = 2 then alike x y else false
theorem sameB_comm (x y : Nat) (how : Int) : sameB y x how = sameB x y how := by
  have e1 : decide (¬ nan y ∧ ¬ nan x ∧ key y = key x) = decide (¬ nan x ∧ ¬ nan y ∧ key x = key y) := decide_eq_decide.2 ⟨fun h => ⟨h.2.1, h.1, h.2.2.symm⟩, fun h => ⟨h.2.1, h.1, h.2.2.symm⟩⟩
  have e2 : alike y x = alike x y := decide_eq_decide.2 ⟨fun h => h.elim (fun e => .inl e.symm) (fun e => .inr ⟨e.2, e.1⟩), fun h => h.elim (fun e => .inl e.symm) (fun e => .inr ⟨e.2, e.1⟩)⟩
  unfold sameB
  rw [e1, e2, Bool.and_comm]

set_option maxHeartbeats 1000000 in
set_option maxRecDepth 100000 in
theorem nsame_any (x y : Nat) (how : Int) (w : World) (hx : x < 18446744073709551616) (hy : y < 18446744073709551616) :
    Calls Tryz.prog 93 #[.float .f64 x, .float .f64 y, .int .i64 how] w fun e w' => e = .returned (.bool (sameB x y how)) ∧ w' = w := by
  have he := eqf x y hx hy
  have HX := Hid.mk' (fun W => isNaN_any x W hx)
  have HY := Hid.mk' (fun W => isNaN_any y W hy)
  have SX := Hid.mk' (fun W => signbit_any x W hx)
  have SY := Hid.mk' (fun W => signbit_any y W hy)
  have hqn : Hid (decide (¬ nan x ∧ ¬ nan y ∧ key x = key y) = true → decide (nan x) = false) := fun h => decide_eq_false (of_decide_eq_true h).1
  unfold sameB
  rw [← alike_eq x y hx hy]
  revert he HX HY SX SY hqn
  generalize decide (nan x) = nx
  generalize decide (nan y) = ny
  generalize decide (9223372036854775808 ≤ x) = sx
  generalize decide (9223372036854775808 ≤ y) = sy
  generalize decide (¬ nan x ∧ ¬ nan y ∧ key x = key y) = q
  intro he HX HY SX SY hqn
  by_cases h0 : how = 0
  · subst h0
    go_enter Tryz.func93, Tryz.ntmps93
    go_wp2
    go_ret
    exact ⟨by rw [← he]; rfl, rfl⟩
  · by_cases h1 : how = 1
    · subst h1
      cases nx <;> cases ny <;> cases q
      all_goals
        go_enter Tryz.func93, Tryz.ntmps93
        go_wp2_with (go_at_call 84; first | (refine (HX.out _).mono ?_; rintro e w1 ⟨rfl, hw1⟩; rw [hw1]; clear hw1 w1) | (refine (HY.out _).mono ?_; rintro e w1 ⟨rfl, hw1⟩; rw [hw1]; clear hw1 w1))
        go_ret
        exact ⟨by first | rfl | simp, rfl⟩
    · by_cases h2 : how = 2
      · subst h2
        cases nx <;> cases ny <;> cases q
        all_goals first
          | (exfalso; have := hqn.out rfl; cases this; done)
          | (go_enter Tryz.func93, Tryz.ntmps93
             go_wp2_with (first | (go_at_call 84; first | (refine (HX.out _).mono ?_; rintro e w1 ⟨rfl, hw1⟩; rw [hw1]; clear hw1 w1) | (refine (HY.out _).mono ?_; rintro e w1 ⟨rfl, hw1⟩; rw [hw1]; clear hw1 w1)) | (go_at_call 47; first | (refine (SX.out _).mono ?_; rintro e w1 ⟨rfl, hw1⟩; rw [hw1]; clear hw1 w1) | (refine (SY.out _).mono ?_; rintro e w1 ⟨rfl, hw1⟩; rw [hw1]; clear hw1 w1)))
             go_ret
             exact ⟨by first | rfl | simp, rfl⟩)
      · rw [if_neg h0, if_neg h1, if_neg h2]
        go_enter Tryz.func93, Tryz.ntmps93
        go_wp2
        go_ret
        exact ⟨rfl, rfl⟩

set_option maxHeartbeats 1000000 in
set_option maxRecDepth 100000 in
theorem rsame_any (x y : Nat) (how : Int) (w : World) (hx : x < 18446744073709551616) (hy : y < 18446744073709551616) :
    Calls Tryz.prog 22 #[.float .f64 x, .float .f64 y, .int .i64 how] w fun e w' => e = .returned (.bool (sameB x y how)) ∧ w' = w := by
  have he := eqf x y hx hy
  have HX := Hid.mk' (fun W => bad_any x W hx)
  have HY := Hid.mk' (fun W => bad_any y W hy)
  have SX := Hid.mk' (fun W => signbit_any x W hx)
  have SY := Hid.mk' (fun W => signbit_any y W hy)
  have hqn : Hid (decide (¬ nan x ∧ ¬ nan y ∧ key x = key y) = true → decide (nan x) = false) := fun h => decide_eq_false (of_decide_eq_true h).1
  unfold sameB
  rw [← alike_eq x y hx hy]
  revert he HX HY SX SY hqn
  generalize decide (nan x) = nx
  generalize decide (nan y) = ny
  generalize decide (9223372036854775808 ≤ x) = sx
  generalize decide (9223372036854775808 ≤ y) = sy
  generalize decide (¬ nan x ∧ ¬ nan y ∧ key x = key y) = q
  intro he HX HY SX SY hqn
  by_cases h0 : how = 0
  · subst h0
    go_enter Tryz.func22, Tryz.ntmps22
    go_wp2
    go_ret
    exact ⟨by rw [← he]; rfl, rfl⟩
  · by_cases h1 : how = 1
    · subst h1
      cases nx <;> cases ny <;> cases q
      all_goals
        go_enter Tryz.func22, Tryz.ntmps22
        go_wp2_with (go_at_call 46; first | (refine (HX.out _).mono ?_; rintro e w1 ⟨rfl, hw1⟩; rw [hw1]; clear hw1 w1) | (refine (HY.out _).mono ?_; rintro e w1 ⟨rfl, hw1⟩; rw [hw1]; clear hw1 w1))
        go_ret
        exact ⟨by first | rfl | simp, rfl⟩
    · by_cases h2 : how = 2
      · subst h2
        cases nx <;> cases ny <;> cases q
        all_goals first
          | (exfalso; have := hqn.out rfl; cases this; done)
          | (go_enter Tryz.func22, Tryz.ntmps22
             go_wp2_with (first | (go_at_call 46; first | (refine (HX.out _).mono ?_; rintro e w1 ⟨rfl, hw1⟩; rw [hw1]; clear hw1 w1) | (refine (HY.out _).mono ?_; rintro e w1 ⟨rfl, hw1⟩; rw [hw1]; clear hw1 w1)) | (go_at_call 47; first | (refine (SX.out _).mono ?_; rintro e w1 ⟨rfl, hw1⟩; rw [hw1]; clear hw1 w1) | (refine (SY.out _).mono ?_; rintro e w1 ⟨rfl, hw1⟩; rw [hw1]; clear hw1 w1)))
             go_ret
             exact ⟨by first | rfl | simp, rfl⟩)
      · rw [if_neg h0, if_neg h1, if_neg h2]
        go_enter Tryz.func22, Tryz.ntmps22
        go_wp2
        go_ret
        exact ⟨rfl, rfl⟩


def ONE : Nat := 4607182418800017408
theorem one_eq (x : Nat) (hx : x < 18446744073709551616) : (FloatKind.f64.format.order x 4607182418800017408 == some Ordering.eq) = decide (x = 4607182418800017408) := by
  rw [eqf x _ hx (by omega)]
  refine decide_eq_decide.2 ⟨fun h => ?_, fun h => ?_⟩
  · have := h.2.2
    unfold key at this
    rw [if_neg (show ¬ 9223372036854775808 ≤ 4607182418800017408 by omega)] at this
    split at this <;> omega
  · subst h
    exact ⟨by unfold nan; omega, by unfold nan; omega, rfl⟩
theorem alike_zero (x : Nat) : alike x 0 = decide (x = 0) := by
  unfold alike
  exact decide_eq_decide.2 ⟨fun h => h.elim id fun h => absurd h.2 (by unfold nan; omega), fun h => .inl h⟩
theorem sameB_self (x : Nat) (how : Int) (h : how = 0 ∨ how = 1 ∨ how = 2) : sameB x x how = !(decide (nan x) && decide (how = 0)) := by
  unfold sameB
  rcases h with rfl | rfl | rfl
  · by_cases n : nan x <;> simp [n]
  · by_cases n : nan x <;> simp [n]
  · simp [alike]
theorem sameB_trans (x y z : Nat) (how : Int) (h : how = 0 ∨ how = 1 ∨ how = 2) (h1 : sameB x y how = true) (h2 : sameB y z how = true) : sameB x z how = true := by
  unfold sameB at *
  rcases h with rfl | rfl | rfl
  · simp only [if_true, decide_eq_true_iff] at *
    exact ⟨h1.1, h2.2.1, h1.2.2.trans h2.2.2⟩
  · rw [if_neg (by decide), if_pos rfl] at *
    simp only [Bool.or_eq_true, Bool.and_eq_true, decide_eq_true_iff] at *
    rcases h1 with h1 | h1 <;> rcases h2 with h2 | h2
    · exact .inl ⟨h1.1, h2.2.1, h1.2.2.trans h2.2.2⟩
    · exact absurd h2.1 h1.2.1
    · exact absurd h1.2 h2.1
    · exact .inr ⟨h1.1, h2.2⟩
  · rw [if_neg (by decide), if_neg (by decide), if_pos rfl] at *
    unfold alike at *
    simp only [decide_eq_true_iff] at *
    rcases h1 with rfl | h1
    · exact h2
    · rcases h2 with rfl | h2
      · exact .inr h1
      · exact .inr ⟨h1.1, h2.2⟩
end Go.Proofs.YtbkkkpfoaggejaaGreatDoor
