/- Contracts of nums.Same, nums.Less and of the document's. -/
import Derived.Test.YtilcpdnonppleaaNAwake
namespace Go.Proofs.Ytilcpdnonppleaa
set_option linter.unusedVariables false
open Go.RowKit
open Fl

def sameB (x y : Nat) (how : Int) : Bool := if how = 0 then decide (¬ nan x ∧ ¬ nan y ∧ key x = key y) else if how = 1 then (decide (¬ nan x ∧ ¬ nan y ∧ key x = key y) || decide (nan x) && decide (nan y)) else if how = 2 then alike x y else false
theorem sameB_comm (x y : Nat) (how : Int) : sameB y x how = sameB x y how := by
  have e1 : decide (¬ nan y ∧ ¬ nan x ∧ key y = key x) = decide (¬ nan x ∧ ¬ nan y ∧ key x = key y) := decide_eq_decide.2 ⟨fun h => ⟨h.2.1, h.1, h.2.2.symm⟩, fun h => ⟨h.2.1, h.1, h.2.2.symm⟩⟩
  have e2 : alike y x = alike x y := decide_eq_decide.2 ⟨fun h => h.elim (fun e => .inl e.symm) (fun e => .inr ⟨e.2, e.1⟩), fun h => h.elim (fun e => .inl e.symm) (fun e => .inr ⟨e.2, e.1⟩)⟩
  unfold sameB
  rw [e1, e2, Bool.and_comm]

set_option maxHeartbeats 1000000 in
theorem nsame_any (x y : Nat) (how : Int) (w : World) (hx : x < 18446744073709551616) (hy : y < 18446744073709551616) :
    Calls Try.prog 35 #[.float .f64 x, .float .f64 y, .int .i64 how] w fun e w' => e = .returned (.bool (sameB x y how)) ∧ w' = w := by
  have he := eqf x y hx hy
  have HX := Hid.mk' (fun W => isNaN_any x W hx)
  have HY := Hid.mk' (fun W => isNaN_any y W hy)
  have SX := Hid.mk' (fun W => signbit_any x W hx)
  have SY := Hid.mk' (fun W => signbit_any y W hy)
  have hqn : Hid (decide (¬ nan x ∧ ¬ nan y ∧ key x = key y) = true → decide (nan x) = false) := fun h => decide_eq_false (of_decide_eq_true h).1
  unfold sameB
  rw [← alike_eq x y hx hy]
  revert he HX HY SX SY hqn
  generalize decide (nan x) = nx
  generalize decide (nan y) = ny
  generalize decide (9223372036854775808 ≤ x) = sx
  generalize decide (9223372036854775808 ≤ y) = sy
  generalize decide (¬ nan x ∧ ¬ nan y ∧ key x = key y) = q
  intro he HX HY SX SY hqn
  by_cases h0 : how = 0
  · subst h0
    go_enter Try.func35, Try.ntmps35
    go_wp2
    go_ret
    exact ⟨by rw [← he]; rfl, rfl⟩
  · by_cases h1 : how = 1
    · subst h1
      cases nx <;> cases ny <;> cases q
      all_goals
        go_enter Try.func35, Try.ntmps35
        go_wp2_with (go_at_call 39; first | (refine (HX.out _).mono ?_; rintro e w1 ⟨rfl, hw1⟩; rw [hw1]; clear hw1 w1) | (refine (HY.out _).mono ?_; rintro e w1 ⟨rfl, hw1⟩; rw [hw1]; clear hw1 w1))
        go_ret
        exact ⟨by first | rfl | simp, rfl⟩
    · by_cases h2 : how = 2
      · subst h2
        cases nx <;> cases ny <;> cases q
        all_goals first
          | (exfalso; have := hqn.out rfl; cases this; done)
          | (go_enter Try.func35, Try.ntmps35
             go_wp2_with (first | (go_at_call 39; first | (refine (HX.out _).mono ?_; rintro e w1 ⟨rfl, hw1⟩; rw [hw1]; clear hw1 w1) | (refine (HY.out _).mono ?_; rintro e w1 ⟨rfl, hw1⟩; rw [hw1]; clear hw1 w1)) | (go_at_call 54; first | (refine (SX.out _).mono ?_; rintro e w1 ⟨rfl, hw1⟩; rw [hw1]; clear hw1 w1) | (refine (SY.out _).mono ?_; rintro e w1 ⟨rfl, hw1⟩; rw [hw1]; clear hw1 w1)))
             go_ret
             exact ⟨by first | rfl | simp, rfl⟩)
      · rw [if_neg h0, if_neg h1, if_neg h2]
        go_enter Try.func35, Try.ntmps35
        go_wp2
        go_ret
        exact ⟨rfl, rfl⟩

set_option maxHeartbeats 1000000 in
theorem rsame_any (x y : Nat) (how : Int) (w : World) (hx : x < 18446744073709551616) (hy : y < 18446744073709551616) :
    Calls Try.prog 36 #[.float .f64 x, .float .f64 y, .int .i64 how] w fun e w' => e = .returned (.bool (sameB x y how)) ∧ w' = w := by
  have he := eqf x y hx hy
  have HX := Hid.mk' (fun W => bad_any x W hx)
  have HY := Hid.mk' (fun W => bad_any y W hy)
  have SX := Hid.mk' (fun W => signbit_any x W hx)
  have SY := Hid.mk' (fun W => signbit_any y W hy)
  have hqn : Hid (decide (¬ nan x ∧ ¬ nan y ∧ key x = key y) = true → decide (nan x) = false) := fun h => decide_eq_false (of_decide_eq_true h).1
  unfold sameB
  rw [← alike_eq x y hx hy]
  revert he HX HY SX SY hqn
  generalize decide (nan x) = nx
  generalize decide (nan y) = ny
  generalize decide (9223372036854775808 ≤ x) = sx
  generalize decide (9223372036854775808 ≤ y) = sy
  generalize decide (¬ nan x ∧ ¬ nan y ∧ key x = key y) = q
  intro he HX HY SX SY hqn
  by_cases h0 : how = 0
  · subst h0
    go_enter Try.func36, Try.ntmps36
    go_wp2
    go_ret
    exact ⟨by rw [← he]; rfl, rfl⟩
  · by_cases h1 : how = 1
    · subst h1
      cases nx <;> cases ny <;> cases q
      all_goals
        go_enter Try.func36, Try.ntmps36
        go_wp2_with (go_at_call 43; first | (refine (HX.out _).mono ?_; rintro e w1 ⟨rfl, hw1⟩; rw [hw1]; clear hw1 w1) | (refine (HY.out _).mono ?_; rintro e w1 ⟨rfl, hw1⟩; rw [hw1]; clear hw1 w1))
        go_ret
        exact ⟨by first | rfl | simp, rfl⟩
    · by_cases h2 : how = 2
      · subst h2
        cases nx <;> cases ny <;> cases q
        all_goals first
          | (exfalso; have := hqn.out rfl; cases this; done)
          | (go_enter Try.func36, Try.ntmps36
             go_wp2_with (first | (go_at_call 43; first | (refine (HX.out _).mono ?_; rintro e w1 ⟨rfl, hw1⟩; rw [hw1]; clear hw1 w1) | (refine (HY.out _).mono ?_; rintro e w1 ⟨rfl, hw1⟩; rw [hw1]; clear hw1 w1)) | (go_at_call 54; first | (refine (SX.out _).mono ?_; rintro e w1 ⟨rfl, hw1⟩; rw [hw1]; clear hw1 w1) | (refine (SY.out _).mono ?_; rintro e w1 ⟨rfl, hw1⟩; rw [hw1]; clear hw1 w1)))
             go_ret
             exact ⟨by first | rfl | simp, rfl⟩)
      · rw [if_neg h0, if_neg h1, if_neg h2]
        go_enter Try.func36, Try.ntmps36
        go_wp2
        go_ret
        exact ⟨rfl, rfl⟩

set_option maxHeartbeats 1000000 in
theorem nless_any (x y : Nat) (w : World) (hx : x < 18446744073709551616) (hy : y < 18446744073709551616) :
    Calls Try.prog 33 #[.float .f64 x, .float .f64 y] w fun e w' => e = .returned (.tuple #[.bool (FloatKind.f64.format.order x y == some Ordering.lt), .bool (!decide (nan x) && !decide (nan y))]) ∧ w' = w := by
  have HX := Hid.mk' (fun W => isNaN_any x W hx)
  have HY := Hid.mk' (fun W => isNaN_any y W hy)
  revert HX HY
  generalize decide (nan x) = nx
  generalize decide (nan y) = ny
  intro HX HY
  cases nx
  all_goals
    go_enter Try.func33, Try.ntmps33
    go_wp2_with (go_at_call 39; first | (refine (HX.out _).mono ?_; rintro e w1 ⟨rfl, hw1⟩; rw [hw1]; clear hw1 w1) | (refine (HY.out _).mono ?_; rintro e w1 ⟨rfl, hw1⟩; rw [hw1]; clear hw1 w1))
    go_ret2
    exact ⟨by first | rfl | simp, rfl⟩

set_option maxHeartbeats 1000000 in
theorem rless_any (x y : Nat) (w : World) (hx : x < 18446744073709551616) (hy : y < 18446744073709551616) :
    Calls Try.prog 34 #[.float .f64 x, .float .f64 y] w fun e w' => e = .returned (.tuple #[.bool (FloatKind.f64.format.order x y == some Ordering.lt), .bool (!decide (nan x) && !decide (nan y))]) ∧ w' = w := by
  have HX := Hid.mk' (fun W => bad_any x W hx)
  have HY := Hid.mk' (fun W => bad_any y W hy)
  revert HX HY
  generalize decide (nan x) = nx
  generalize decide (nan y) = ny
  intro HX HY
  cases nx
  all_goals
    go_enter Try.func34, Try.ntmps34
    go_wp2_with (go_at_call 43; first | (refine (HX.out _).mono ?_; rintro e w1 ⟨rfl, hw1⟩; rw [hw1]; clear hw1 w1) | (refine (HY.out _).mono ?_; rintro e w1 ⟨rfl, hw1⟩; rw [hw1]; clear hw1 w1))
    go_ret2
    exact ⟨by first | rfl | simp, rfl⟩

end Go.Proofs.Ytilcpdnonppleaa
