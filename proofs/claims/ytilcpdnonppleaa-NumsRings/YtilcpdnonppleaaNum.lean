/- Contracts of package nums and of the document's answers: sameness, whole numbers, rests. -/
import Derived.Test.YtilcpdnonppleaaMod
namespace Go.Proofs.Ytilcpdnonppleaa
set_option linter.unusedVariables false
open Go.RowKit Fl

/- ---- sameness ---- -/
theorem key_inj (x y : Nat) (hx : x < 18446744073709551616) (hy : y < 18446744073709551616) (hs : decide (9223372036854775808 ≤ x) = decide (9223372036854775808 ≤ y)) (h : key x = key y) : x = y := by
  have hs' : 9223372036854775808 ≤ x ↔ 9223372036854775808 ≤ y := decide_eq_decide.1 hs
  unfold key at h
  by_cases e : 9223372036854775808 ≤ x
  · have := hs'.1 e
    rw [if_pos e, if_pos this] at h
    omega
  · have : ¬ 9223372036854775808 ≤ y := fun q => e (hs'.2 q)
    rw [if_neg e, if_neg this] at h
    omega
theorem eqf (x y : Nat) (hx : x < 18446744073709551616) (hy : y < 18446744073709551616) : (FloatKind.f64.format.order x y == some Ordering.eq) = decide (¬ nan x ∧ ¬ nan y ∧ key x = key y) := by
  rw [f64]
  by_cases n : nan x ∨ nan y
  · rw [order_nan x y hx hy n, decide_eq_false (fun h => n.elim h.1 h.2.1)]; rfl
  · have n1 : ¬ nan x := fun h => n (.inl h)
    have n2 : ¬ nan y := fun h => n (.inr h)
    rw [order_key x y hx hy n1 n2]
    by_cases e : key x = key y
    · rw [decide_eq_true ⟨n1, n2, e⟩, Int.compare_eq_eq.2 e]; rfl
    · have : compare (key x) (key y) ≠ .eq := fun q => e (Int.compare_eq_eq.1 q)
      rw [decide_eq_false (fun h => e h.2.2)]
      generalize compare (key x) (key y) = o at this ⊢
      cases o <;> simp at this ⊢
theorem alike_eq (x y : Nat) (hx : x < 18446744073709551616) (hy : y < 18446744073709551616) :
    (decide (nan x) && decide (nan y) || decide (¬ nan x ∧ ¬ nan y ∧ key x = key y) && (decide (9223372036854775808 ≤ x) == decide (9223372036854775808 ≤ y))) = alike x y := by
  unfold alike
  by_cases hn : nan x ∧ nan y
  · rw [decide_eq_true hn.1, decide_eq_true hn.2, decide_eq_true (show x = y ∨ nan x ∧ nan y from .inr hn)]; rfl
  · by_cases e : x = y
    · subst e
      have hnx : ¬ nan x := fun h => hn ⟨h, h⟩
      rw [decide_eq_true (show ¬ nan x ∧ ¬ nan x ∧ key x = key x from ⟨hnx, hnx, rfl⟩), decide_eq_true (show x = x ∨ nan x ∧ nan x from .inl rfl), decide_eq_false hnx]
      simp
    · rw [decide_eq_false (show ¬ (x = y ∨ nan x ∧ nan y) from fun h => h.elim e hn)]
      have h1 : (decide (nan x) && decide (nan y)) = false := by
        by_cases a : nan x <;> by_cases b : nan y <;> simp [a, b] <;> exact hn ⟨a, b⟩
      rw [h1, Bool.false_or]
      by_cases k : ¬ nan x ∧ ¬ nan y ∧ key x = key y
      · rw [decide_eq_true k, Bool.true_and]
        have : decide (9223372036854775808 ≤ x) ≠ decide (9223372036854775808 ≤ y) := fun hs => e (key_inj x y hx hy hs k.2.2)
        exact beq_false_of_ne this
      · rw [decide_eq_false k]; rfl

set_option maxHeartbeats 400000 in
theorem rsame2_any (x y : Nat) (w : World) (hx : x < 18446744073709551616) (hy : y < 18446744073709551616) :
    Calls Try.prog 36 #[.float .f64 x, .float .f64 y, .int .i64 2] w fun e w' => e = .returned (.bool (alike x y)) ∧ w' = w := by
  have he := eqf x y hx hy
  have HA := Hid.mk' (alike_eq x y hx hy)
  have HX := Hid.mk' (fun W => bad_any x W hx)
  have HY := Hid.mk' (fun W => bad_any y W hy)
  have SX := Hid.mk' (fun W => signbit_any x W hx)
  have SY := Hid.mk' (fun W => signbit_any y W hy)
  rw [← HA.out]
  revert HX HY SX SY he
  clear HA
  generalize decide (nan x) = nx
  generalize decide (nan y) = ny
  generalize decide (9223372036854775808 ≤ x) = sx
  generalize decide (9223372036854775808 ≤ y) = sy
  generalize decide (¬ nan x ∧ ¬ nan y ∧ key x = key y) = q
  intro he HX HY SX SY
  cases nx <;> cases ny <;> cases q
  all_goals
    go_enter Try.func36, Try.ntmps36
    go_wp2_with (first | (go_at_call 43; first | (refine (HX.out _).mono ?_; rintro e w1 ⟨rfl, hw1⟩; rw [hw1]; clear hw1 w1) | (refine (HY.out _).mono ?_; rintro e w1 ⟨rfl, hw1⟩; rw [hw1]; clear hw1 w1)) | (go_at_call 54; first | (refine (SX.out _).mono ?_; rintro e w1 ⟨rfl, hw1⟩; rw [hw1]; clear hw1 w1) | (refine (SY.out _).mono ?_; rintro e w1 ⟨rfl, hw1⟩; rw [hw1]; clear hw1 w1)))
    go_ret
    exact ⟨by first | rfl | simp, rfl⟩


set_option maxHeartbeats 400000 in
theorem alike_any (x y : Nat) (w : World) (hx : x < 18446744073709551616) (hy : y < 18446744073709551616) :
    Calls Try.prog 41 #[.float .f64 x, .float .f64 y] w fun e w' => e = .returned (.bool (alike x y)) ∧ w' = w := by
  have H := Hid.mk' (fun W => rsame2_any x y W hx hy)
  go_enter Try.func41, Try.ntmps41
  go_wp2_with (go_at_call 36; refine (H.out _).mono ?_; rintro e w1 ⟨rfl, hw1⟩; rw [hw1]; clear hw1 w1)
  go_ret
  exact ⟨rfl, rfl⟩
set_option maxHeartbeats 400000 in
theorem same_any (x y : Nat) (w : World) (hx : x < 18446744073709551616) (hy : y < 18446744073709551616) :
    Calls Try.prog 16 #[.float .f64 x, .float .f64 y] w fun e w' => e = .returned (.bool (alike x y)) ∧ w' = w := by
  have H := Hid.mk' (fun W => alike_any x y W hx hy)
  go_enter Try.func16, Try.ntmps16
  go_wp2_with (go_at_call 41; refine (H.out _).mono ?_; rintro e w1 ⟨rfl, hw1⟩; rw [hw1]; clear hw1 w1)
  go_ret
  exact ⟨rfl, rfl⟩

/- ---- rests ---- -/
/-- What a rest is. -/
def RestIs (x y r : Nat) : Prop := ((y % 9223372036854775808 = 0 ∨ x % 9223372036854775808 = 9218868437227405312 ∨ nan x ∨ nan y) ∧ r = 9221120237041090561) ∨
  (¬ (y % 9223372036854775808 = 0 ∨ x % 9223372036854775808 = 9218868437227405312 ∨ nan x ∨ nan y) ∧ ∃ g, r = sgn x g ∧ g < 9218868437227405312 ∧ val g = val (x % 9223372036854775808) % val (y % 9223372036854775808))
theorem RestIs.inj {x y r s : Nat} (h : RestIs x y r) (k : RestIs x y s) : r = s := by
  rcases h with ⟨h1, rfl⟩ | ⟨h1, g, rfl, g1, g2⟩
  · rcases k with ⟨k1, rfl⟩ | ⟨k1, _⟩
    · rfl
    · exact absurd h1 k1
  · rcases k with ⟨k1, _⟩ | ⟨k1, j, rfl, j1, j2⟩
    · exact absurd k1 h1
    · rw [val_inj (g2.trans j2.symm)]
theorem RestIs.lt {x y r : Nat} (h : RestIs x y r) : r < 18446744073709551616 := by
  rcases h with ⟨h1, rfl⟩ | ⟨h1, g, rfl, g1, g2⟩
  · omega
  · unfold sgn; split <;> omega
theorem Mod_is (x y : Nat) (w : World) (hx : x < 18446744073709551616) (hy : y < 18446744073709551616) :
    Calls Try.prog 38 #[.float .f64 x, .float .f64 y] w fun e w' => (∃ r, e = .returned (.float .f64 r) ∧ RestIs x y r) ∧ w' = w := by
  by_cases h : y % 9223372036854775808 = 0 ∨ x % 9223372036854775808 = 9218868437227405312 ∨ nan x ∨ nan y
  · refine (Mod_nan x y w hx hy h).mono ?_
    rintro e w' ⟨rfl, hw⟩
    exact ⟨⟨_, rfl, .inl ⟨h, rfl⟩⟩, hw⟩
  · have h' := h
    unfold nan at h'
    refine (Mod_any x y w hx hy (by omega) (by omega) (by omega)).mono ?_
    rintro e w' ⟨⟨g, rfl, g1, g2⟩, hw⟩
    exact ⟨⟨_, rfl, .inr ⟨h, g, rfl, g1, g2⟩⟩, hw⟩
set_option maxHeartbeats 400000 in
theorem rem_is (x y : Nat) (w : World) (hx : x < 18446744073709551616) (hy : y < 18446744073709551616) :
    Calls Try.prog 29 #[.float .f64 x, .float .f64 y] w fun e w' => (∃ r, e = .returned (.float .f64 r) ∧ RestIs x y r) ∧ w' = w := by
  have H := Hid.mk' (fun W => Mod_is x y W hx hy)
  go_enter Try.func29, Try.ntmps29
  go_wp2_with (go_at_call 38; refine (H.out _).mono ?_; rintro e w1 ⟨⟨r, rfl, hr⟩, hw1⟩; rw [hw1]; clear hw1 w1)
  go_ret
  exact ⟨⟨r, rfl, hr⟩, rfl⟩
theorem RestIs.small {x y : Nat} (hx : x < 18446744073709551616) (h : ¬ (y % 9223372036854775808 = 0 ∨ x % 9223372036854775808 = 9218868437227405312 ∨ nan x ∨ nan y)) (hs : x % 9223372036854775808 < y % 9223372036854775808) : RestIs x y x := by
  refine .inr ⟨h, x % 9223372036854775808, (sgn_self x hx).symm, ?_, (Nat.mod_eq_of_lt (val_mono hs)).symm⟩
  unfold nan at h
  omega

set_option maxHeartbeats 400000 in
theorem rrem_is (x y : Nat) (w : World) (hx : x < 18446744073709551616) (hy : y < 18446744073709551616) :
    Calls Try.prog 30 #[.float .f64 x, .float .f64 y] w fun e w' => (∃ r, e = .returned (.float .f64 r) ∧ RestIs x y r) ∧ w' = w := by
  have H := Hid.mk' (fun W => Mod_is x y W hx hy)
  have HX := Hid.mk' (fun W => bad_any x W hx)
  have HY := Hid.mk' (fun W => bad_any y W hy)
  have WX := Hid.mk' (fun W => wide_any x W hx)
  have WY := Hid.mk' (fun W => wide_any y W hy)
  have ey := eq0 y hy
  have ex := eq0 x hx
  by_cases h : y % 9223372036854775808 = 0 ∨ x % 9223372036854775808 = 9218868437227405312 ∨ nan x ∨ nan y
  · have HR : Hid (RestIs x y 9221120237041090561) := .inl ⟨h, rfl⟩
    by_cases a1 : nan x
    · rw [decide_eq_true a1] at HX
      go_enter Try.func30, Try.ntmps30
      go_wp2_with (first | (go_at_call 43; first | (refine (HX.out _).mono ?_; rintro e w1 ⟨rfl, hw1⟩; rw [hw1]; clear hw1 w1) | (refine (HY.out _).mono ?_; rintro e w1 ⟨rfl, hw1⟩; rw [hw1]; clear hw1 w1)) | (go_at_call 44; first | (refine (WX.out _).mono ?_; rintro e w1 ⟨rfl, hw1⟩; rw [hw1]; clear hw1 w1) | (refine (WY.out _).mono ?_; rintro e w1 ⟨rfl, hw1⟩; rw [hw1]; clear hw1 w1)) | (go_at_call 46; refine (nan_any _).mono ?_; rintro e w1 ⟨rfl, hw1⟩; rw [hw1]; clear hw1 w1))
      go_ret
      exact ⟨⟨_, rfl, HR.out⟩, rfl⟩
    · rw [decide_eq_false a1] at HX
      by_cases a2 : nan y
      · rw [decide_eq_true a2] at HY
        go_enter Try.func30, Try.ntmps30
        go_wp2_with (first | (go_at_call 43; first | (refine (HX.out _).mono ?_; rintro e w1 ⟨rfl, hw1⟩; rw [hw1]; clear hw1 w1) | (refine (HY.out _).mono ?_; rintro e w1 ⟨rfl, hw1⟩; rw [hw1]; clear hw1 w1)) | (go_at_call 44; first | (refine (WX.out _).mono ?_; rintro e w1 ⟨rfl, hw1⟩; rw [hw1]; clear hw1 w1) | (refine (WY.out _).mono ?_; rintro e w1 ⟨rfl, hw1⟩; rw [hw1]; clear hw1 w1)) | (go_at_call 46; refine (nan_any _).mono ?_; rintro e w1 ⟨rfl, hw1⟩; rw [hw1]; clear hw1 w1))
        go_ret
        exact ⟨⟨_, rfl, HR.out⟩, rfl⟩
      · rw [decide_eq_false a2] at HY
        by_cases a3 : x % 9223372036854775808 = 9218868437227405312
        · rw [decide_eq_true a3] at WX
          go_enter Try.func30, Try.ntmps30
          go_wp2_with (first | (go_at_call 43; first | (refine (HX.out _).mono ?_; rintro e w1 ⟨rfl, hw1⟩; rw [hw1]; clear hw1 w1) | (refine (HY.out _).mono ?_; rintro e w1 ⟨rfl, hw1⟩; rw [hw1]; clear hw1 w1)) | (go_at_call 44; first | (refine (WX.out _).mono ?_; rintro e w1 ⟨rfl, hw1⟩; rw [hw1]; clear hw1 w1) | (refine (WY.out _).mono ?_; rintro e w1 ⟨rfl, hw1⟩; rw [hw1]; clear hw1 w1)) | (go_at_call 46; refine (nan_any _).mono ?_; rintro e w1 ⟨rfl, hw1⟩; rw [hw1]; clear hw1 w1))
          go_ret
          exact ⟨⟨_, rfl, HR.out⟩, rfl⟩
        · rw [decide_eq_false a3] at WX
          have a4 : y % 9223372036854775808 = 0 := by
            rcases h with h | h | h | h
            · exact h
            · exact absurd h a3
            · exact absurd h a1
            · exact absurd h a2
          rw [decide_eq_true a4] at ey
          go_enter Try.func30, Try.ntmps30
          go_wp2_with (first | (go_at_call 43; first | (refine (HX.out _).mono ?_; rintro e w1 ⟨rfl, hw1⟩; rw [hw1]; clear hw1 w1) | (refine (HY.out _).mono ?_; rintro e w1 ⟨rfl, hw1⟩; rw [hw1]; clear hw1 w1)) | (go_at_call 44; first | (refine (WX.out _).mono ?_; rintro e w1 ⟨rfl, hw1⟩; rw [hw1]; clear hw1 w1) | (refine (WY.out _).mono ?_; rintro e w1 ⟨rfl, hw1⟩; rw [hw1]; clear hw1 w1)) | (go_at_call 46; refine (nan_any _).mono ?_; rintro e w1 ⟨rfl, hw1⟩; rw [hw1]; clear hw1 w1))
          go_ret
          exact ⟨⟨_, rfl, HR.out⟩, rfl⟩
  · have a1 : ¬ nan x := fun q => h (.inr (.inr (.inl q)))
    have a2 : ¬ nan y := fun q => h (.inr (.inr (.inr q)))
    have a3 : ¬ x % 9223372036854775808 = 9218868437227405312 := fun q => h (.inr (.inl q))
    have a4 : ¬ y % 9223372036854775808 = 0 := fun q => h (.inl q)
    rw [decide_eq_false a1] at HX
    rw [decide_eq_false a2] at HY
    rw [decide_eq_false a3] at WX
    rw [decide_eq_false a4] at ey
    by_cases b1 : y % 9223372036854775808 = 9218868437227405312
    · rw [decide_eq_true b1] at WY
      have HR := Hid.mk' (RestIs.small (y := y) hx h (by unfold nan at a1; omega))
      clear b1 h
      go_enter Try.func30, Try.ntmps30
      go_wp2_with (first | (go_at_call 43; first | (refine (HX.out _).mono ?_; rintro e w1 ⟨rfl, hw1⟩; rw [hw1]; clear hw1 w1) | (refine (HY.out _).mono ?_; rintro e w1 ⟨rfl, hw1⟩; rw [hw1]; clear hw1 w1)) | (go_at_call 44; first | (refine (WX.out _).mono ?_; rintro e w1 ⟨rfl, hw1⟩; rw [hw1]; clear hw1 w1) | (refine (WY.out _).mono ?_; rintro e w1 ⟨rfl, hw1⟩; rw [hw1]; clear hw1 w1)))
      go_ret
      exact ⟨⟨_, rfl, HR.out⟩, rfl⟩
    · rw [decide_eq_false b1] at WY
      by_cases b2 : x % 9223372036854775808 = 0
      · rw [decide_eq_true b2] at ex
        have HR := Hid.mk' (RestIs.small (y := y) hx h (by omega))
        clear b1 b2 h
        go_enter Try.func30, Try.ntmps30
        go_wp2_with (first | (go_at_call 43; first | (refine (HX.out _).mono ?_; rintro e w1 ⟨rfl, hw1⟩; rw [hw1]; clear hw1 w1) | (refine (HY.out _).mono ?_; rintro e w1 ⟨rfl, hw1⟩; rw [hw1]; clear hw1 w1)) | (go_at_call 44; first | (refine (WX.out _).mono ?_; rintro e w1 ⟨rfl, hw1⟩; rw [hw1]; clear hw1 w1) | (refine (WY.out _).mono ?_; rintro e w1 ⟨rfl, hw1⟩; rw [hw1]; clear hw1 w1)))
        go_ret
        exact ⟨⟨_, rfl, HR.out⟩, rfl⟩
      · rw [decide_eq_false b2] at ex
        clear b1 b2 h
        go_enter Try.func30, Try.ntmps30
        go_wp2_with (first | (go_at_call 43; first | (refine (HX.out _).mono ?_; rintro e w1 ⟨rfl, hw1⟩; rw [hw1]; clear hw1 w1) | (refine (HY.out _).mono ?_; rintro e w1 ⟨rfl, hw1⟩; rw [hw1]; clear hw1 w1)) | (go_at_call 44; first | (refine (WX.out _).mono ?_; rintro e w1 ⟨rfl, hw1⟩; rw [hw1]; clear hw1 w1) | (refine (WY.out _).mono ?_; rintro e w1 ⟨rfl, hw1⟩; rw [hw1]; clear hw1 w1)) | (go_at_call 38; refine (H.out _).mono ?_; rintro e w1 ⟨⟨r, rfl, hr⟩, hw1⟩; rw [hw1]; clear hw1 w1))
        go_ret
        exact ⟨⟨r, rfl, hr⟩, rfl⟩
end Go.Proofs.Ytilcpdnonppleaa
