/- math.Mod: the rest of a division, without rounding. -/
import Derived.Test.YtbkkkpfoaggejaaGreatDoorFrexp
namespace Go.Proofs.YtbkkkpfoaggejaaGreatDoor
set_option linter.unusedVariables false
open Go.RowKit Fl

set_option maxHeartbeats 400000 in
theorem ldexp_any (h d j : Nat) (w : World) (h0 : 1 ≤ h) (hh : h < 9218868437227405312) (hj : j < 9218868437227405312) (hv : val j = val h * 2 ^ d) :
    Calls Tryz.prog 124 #[.float .f64 h, .int .i64 d] w fun e w' => e = .returned (.float .f64 j) ∧ w' = w := by
  have HF := Hid.mk' (ldexp_low h d j w h0 hh hj hv)
  go_enter Tryz.func124, Tryz.ntmps124
  go_wp2_with (go_at_call 142; refine HF.out.mono ?_; rintro e w1 ⟨rfl, hw1⟩; rw [hw1]; clear hw1 w1)
  go_ret
  exact ⟨rfl, rfl⟩

theorem cmp0 (x : Nat) (hx : x < 18446744073709551616) (n : ¬ nan x) : Ieee.double.order x 0 = some (compare (key x) 0) := by
  rw [order_key x 0 hx (by omega) n (by unfold nan; omega)]
  rfl
theorem eq0 (x : Nat) (hx : x < 18446744073709551616) : (FloatKind.f64.format.order x 0 == some Ordering.eq) = decide (x % 9223372036854775808 = 0) := by
  rw [f64]
  by_cases n : nan x
  · rw [order_nan x 0 hx (by omega) (.inl n)]
    unfold nan at n
    rw [decide_eq_false (by omega)]; rfl
  · rw [cmp0 x hx n]
    by_cases e : x % 9223372036854775808 = 0
    · have : key x = 0 := by unfold key; split <;> omega
      rw [this, decide_eq_true e]; rfl
    · have : compare (key x) 0 ≠ .eq := fun q => e (by have := Int.compare_eq_eq.1 q; unfold key at this; split at this <;> omega)
      rw [decide_eq_false e]
      generalize compare (key x) 0 = o at this ⊢
      cases o <;> simp at this ⊢
theorem lt0 (x : Nat) (hx : x < 18446744073709551616) (n : ¬ nan x) : (FloatKind.f64.format.order x 0 == some Ordering.lt) = decide (9223372036854775808 < x) := by
  rw [f64, cmp0 x hx n]
  by_cases e : 9223372036854775808 < x
  · have : key x < 0 := by unfold key; rw [if_pos (by omega)]; omega
    rw [Int.compare_eq_lt.2 this, decide_eq_true e]; rfl
  · have : compare (key x) 0 ≠ .lt := fun q => e (by have := Int.compare_eq_lt.1 q; unfold key at this; split at this <;> omega)
    rw [decide_eq_false e]
    generalize compare (key x) 0 = o at this ⊢
    cases o <;> simp at this ⊢

set_option maxRecDepth 100000 in
set_option maxHeartbeats 400000 in
theorem mod_nan (x y : Nat) (w : World) (hx : x < 18446744073709551616) (hy : y < 18446744073709551616) (h : y % 9223372036854775808 = 0 ∨ x % 9223372036854775808 = 9218868437227405312 ∨ nan x ∨ nan y) :
    Calls Tryz.prog 106 #[.float .f64 x, .float .f64 y] w fun e w' => e = .returned (.float .f64 9221120237041090561) ∧ w' = w := by
  have e0 := eq0 y hy
  by_cases h1 : y % 9223372036854775808 = 0
  · rw [decide_eq_true h1] at e0
    go_enter Tryz.func106, Tryz.ntmps106
    go_wp2_with (go_at_call 85; refine (nan_any _).mono ?_; rintro e w1 ⟨rfl, hw1⟩; rw [hw1]; clear hw1 w1)
    go_ret
    exact ⟨rfl, rfl⟩
  · rw [decide_eq_false h1] at e0
    have HI := Hid.mk' (fun W => isInf0_any x W hx)
    have HX := Hid.mk' (fun W => isNaN_any x W hx)
    have HY := Hid.mk' (fun W => isNaN_any y W hy)
    by_cases h2 : x % 9223372036854775808 = 9218868437227405312
    · rw [decide_eq_true h2] at HI
      go_enter Tryz.func106, Tryz.ntmps106
      go_wp2_with (first | (go_at_call 85; refine (nan_any _).mono ?_; rintro e w1 ⟨rfl, hw1⟩; rw [hw1]; clear hw1 w1) | (go_at_call 86; refine (HI.out _).mono ?_; rintro e w1 ⟨rfl, hw1⟩; rw [hw1]; clear hw1 w1))
      go_ret
      exact ⟨rfl, rfl⟩
    · rw [decide_eq_false h2] at HI
      by_cases h3 : nan x
      · rw [decide_eq_true h3] at HX
        go_enter Tryz.func106, Tryz.ntmps106
        go_wp2_with (first | (go_at_call 85; refine (nan_any _).mono ?_; rintro e w1 ⟨rfl, hw1⟩; rw [hw1]; clear hw1 w1) | (go_at_call 86; refine (HI.out _).mono ?_; rintro e w1 ⟨rfl, hw1⟩; rw [hw1]; clear hw1 w1) | (go_at_call 84; refine (HX.out _).mono ?_; rintro e w1 ⟨rfl, hw1⟩; rw [hw1]; clear hw1 w1))
        go_ret
        exact ⟨rfl, rfl⟩
      · rw [decide_eq_false h3] at HX
        have h4 : nan y := ((h.resolve_left h1).resolve_left h2).resolve_left h3
        rw [decide_eq_true h4] at HY
        go_enter Tryz.func106, Tryz.ntmps106
        go_wp2_with (first | (go_at_call 85; refine (nan_any _).mono ?_; rintro e w1 ⟨rfl, hw1⟩; rw [hw1]; clear hw1 w1) | (go_at_call 86; refine (HI.out _).mono ?_; rintro e w1 ⟨rfl, hw1⟩; rw [hw1]; clear hw1 w1) | (go_at_call 84; first | (refine (HX.out _).mono ?_; rintro e w1 ⟨rfl, hw1⟩; rw [hw1]; clear hw1 w1) | (refine (HY.out _).mono ?_; rintro e w1 ⟨rfl, hw1⟩; rw [hw1]; clear hw1 w1)))
        go_ret
        exact ⟨rfl, rfl⟩

@[go_sem] theorem run_negf (k : FloatKind) (b : Nat) (W : World) : (Op.unary .neg (.float k b)).run Tryz.prog W = .ok (.float k (Op.negFloat k b)) W := rfl
theorem neg_pos (g : Nat) (h : g < 9223372036854775808) : Op.negFloat .f64 g = 9223372036854775808 + g := xor_half g h
theorem neg_neg' (g : Nat) (h : g < 9223372036854775808) : Op.negFloat .f64 (9223372036854775808 + g) = g := xor_half' g h

theorem sub_pos (g j k : Nat) (hg : g < 9218868437227405312) (hj : j < 9218868437227405312) (hk : k < 9218868437227405312) (e : val k + val j = val g) : Ieee.double.sub g j = some k :=
  sub_exact false false false g j k hg hj hk (by unfold sv; simp; omega) (fun _ => rfl)
theorem ge_eq (g h : Nat) (n1 : g ≤ 9218868437227405312) (n2 : h ≤ 9218868437227405312) : (FloatKind.f64.format.order g h == some Ordering.gt || FloatKind.f64.format.order g h == some Ordering.eq) = decide (h ≤ g) := by
  rw [f64, order_key _ _ (by omega) (by omega) (by unfold nan; omega) (by unfold nan; omega)]
  have k1 : key g = (g : Int) := by unfold key; rw [if_neg (by omega)]; omega
  have k2 : key h = (h : Int) := by unfold key; rw [if_neg (by omega)]; omega
  rw [k1, k2]
  rcases Nat.lt_trichotomy g h with e | e | e
  · rw [decide_eq_false (by omega), Int.compare_eq_lt.2 (by omega)]; rfl
  · rw [decide_eq_true (by omega), Int.compare_eq_eq.2 (by omega)]; rfl
  · rw [decide_eq_true (by omega), Int.compare_eq_gt.2 (by omega)]; rfl

def fOf : Value → Nat
  | .float _ b => b
  | _ => 0

set_option maxRecDepth 100000 in
set_option maxHeartbeats 1000000 in
/-- Of a number that is not below 0, by a finite number. -/
theorem mod_pos (x y : Nat) (w : World) (hx : x < 9218868437227405312) (hy : y < 18446744073709551616) (hy0 : y % 9223372036854775808 ≠ 0) (hy1 : y % 9223372036854775808 < 9218868437227405312) :
    Calls Tryz.prog 106 #[.float .f64 x, .float .f64 y] w fun e w' => (∃ g, e = .returned (.float .f64 g) ∧ g < 9218868437227405312 ∧ val g = val x % val (y % 9223372036854775808)) ∧ w' = w := by
  have e0 := eq0 y hy
  rw [decide_eq_false hy0] at e0
  have HI := Hid.mk' (fun W => isInf0_any x W (by omega))
  rw [decide_eq_false (show ¬ x % 9223372036854775808 = 9218868437227405312 by omega)] at HI
  have HX := Hid.mk' (fun W => isNaN_any x W (by omega))
  rw [decide_eq_false (show ¬ nan x by unfold nan; omega)] at HX
  have HY := Hid.mk' (fun W => isNaN_any y W hy)
  rw [decide_eq_false (show ¬ nan y by unfold nan; omega)] at HY
  have HA := Hid.mk' (fun W => abs_any y W hy)
  have hl := lt0 x (by omega) (by unfold nan; omega)
  rw [decide_eq_false (show ¬ 9223372036854775808 < x by omega)] at hl
  obtain ⟨Y, hY⟩ : ∃ Y, y % 9223372036854775808 = Y := ⟨_, rfl⟩
  rw [hY] at hy0 hy1 HA ⊢
  have HF := Hid.mk' (fun W => frexp_any Y W (by omega) hy1)
  go_enter Tryz.func106, Tryz.ntmps106
  go_wp2_with (first | (go_at_call 86; refine (HI.out _).mono ?_; rintro e w1 ⟨rfl, hw1⟩; rw [hw1]; clear hw1 w1) | (go_at_call 84; first | (refine (HX.out _).mono ?_; rintro e w1 ⟨rfl, hw1⟩; rw [hw1]; clear hw1 w1) | (refine (HY.out _).mono ?_; rintro e w1 ⟨rfl, hw1⟩; rw [hw1]; clear hw1 w1)) | (go_at_call 108; refine (HA.out _).mono ?_; rintro e w1 ⟨rfl, hw1⟩; rw [hw1]; clear hw1 w1) | (go_at_call 123; refine (HF.out _).mono ?_; rintro e w1 ⟨⟨Sy, Ey, ny, rfl, b1, b5, b2, b3, b4⟩, hw1⟩; rw [hw1]; clear hw1 w1))
  have HB := Hid.mk' b4
  clear b4 HI HX HY HA HF hY e0
  go_loopw [7] (fun v wr => ∃ g : Nat, v = .float .f64 g ∧ g < 9218868437227405312 ∧ Hid (val g % val Y = val x % val Y) ∧ wr = w) (fun v _ => fOf v)
  case atStart => exact ⟨x, rfl, hx, rfl, rfl⟩
  case round =>
    obtain ⟨g, rfl, hg, HV, rfl⟩ := hrel
    have hge := ge_eq g Y (by omega) (by omega)
    by_cases hle : Y ≤ g
    · rw [decide_eq_true hle] at hge
      have HF := Hid.mk' (fun W => frexp_any g W (by omega) hg)
      go_wp2_with fail
      refine (HF.out _).mono ?_
      rintro e w1 ⟨⟨Sr, Er, nr, rfl, a1, a5, a2, a3, a4⟩, hw1⟩
      rw [hw1]
      clear hw1 w1 HF
      obtain ⟨d, j, g', hd, hj, hvj, hg', hvg, hvp⟩ := mod_step hg (by omega) hle a1 a2 a3 a4 b1 b2 b3 HB.out
      have HL := Hid.mk' (fun z W (hz : z = (d : Int)) => by rw [hz]; exact ldexp_any Y d j W (by omega) hy1 hj hvj : ∀ z W, z = (d : Int) → Calls Tryz.prog 124 #[.float .f64 Y, .int .i64 z] W fun e w' => e = .returned (.float .f64 j) ∧ w' = W)
      have HS := Hid.mk' (fun W => run_sub 24 g j g' W (sub_pos g j g' hg hj hg' hvg))
      have HN : Hid (val g' % val Y = val x % val Y) := by
        show _ = _
        rw [← HV.out, ← hvg, hvj, Nat.mul_comm, Nat.add_mul_mod_self_right]
      have hlt : g' < g := val_lt.1 (by omega)
      have hcm := lt_eq (4602678819172646912 + (Sr - 4503599627370496)) (4602678819172646912 + (Sy - 4503599627370496)) (by omega) (by omega) (by omega) (by omega)
      clear hvj hvg hvp a4
      by_cases hS : Sr < Sy
      · rw [if_pos hS] at hd
        rw [decide_eq_true (by omega)] at hcm
        go_wp2_with (first | (go_at_call 124; refine (HL.out _ _ (by omega)).mono ?_; rintro e w1 ⟨rfl, hw1⟩; rw [hw1]; clear hw1 w1) | rw [HS.out])
        go_roundw
        case rel => exact ⟨g', rfl, hg', HN, trivial⟩
        case measure => exact hlt
      · rw [if_neg hS] at hd
        rw [decide_eq_false (by omega)] at hcm
        go_wp2_with (first | (go_at_call 124; refine (HL.out _ _ (by omega)).mono ?_; rintro e w1 ⟨rfl, hw1⟩; rw [hw1]; clear hw1 w1) | rw [HS.out])
        go_roundw
        case rel => exact ⟨g', rfl, hg', HN, trivial⟩
        case measure => exact hlt
    · rw [decide_eq_false hle] at hge
      go_wp2
      go_ret
      refine ⟨⟨g, rfl, hg, ?_⟩, rfl⟩
      rw [← HV.out, Nat.mod_eq_of_lt (val_mono (by omega))]
set_option maxRecDepth 100000 in
set_option maxHeartbeats 1000000 in
/-- Of a number below 0, by a finite number. -/
theorem mod_neg (x y : Nat) (w : World) (hx0 : 1 ≤ x) (hx : x < 9218868437227405312) (hy : y < 18446744073709551616) (hy0 : y % 9223372036854775808 ≠ 0) (hy1 : y % 9223372036854775808 < 9218868437227405312) :
    Calls Tryz.prog 106 #[.float .f64 (9223372036854775808 + x), .float .f64 y] w fun e w' => (∃ g, e = .returned (.float .f64 (9223372036854775808 + g)) ∧ g < 9218868437227405312 ∧ val g = val x % val (y % 9223372036854775808)) ∧ w' = w := by
  have e0 := eq0 y hy
  rw [decide_eq_false hy0] at e0
  have HI := Hid.mk' (fun W => isInf0_any (9223372036854775808 + x) W (by omega))
  rw [decide_eq_false (show ¬ (9223372036854775808 + x) % 9223372036854775808 = 9218868437227405312 by omega)] at HI
  have HX := Hid.mk' (fun W => isNaN_any (9223372036854775808 + x) W (by omega))
  rw [decide_eq_false (show ¬ nan (9223372036854775808 + x) by unfold nan; omega)] at HX
  have HY := Hid.mk' (fun W => isNaN_any y W hy)
  rw [decide_eq_false (show ¬ nan y by unfold nan; omega)] at HY
  have HA := Hid.mk' (fun W => abs_any y W hy)
  have hl := lt0 (9223372036854775808 + x) (by omega) (by unfold nan; omega)
  rw [decide_eq_true (show 9223372036854775808 < 9223372036854775808 + x by omega)] at hl
  have hng := neg_neg' x (by omega)
  obtain ⟨Y, hY⟩ : ∃ Y, y % 9223372036854775808 = Y := ⟨_, rfl⟩
  rw [hY] at hy0 hy1 HA ⊢
  have HF := Hid.mk' (fun W => frexp_any Y W (by omega) hy1)
  go_enter Tryz.func106, Tryz.ntmps106
  go_wp2_with (first | (go_at_call 86; refine (HI.out _).mono ?_; rintro e w1 ⟨rfl, hw1⟩; rw [hw1]; clear hw1 w1) | (go_at_call 84; first | (refine (HX.out _).mono ?_; rintro e w1 ⟨rfl, hw1⟩; rw [hw1]; clear hw1 w1) | (refine (HY.out _).mono ?_; rintro e w1 ⟨rfl, hw1⟩; rw [hw1]; clear hw1 w1)) | (go_at_call 108; refine (HA.out _).mono ?_; rintro e w1 ⟨rfl, hw1⟩; rw [hw1]; clear hw1 w1) | (go_at_call 123; refine (HF.out _).mono ?_; rintro e w1 ⟨⟨Sy, Ey, ny, rfl, b1, b5, b2, b3, b4⟩, hw1⟩; rw [hw1]; clear hw1 w1))
  have HB := Hid.mk' b4
  clear b4 HI HX HY HA HF hY e0
  go_loopw [7] (fun v wr => ∃ g : Nat, v = .float .f64 g ∧ g < 9218868437227405312 ∧ Hid (val g % val Y = val x % val Y) ∧ wr = w) (fun v _ => fOf v)
  case atStart => exact ⟨x, rfl, hx, rfl, rfl⟩
  case round =>
    obtain ⟨g, rfl, hg, HV, rfl⟩ := hrel
    have hge := ge_eq g Y (by omega) (by omega)
    by_cases hle : Y ≤ g
    · rw [decide_eq_true hle] at hge
      have HF := Hid.mk' (fun W => frexp_any g W (by omega) hg)
      go_wp2_with fail
      refine (HF.out _).mono ?_
      rintro e w1 ⟨⟨Sr, Er, nr, rfl, a1, a5, a2, a3, a4⟩, hw1⟩
      rw [hw1]
      clear hw1 w1 HF
      obtain ⟨d, j, g', hd, hj, hvj, hg', hvg, hvp⟩ := mod_step hg (by omega) hle a1 a2 a3 a4 b1 b2 b3 HB.out
      have HL := Hid.mk' (fun z W (hz : z = (d : Int)) => by rw [hz]; exact ldexp_any Y d j W (by omega) hy1 hj hvj : ∀ z W, z = (d : Int) → Calls Tryz.prog 124 #[.float .f64 Y, .int .i64 z] W fun e w' => e = .returned (.float .f64 j) ∧ w' = W)
      have HS := Hid.mk' (fun W => run_sub 24 g j g' W (sub_pos g j g' hg hj hg' hvg))
      have HN : Hid (val g' % val Y = val x % val Y) := by
        show _ = _
        rw [← HV.out, ← hvg, hvj, Nat.mul_comm, Nat.add_mul_mod_self_right]
      have hlt : g' < g := val_lt.1 (by omega)
      have hcm := lt_eq (4602678819172646912 + (Sr - 4503599627370496)) (4602678819172646912 + (Sy - 4503599627370496)) (by omega) (by omega) (by omega) (by omega)
      clear hvj hvg hvp a4
      by_cases hS : Sr < Sy
      · rw [if_pos hS] at hd
        rw [decide_eq_true (by omega)] at hcm
        go_wp2_with (first | (go_at_call 124; refine (HL.out _ _ (by omega)).mono ?_; rintro e w1 ⟨rfl, hw1⟩; rw [hw1]; clear hw1 w1) | rw [HS.out])
        go_roundw
        case rel => exact ⟨g', rfl, hg', HN, trivial⟩
        case measure => exact hlt
      · rw [if_neg hS] at hd
        rw [decide_eq_false (by omega)] at hcm
        go_wp2_with (first | (go_at_call 124; refine (HL.out _ _ (by omega)).mono ?_; rintro e w1 ⟨rfl, hw1⟩; rw [hw1]; clear hw1 w1) | rw [HS.out])
        go_roundw
        case rel => exact ⟨g', rfl, hg', HN, trivial⟩
        case measure => exact hlt
    · rw [decide_eq_false hle] at hge
      have hng2 := neg_pos g (by omega)
      go_wp2
      go_ret
      refine ⟨⟨g, ?_, hg, ?_⟩, rfl⟩
      · rw [← hng2]; rfl
      rw [← HV.out, Nat.mod_eq_of_lt (val_mono (by omega))]

theorem frexp_some (g : Nat) (w : World) (h0 : 1 ≤ g) (h : g ≤ 9218868437227405312) :
    Calls Tryz.prog 123 #[.float .f64 g] w fun e w' => (∃ (f : Nat) (z : Int), e = .returned (.tuple #[.float .f64 f, .int .i64 z])) ∧ w' = w := by
  by_cases hi : g = 9218868437227405312
  · subst hi
    refine (frexp_inf w).mono ?_
    rintro e w' ⟨rfl, hw⟩
    exact ⟨⟨_, _, rfl⟩, hw⟩
  · refine (frexp_any g w h0 (by omega)).mono ?_
    rintro e w' ⟨⟨S, E, n, rfl, _⟩, hw⟩
    exact ⟨⟨_, _, rfl⟩, hw⟩
theorem ge_zero (Y : Nat) (h : 1 ≤ Y) (h2 : Y ≤ 9218868437227405312) : (FloatKind.f64.format.order 9223372036854775808 Y == some Ordering.gt || FloatKind.f64.format.order 9223372036854775808 Y == some Ordering.eq) = false := by
  rw [f64, order_key _ _ (by omega) (by omega) (by unfold nan; omega) (by unfold nan; omega)]
  have k1 : key 9223372036854775808 = 0 := by unfold key; rw [if_pos (by omega)]; omega
  have k2 : key Y = (Y : Int) := by unfold key; rw [if_neg (by omega)]; omega
  rw [k1, k2, Int.compare_eq_lt.2 (by omega)]; rfl

set_option maxRecDepth 100000 in
set_option maxHeartbeats 1000000 in
/-- A number that is less than the divisor is its own rest. -/
theorem mod_small (x y : Nat) (w : World) (hx : x < 18446744073709551616) (hy : y < 18446744073709551616) (hxy : x % 9223372036854775808 < y % 9223372036854775808) (hy1 : y % 9223372036854775808 ≤ 9218868437227405312) :
    Calls Tryz.prog 106 #[.float .f64 x, .float .f64 y] w fun e w' => e = .returned (.float .f64 x) ∧ w' = w := by
  have e0 := eq0 y hy
  rw [decide_eq_false (by omega)] at e0
  have HI := Hid.mk' (fun W => isInf0_any x W (by omega))
  rw [decide_eq_false (show ¬ x % 9223372036854775808 = 9218868437227405312 by omega)] at HI
  have HX := Hid.mk' (fun W => isNaN_any x W (by omega))
  rw [decide_eq_false (show ¬ nan x by unfold nan; omega)] at HX
  have HY := Hid.mk' (fun W => isNaN_any y W hy)
  rw [decide_eq_false (show ¬ nan y by unfold nan; omega)] at HY
  have HA := Hid.mk' (fun W => abs_any y W hy)
  have hl := lt0 x (by omega) (by unfold nan; omega)
  obtain ⟨Y, hY⟩ : ∃ Y, y % 9223372036854775808 = Y := ⟨_, rfl⟩
  rw [hY] at hy1 HA hxy
  have HF := Hid.mk' (fun W => frexp_some Y W (by omega) hy1)
  by_cases hneg : 9223372036854775808 < x
  · rw [decide_eq_true hneg] at hl
    obtain ⟨X, rfl⟩ : ∃ X, x = 9223372036854775808 + X := ⟨x - 9223372036854775808, by omega⟩
    have hX : (9223372036854775808 + X) % 9223372036854775808 = X := by omega
    rw [hX] at hxy
    have hng := neg_neg' X (by omega)
    have hng2 := neg_pos X (by omega)
    have hge := ge_eq X Y (by omega) (by omega)
    rw [decide_eq_false (by omega)] at hge
    clear hX hY hneg
    go_enter Tryz.func106, Tryz.ntmps106
    go_wp2_with (first | (go_at_call 86; refine (HI.out _).mono ?_; rintro e w1 ⟨rfl, hw1⟩; rw [hw1]; clear hw1 w1) | (go_at_call 84; first | (refine (HX.out _).mono ?_; rintro e w1 ⟨rfl, hw1⟩; rw [hw1]; clear hw1 w1) | (refine (HY.out _).mono ?_; rintro e w1 ⟨rfl, hw1⟩; rw [hw1]; clear hw1 w1)) | (go_at_call 108; refine (HA.out _).mono ?_; rintro e w1 ⟨rfl, hw1⟩; rw [hw1]; clear hw1 w1) | (go_at_call 123; refine (HF.out _).mono ?_; rintro e w1 ⟨⟨f, z, rfl⟩, hw1⟩; rw [hw1]; clear hw1 w1))
    go_loopw [7] (fun v wr => v = .float .f64 X ∧ wr = w) (fun v _ => fOf v)
    case atStart => exact ⟨rfl, rfl⟩
    case round =>
      obtain ⟨rfl, rfl⟩ := hrel
      go_wp2
      go_ret
      exact ⟨by rw [← hng2]; rfl, rfl⟩
  · rw [decide_eq_false hneg] at hl
    have hge : (FloatKind.f64.format.order x Y == some Ordering.gt || FloatKind.f64.format.order x Y == some Ordering.eq) = false := by
      by_cases hxh : x = 9223372036854775808
      · rw [hxh]; exact ge_zero Y (by omega) hy1
      · rw [ge_eq x Y (by omega) (by omega), decide_eq_false (by omega)]
    clear hneg hY
    go_enter Tryz.func106, Tryz.ntmps106
    go_wp2_with (first | (go_at_call 86; refine (HI.out _).mono ?_; rintro e w1 ⟨rfl, hw1⟩; rw [hw1]; clear hw1 w1) | (go_at_call 84; first | (refine (HX.out _).mono ?_; rintro e w1 ⟨rfl, hw1⟩; rw [hw1]; clear hw1 w1) | (refine (HY.out _).mono ?_; rintro e w1 ⟨rfl, hw1⟩; rw [hw1]; clear hw1 w1)) | (go_at_call 108; refine (HA.out _).mono ?_; rintro e w1 ⟨rfl, hw1⟩; rw [hw1]; clear hw1 w1) | (go_at_call 123; refine (HF.out _).mono ?_; rintro e w1 ⟨⟨f, z, rfl⟩, hw1⟩; rw [hw1]; clear hw1 w1))
    go_loopw [7] (fun v wr => v = .float .f64 x ∧ wr = w) (fun v _ => fOf v)
    case atStart => exact ⟨rfl, rfl⟩
    case round =>
      obtain ⟨rfl, rfl⟩ := hrel
      go_wp2
      go_ret
      exact ⟨rfl, rfl⟩

/-- A rung under the sign of x. -/
def sgn (x g : Nat) : Nat := if 9223372036854775808 ≤ x then 9223372036854775808 + g else g
theorem sgn_self (x : Nat) (hx : x < 18446744073709551616) : sgn x (x % 9223372036854775808) = x := by unfold sgn; split <;> omega

theorem mod_any (x y : Nat) (w : World) (hx : x < 18446744073709551616) (hy : y < 18446744073709551616) (hx1 : x % 9223372036854775808 < 9218868437227405312) (hy0 : y % 9223372036854775808 ≠ 0) (hy1 : y % 9223372036854775808 ≤ 9218868437227405312) :
    Calls Tryz.prog 106 #[.float .f64 x, .float .f64 y] w fun e w' => (∃ g, e = .returned (.float .f64 (sgn x g)) ∧ g < 9218868437227405312 ∧ val g = val (x % 9223372036854775808) % val (y % 9223372036854775808)) ∧ w' = w := by
  by_cases hs : x % 9223372036854775808 < y % 9223372036854775808
  · refine (mod_small x y w hx hy hs hy1).mono ?_
    rintro e w' ⟨rfl, hw⟩
    exact ⟨⟨x % 9223372036854775808, by rw [sgn_self x hx], hx1, by rw [Nat.mod_eq_of_lt (val_mono hs)]⟩, hw⟩
  · by_cases hp : 9223372036854775808 ≤ x
    · obtain ⟨X, rfl⟩ : ∃ X, x = 9223372036854775808 + X := ⟨x - 9223372036854775808, by omega⟩
      have hX : (9223372036854775808 + X) % 9223372036854775808 = X := by omega
      rw [hX] at hs hx1 ⊢
      refine (mod_neg X y w (by omega) hx1 hy hy0 (by omega)).mono ?_
      rintro e w' ⟨⟨g, rfl, h1, h2⟩, hw⟩
      exact ⟨⟨g, by unfold sgn; rw [if_pos hp], h1, h2⟩, hw⟩
    · have hX : x % 9223372036854775808 = x := by omega
      rw [hX] at hs hx1 ⊢
      refine (mod_pos x y w hx1 hy hy0 (by omega)).mono ?_
      rintro e w' ⟨⟨g, rfl, h1, h2⟩, hw⟩
      exact ⟨⟨g, by unfold sgn; rw [if_neg hp], h1, h2⟩, hw⟩

set_option maxHeartbeats 400000 in
theorem Mod_any (x y : Nat) (w : World) (hx : x < 18446744073709551616) (hy : y < 18446744073709551616) (hx1 : x % 9223372036854775808 < 9218868437227405312) (hy0 : y % 9223372036854775808 ≠ 0) (hy1 : y % 9223372036854775808 ≤ 9218868437227405312) :
    Calls Tryz.prog 83 #[.float .f64 x, .float .f64 y] w fun e w' => (∃ g, e = .returned (.float .f64 (sgn x g)) ∧ g < 9218868437227405312 ∧ val g = val (x % 9223372036854775808) % val (y % 9223372036854775808)) ∧ w' = w := by
  have HF := Hid.mk' (mod_any x y w hx hy hx1 hy0 hy1)
  go_enter Tryz.func83, Tryz.ntmps83
  go_wp2_with (go_at_call 106; refine HF.out.mono ?_; rintro e w1 ⟨⟨g, rfl, h1, h2⟩, hw1⟩; rw [hw1]; clear hw1 w1)
  go_ret
  exact ⟨⟨g, rfl, h1, h2⟩, rfl⟩
set_option maxHeartbeats 400000 in
theorem Mod_nan (x y : Nat) (w : World) (hx : x < 18446744073709551616) (hy : y < 18446744073709551616) (h : y % 9223372036854775808 = 0 ∨ x % 9223372036854775808 = 9218868437227405312 ∨ nan x ∨ nan y) :
    Calls Tryz.prog 83 #[.float .f64 x, .float .f64 y] w fun e w' => e = .returned (.float .f64 9221120237041090561) ∧ w' = w := by
  have HF := Hid.mk' (mod_nan x y w hx hy h)
  go_enter Tryz.func83, Tryz.ntmps83
  go_wp2_with (go_at_call 106; refine HF.out.mono ?_; rintro e w1 ⟨rfl, hw1⟩; rw [hw1]; clear hw1 w1)
  go_ret
  exact ⟨rfl, rfl⟩
end Go.Proofs.YtbkkkpfoaggejaaGreatDoor
