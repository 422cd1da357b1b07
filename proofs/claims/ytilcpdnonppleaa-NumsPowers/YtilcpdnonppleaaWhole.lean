/- Contracts: numbers cut off to whole ones. -/
import Derived.Test.YtilcpdnonppleaaNum
namespace Go.Proofs.Ytilcpdnonppleaa
set_option linter.unusedVariables false
open Go.RowKit Fl

/-- A finite number cut off. -/
def tz (x : Nat) : Int := if 9223372036854775808 ≤ x then -(tr (x % 9223372036854775808) : Int) else (tr (x % 9223372036854775808) : Int)
theorem ftoi (x : Nat) (k : IntKind) (hx : x < 18446744073709551616) (hf : x % 9223372036854775808 < 9218868437227405312) (h1 : k.min ≤ tz x) (h2 : tz x ≤ k.max) : floatToIntVal .f64 x k = some (tz x) := by
  unfold floatToIntVal
  have e : (FloatKind.f64.decode x).toInt .zero = some (tz x) := by
    show (Ieee.double.read x).toInt .zero = _
    rw [word_parts x hx, toInt_fin _ _ hf]
    rw [← word_parts x hx]
    unfold tz
    simp
  rw [e]
  dsimp only
  rw [if_pos ⟨h1, h2⟩]
theorem run_ftoi (t : TypeId) (x : Nat) (k : IntKind) (W : World) (hd : Try.prog.underlying t = some (.int k)) (hx : x < 18446744073709551616) (hf : x % 9223372036854775808 < 9218868437227405312) (h1 : k.min ≤ tz x) (h2 : tz x ≤ k.max) :
    (convert 22 t (.float .f64 x)).run Try.prog W = .ok (.int k (tz x)) W :=
  run_convert_float_int W 22 t .f64 k x (tz x) (by kernel_rfl) hd (ftoi x k hx hf h1 h2)

theorem tz_sgn (x g : Nat) (hg : g < 9223372036854775808) : tz (sgn x g) = if 9223372036854775808 ≤ x then -(tr g : Int) else (tr g : Int) := by
  unfold tz sgn
  by_cases h : 9223372036854775808 ≤ x
  · rw [if_pos h, if_pos h, if_pos (by omega), show (9223372036854775808 + g) % 9223372036854775808 = g by omega]
  · rw [if_neg h, if_neg h, if_neg (by omega), show g % 9223372036854775808 = g by omega]
theorem RestIs.fin {x y r : Nat} (h : RestIs x y r) (hx : x < 18446744073709551616) (hf : x % 9223372036854775808 < 9218868437227405312) (hy : y % 9223372036854775808 ≠ 0) (hy1 : y % 9223372036854775808 ≤ 9218868437227405312) : ∃ g, r = sgn x g ∧ g < 9218868437227405312 ∧ val g = val (x % 9223372036854775808) % val (y % 9223372036854775808) := by
  rcases h with ⟨h, _⟩ | ⟨_, h⟩
  · unfold nan at h; omega
  · exact h
theorem RestIs.bad {x y r : Nat} (h : RestIs x y r) (hb : y % 9223372036854775808 = 0 ∨ x % 9223372036854775808 = 9218868437227405312 ∨ nan x ∨ nan y) : r = 9221120237041090561 := by
  rcases h with ⟨_, h⟩ | ⟨h, _⟩
  · exact h
  · exact absurd hb h

/-- Of a finite number what is left modulo 2^32; else 0. -/
def u32 (x : Nat) : Int := if x % 9223372036854775808 < 9218868437227405312 then tz x % 4294967296 else 0

set_option maxHeartbeats 400000 in
theorem uint32_any (x : Nat) (w : World) (hx : x < 18446744073709551616) :
    Calls Try.prog 12 #[.float .f64 x] w fun e w' => e = .returned (.int .u32 (u32 x)) ∧ w' = w := by
  have hc := lt_c (x % 9223372036854775808) 4890909195324358656 (by omega) (by omega)
  by_cases hs : x % 9223372036854775808 < 4890909195324358656
  · rw [decide_eq_true hs] at hc
    have ht := tr_lt (x % 9223372036854775808) 1085 63 hs rfl
    have ht' : tr (x % 9223372036854775808) < 9223372036854775808 := ht
    clear ht
    have hz1 : -9223372036854775808 < tz x := by unfold tz; split <;> omega
    have hz2 : tz x < 9223372036854775808 := by unfold tz; split <;> omega
    have HC := Hid.mk' (fun W => run_ftoi 2 x .i64 W (by kernel_rfl) hx (by omega) (by show (-9223372036854775808 : Int) ≤ _; omega) (by show _ ≤ (9223372036854775807 : Int); omega))
    have hu : u32 x = tz x % 4294967296 := by unfold u32; rw [if_pos (by omega)]
    go_enter Try.func12, Try.ntmps12
    go_wp2_with (first | (go_at_call 37; refine (abs_any _ _ hx).mono ?_; rintro e w1 ⟨rfl, hw1⟩; rw [hw1]; clear hw1 w1) | rw [HC.out])
    go_ret
    exact ⟨by rw [hu]; rfl, rfl⟩
  · rw [decide_eq_false hs] at hc
    have HM := Hid.mk' (fun W => Mod_is x 4751297606875873280 W hx (by omega))
    by_cases hf : x % 9223372036854775808 < 9218868437227405312
    · go_enter Try.func12, Try.ntmps12
      go_wp2_with (first | (go_at_call 37; refine (abs_any _ _ hx).mono ?_; rintro e w1 ⟨rfl, hw1⟩; rw [hw1]; clear hw1 w1))
      refine (HM.out _).mono ?_
      rintro e w1 ⟨⟨r, rfl, hr⟩, hw1⟩
      rw [hw1]
      clear hw1 w1
      obtain ⟨g, hrg, hg1, hg2⟩ := hr.fin hx hf (by omega) (by omega)
      have hrl : r < 18446744073709551616 := hr.lt
      have htr : tr g = tr (x % 9223372036854775808) % 4294967296 := by
        have v1 := val_pow' 1054 1106 rfl
        rw [show (1054 + 1) * 4503599627370496 = 4751297606875873280 from rfl, ← pow_split (show 32 + 1074 = 1106 from rfl), show (2 : Nat) ^ 32 = 4294967296 from rfl] at v1
        rw [show (4751297606875873280 : Nat) % 9223372036854775808 = 4751297606875873280 from rfl, v1] at hg2
        exact tr_mod g (x % 9223372036854775808) 4294967296 hg2
      have hrm : r % 9223372036854775808 = g := by rw [hrg]; unfold sgn; split <;> omega
      have htz : tz r = if 9223372036854775808 ≤ x then -(tr g : Int) else (tr g : Int) := by rw [hrg]; exact tz_sgn x g (by omega)
      have hz1 : -4294967296 < tz r := by rw [htz]; split <;> omega
      have hz2 : tz r < 4294967296 := by rw [htz]; split <;> omega
      have HN := Hid.mk' (fun W => isNaN_any r W hrl)
      rw [decide_eq_false (show ¬ nan r by unfold nan; omega)] at HN
      have HC := Hid.mk' (fun W => run_ftoi 2 r .i64 W (by kernel_rfl) hrl (by omega) (by show (-9223372036854775808 : Int) ≤ _; omega) (by show _ ≤ (9223372036854775807 : Int); omega))
      have hu : tz r % 4294967296 = u32 x := by
        unfold u32
        rw [if_pos hf, htz]
        unfold tz
        rw [htr]
        split <;> omega
      have HU := Hid.mk' hu
      clear hu htz hrg hr hrm htr hg2
      go_wp2_with (first | (go_at_call 39; refine (HN.out _).mono ?_; rintro e w1 ⟨rfl, hw1⟩; rw [hw1]; clear hw1 w1) | rw [HC.out])
      go_ret
      exact ⟨by rw [← HU.out]; rfl, rfl⟩
    · go_enter Try.func12, Try.ntmps12
      go_wp2_with (first | (go_at_call 37; refine (abs_any _ _ hx).mono ?_; rintro e w1 ⟨rfl, hw1⟩; rw [hw1]; clear hw1 w1))
      refine (HM.out _).mono ?_
      rintro e w1 ⟨⟨r, rfl, hr⟩, hw1⟩
      rw [hw1]
      clear hw1 w1
      obtain rfl := hr.bad (by unfold nan; omega)
      have HN := Hid.mk' (fun W => isNaN_any 9221120237041090561 W (by omega))
      rw [decide_eq_true (show nan 9221120237041090561 by unfold nan; omega)] at HN
      have hu : u32 x = 0 := by unfold u32; rw [if_neg hf]
      go_wp2_with (first | (go_at_call 39; refine (HN.out _).mono ?_; rintro e w1 ⟨rfl, hw1⟩; rw [hw1]; clear hw1 w1))
      go_ret
      exact ⟨by rw [hu]; rfl, rfl⟩

theorem u32_range (x : Nat) : 0 ≤ u32 x ∧ u32 x < 4294967296 := by unfold u32; split <;> omega

set_option maxHeartbeats 400000 in
theorem int32_any (x : Nat) (w : World) (hx : x < 18446744073709551616) :
    Calls Try.prog 10 #[.float .f64 x] w fun e w' => e = .returned (.int .i32 (wrap32 (u32 x))) ∧ w' = w := by
  have H := Hid.mk' (fun W => uint32_any x W hx)
  have hr := u32_range x
  go_enter Try.func10, Try.ntmps10
  go_wp2_with (first | (go_at_call 12; refine (H.out _).mono ?_; rintro e w1 ⟨rfl, hw1⟩; rw [hw1]; clear hw1 w1))
  go_ret
  exact ⟨rfl, rfl⟩
set_option maxHeartbeats 400000 in
theorem uint16_any (x : Nat) (w : World) (hx : x < 18446744073709551616) :
    Calls Try.prog 14 #[.float .f64 x] w fun e w' => e = .returned (.int .u16 (u32 x % 65536)) ∧ w' = w := by
  have H := Hid.mk' (fun W => uint32_any x W hx)
  have hr := u32_range x
  go_enter Try.func14, Try.ntmps14
  go_wp2_with (first | (go_at_call 12; refine (H.out _).mono ?_; rintro e w1 ⟨rfl, hw1⟩; rw [hw1]; clear hw1 w1))
  go_ret
  exact ⟨rfl, rfl⟩
end Go.Proofs.Ytilcpdnonppleaa
