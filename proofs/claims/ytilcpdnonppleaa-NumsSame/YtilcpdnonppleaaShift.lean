/- Contracts: shifts and products of 32 bits. -/
import Derived.Test.YtilcpdnonppleaaWhole
namespace Go.Proofs.Ytilcpdnonppleaa
set_option linter.unusedVariables false
open Go.RowKit Fl

theorem and31 (z : Int) (h0 : 0 ≤ z) (h1 : z < 4294967296) : bits .and .u32 z 31 = z % 32 := by
  obtain ⟨n, rfl⟩ := Int.eq_ofNat_of_zero_le h0
  have e := u32_and_nat n 31 (by omega) (by omega)
  have e2 := Nat.and_two_pow_sub_one_eq_mod n 5
  rw [show 2 ^ 5 - 1 = 31 from rfl] at e2
  rw [e2] at e
  rw [show (31 : Int) = ((31 : Nat) : Int) from rfl, e]
  omega

set_option maxHeartbeats 400000 in
theorem places_any' (x : Nat) (w : World) (hx : x < 18446744073709551616) :
    Calls Try.prog 45 #[.float .f64 x] w fun e w' => e = .returned (.int .u32 (u32 x % 32)) ∧ w' = w := by
  have H := Hid.mk' (fun W => uint32_any x W hx)
  have hr := u32_range x
  go_enter Try.func45, Try.ntmps45
  go_wp2_with (first | (go_at_call 12; refine (H.out _).mono ?_; rintro e w1 ⟨rfl, hw1⟩; rw [hw1]; clear hw1 w1))
  go_ret
  exact ⟨by rw [← and31 _ hr.1 hr.2]; rfl, rfl⟩

set_option maxHeartbeats 400000 in
theorem left_any (x y : Nat) (w : World) (hx : x < 18446744073709551616) (hy : y < 18446744073709551616) :
    Calls Try.prog 21 #[.float .f64 x, .float .f64 y] w fun e w' => e = .returned (.float .f64 (floatOfInt .f64 (wrap32 (wrap32 (u32 x) * 2 ^ (u32 y % 32).toNat)))) ∧ w' = w := by
  have H := Hid.mk' (fun W => int32_any x W hx)
  have HU := Hid.mk' (fun W => uint32_any x W hx)
  have HV := Hid.mk' (fun W => uint32_any y W hy)
  have HJ := Hid.mk' (fun W => int32_any y W hy)
  have HP := Hid.mk' (fun W => places_any' y W hy)
  have hr := u32_range x
  have hs := u32_range y
  have hp : 0 ≤ u32 y % 32 ∧ u32 y % 32 < 32 := by omega
  go_enter Try.func21, Try.ntmps21
  go_wp2_with (first | (go_at_call 10; first | (refine (H.out _).mono ?_; rintro e w1 ⟨rfl, hw1⟩; rw [hw1]; clear hw1 w1) | (refine (HJ.out _).mono ?_; rintro e w1 ⟨rfl, hw1⟩; rw [hw1]; clear hw1 w1)) | (go_at_call 12; first | (refine (HU.out _).mono ?_; rintro e w1 ⟨rfl, hw1⟩; rw [hw1]; clear hw1 w1) | (refine (HV.out _).mono ?_; rintro e w1 ⟨rfl, hw1⟩; rw [hw1]; clear hw1 w1)) | (go_at_call 45; first | (refine (HP.out _).mono ?_; rintro e w1 ⟨rfl, hw1⟩; rw [hw1]; clear hw1 w1)))
  go_ret
  exact ⟨rfl, rfl⟩
set_option maxHeartbeats 400000 in
theorem right_any (x y : Nat) (w : World) (hx : x < 18446744073709551616) (hy : y < 18446744073709551616) :
    Calls Try.prog 23 #[.float .f64 x, .float .f64 y] w fun e w' => e = .returned (.float .f64 (floatOfInt .f64 (wrap32 (u32 x) / 2 ^ (u32 y % 32).toNat))) ∧ w' = w := by
  have H := Hid.mk' (fun W => int32_any x W hx)
  have HU := Hid.mk' (fun W => uint32_any x W hx)
  have HV := Hid.mk' (fun W => uint32_any y W hy)
  have HJ := Hid.mk' (fun W => int32_any y W hy)
  have HP := Hid.mk' (fun W => places_any' y W hy)
  have hr := u32_range x
  have hs := u32_range y
  have hp : 0 ≤ u32 y % 32 ∧ u32 y % 32 < 32 := by omega
  go_enter Try.func23, Try.ntmps23
  go_wp2_with (first | (go_at_call 10; first | (refine (H.out _).mono ?_; rintro e w1 ⟨rfl, hw1⟩; rw [hw1]; clear hw1 w1) | (refine (HJ.out _).mono ?_; rintro e w1 ⟨rfl, hw1⟩; rw [hw1]; clear hw1 w1)) | (go_at_call 12; first | (refine (HU.out _).mono ?_; rintro e w1 ⟨rfl, hw1⟩; rw [hw1]; clear hw1 w1) | (refine (HV.out _).mono ?_; rintro e w1 ⟨rfl, hw1⟩; rw [hw1]; clear hw1 w1)) | (go_at_call 45; first | (refine (HP.out _).mono ?_; rintro e w1 ⟨rfl, hw1⟩; rw [hw1]; clear hw1 w1)))
  go_ret
  exact ⟨rfl, rfl⟩
set_option maxHeartbeats 400000 in
theorem over_any (x y : Nat) (w : World) (hx : x < 18446744073709551616) (hy : y < 18446744073709551616) :
    Calls Try.prog 25 #[.float .f64 x, .float .f64 y] w fun e w' => e = .returned (.float .f64 (floatOfInt .f64 (u32 x / 2 ^ (u32 y % 32).toNat))) ∧ w' = w := by
  have H := Hid.mk' (fun W => int32_any x W hx)
  have HU := Hid.mk' (fun W => uint32_any x W hx)
  have HV := Hid.mk' (fun W => uint32_any y W hy)
  have HJ := Hid.mk' (fun W => int32_any y W hy)
  have HP := Hid.mk' (fun W => places_any' y W hy)
  have hr := u32_range x
  have hs := u32_range y
  have hp : 0 ≤ u32 y % 32 ∧ u32 y % 32 < 32 := by omega
  go_enter Try.func25, Try.ntmps25
  go_wp2_with (first | (go_at_call 10; first | (refine (H.out _).mono ?_; rintro e w1 ⟨rfl, hw1⟩; rw [hw1]; clear hw1 w1) | (refine (HJ.out _).mono ?_; rintro e w1 ⟨rfl, hw1⟩; rw [hw1]; clear hw1 w1)) | (go_at_call 12; first | (refine (HU.out _).mono ?_; rintro e w1 ⟨rfl, hw1⟩; rw [hw1]; clear hw1 w1) | (refine (HV.out _).mono ?_; rintro e w1 ⟨rfl, hw1⟩; rw [hw1]; clear hw1 w1)) | (go_at_call 45; first | (refine (HP.out _).mono ?_; rintro e w1 ⟨rfl, hw1⟩; rw [hw1]; clear hw1 w1)))
  go_ret
  exact ⟨rfl, rfl⟩
set_option maxHeartbeats 400000 in
theorem mul32_any (x y : Nat) (w : World) (hx : x < 18446744073709551616) (hy : y < 18446744073709551616) :
    Calls Try.prog 27 #[.float .f64 x, .float .f64 y] w fun e w' => e = .returned (.float .f64 (floatOfInt .f64 (wrap32 (wrap32 (u32 x) * wrap32 (u32 y))))) ∧ w' = w := by
  have H := Hid.mk' (fun W => int32_any x W hx)
  have HU := Hid.mk' (fun W => uint32_any x W hx)
  have HV := Hid.mk' (fun W => uint32_any y W hy)
  have HJ := Hid.mk' (fun W => int32_any y W hy)
  have HP := Hid.mk' (fun W => places_any' y W hy)
  have hr := u32_range x
  have hs := u32_range y
  have hp : 0 ≤ u32 y % 32 ∧ u32 y % 32 < 32 := by omega
  go_enter Try.func27, Try.ntmps27
  go_wp2_with (first | (go_at_call 10; first | (refine (H.out _).mono ?_; rintro e w1 ⟨rfl, hw1⟩; rw [hw1]; clear hw1 w1) | (refine (HJ.out _).mono ?_; rintro e w1 ⟨rfl, hw1⟩; rw [hw1]; clear hw1 w1)) | (go_at_call 12; first | (refine (HU.out _).mono ?_; rintro e w1 ⟨rfl, hw1⟩; rw [hw1]; clear hw1 w1) | (refine (HV.out _).mono ?_; rintro e w1 ⟨rfl, hw1⟩; rw [hw1]; clear hw1 w1)) | (go_at_call 45; first | (refine (HP.out _).mono ?_; rintro e w1 ⟨rfl, hw1⟩; rw [hw1]; clear hw1 w1)))
  go_ret
  exact ⟨rfl, rfl⟩
end Go.Proofs.Ytilcpdnonppleaa
