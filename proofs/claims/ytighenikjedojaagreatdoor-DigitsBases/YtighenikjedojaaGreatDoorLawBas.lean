/- DigitsBases: whole numbers are written to any base, and a text's beginning is read to any base, as the document says. -/
import Derived.Test.YtighenikjedojaaGreatDoorAwakeD
import Derived.Test.YtighenikjedojaaGreatDoorRwh
import Derived.Test.YtighenikjedojaaGreatDoorBas
namespace Go.Proofs.YtighenikjedojaaGreatDoor
set_option linter.unusedVariables false
open Go.RowKit Fl

set_option maxHeartbeats 400000 in
theorem rbad_self (y : Nat) (w : World) (hy : y < 18446744073709551616) : Calls Tryz.prog 88 #[.float .f64 y] w fun e w' => e = .returned (.bool (decide (nan y))) ∧ w' = w := by
  by_cases h : nan y
  · have hnn := order_nan y y hy hy (.inl h)
    rw [← f64] at hnn
    rw [decide_eq_true h]
    clear h hy
    go_enter Tryz.func88, Tryz.ntmps88
    go_wp2
    go_ret
    exact ⟨rfl, rfl⟩
  · have hxx := ord_self y hy h
    rw [decide_eq_false h]
    clear h hy
    go_enter Tryz.func88, Tryz.ntmps88
    go_wp2
    go_ret
    exact ⟨rfl, rfl⟩
set_option maxHeartbeats 1000000 in
theorem rsame_self (y : Nat) (w : World) (hy : y < 18446744073709551616) : Calls Tryz.prog 56 #[.float .f64 y, .float .f64 y, .int .i64 2] w fun e w' => e = .returned (.bool true) ∧ w' = w := by
  have HB := Hid.mk' (fun W => rbad_self y W hy)
  have HS := Hid.mk' (fun W => signbit_any y W hy)
  generalize decide (9223372036854775808 ≤ y) = sb at HS
  by_cases h : nan y
  · rw [decide_eq_true h] at HB
    clear h hy
    go_enter Tryz.func56, Tryz.ntmps56
    go_wp2_with (first | (go_at_call 88; refine (HB.out _).mono ?_; rintro e w1 ⟨rfl, hw1⟩; rw [hw1]; clear hw1 w1) | (go_at_call 89; refine (HS.out _).mono ?_; rintro e w1 ⟨rfl, hw1⟩; rw [hw1]; clear hw1 w1))
    go_ret
    exact ⟨rfl, rfl⟩
  · have hxx := ord_self y hy h
    rw [decide_eq_false h] at HB
    have hsb : (sb == sb) = true := by simp
    clear h hy
    go_enter Tryz.func56, Tryz.ntmps56
    go_wp2_with (first | (go_at_call 88; refine (HB.out _).mono ?_; rintro e w1 ⟨rfl, hw1⟩; rw [hw1]; clear hw1 w1) | (go_at_call 89; refine (HS.out _).mono ?_; rintro e w1 ⟨rfl, hw1⟩; rw [hw1]; clear hw1 w1))
    go_ret
    exact ⟨rfl, rfl⟩
set_option maxHeartbeats 400000 in
theorem rsame3_self (y : Nat) (w : World) (hy : y < 18446744073709551616) : Calls Tryz.prog 7 #[.float .f64 y, .float .f64 y] w fun e w' => e = .returned (.bool true) ∧ w' = w := by
  have H := Hid.mk' (fun W => rsame_self y W hy)
  have HA : Hid (∀ W, Calls Tryz.prog 22 #[.float .f64 y, .float .f64 y] W fun e w' => e = .returned (.bool true) ∧ w' = W) := fun W => by
    clear hy
    go_enter Tryz.func22, Tryz.ntmps22
    go_wp2_with (go_at_call 56; refine (H.out _).mono ?_; rintro e w1 ⟨rfl, hw1⟩; rw [hw1]; clear hw1 w1)
    go_ret
    exact ⟨rfl, rfl⟩
  clear hy
  go_enter Tryz.func7, Tryz.ntmps7
  go_wp2_with (go_at_call 22; refine (HA.out _).mono ?_; rintro e w1 ⟨rfl, hw1⟩; rw [hw1]; clear hw1 w1)
  go_ret
  exact ⟨rfl, rfl⟩
theorem sg_lt (b : Bool) (V : Nat) (h : V ≤ 9218868437227405312) : sg b V < 18446744073709551616 := by
  unfold sg; cases b
  · rw [if_neg (by simp)]; omega
  · rw [if_pos rfl]; omega
theorem wRes_lt (r : Int) (T : ByteArray) : wRes r T < 18446744073709551616 := by
  unfold wRes
  split
  · omega
  · exact sg_lt _ _ (NF_lt _)
theorem wRes_same (r : Int) (s : ByteArray) : wRes r ⟨(textC (pts (bhd s))).toArray⟩ = wRes r (Sb (nb ((uns (bhd s)).map ascN))) := by
  obtain ⟨k, hA⟩ := aa_text (bhd s)
  obtain ⟨k2, hU⟩ := hA.uns
  obtain ⟨e1, e2⟩ := hU.whole r
  unfold wRes
  rw [← e1, (hA.sgn).2.1]
  cases q : wNo r (unsT ⟨(textC (pts (bhd s))).toArray⟩)
  · rw [if_neg (by simp), if_neg (by simp), e2 q]
  · rw [if_pos rfl, if_pos rfl]
set_option maxHeartbeats 4000000 in
set_option maxRecDepth 100000 in
theorem bases_walk (x : Nat) (base : Int) (s : ByteArray) (w : World) (hx : x < 18446744073709551616) (hs : s.size ≤ 140737488351232) (hl : Hid (Laid w)) (hlb : Hid (LaidB w)) :
    Calls Tryz.prog 3 #[.float .f64 x, .int .i64 base, .string s] w fun e w' => e = .returned (.bool true) ∧ Below w.heap.size w w' := by
  have HA := Hid.mk' (fun W hW => awake_any W hW)
  by_cases h8 : (800 : Int) < s.size
  · go_enter Tryz.func3, Tryz.ntmps3
    go_wp2_with fail
    refine (HA.out _ hl).mono ?_
    rintro e w1 ⟨rfl, b1⟩
    go_wp2
    go_ret
    exact ⟨rfl, b1⟩
  · obtain ⟨S, E, hP, hR⟩ := base_both x base hx
    have HP := Hid.mk' hP
    have HR := Hid.mk' hR
    have HW := Hid.mk' (fun W hW => whole_any s base W (by omega) hW)
    have HV := Hid.mk' (fun W hW hB => rwhole_any s base W (by omega) hW hB)
    rw [wRes_same] at HW
    obtain ⟨Y, hY⟩ : ∃ Y, wRes (IntKind.i32.wrap base) (Sb (nb ((uns (bhd s)).map ascN))) = Y := ⟨_, rfl⟩
    have hYlt : Y < 18446744073709551616 := by rw [← hY]; exact wRes_lt _ _
    rw [hY] at HW HV
    have HSm := Hid.mk' (fun W => rsame3_self Y W hYlt)
    clear hP hR hY hYlt hx
    go_enter Tryz.func3, Tryz.ntmps3
    go_wp2_with fail
    refine (HA.out _ hl).mono ?_
    rintro e w1 ⟨rfl, b1⟩
    have hl1 : Hid (Laid w1) := hl.out.below b1
    have hb1 : Hid (LaidB w1) := hlb.out.below b1
    go_wp2_with fail
    refine (HP.out _ hl1 (Hid.mk' hb1.out.tz)).mono ?_
    rintro e w2 ⟨rfl, b2⟩
    have c2 : Below w.heap.size w w2 := b1.trans (b2.mono b1.size)
    have hl2 : Hid (Laid w2) := hl.out.below c2
    have hb2 : Hid (LaidB w2) := hlb.out.below c2
    clear b1 b2 hl1 hb1
    go_wp2_with fail
    refine (HR.out _ hl2 (Hid.mk' hb2.out.tz)).mono ?_
    rintro e w3 ⟨rfl, b3⟩
    have c3 : Below w.heap.size w w3 := c2.trans (b3.mono c2.size)
    have hl3 : Hid (LaidN w3) := (hl.out.below c3).n
    clear b3 c2 hl2 hb2
    go_wp2_with fail
    refine (HW.out _ hl3).mono ?_
    rintro e w4 ⟨rfl, b4⟩
    have c4 : Below w.heap.size w w4 := c3.trans (b4.mono c3.size)
    have hl4 : Hid (LaidN w4) := (hl.out.below c4).n
    have hb4 : Hid (LaidB w4) := hlb.out.below c4
    clear b4 c3 hl3
    go_wp2_with fail
    refine (HV.out _ hl4 hb4).mono ?_
    rintro e w5 ⟨rfl, b5⟩
    have c5 : Below w.heap.size w w5 := c4.trans (b5.mono c4.size)
    clear b5 c4 hl4 hb4
    go_wp2_with (go_at_call 7; refine (HSm.out _).mono ?_; rintro e w6 ⟨rfl, hw6⟩; rw [hw6]; clear hw6 w6)
    go_ret
    exact ⟨rfl, c5⟩
end Go.Proofs.YtighenikjedojaaGreatDoor
