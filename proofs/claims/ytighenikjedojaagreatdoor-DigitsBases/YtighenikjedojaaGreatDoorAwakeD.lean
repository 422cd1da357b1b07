/- digits.Literal, Read, Whole at the chapter's examples. -/
import Derived.Test.YtighenikjedojaaGreatDoorDVc
import Derived.Test.YtighenikjedojaaGreatDoorRShowA
import Derived.Test.YtighenikjedojaaGreatDoorShowU
import Derived.Test.YtighenikjedojaaGreatDoorTrimP
import Derived.Test.YtighenikjedojaaGreatDoorText
namespace Go.Proofs.YtighenikjedojaaGreatDoor
set_option linter.unusedVariables false
open Go.RowKit Fl

set_option maxHeartbeats 1000000 in
set_option maxRecDepth 100000 in
theorem goesOn_c (w : World) : Calls Tryz.prog 43 #[.string (Sb [59])] w fun e w' => e = .returned (.bool false) ∧ Below w.heap.size w w' := by
  have HD := Hid.mk' (fun W => digitsAhead_any (Sb [59]) 36 W (by rw [Sb_size]; decide) ⟨by omega, by omega⟩)
  rw [show runN (Sb [59]) 0 36 = 0 by decide] at HD
  obtain ⟨S, hS⟩ : ∃ S, Sb [59] = S := ⟨_, rfl⟩
  have hsz : (S.size : Int) = 1 := by rw [← hS]; rfl
  have e1 : S.extract 0 1 = S := by rw [← hS]; rfl
  have hne : S.toList.isEmpty = false := by rw [← hS]; exact ne_empty (by decide)
  have hbt := PlainAid.get_bt S
  have z0 : PlainAid.bt S 0 = 59 := by rw [← hS]; decide
  rw [hS] at HD ⊢
  clear hS
  have HE := Hid.mk' e1
  clear e1
  go_enter Tryz.func43, Tryz.ntmps43
  go_wp2_with fail
  rw [HE.out]
  refine (HD.out _).mono ?_
  rintro e w1 ⟨rfl, b1⟩
  go_wp2
  go_ret
  exact ⟨rfl, b1⟩
set_option maxHeartbeats 1000000 in
set_option maxRecDepth 100000 in
theorem nought_c (w : World) : Calls Tryz.prog 42 #[.string (Sb [49, 46, 53, 101, 51, 59])] w fun e w' => e = .returned (.bool false) ∧ Below w.heap.size w w' := by
  have HD := Hid.mk' (fun W => digitsAhead_any (Sb [49, 46, 53, 101, 51, 59]) 10 W (by rw [Sb_size]; decide) ⟨by omega, by omega⟩)
  rw [show runN (Sb [49, 46, 53, 101, 51, 59]) 0 10 = 1 by decide] at HD
  generalize Sb [49, 46, 53, 101, 51, 59] = S at *
  go_enter Tryz.func42, Tryz.ntmps42
  go_wp2_with fail
  refine (HD.out _).mono ?_
  rintro e w1 ⟨rfl, b1⟩
  go_wp2
  go_ret
  exact ⟨rfl, b1⟩
set_option maxHeartbeats 1000000 in
set_option maxRecDepth 100000 in
theorem literal_c (w : World) (hl : Hid (LaidN w)) : Calls Tryz.prog 10 #[.string (Sb [49, 46, 53, 101, 51, 59])] w fun e w' => e = .returned (.tuple #[.float .f64 4654311885213007872, .int .i64 5, .int .i64 0]) ∧ Below w.heap.size w w' := by
  have HB := Hid.mk' (fun W hW => based_any (Sb [49, 46, 53, 101, 51, 59]) W (by rw [Sb_size]; decide) hW)
  have HD := Hid.mk' (fun W => decimal_any (Sb [49, 46, 53, 101, 51, 59]) W (by rw [Sb_size]; decide))
  rw [show basedN (Sb [49, 46, 53, 101, 51, 59]) = 0 by decide] at HB
  rw [show decB (Sb [49, 46, 53, 101, 51, 59]) = 5 by decide] at HD
  have HN := Hid.mk' (fun W => nought_c W)
  have HG := Hid.mk' (fun W => goesOn_c W)
  have HV := Hid.mk' (fun W hW => value_dec W hW)
  obtain ⟨S, hS⟩ : ∃ S, Sb [49, 46, 53, 101, 51, 59] = S := ⟨_, rfl⟩
  have hsz : (S.size : Int) = 6 := by rw [← hS]; rfl
  have e1 : S.extract 5 S.size = Sb [59] := by rw [← hS]; rfl
  have e2 : S.extract 0 5 = Sb [49, 46, 53, 101, 51] := by rw [← hS]; rfl
  have HE1 := Hid.mk' e1
  have HE2 := Hid.mk' e2
  have hmx : max (0 : Int) 5 = 5 := by decide
  rw [hS] at HB HD HN ⊢
  clear hS e1 e2
  go_enter Tryz.func10, Tryz.ntmps10
  go_wp2_with fail
  refine (HB.out _ hl).mono ?_
  rintro e w1 ⟨rfl, b1⟩
  go_wp2_with fail
  refine (HD.out _).mono ?_
  rintro e w2 ⟨rfl, b2⟩
  have b02 : Below w.heap.size w w2 := b1.trans (b2.mono b1.size)
  clear b1 b2
  go_wp2_with fail
  refine (HN.out _).mono ?_
  rintro e w3 ⟨rfl, b3⟩
  have b03 : Below w.heap.size w w3 := b02.trans (b3.mono b02.size)
  clear b02 b3
  go_wp2_with fail
  rw [HE1.out]
  refine (HG.out _).mono ?_
  rintro e w4 ⟨rfl, b4⟩
  have b04 : Below w.heap.size w w4 := b03.trans (b4.mono b03.size)
  clear b03 b4
  have hl4 : Hid (LaidN w4) := hl.out.below b04
  go_wp2_with fail
  rw [HE2.out]
  refine (HV.out _ hl4).mono ?_
  rintro e w5 ⟨rfl, b5⟩
  go_wp2
  go_ret3
  exact ⟨rfl, b04.trans (b5.mono b04.size)⟩
set_option maxHeartbeats 400000 in
theorem signed_pos (x : Nat) (w : World) : Calls Tryz.prog 31 #[.float .f64 x, .bool false] w fun e w' => e = .returned (.float .f64 x) ∧ w' = w := by
  go_enter Tryz.func31, Tryz.ntmps31
  go_wp2
  go_ret
  exact ⟨rfl, rfl⟩
set_option maxHeartbeats 1000000 in
set_option maxRecDepth 100000 in
theorem read_c (w : World) (hl : Hid (LaidN w)) : Calls Tryz.prog 13 #[.string (Sb [0, 32, 0, 48, 0, 120, 0, 49, 0, 70, 0, 32])] w fun e w' => e = .returned (.float .f64 4629418941960159232) ∧ Below w.heap.size w w' := by
  have HT := Hid.mk' (fun W => trim_any (Sb [0, 32, 0, 48, 0, 120, 0, 49, 0, 70, 0, 32]) W (by rw [Sb_size]; decide))
  rw [show mkB (trimN (uns (Sb [0, 32, 0, 48, 0, 120, 0, 49, 0, 70, 0, 32]))) = [0, 48, 0, 120, 0, 49, 0, 70] by decide +kernel] at HT
  have HX := Hid.mk' (fun W => text_core ⟨[0, 48, 0, 120, 0, 49, 0, 70].toArray⟩ W (by decide))
  rw [show textC (pts ⟨[0, 48, 0, 120, 0, 49, 0, 70].toArray⟩) = [48, 120, 49, 70] by kernel_rfl, show (⟨[48, 120, 49, 70].toArray⟩ : ByteArray) = Sb [48, 120, 49, 70] from rfl] at HX
  have HB := Hid.mk' (fun W hW => based_any (Sb [48, 120, 49, 70]) W (by rw [Sb_size]; decide) hW)
  rw [show basedN (Sb [48, 120, 49, 70]) = 4 by decide] at HB
  have HV := Hid.mk' (fun W hW => value_hex W hW)
  generalize Sb [0, 32, 0, 48, 0, 120, 0, 49, 0, 70, 0, 32] = I at *
  generalize (⟨[0, 48, 0, 120, 0, 49, 0, 70].toArray⟩ : ByteArray) = J at *
  obtain ⟨S, hS⟩ : ∃ S, Sb [48, 120, 49, 70] = S := ⟨_, rfl⟩
  have hsz : (S.size : Int) = 4 := by rw [← hS]; rfl
  have hne : S.toList.isEmpty = false := by rw [← hS]; exact ne_empty (by decide)
  rw [hS] at HX HB HV
  clear hS
  go_enter Tryz.func13, Tryz.ntmps13
  go_wp2_with fail
  refine (HT.out _).mono ?_
  rintro e w1 ⟨rfl, b1⟩
  go_wp2_with fail
  refine (HX.out _).mono ?_
  rintro e w2 ⟨rfl, b2⟩
  have b02 : Below w.heap.size w w2 := b1.trans (b2.mono b1.size)
  clear b1 b2
  have hl2 : Hid (LaidN w2) := hl.out.below b02
  go_wp2_with fail
  refine (HB.out _ hl2).mono ?_
  rintro e w3 ⟨rfl, b3⟩
  have b03 : Below w.heap.size w w3 := b02.trans (b3.mono b02.size)
  clear b02 b3
  have hl3 : Hid (LaidN w3) := hl.out.below b03
  go_wp2_with fail
  refine (HV.out _ hl3).mono ?_
  rintro e w4 ⟨rfl, b4⟩
  go_wp2
  go_ret
  exact ⟨rfl, b03.trans (b4.mono b03.size)⟩
section
open Go.RowKit Fl

set_option maxHeartbeats 1000000 in
set_option maxRecDepth 100000 in
theorem whole_c (w : World) (hl : Hid (LaidN w)) : Calls Tryz.prog 8 #[.string (Sb [0, 49, 0, 50, 0, 112, 0, 120]), .int .i64 10] w fun e w' => e = .returned (.float .f64 4622945017495814144) ∧ Below w.heap.size w w' := by
  have HA := Hid.mk' (fun W => blanksAhead_any (Sb [0, 49, 0, 50, 0, 112, 0, 120]) W (by rw [Sb_size]; decide))
  rw [show frontN (uns (Sb [0, 49, 0, 50, 0, 112, 0, 120])) = 0 by decide +kernel] at HA
  have HL := Hid.mk' (fun W => len_any (Sb [0, 49, 0, 50, 0, 112, 0, 120]) W (by rw [Sb_size]; decide))
  rw [show (Sb [0, 49, 0, 50, 0, 112, 0, 120]).size / 2 = 4 from rfl] at HL
  have HC := Hid.mk' (fun W => cut_any (Sb [0, 49, 0, 50, 0, 112, 0, 120]) 0 4 W (by rw [Sb_size]; decide))
  rw [show cutS (Sb [0, 49, 0, 50, 0, 112, 0, 120]) 0 4 = Sb [0, 49, 0, 50, 0, 112, 0, 120] by decide +kernel] at HC
  have HX := Hid.mk' (fun W => text_core (Sb [0, 49, 0, 50, 0, 112, 0, 120]) W (by decide))
  rw [show textC (pts (Sb [0, 49, 0, 50, 0, 112, 0, 120])) = [49, 50, 112, 120] by kernel_rfl, show (⟨[49, 50, 112, 120].toArray⟩ : ByteArray) = Sb [49, 50, 112, 120] from rfl] at HX
  have HU := Hid.mk' (fun W => unsigned_any (Sb [49, 50, 112, 120]) W (by rw [Sb_size]; decide))
  rw [show unsT (Sb [49, 50, 112, 120]) = Sb [49, 50, 112, 120] by unfold unsT; rw [if_neg (by decide)], show minusN (Sb [49, 50, 112, 120]) = false by decide] at HU
  have HD := Hid.mk' (fun W => digitsAhead_any (Sb [49, 50, 112, 120]) 10 W (by rw [Sb_size]; decide) ⟨by omega, by omega⟩)
  rw [show runN (Sb [49, 50, 112, 120]) 0 10 = 2 by decide] at HD
  have HN := Hid.mk' (fun W => nearest_two (Sb [49, 50]) 10 1 2 60 4893160995138043904 4622945017495814144 W rfl ⟨by omega, by omega⟩ (by decide) (by decide) (by omega) one12)
  have HS := Hid.mk' (fun W => signed_pos 4622945017495814144 W)
  generalize Sb [0, 49, 0, 50, 0, 112, 0, 120] = I at *
  obtain ⟨S, hS⟩ : ∃ S, Sb [49, 50, 112, 120] = S := ⟨_, rfl⟩
  have hsz : (S.size : Int) = 4 := by rw [← hS]; rfl
  have e1 : S.extract 0 2 = Sb [49, 50] := by rw [← hS]; rfl
  have HE := Hid.mk' e1
  rw [hS] at HX HU HD
  clear hS e1
  go_enter Tryz.func8, Tryz.ntmps8
  go_wp2_with fail
  refine (HA.out _).mono ?_
  rintro e w1 ⟨rfl, n1, hw1⟩
  have b1 : Below w.heap.size w w1 := by rw [hw1]; exact (kept_drewN _ 0 _ _).1
  clear hw1
  go_wp2_with (go_at_call 27; refine (HL.out _).mono ?_; rintro e w2 ⟨rfl, hw2⟩; rw [hw2]; clear hw2 w2)
  refine (HC.out _).mono ?_
  rintro e w2 ⟨rfl, b2⟩
  have b02 : Below w.heap.size w w2 := b1.trans (b2.mono b1.size)
  clear b1 b2
  go_wp2_with fail
  refine (HX.out _).mono ?_
  rintro e w3 ⟨rfl, b3⟩
  have b03 : Below w.heap.size w w3 := b02.trans (b3.mono b02.size)
  clear b02 b3
  go_wp2_with fail
  refine (HU.out _).mono ?_
  rintro e w4 ⟨rfl, b4⟩
  have b04 : Below w.heap.size w w4 := b03.trans (b4.mono b03.size)
  clear b03 b4
  go_wp2_with fail
  refine (HD.out _).mono ?_
  rintro e w5 ⟨rfl, b5⟩
  have b05 : Below w.heap.size w w5 := b04.trans (b5.mono b04.size)
  clear b04 b5
  go_wp2_with fail
  rw [HE.out]
  refine (HN.out _).mono ?_
  rintro e w6 ⟨rfl, b6⟩
  go_wp2_with (go_at_call 31; refine (HS.out _).mono ?_; rintro e w7 ⟨rfl, hw7⟩; rw [hw7]; clear hw7 w7)
  go_ret
  exact ⟨rfl, b05.trans (b6.mono b05.size)⟩
theorem ofS_1 : ofFst (ofS (Sb [48, 46, 49])) = Sb [0, 48, 0, 46, 0, 49] := by
  have : ofS (Sb [48, 46, 49]) = .ok [0, 48, 0, 46, 0, 49] := by kernel_rfl
  rw [this]; rfl
theorem ofS_2 : ofFst (ofS (Sb [49, 101, 43, 50, 49])) = Sb [0, 49, 0, 101, 0, 43, 0, 50, 0, 49] := by
  have : ofS (Sb [49, 101, 43, 50, 49]) = .ok [0, 49, 0, 101, 0, 43, 0, 50, 0, 49] := by kernel_rfl
  rw [this]; rfl
theorem ofS_3 : ofFst (ofS (Sb [32, 48, 120, 49, 70, 32])) = Sb [0, 32, 0, 48, 0, 120, 0, 49, 0, 70, 0, 32] := by
  have : ofS (Sb [32, 48, 120, 49, 70, 32]) = .ok [0, 32, 0, 48, 0, 120, 0, 49, 0, 70, 0, 32] := by kernel_rfl
  rw [this]; rfl
theorem ofS_4 : ofFst (ofS (Sb [49, 50, 112, 120])) = Sb [0, 49, 0, 50, 0, 112, 0, 120] := by
  have : ofS (Sb [49, 50, 112, 120]) = .ok [0, 49, 0, 50, 0, 112, 0, 120] := by kernel_rfl
  rw [this]; rfl
theorem show_01 : showB 4591870180066957722 = [48, 46, 49] := by
  rw [showB_pos _ (.inr (by omega))]
  unfold unsB
  rw [if_neg (by unfold nan; omega), if_neg (by omega), if_neg (by omega)]
  unfold posB laidB
  have h1 : shDs 4591870180066957722 = [49] := by kernel_rfl
  have h2 : shX 4591870180066957722 = -1 := by kernel_rfl
  rw [h1, h2]
  decide
theorem show_e21 : showB 4921056587992461136 = [49, 101, 43, 50, 49] := by
  rw [showB_pos _ (.inr (by omega))]
  unfold unsB
  rw [if_neg (by unfold nan; omega), if_neg (by omega), if_neg (by omega)]
  unfold posB laidB
  have h1 : shDs 4921056587992461136 = [49] := by kernel_rfl
  have h2 : shX 4921056587992461136 = 21 := by kernel_rfl
  rw [h1, h2, if_pos (by decide)]
  unfold sciB powB
  rw [show Lib.itoa (21 + 1 - 1) = [50, 49] by rw [show (21 + 1 - 1 : Int) = ((21 : Nat) : Int) from rfl, Lib.itoa_nonneg, Lib.decDigits_two (by omega) (by omega)]; rfl]
  decide
set_option maxHeartbeats 2000000 in
set_option maxRecDepth 100000 in
theorem awake_any (w : World) (hl : Hid (Laid w)) : Calls Tryz.prog 4 #[] w fun e w' => e = .returned (.bool true) ∧ Below w.heap.size w w' := by
  have HLI := Hid.mk' (fun W (hW : Hid (Laid W)) => literal_c W (Hid.mk' hW.out.n))
  have HS1 := Hid.mk' (fun W hW => show_any 4591870180066957722 W (by omega) hW)
  rw [show_01, ofS_1] at HS1
  have HS2 := Hid.mk' (fun W hW => show_any 4921056587992461136 W (by omega) hW)
  rw [show_e21, ofS_2] at HS2
  have HA1 := Hid.mk' (fun W => rascii_any (Sb [48, 46, 49]) W (by rw [Sb_size]; decide))
  rw [ofS_1, show Sb [48, 46, 49] = ⟨#[48, 46, 49]⟩ from rfl] at HA1
  have HA2 := Hid.mk' (fun W => rascii_any (Sb [49, 101, 43, 50, 49]) W (by rw [Sb_size]; decide))
  rw [ofS_2, show Sb [49, 101, 43, 50, 49] = ⟨#[49, 101, 43, 50, 49]⟩ from rfl] at HA2
  have HA3 := Hid.mk' (fun W => rascii_any (Sb [32, 48, 120, 49, 70, 32]) W (by rw [Sb_size]; decide))
  rw [ofS_3, show Sb [32, 48, 120, 49, 70, 32] = ⟨#[32, 48, 120, 49, 70, 32]⟩ from rfl] at HA3
  have HA4 := Hid.mk' (fun W => rascii_any (Sb [49, 50, 112, 120]) W (by rw [Sb_size]; decide))
  rw [ofS_4, show Sb [49, 50, 112, 120] = ⟨#[49, 50, 112, 120]⟩ from rfl] at HA4
  rw [show Sb [49, 46, 53, 101, 51, 59] = ⟨#[49, 46, 53, 101, 51, 59]⟩ from rfl] at HLI
  have HRE := Hid.mk' (fun W (hW : Hid (Laid W)) => read_c W (Hid.mk' hW.out.n))
  have HWH := Hid.mk' (fun W (hW : Hid (Laid W)) => whole_c W (Hid.mk' hW.out.n))
  have HBL := Hid.mk' (fun W => blank_any 32 W (by omega))
  rw [show blankB 32 = true by decide] at HBL
  generalize Sb [0, 48, 0, 46, 0, 49] = A1 at *
  generalize Sb [0, 49, 0, 101, 0, 43, 0, 50, 0, 49] = A2 at *
  generalize Sb [0, 32, 0, 48, 0, 120, 0, 49, 0, 70, 0, 32] = A3 at *
  generalize Sb [0, 49, 0, 50, 0, 112, 0, 120] = A4 at *
  have q1 : (FloatKind.f64.format.order 4629418941960159232 4629418941960159232 == some Ordering.eq) = true := by decide
  have q2 : (FloatKind.f64.format.order 4654311885213007872 4654311885213007872 == some Ordering.eq) = true := by decide
  have q3 : (FloatKind.f64.format.order 4622945017495814144 4622945017495814144 == some Ordering.eq) = true := by decide
  have c0 : Below w.heap.size w w := Below.refl _ _
  have hl0 := hl
  go_enter Tryz.func4, Tryz.ntmps4
  go_wp2_with fail
  refine (HLI.out _ hl0).mono ?_
  rintro e w1 ⟨rfl, b1⟩
  have c1 : Below w.heap.size w w1 := c0.trans (b1.mono c0.size)
  have hl1 : Hid (Laid w1) := hl.out.below c1
  clear c0 b1 hl0
  go_wp2_with fail
  refine (HS1.out _ hl1).mono ?_
  rintro e w2 ⟨rfl, b2⟩
  have c2 : Below w.heap.size w w2 := c1.trans (b2.mono c1.size)
  have hl2 : Hid (Laid w2) := hl.out.below c2
  clear c1 b2 hl1
  go_wp2_with fail
  refine (HA1.out _).mono ?_
  rintro e w3 ⟨rfl, b3⟩
  have c3 : Below w.heap.size w w3 := c2.trans (b3.mono c2.size)
  have hl3 : Hid (Laid w3) := hl.out.below c3
  clear c2 b3 hl2
  go_wp2_with fail
  refine (HS2.out _ hl3).mono ?_
  rintro e w4 ⟨rfl, b4⟩
  have c4 : Below w.heap.size w w4 := c3.trans (b4.mono c3.size)
  have hl4 : Hid (Laid w4) := hl.out.below c4
  clear c3 b4 hl3
  go_wp2_with fail
  refine (HA2.out _).mono ?_
  rintro e w5 ⟨rfl, b5⟩
  have c5 : Below w.heap.size w w5 := c4.trans (b5.mono c4.size)
  have hl5 : Hid (Laid w5) := hl.out.below c5
  clear c4 b5 hl4
  go_wp2_with fail
  refine (HA3.out _).mono ?_
  rintro e w6 ⟨rfl, b6⟩
  have c6 : Below w.heap.size w w6 := c5.trans (b6.mono c5.size)
  have hl6 : Hid (Laid w6) := hl.out.below c6
  clear c5 b6 hl5
  go_wp2_with fail
  refine (HRE.out _ hl6).mono ?_
  rintro e w7 ⟨rfl, b7⟩
  have c7 : Below w.heap.size w w7 := c6.trans (b7.mono c6.size)
  have hl7 : Hid (Laid w7) := hl.out.below c7
  clear c6 b7 hl6
  go_wp2_with (go_at_call 14; refine (HBL.out _).mono ?_; rintro e w20 ⟨rfl, hw20⟩; rw [hw20]; clear hw20 w20)
  refine (HA4.out _).mono ?_
  rintro e w8 ⟨rfl, b8⟩
  have c8 : Below w.heap.size w w8 := c7.trans (b8.mono c7.size)
  have hl8 : Hid (Laid w8) := hl.out.below c8
  clear c7 b8 hl7
  go_wp2_with fail
  refine (HWH.out _ hl8).mono ?_
  rintro e w9 ⟨rfl, b9⟩
  have c9 : Below w.heap.size w w9 := c8.trans (b9.mono c8.size)
  have hl9 : Hid (Laid w9) := hl.out.below c9
  clear c8 b9 hl8
  go_wp2
  go_ret
  exact ⟨rfl, c9⟩
end
end Go.Proofs.YtighenikjedojaaGreatDoor
