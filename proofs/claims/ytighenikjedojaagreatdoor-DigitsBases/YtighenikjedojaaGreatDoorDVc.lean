/- internal/strconv.ParseFloat at the one text that the chapter's examples come to. digits.powerOf, decimalValue, value at the chapter's examples. -/
import Derived.Test.YtighenikjedojaaGreatDoorNear
import Derived.WalkMore
import Derived.Handy
import Derived.Test.YtighenikjedojaaGreatDoorUscale
namespace Go.Proofs.YtighenikjedojaaGreatDoor
set_option linter.unusedVariables false
open Go.RowKit Fl

/-- The text 0.15e4. -/
structure Is15 (s : ByteArray) : Prop where
  sz : (s.size : Int) = 6
  z0 : PlainAid.bt s 0 = 48
  z1 : PlainAid.bt s 1 = 46
  z2 : PlainAid.bt s 2 = 49
  z3 : PlainAid.bt s 3 = 53
  z4 : PlainAid.bt s 4 = 101
  z5 : PlainAid.bt s 5 = 52
set_option maxHeartbeats 4000000 in
set_option maxRecDepth 100000 in
theorem readFloat_c (s : ByteArray) (h : Is15 s) (w : World) : Calls Tryz.prog 182 #[.string s] w fun e w' => e = .returned (.tuple #[.int .u64 15, .int .i64 2, .bool false, .bool false, .bool false, .int .i64 6, .bool true]) ∧ w' = w := by
  obtain ⟨sz, z0, z1, z2, z3, z4, z5⟩ := h
  have hbt := PlainAid.get_bt s
  have l1 : bits .or .u8 46 32 = 46 := by decide
  have l2 : bits .or .u8 101 32 = 101 := by decide
  have l3 : bits .or .u8 49 32 = 49 := by decide
  have l4 : bits .or .u8 53 32 = 53 := by decide
  go_enter Tryz.func182, Tryz.ntmps182
  go_wp2
  go_step3
  go_wp2
  go_step3
  go_wp2
  go_rounds 8
  go_rounds 3
  rw [Exit.noGoto_ret]
  exact bodyPost_ret (v := .tuple #[.int .u64 15, .int .i64 2, .bool false, .bool false, .bool false, .int .i64 6, .bool true]) (by simp [results, Tryz.results182, go_sem]) rfl ⟨rfl, rfl⟩
set_option maxHeartbeats 1000000 in
set_option maxRecDepth 100000 in
theorem special_c (s : ByteArray) (h : Is15 s) (w : World) : Calls Tryz.prog 181 #[.string s] w fun e w' => e = .returned (.tuple #[.float .f64 0, .int .i64 0, .bool false]) ∧ w' = w := by
  obtain ⟨sz, z0, z1, z2, z3, z4, z5⟩ := h
  have hbt := PlainAid.get_bt s
  go_enter Tryz.func181, Tryz.ntmps181
  go_wp2
  go_returns
  exact ⟨rfl, rfl⟩
section
open Go.RowKit Fl

set_option maxHeartbeats 1000000 in
set_option maxRecDepth 100000 in
theorem exact_c (w : World) (hl : LaidN w) : Calls Tryz.prog 192 #[.int .u64 15, .int .i64 2, .bool false] w fun e w' => e = .returned (.tuple #[.float .f64 4654311885213007872, .bool true]) ∧ ∃ n, w' = w.drewN n := by
  have c0 := hl.info.1
  obtain ⟨b, o, c, c1, c2⟩ := hl.f64p
  have c3 := c2 2 (by omega)
  rw [show p10L.getD 2 0 = 4636737291354636288 from rfl] at c3
  have f1 : floatOfInt .f64 15 = 4624633867356078080 := by decide
  have g1 : (FloatKind.f64.format.order 4624633867356078080 4831355200913801216 == some Ordering.gt) = false := by decide
  have g2 : (FloatKind.f64.format.order 4624633867356078080 14054727237768577024 == some Ordering.lt) = false := by decide
  have hm : ∀ W, (binOp .mul 22 (.float .f64 4624633867356078080) (.float .f64 4636737291354636288)).run Tryz.prog W = .ok (.float .f64 4654311885213007872) W := fun W => run_mul 22 4624633867356078080 4636737291354636288 4654311885213007872 W (by decide)
  clear hl c2
  go_enter Tryz.func192, Tryz.ntmps192
  go_wp2
  all_goals go_ways
  go_ret2
  exact ⟨rfl, 0, rfl⟩
set_option maxHeartbeats 1000000 in
set_option maxRecDepth 100000 in
theorem atof_c (s : ByteArray) (h : Is15 s) (w : World) (hl : LaidN w) : Calls Tryz.prog 154 #[.string s] w fun e w' => e = .returned (.tuple #[.float .f64 4654311885213007872, .int .i64 6, .nilIface]) ∧ ∃ n, w' = w.drewN n := by
  have HS := Hid.mk' (fun W => special_c s h W)
  have HR := Hid.mk' (fun W => readFloat_c s h W)
  have HE := Hid.mk' (exact_c w hl)
  have c0 := hl.opt
  clear h hl
  go_enter Tryz.func154, Tryz.ntmps154
  go_wp2_with (first | (go_at_call 181; refine (HS.out _).mono ?_; rintro e w1 ⟨rfl, hw1⟩; rw [hw1]; clear hw1 w1) | (go_at_call 182; refine (HR.out _).mono ?_; rintro e w1 ⟨rfl, hw1⟩; rw [hw1]; clear hw1 w1) | (go_at_call 190; refine (bool2_u64 _ _).mono ?_; rintro e w1 ⟨rfl, hw1⟩; rw [hw1]; clear hw1 w1))
  refine HE.out.mono ?_
  rintro e w1 ⟨rfl, n1, hw1⟩
  rw [hw1]; clear hw1 w1
  go_wp2
  go_ret3
  exact ⟨rfl, _, rfl⟩
set_option maxHeartbeats 1000000 in
theorem pfix_c (s : ByteArray) (h : Is15 s) (w : World) (hl : LaidN w) : Calls Tryz.prog 126 #[.string s, .int .i64 64] w fun e w' => e = .returned (.tuple #[.float .f64 4654311885213007872, .int .i64 6, .nilIface]) ∧ ∃ n, w' = w.drewN n := by
  have HE := Hid.mk' (atof_c s h w hl)
  clear h hl
  go_enter Tryz.func126, Tryz.ntmps126
  go_wp2_with fail
  refine HE.out.mono ?_
  rintro e w1 ⟨rfl, n1, hw1⟩
  rw [hw1]; clear hw1 w1
  go_wp2
  go_ret3
  exact ⟨rfl, _, rfl⟩
set_option maxHeartbeats 1000000 in
theorem pfin_c (s : ByteArray) (h : Is15 s) (w : World) (hl : LaidN w) : Calls Tryz.prog 102 #[.string s, .int .i64 64] w fun e w' => e = .returned (.tuple #[.float .f64 4654311885213007872, .nilIface]) ∧ ∃ n, w' = w.drewN n := by
  have HE := Hid.mk' (pfix_c s h w hl)
  have sz := h.sz
  clear h hl
  go_enter Tryz.func102, Tryz.ntmps102
  go_wp2_with fail
  refine HE.out.mono ?_
  rintro e w1 ⟨rfl, n1, hw1⟩
  rw [hw1]; clear hw1 w1
  go_wp2
  go_ret2
  exact ⟨rfl, _, rfl⟩
set_option maxHeartbeats 1000000 in
theorem pf_c (s : ByteArray) (h : Is15 s) (w : World) (hl : LaidN w) : Calls Tryz.prog 69 #[.string s, .int .i64 64] w fun e w' => e = .returned (.tuple #[.float .f64 4654311885213007872, .nilIface]) ∧ ∃ n, w' = w.drewN n := by
  have HE := Hid.mk' (pfin_c s h w hl)
  clear h hl
  go_enter Tryz.func69, Tryz.ntmps69
  go_wp2_with fail
  refine HE.out.mono ?_
  rintro e w1 ⟨rfl, n1, hw1⟩
  rw [hw1]; clear hw1 w1
  go_wp2
  go_ret2
  exact ⟨rfl, _, rfl⟩
end
end Go.Proofs.YtighenikjedojaaGreatDoor

namespace Go.Proofs.YtighenikjedojaaGreatDoor
set_option linter.unusedVariables false
open Go.RowKit Fl

set_option maxHeartbeats 1000000 in
set_option maxRecDepth 100000 in
theorem powerOf_one (s : ByteArray) (d : Nat) (w : World) (hs : s.size = 1) (h48 : by' s 0 = 48 + d) (hd : d < 10) :
    Calls Tryz.prog 105 #[.string s] w fun e w' => e = .returned (.int .i64 d) ∧ Below w.heap.size w w' := by
  have hu : unsT s = s := by unfold unsT sgnN; rw [if_neg (by rw [decide_eq_true_iff]; omega)]
  have hm : minusN s = false := by unfold minusN; rw [decide_eq_false (show ¬ by' s 0 = 45 by omega), Bool.and_false]
  have HU := Hid.mk' (fun W => unsigned_any s W (by omega))
  rw [hu, hm] at HU
  have hbt := PlainAid.get_bt s
  have hz0 := bt_by s 0
  have hw : worthI (by' s 0) 10 = (d : Int) := by
    unfold worthI digitN
    rw [h48, if_pos (show 48 ≤ 48 + d ∧ 48 + d ≤ 57 by omega), if_pos (by omega)]
    omega
  have l0 : by' s 0 < 256 := by omega
  have HW := Hid.mk' (fun g W hc => worth1_any (by' s 0) g 10 W l0 ⟨by omega, by omega⟩ hc)
  rw [hw] at HW
  have hmin : min (d : Int) 1099511627776 = d := by omega
  have hsz : (s.size : Int) = 1 := by omega
  generalize by' s 0 = c0 at *
  clear hu hm hw h48 hs
  go_enter Tryz.func105, Tryz.ntmps105
  go_wp2_with fail
  refine (HU.out _).mono ?_
  rintro e w1 ⟨rfl, b1⟩
  go_wp2_with (go_at_call 62; refine (worthTo_any _ _).mono ?_; rintro e w3 ⟨rfl, hw3⟩; rw [hw3]; clear hw3 w3)
  go_loop [5, 15] (fun n i => (n = .int .i64 0 ∧ i = .int .i64 0) ∨ (n = .int .i64 (d : Nat) ∧ i = .int .i64 1)) (fun _ i => 1 - (intOf i).toNat)
  case atStart => exact .inl ⟨rfl, rfl⟩
  case round =>
    rcases hrel with ⟨rfl, rfl⟩ | ⟨rfl, rfl⟩
    · have hcb : (w1.alloc (.cells #[.int .i64 10] 3)).cell? ⟨w1.heap.size, 0, none⟩ = some (.int .i64 10) := by simp
      have HC := Hid.mk' hcb
      clear hcb
      go_wp2_with (go_at_call 95; refine (HW.out _ _ HC.out).mono ?_; rintro e w2 ⟨rfl, hw2⟩; rw [hw2]; clear hw2 w2)
      go_round
      case rel => exact .inr ⟨rfl, rfl⟩
      case measure => simp [intOf]
    · go_wp2
      go_ret
      exact ⟨rfl, b1.trans (below_new.mono b1.size)⟩
theorem is15 : Is15 (Sb [48, 46, 49, 53, 101, 52]) := ⟨by decide, by decide, by decide, by decide, by decide, by decide, by decide⟩
set_option maxHeartbeats 1000000 in
set_option maxRecDepth 100000 in
theorem decVal_c (w : World) (hl : Hid (LaidN w)) :
    Calls Tryz.prog 72 #[.string (Sb [49, 46, 53, 101, 51])] w fun e w' => e = .returned (.float .f64 4654311885213007872) ∧ Below w.heap.size w w' := by
  obtain ⟨S, hS⟩ : ∃ S, Sb [49, 46, 53, 101, 51] = S := ⟨_, rfl⟩
  have hsz : (S.size : Int) = 5 := by rw [← hS]; rfl
  have HI := Hid.mk' (fun W => Tryz.strings_IndexAny_laid S ⟨#[101, 69]⟩ W (by omega) (by decide) (fun j b h => by rw [← hS, Sb_list] at h; have := List.mem_of_getElem? h; simp at this; rcases this with rfl | rfl | rfl | rfl | rfl <;> decide) (fun j b h => by have := List.mem_of_getElem? h; simp at this; rcases this with rfl | rfl <;> decide))
  have hix : Lib.indexAny S.data.toList (⟨#[101, 69]⟩ : ByteArray).data.toList = 3 := by rw [← hS]; decide
  rw [hix] at HI
  have e1 : S.extract 0 3 = Sb [49, 46, 53] := by rw [← hS]; rfl
  have e2 : S.extract 4 S.size = Sb [51] := by rw [← hS]; rfl
  have HE1 := Hid.mk' e1
  have HE2 := Hid.mk' e2
  have HP := Hid.mk' (fun W => powerOf_one (Sb [51]) 3 W rfl rfl (by omega))
  have HF := Hid.mk' (fun W => Tryz.strconv_FormatInt_10_small 4 (by omega) W)
  clear hix e1 e2
  rw [hS]
  clear hS
  go_enter Tryz.func72, Tryz.ntmps72
  go_wp2_with fail
  refine (HI.out _).mono ?_
  rintro e w1 ⟨rfl, b1⟩
  go_wp2_with fail
  go_region_with (go_at_call 105; rw [HE2.out]; refine (HP.out _).mono ?_; rintro e w2 ⟨rfl, b2⟩)
  rw [HE1.out]
  have b02 : Below w.heap.size w w2 := (below_draws b1 1).trans (b2.mono b1.size)
  have hl2 : Hid (LaidN w2) := hl.out.below b02
  obtain ⟨m2, hm2⟩ := hl2.out.maxl
  have HB := Hid.mk' b02
  clear b1 b2 b02
  go_wp2_with fail
  refine (Tryz.strings_Cut _ _ m2 _ (by rw [Sb_size]; decide) hm2).mono ?_
  rintro e w3 ⟨rfl, n3, hw3⟩
  rw [hw3, Sb_list, show (⟨#[46]⟩ : ByteArray).data.toList = [46] from rfl, show Lib.cut [49, 46, 53] [46] = ([49], [53], true) by decide]
  clear hm2 hw3 w3
  dsimp only
  go_wp2_with fail
  rw [show (⟨[49].toArray⟩ : ByteArray) ++ ⟨[53].toArray⟩ = Sb [49, 53] from rfl]
  refine (Tryz.strings_TrimLeft_one (Sb [49, 53]) 48 (by decide) _).mono ?_
  rintro e w3 ⟨rfl, hw3⟩
  rw [hw3, Sb_list, show Lib.trimLeftB [49, 53] 48 = [49, 53] by decide]; clear hw3 w3
  have hne : (⟨[49, 53].toArray⟩ : ByteArray).toList.isEmpty = false := ne_empty (by decide)
  go_wp2_with fail
  refine (HF.out _).mono ?_
  rintro e w3 ⟨rfl, hw3⟩
  rw [hw3, show Lib.decDigits 4 = [52] from Lib.decDigits_one (by omega)]; clear hw3 w3
  go_wp2_with fail
  rw [show (⟨#[48, 46]⟩ : ByteArray) ++ ⟨[49, 53].toArray⟩ ++ ⟨#[101]⟩ ++ ⟨[52].toArray⟩ = Sb [48, 46, 49, 53, 101, 52] from rfl]
  have hl3 : LaidN (w2.drewN n3) := hl2.out.below (kept_drewN _ 0 _ _).1
  refine (pf_c _ is15 _ hl3).mono ?_
  rintro e w4 ⟨rfl, n4, hw4⟩
  have bb : Below w.heap.size w w4 := by rw [hw4]; exact below_draws (below_draws HB.out n3) n4
  clear hw4 hl3
  go_wp2
  go_ret
  exact ⟨rfl, bb⟩
set_option maxHeartbeats 1000000 in
set_option maxRecDepth 100000 in
theorem value_dec (w : World) (hl : Hid (LaidN w)) :
    Calls Tryz.prog 44 #[.string (Sb [49, 46, 53, 101, 51])] w fun e w' => e = .returned (.float .f64 4654311885213007872) ∧ Below w.heap.size w w' := by
  have HL := Hid.mk' (fun W hW => letter_any (Sb [49, 46, 53, 101, 51]) W (by rw [Sb_size]; decide) hW)
  rw [show prefN (Sb [49, 46, 53, 101, 51]) = 0 by decide] at HL
  have HD := Hid.mk' (fun W hW => decVal_c W hW)
  go_enter Tryz.func44, Tryz.ntmps44
  go_wp2_with fail
  refine (HL.out _ hl).mono ?_
  rintro e w1 ⟨rfl, b1⟩
  have hl1 : Hid (LaidN w1) := hl.out.below b1
  go_wp2_with fail
  refine (HD.out _ hl1).mono ?_
  rintro e w2 ⟨rfl, b2⟩
  go_wp2
  go_ret
  exact ⟨rfl, b1.trans (b2.mono b1.size)⟩
set_option maxHeartbeats 1000000 in
set_option maxRecDepth 100000 in
theorem value_hex (w : World) (hl : Hid (LaidN w)) :
    Calls Tryz.prog 44 #[.string (Sb [48, 120, 49, 70])] w fun e w' => e = .returned (.float .f64 4629418941960159232) ∧ Below w.heap.size w w' := by
  have HL := Hid.mk' (fun W hW => letter_any (Sb [48, 120, 49, 70]) W (by rw [Sb_size]; decide) hW)
  rw [show prefN (Sb [48, 120, 49, 70]) = 16 by decide] at HL
  have HN := Hid.mk' (fun W => nearest_two (Sb [49, 70]) 16 1 15 59 4895131319975018496 4629418941960159232 W rfl ⟨by omega, by omega⟩ (by decide) (by decide) (by omega) one31)
  obtain ⟨S, hS⟩ : ∃ S, Sb [48, 120, 49, 70] = S := ⟨_, rfl⟩
  have hsz : (S.size : Int) = 4 := by rw [← hS]; rfl
  have e1 : S.extract 2 S.size = Sb [49, 70] := by rw [← hS]; rfl
  have HE := Hid.mk' e1
  rw [hS] at HL ⊢
  clear hS e1
  go_enter Tryz.func44, Tryz.ntmps44
  go_wp2_with fail
  refine (HL.out _ hl).mono ?_
  rintro e w1 ⟨rfl, b1⟩
  go_wp2_with fail
  rw [HE.out]
  refine (HN.out _).mono ?_
  rintro e w2 ⟨rfl, b2⟩
  go_wp2
  go_ret
  exact ⟨rfl, b1.trans (b2.mono b1.size)⟩
end Go.Proofs.YtighenikjedojaaGreatDoor
