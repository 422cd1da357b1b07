/- digits.powerOf, decimalValue, value at the chapter's examples. -/
import Derived.Test.YtjnbnejfdleocaaGreatDoorPFc
namespace Go.Proofs.YtjnbnejfdleocaaGreatDoor
set_option linter.unusedVariables false
open Go.RowKit Fl

set_option maxHeartbeats 1000000 in
set_option maxRecDepth 100000 in
theorem powerOf_one (s : ByteArray) (d : Nat) (w : World) (hs : s.size = 1) (h48 : by' s 0 = 48 + d) (hd : d < 10) :
    Calls Tryz.prog 78 #[.string s] w fun e w' => e = .returned (.int .i64 d) ∧ Below w.heap.size w w' := by
  have hu : unsT s = s := by unfold unsT sgnN; rw [if_neg (by rw [decide_eq_true_iff]; omega)]
  have hm : minusN s = false := by unfold minusN; rw [decide_eq_false (show ¬ by' s 0 = 45 by omega), Bool.and_false]
  have HU := Hid.mk' (fun W => unsigned_any s W (by omega))
  rw [hu, hm] at HU
  have hbt := PlainAid.get_bt s
  have hz0 := bt_by s 0
  have hw : worthI (by' s 0) 10 = (d : Int) := by
    unfold worthI digitN
    rw [h48, if_pos (show 48 ≤ 48 + d ∧ 48 + d ≤ 57 by omega), if_pos (by omega)]
    omega
  have l0 : by' s 0 < 256 := by omega
  have HW := Hid.mk' (fun g W hc => worth1_any (by' s 0) g 10 W l0 ⟨by omega, by omega⟩ hc)
  rw [hw] at HW
  have hmin : min (d : Int) 1099511627776 = d := by omega
  have hsz : (s.size : Int) = 1 := by omega
  generalize by' s 0 = c0 at *
  clear hu hm hw h48 hs
  go_enter Tryz.func78, Tryz.ntmps78
  go_wp2_with fail
  refine (HU.out _).mono ?_
  rintro e w1 ⟨rfl, b1⟩
  go_wp2_with (go_at_call 61; refine (worthTo_any _ _).mono ?_; rintro e w3 ⟨rfl, hw3⟩; rw [hw3]; clear hw3 w3)
  go_loop [5, 15] (fun n i => (n = .int .i64 0 ∧ i = .int .i64 0) ∨ (n = .int .i64 (d : Nat) ∧ i = .int .i64 1)) (fun _ i => 1 - (intOf i).toNat)
  case atStart => exact .inl ⟨rfl, rfl⟩
  case round =>
    rcases hrel with ⟨rfl, rfl⟩ | ⟨rfl, rfl⟩
    · have hcb : (w1.alloc (.cells #[.int .i64 10] 3)).cell? ⟨w1.heap.size, 0, none⟩ = some (.int .i64 10) := by simp
      have HC := Hid.mk' hcb
      clear hcb
      go_wp2_with (go_at_call 85; refine (HW.out _ _ HC.out).mono ?_; rintro e w2 ⟨rfl, hw2⟩; rw [hw2]; clear hw2 w2)
      go_round
      case rel => exact .inr ⟨rfl, rfl⟩
      case measure => simp [intOf]
    · go_wp2
      go_ret
      exact ⟨rfl, b1.trans (below_new.mono b1.size)⟩
theorem is15 : Is15 (Sb [48, 46, 49, 53, 101, 52]) := ⟨by decide, by decide, by decide, by decide, by decide, by decide, by decide⟩
set_option maxHeartbeats 1000000 in
set_option maxRecDepth 100000 in
theorem decVal_c (w : World) (hl : Hid (Laid w)) :
    Calls Tryz.prog 54 #[.string (Sb [49, 46, 53, 101, 51])] w fun e w' => e = .returned (.float .f64 4654311885213007872) ∧ Below w.heap.size w w' := by
  obtain ⟨S, hS⟩ : ∃ S, Sb [49, 46, 53, 101, 51] = S := ⟨_, rfl⟩
  have hsz : (S.size : Int) = 5 := by rw [← hS]; rfl
  have HI := Hid.mk' (fun W => Tryz.strings_IndexAny_laid S ⟨#[101, 69]⟩ W (by omega) (by decide) (fun j b h => by rw [← hS, Sb_list] at h; have := List.mem_of_getElem? h; simp at this; rcases this with rfl | rfl | rfl | rfl | rfl <;> decide) (fun j b h => by have := List.mem_of_getElem? h; simp at this; rcases this with rfl | rfl <;> decide))
  have hix : Lib.indexAny S.data.toList (⟨#[101, 69]⟩ : ByteArray).data.toList = 3 := by rw [← hS]; decide
  rw [hix] at HI
  have e1 : S.extract 0 3 = Sb [49, 46, 53] := by rw [← hS]; rfl
  have e2 : S.extract 4 S.size = Sb [51] := by rw [← hS]; rfl
  have HE1 := Hid.mk' e1
  have HE2 := Hid.mk' e2
  have HP := Hid.mk' (fun W => powerOf_one (Sb [51]) 3 W rfl rfl (by omega))
  have HF := Hid.mk' (fun W => Tryz.strconv_FormatInt_10_small 4 (by omega) W)
  clear hix e1 e2
  rw [hS]
  clear hS
  go_enter Tryz.func54, Tryz.ntmps54
  go_wp2_with fail
  refine (HI.out _).mono ?_
  rintro e w1 ⟨rfl, b1⟩
  go_wp2_with fail
  go_region_with (go_at_call 78; rw [HE2.out]; refine (HP.out _).mono ?_; rintro e w2 ⟨rfl, b2⟩)
  rw [HE1.out]
  have b02 : Below w.heap.size w w2 := (below_draws b1 1).trans (b2.mono b1.size)
  have hl2 : Hid (Laid w2) := hl.out.below b02
  obtain ⟨m2, hm2⟩ := hl2.out.maxl
  have HB := Hid.mk' b02
  clear b1 b2 b02
  go_wp2_with fail
  refine (Tryz.strings_Cut _ _ m2 _ (by rw [Sb_size]; decide) hm2).mono ?_
  rintro e w3 ⟨rfl, n3, hw3⟩
  rw [hw3, Sb_list, show (⟨#[46]⟩ : ByteArray).data.toList = [46] from rfl, show Lib.cut [49, 46, 53] [46] = ([49], [53], true) by decide]
  clear hm2 hw3 w3
  dsimp only
  go_wp2_with fail
  rw [show (⟨[49].toArray⟩ : ByteArray) ++ ⟨[53].toArray⟩ = Sb [49, 53] from rfl]
  refine (Tryz.strings_TrimLeft_one (Sb [49, 53]) 48 (by decide) _).mono ?_
  rintro e w3 ⟨rfl, hw3⟩
  rw [hw3, Sb_list, show Lib.trimLeftB [49, 53] 48 = [49, 53] by decide]; clear hw3 w3
  have hne : (⟨[49, 53].toArray⟩ : ByteArray).toList.isEmpty = false := ne_empty (by decide)
  go_wp2_with fail
  refine (HF.out _).mono ?_
  rintro e w3 ⟨rfl, hw3⟩
  rw [hw3, show Lib.decDigits 4 = [52] from Lib.decDigits_one (by omega)]; clear hw3 w3
  go_wp2_with fail
  rw [show (⟨#[48, 46]⟩ : ByteArray) ++ ⟨[49, 53].toArray⟩ ++ ⟨#[101]⟩ ++ ⟨[52].toArray⟩ = Sb [48, 46, 49, 53, 101, 52] from rfl]
  have hl3 : Laid (w2.drewN n3) := hl2.out.below (kept_drewN _ 0 _ _).1
  refine (pf_c _ is15 _ hl3).mono ?_
  rintro e w4 ⟨rfl, n4, hw4⟩
  have bb : Below w.heap.size w w4 := by rw [hw4]; exact below_draws (below_draws HB.out n3) n4
  clear hw4 hl3
  go_wp2
  go_ret
  exact ⟨rfl, bb⟩
set_option maxHeartbeats 1000000 in
set_option maxRecDepth 100000 in
theorem value_dec (w : World) (hl : Hid (Laid w)) :
    Calls Tryz.prog 30 #[.string (Sb [49, 46, 53, 101, 51])] w fun e w' => e = .returned (.float .f64 4654311885213007872) ∧ Below w.heap.size w w' := by
  have HL := Hid.mk' (fun W hW => letter_any (Sb [49, 46, 53, 101, 51]) W (by rw [Sb_size]; decide) hW)
  rw [show prefN (Sb [49, 46, 53, 101, 51]) = 0 by decide] at HL
  have HD := Hid.mk' (fun W hW => decVal_c W hW)
  go_enter Tryz.func30, Tryz.ntmps30
  go_wp2_with fail
  refine (HL.out _ hl).mono ?_
  rintro e w1 ⟨rfl, b1⟩
  have hl1 : Hid (Laid w1) := hl.out.below b1
  go_wp2_with fail
  refine (HD.out _ hl1).mono ?_
  rintro e w2 ⟨rfl, b2⟩
  go_wp2
  go_ret
  exact ⟨rfl, b1.trans (b2.mono b1.size)⟩
set_option maxHeartbeats 1000000 in
set_option maxRecDepth 100000 in
theorem value_hex (w : World) (hl : Hid (Laid w)) :
    Calls Tryz.prog 30 #[.string (Sb [48, 120, 49, 70])] w fun e w' => e = .returned (.float .f64 4629418941960159232) ∧ Below w.heap.size w w' := by
  have HL := Hid.mk' (fun W hW => letter_any (Sb [48, 120, 49, 70]) W (by rw [Sb_size]; decide) hW)
  rw [show prefN (Sb [48, 120, 49, 70]) = 16 by decide] at HL
  have HN := Hid.mk' (fun W => nearest_two (Sb [49, 70]) 16 1 15 59 4895131319975018496 4629418941960159232 W rfl ⟨by omega, by omega⟩ (by decide) (by decide) (by omega) one31)
  obtain ⟨S, hS⟩ : ∃ S, Sb [48, 120, 49, 70] = S := ⟨_, rfl⟩
  have hsz : (S.size : Int) = 4 := by rw [← hS]; rfl
  have e1 : S.extract 2 S.size = Sb [49, 70] := by rw [← hS]; rfl
  have HE := Hid.mk' e1
  rw [hS] at HL ⊢
  clear hS e1
  go_enter Tryz.func30, Tryz.ntmps30
  go_wp2_with fail
  refine (HL.out _ hl).mono ?_
  rintro e w1 ⟨rfl, b1⟩
  go_wp2_with fail
  rw [HE.out]
  refine (HN.out _).mono ?_
  rintro e w2 ⟨rfl, b2⟩
  go_wp2
  go_ret
  exact ⟨rfl, b1.trans (b2.mono b1.size)⟩
end Go.Proofs.YtjnbnejfdleocaaGreatDoor
