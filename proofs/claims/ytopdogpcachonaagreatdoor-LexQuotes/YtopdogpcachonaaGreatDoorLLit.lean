/- digits.Literal at the text 1.5. -/
import Derived.Test.YtopdogpcachonaaGreatDoorLPf
import Derived.Test.YtopdogpcachonaaGreatDoorShelf
namespace Go.Proofs.YtopdogpcachonaaGreatDoor
set_option linter.unusedVariables false
open Go.RowKit Fl

theorem is1 : Is1 (Sb [48, 46, 49, 53, 101, 49]) := ⟨by decide, by decide, by decide, by decide, by decide, by decide, by decide⟩
set_option maxHeartbeats 1000000 in
set_option maxRecDepth 100000 in
theorem decVal_l (w : World) (hl : Hid (LaidN w)) :
    Calls Tryz.prog 125 #[.string (Sb [49, 46, 53])] w fun e w' => e = .returned (.float .f64 4609434218613702656) ∧ Below w.heap.size w w' := by
  obtain ⟨S, hS⟩ : ∃ S, Sb [49, 46, 53] = S := ⟨_, rfl⟩
  have hsz : (S.size : Int) = 3 := by rw [← hS]; rfl
  have HI := Hid.mk' (fun W => Tryz.strings_IndexAny_laid S ⟨#[101, 69]⟩ W (by omega) (by decide) (fun j b h => by rw [← hS, Sb_list] at h; have := List.mem_of_getElem? h; simp at this; rcases this with rfl | rfl | rfl <;> decide) (fun j b h => by have := List.mem_of_getElem? h; simp at this; rcases this with rfl | rfl <;> decide))
  have hix : Lib.indexAny S.data.toList (⟨#[101, 69]⟩ : ByteArray).data.toList = -1 := by rw [← hS]; decide
  rw [hix] at HI
  have HF := Hid.mk' (fun W => Tryz.strconv_FormatInt_10_small 1 (by omega) W)
  have HS := Hid.mk' hS
  clear hix
  rw [hS]
  clear hS
  go_enter Tryz.func125, Tryz.ntmps125
  go_wp2_with fail
  refine (HI.out _).mono ?_
  rintro e w1 ⟨rfl, b1⟩
  have hl2 : Hid (LaidN w1) := hl.out.below b1
  obtain ⟨m2, hm2⟩ := hl2.out.maxl
  have HB := Hid.mk' b1
  clear b1
  go_wp2_with fail
  rw [← HS.out]
  refine (Tryz.strings_Cut _ _ m2 _ (by rw [Sb_size]; decide) hm2).mono ?_
  rintro e w3 ⟨rfl, n3, hw3⟩
  rw [hw3, Sb_list, show (⟨#[46]⟩ : ByteArray).data.toList = [46] from rfl, show Lib.cut [49, 46, 53] [46] = ([49], [53], true) by decide]
  clear hm2 hw3 w3
  dsimp only
  go_wp2_with fail
  rw [show (⟨[49].toArray⟩ : ByteArray) ++ ⟨[53].toArray⟩ = Sb [49, 53] from rfl]
  refine (Tryz.strings_TrimLeft_one (Sb [49, 53]) 48 (by decide) _).mono ?_
  rintro e w3 ⟨rfl, hw3⟩
  rw [hw3, Sb_list, show Lib.trimLeftB [49, 53] 48 = [49, 53] by decide]; clear hw3 w3
  have hne : (⟨[49, 53].toArray⟩ : ByteArray).toList.isEmpty = false := ne_empty (by decide)
  go_wp2_with fail
  refine (HF.out _).mono ?_
  rintro e w3 ⟨rfl, hw3⟩
  rw [hw3, show Lib.decDigits 1 = [49] from Lib.decDigits_one (by omega)]; clear hw3 w3
  go_wp2_with fail
  rw [show (⟨#[48, 46]⟩ : ByteArray) ++ ⟨[49, 53].toArray⟩ ++ ⟨#[101]⟩ ++ ⟨[49].toArray⟩ = Sb [48, 46, 49, 53, 101, 49] from rfl]
  have hl3 : LaidN (w1.drewN n3) := hl2.out.below (kept_drewN _ 0 _ _).1
  refine (pf_l _ is1 _ hl3).mono ?_
  rintro e w4 ⟨rfl, n4, hw4⟩
  have bb : Below w.heap.size w w4 := by rw [hw4]; exact below_draws (below_draws HB.out n3) n4
  clear hw4 hl3
  go_wp2
  go_ret
  exact ⟨rfl, bb⟩
set_option maxHeartbeats 1000000 in
set_option maxRecDepth 100000 in
theorem value_l (w : World) (hl : Hid (LaidN w)) :
    Calls Tryz.prog 102 #[.string (Sb [49, 46, 53])] w fun e w' => e = .returned (.float .f64 4609434218613702656) ∧ Below w.heap.size w w' := by
  have HL := Hid.mk' (fun W hW => letter_any (Sb [49, 46, 53]) W (by rw [Sb_size]; decide) hW)
  rw [show prefN (Sb [49, 46, 53]) = 0 by decide] at HL
  have HD := Hid.mk' (fun W hW => decVal_l W hW)
  go_enter Tryz.func102, Tryz.ntmps102
  go_wp2_with fail
  refine (HL.out _ hl).mono ?_
  rintro e w1 ⟨rfl, b1⟩
  have hl1 : Hid (LaidN w1) := hl.out.below b1
  go_wp2_with fail
  refine (HD.out _ hl1).mono ?_
  rintro e w2 ⟨rfl, b2⟩
  go_wp2
  go_ret
  exact ⟨rfl, b1.trans (b2.mono b1.size)⟩
set_option maxHeartbeats 1000000 in
set_option maxRecDepth 100000 in
theorem goesOn_l (w : World) : Calls Tryz.prog 101 #[.string ⟨#[]⟩] w fun e w' => e = .returned (.bool false) ∧ w' = w := by
  go_enter Tryz.func101, Tryz.ntmps101
  go_wp2
  go_ret
  exact ⟨rfl, rfl⟩
set_option maxHeartbeats 1000000 in
set_option maxRecDepth 100000 in
theorem nought_l (w : World) : Calls Tryz.prog 100 #[.string (Sb [49, 46, 53])] w fun e w' => e = .returned (.bool false) ∧ Below w.heap.size w w' := by
  have HD := Hid.mk' (fun W => digitsAhead_any (Sb [49, 46, 53]) 10 W (by rw [Sb_size]; decide) ⟨by omega, by omega⟩)
  rw [show runN (Sb [49, 46, 53]) 0 10 = 1 by decide] at HD
  generalize Sb [49, 46, 53] = S at *
  go_enter Tryz.func100, Tryz.ntmps100
  go_wp2_with fail
  refine (HD.out _).mono ?_
  rintro e w1 ⟨rfl, b1⟩
  go_wp2
  go_ret
  exact ⟨rfl, b1⟩
set_option maxHeartbeats 1000000 in
set_option maxRecDepth 100000 in
theorem literal_l (w : World) (hl : Hid (LaidN w)) : Calls Tryz.prog 86 #[.string (Sb [49, 46, 53])] w fun e w' => e = .returned (.tuple #[.float .f64 4609434218613702656, .int .i64 3, .int .i64 0]) ∧ Below w.heap.size w w' := by
  have HB := Hid.mk' (fun W hW => based_any (Sb [49, 46, 53]) W (by rw [Sb_size]; decide) hW)
  have HD := Hid.mk' (fun W => decimal_any (Sb [49, 46, 53]) W (by rw [Sb_size]; decide))
  rw [show basedN (Sb [49, 46, 53]) = 0 by decide] at HB
  rw [show decB (Sb [49, 46, 53]) = 3 by decide] at HD
  have HN := Hid.mk' (fun W => nought_l W)
  have HG := Hid.mk' (fun W => goesOn_l W)
  have HV := Hid.mk' (fun W hW => value_l W hW)
  obtain ⟨S, hS⟩ : ∃ S, Sb [49, 46, 53] = S := ⟨_, rfl⟩
  have hsz : (S.size : Int) = 3 := by rw [← hS]; rfl
  have e1 : S.extract 3 S.size = ⟨#[]⟩ := by rw [← hS]; rfl
  have e2 : S.extract 0 3 = S := by rw [← hS]; rfl
  have HE1 := Hid.mk' e1
  have HE2 := Hid.mk' e2
  have hmx : max (0 : Int) 3 = 3 := by decide
  rw [hS] at HB HD HN HV ⊢
  clear hS e1 e2
  go_enter Tryz.func86, Tryz.ntmps86
  go_wp2_with fail
  refine (HB.out _ hl).mono ?_
  rintro e w1 ⟨rfl, b1⟩
  go_wp2_with fail
  refine (HD.out _).mono ?_
  rintro e w2 ⟨rfl, b2⟩
  have b02 : Below w.heap.size w w2 := b1.trans (b2.mono b1.size)
  clear b1 b2
  go_wp2_with fail
  refine (HN.out _).mono ?_
  rintro e w3 ⟨rfl, b3⟩
  have b03 : Below w.heap.size w w3 := b02.trans (b3.mono b02.size)
  clear b02 b3
  go_wp2_with fail
  rw [HE1.out]
  refine (HG.out _).mono ?_
  rintro e w4 ⟨rfl, hw4⟩
  rw [hw4]; clear hw4 w4
  have hl4 : Hid (LaidN w3) := hl.out.below b03
  go_wp2_with fail
  rw [HE2.out]
  refine (HV.out _ hl4).mono ?_
  rintro e w5 ⟨rfl, b5⟩
  go_wp2
  go_ret3
  exact ⟨rfl, b03.trans (b5.mono b03.size)⟩
end Go.Proofs.YtopdogpcachonaaGreatDoor
