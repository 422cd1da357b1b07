/- digits.Read at the texts 1 and 12 with blanks about it: chapter 18's examples. digits.Read at the text 3: chapter 19's example. The document's values as they are made; conv.Number, Loose, Truthy, Type at chapter 18's examples. Written by tools/mkcva.py. -/
import Derived.Test.YtbkkkpfoaggejaaGreatDoorCvF
import Derived.Test.YtbkkkpfoaggejaaGreatDoorCvG
import Derived.Test.YtbkkkpfoaggejaaGreatDoorRAsc
namespace Go.Proofs.YtbkkkpfoaggejaaGreatDoor
set_option linter.unusedVariables false
open Go.RowKit Fl

theorem ise1 : Ise1 (Sb [48, 46, 49, 101, 49]) := ⟨by decide, by decide, by decide, by decide, by decide, by decide⟩
set_option maxHeartbeats 1000000 in
set_option maxRecDepth 100000 in
theorem decVal_e1 (w : World) (hl : Hid (LaidN w)) :
    Calls Tryz.prog 156 #[.string (Sb [49])] w fun e w' => e = .returned (.float .f64 4607182418800017408) ∧ Below w.heap.size w w' := by
  obtain ⟨S, hS⟩ : ∃ S, Sb [49] = S := ⟨_, rfl⟩
  have hsz : (S.size : Int) = 1 := by rw [← hS]; rfl
  have HI := Hid.mk' (fun W => Tryz.strings_IndexAny_laid S ⟨#[101, 69]⟩ W (by omega) (by decide) (fun j b h => by rw [← hS, Sb_list] at h; have := List.mem_of_getElem? h; simp at this; subst this; decide) (fun j b h => by have := List.mem_of_getElem? h; simp at this; rcases this with rfl | rfl <;> decide))
  have hix : Lib.indexAny S.data.toList (⟨#[101, 69]⟩ : ByteArray).data.toList = -1 := by rw [← hS]; decide
  rw [hix] at HI
  have HF := Hid.mk' (fun W => Tryz.strconv_FormatInt_10_small 1 (by omega) W)
  have HS := Hid.mk' hS
  clear hix
  rw [hS]
  clear hS
  go_enter Tryz.func156, Tryz.ntmps156
  go_wp2_with fail
  refine (HI.out _).mono ?_
  rintro e w1 ⟨rfl, b1⟩
  have hl2 : Hid (LaidN w1) := hl.out.below b1
  obtain ⟨m2, hm2⟩ := hl2.out.maxl
  have HB := Hid.mk' b1
  clear b1
  go_wp2_with fail
  rw [← HS.out]
  refine (Tryz.strings_Cut _ _ m2 _ (by rw [Sb_size]; decide) hm2).mono ?_
  rintro e w3 ⟨rfl, n3, hw3⟩
  rw [hw3, Sb_list, show (⟨#[46]⟩ : ByteArray).data.toList = [46] from rfl, show Lib.cut [49] [46] = ([49], [], false) by decide]
  clear hm2 hw3 w3
  dsimp only
  go_wp2_with fail
  rw [show (⟨[49].toArray⟩ : ByteArray) ++ ⟨[].toArray⟩ = Sb [49] from rfl]
  refine (Tryz.strings_TrimLeft_one (Sb [49]) 48 (by decide) _).mono ?_
  rintro e w3 ⟨rfl, hw3⟩
  rw [hw3, Sb_list, show Lib.trimLeftB [49] 48 = [49] by decide]; clear hw3 w3
  have hne : (⟨[49].toArray⟩ : ByteArray).toList.isEmpty = false := ne_empty (by decide)
  go_wp2_with fail
  refine (HF.out _).mono ?_
  rintro e w3 ⟨rfl, hw3⟩
  rw [hw3, show Lib.decDigits 1 = [49] from Lib.decDigits_one (by omega)]; clear hw3 w3
  go_wp2_with fail
  rw [show (⟨#[48, 46]⟩ : ByteArray) ++ ⟨[49].toArray⟩ ++ ⟨#[101]⟩ ++ ⟨[49].toArray⟩ = Sb [48, 46, 49, 101, 49] from rfl]
  have hl3 : LaidN (w1.drewN n3) := hl2.out.below (kept_drewN _ 0 _ _).1
  refine (pf_e1 _ ise1 _ hl3).mono ?_
  rintro e w4 ⟨rfl, n4, hw4⟩
  have bb : Below w.heap.size w w4 := by rw [hw4]; exact below_draws (below_draws HB.out n3) n4
  clear hw4 hl3
  go_wp2
  go_ret
  exact ⟨rfl, bb⟩
set_option maxHeartbeats 4000000 in
set_option maxRecDepth 100000 in
theorem value_e1 (w : World) (hl : Hid (LaidN w)) :
    Calls Tryz.prog 135 #[.string (Sb [49])] w fun e w' => e = .returned (.float .f64 4607182418800017408) ∧ Below w.heap.size w w' := by
  have HL := Hid.mk' (fun W hW => letter_any (Sb [49]) W (by rw [Sb_size]; decide) hW)
  rw [show prefN (Sb [49]) = 0 by decide] at HL
  have HD := Hid.mk' (fun W hW => decVal_e1 W hW)
  go_enter Tryz.func135, Tryz.ntmps135
  go_wp2_with fail
  refine (HL.out _ hl).mono ?_
  rintro e w1 ⟨rfl, b1⟩
  have hl1 : Hid (LaidN w1) := hl.out.below b1
  go_wp2_with fail
  refine (HD.out _ hl1).mono ?_
  rintro e w2 ⟨rfl, b2⟩
  go_wp2
  go_ret
  exact ⟨rfl, b1.trans (b2.mono b1.size)⟩
set_option maxHeartbeats 4000000 in
set_option maxRecDepth 100000 in
theorem readUns_e1 (w : World) (hl : Hid (LaidN w)) :
    Calls Tryz.prog 138 #[.string (Sb [49])] w fun e w' => e = .returned (.float .f64 4607182418800017408) ∧ Below w.heap.size w w' := by
  have HD := Hid.mk' (fun W => decimal_any (Sb [49]) W (by rw [Sb_size]; decide))
  rw [show decB (Sb [49]) = 1 by decide] at HD
  have HV := Hid.mk' (fun W hW => value_e1 W hW)
  obtain ⟨S, hS⟩ : ∃ S, Sb [49] = S := ⟨_, rfl⟩
  have hsz : (S.size : Int) = 1 := by rw [← hS]; rfl
  have hne : S.toList.isEmpty = false := by rw [← hS]; exact ne_empty (by decide)
  have hni : (S.toList == [73, 110, 102, 105, 110, 105, 116, 121]) = false := by rw [← hS]; decide +kernel
  rw [hS] at HD HV ⊢
  clear hS
  go_enter Tryz.func138, Tryz.ntmps138
  go_wp2_with fail
  refine (HD.out _).mono ?_
  rintro e w1 ⟨rfl, b1⟩
  have hl1 : Hid (LaidN w1) := hl.out.below b1
  go_wp2_with fail
  refine (HV.out _ hl1).mono ?_
  rintro e w2 ⟨rfl, b2⟩
  go_wp2
  go_ret
  exact ⟨rfl, b1.trans (b2.mono b1.size)⟩
theorem ise2 : Ise2 (Sb [48, 46, 49, 50, 101, 50]) := ⟨by decide, by decide, by decide, by decide, by decide, by decide, by decide⟩
set_option maxHeartbeats 1000000 in
set_option maxRecDepth 100000 in
theorem decVal_e2 (w : World) (hl : Hid (LaidN w)) :
    Calls Tryz.prog 156 #[.string (Sb [49, 50])] w fun e w' => e = .returned (.float .f64 4622945017495814144) ∧ Below w.heap.size w w' := by
  obtain ⟨S, hS⟩ : ∃ S, Sb [49, 50] = S := ⟨_, rfl⟩
  have hsz : (S.size : Int) = 2 := by rw [← hS]; rfl
  have HI := Hid.mk' (fun W => Tryz.strings_IndexAny_laid S ⟨#[101, 69]⟩ W (by omega) (by decide) (fun j b h => by rw [← hS, Sb_list] at h; have := List.mem_of_getElem? h; simp at this; rcases this with rfl | rfl <;> decide) (fun j b h => by have := List.mem_of_getElem? h; simp at this; rcases this with rfl | rfl <;> decide))
  have hix : Lib.indexAny S.data.toList (⟨#[101, 69]⟩ : ByteArray).data.toList = -1 := by rw [← hS]; decide
  rw [hix] at HI
  have HF := Hid.mk' (fun W => Tryz.strconv_FormatInt_10_small 2 (by omega) W)
  have HS := Hid.mk' hS
  clear hix
  rw [hS]
  clear hS
  go_enter Tryz.func156, Tryz.ntmps156
  go_wp2_with fail
  refine (HI.out _).mono ?_
  rintro e w1 ⟨rfl, b1⟩
  have hl2 : Hid (LaidN w1) := hl.out.below b1
  obtain ⟨m2, hm2⟩ := hl2.out.maxl
  have HB := Hid.mk' b1
  clear b1
  go_wp2_with fail
  rw [← HS.out]
  refine (Tryz.strings_Cut _ _ m2 _ (by rw [Sb_size]; decide) hm2).mono ?_
  rintro e w3 ⟨rfl, n3, hw3⟩
  rw [hw3, Sb_list, show (⟨#[46]⟩ : ByteArray).data.toList = [46] from rfl, show Lib.cut [49, 50] [46] = ([49, 50], [], false) by decide]
  clear hm2 hw3 w3
  dsimp only
  go_wp2_with fail
  rw [show (⟨[49, 50].toArray⟩ : ByteArray) ++ ⟨[].toArray⟩ = Sb [49, 50] from rfl]
  refine (Tryz.strings_TrimLeft_one (Sb [49, 50]) 48 (by decide) _).mono ?_
  rintro e w3 ⟨rfl, hw3⟩
  rw [hw3, Sb_list, show Lib.trimLeftB [49, 50] 48 = [49, 50] by decide]; clear hw3 w3
  have hne : (⟨[49, 50].toArray⟩ : ByteArray).toList.isEmpty = false := ne_empty (by decide)
  go_wp2_with fail
  refine (HF.out _).mono ?_
  rintro e w3 ⟨rfl, hw3⟩
  rw [hw3, show Lib.decDigits 2 = [50] from Lib.decDigits_one (by omega)]; clear hw3 w3
  go_wp2_with fail
  rw [show (⟨#[48, 46]⟩ : ByteArray) ++ ⟨[49, 50].toArray⟩ ++ ⟨#[101]⟩ ++ ⟨[50].toArray⟩ = Sb [48, 46, 49, 50, 101, 50] from rfl]
  have hl3 : LaidN (w1.drewN n3) := hl2.out.below (kept_drewN _ 0 _ _).1
  refine (pf_e2 _ ise2 _ hl3).mono ?_
  rintro e w4 ⟨rfl, n4, hw4⟩
  have bb : Below w.heap.size w w4 := by rw [hw4]; exact below_draws (below_draws HB.out n3) n4
  clear hw4 hl3
  go_wp2
  go_ret
  exact ⟨rfl, bb⟩
set_option maxHeartbeats 4000000 in
set_option maxRecDepth 100000 in
theorem value_e2 (w : World) (hl : Hid (LaidN w)) :
    Calls Tryz.prog 135 #[.string (Sb [49, 50])] w fun e w' => e = .returned (.float .f64 4622945017495814144) ∧ Below w.heap.size w w' := by
  have HL := Hid.mk' (fun W hW => letter_any (Sb [49, 50]) W (by rw [Sb_size]; decide) hW)
  rw [show prefN (Sb [49, 50]) = 0 by decide] at HL
  have HD := Hid.mk' (fun W hW => decVal_e2 W hW)
  go_enter Tryz.func135, Tryz.ntmps135
  go_wp2_with fail
  refine (HL.out _ hl).mono ?_
  rintro e w1 ⟨rfl, b1⟩
  have hl1 : Hid (LaidN w1) := hl.out.below b1
  go_wp2_with fail
  refine (HD.out _ hl1).mono ?_
  rintro e w2 ⟨rfl, b2⟩
  go_wp2
  go_ret
  exact ⟨rfl, b1.trans (b2.mono b1.size)⟩
set_option maxHeartbeats 4000000 in
set_option maxRecDepth 100000 in
theorem readUns_e2 (w : World) (hl : Hid (LaidN w)) :
    Calls Tryz.prog 138 #[.string (Sb [49, 50])] w fun e w' => e = .returned (.float .f64 4622945017495814144) ∧ Below w.heap.size w w' := by
  have HD := Hid.mk' (fun W => decimal_any (Sb [49, 50]) W (by rw [Sb_size]; decide))
  rw [show decB (Sb [49, 50]) = 2 by decide] at HD
  have HV := Hid.mk' (fun W hW => value_e2 W hW)
  obtain ⟨S, hS⟩ : ∃ S, Sb [49, 50] = S := ⟨_, rfl⟩
  have hsz : (S.size : Int) = 2 := by rw [← hS]; rfl
  have hne : S.toList.isEmpty = false := by rw [← hS]; exact ne_empty (by decide)
  have hni : (S.toList == [73, 110, 102, 105, 110, 105, 116, 121]) = false := by rw [← hS]; decide +kernel
  rw [hS] at HD HV ⊢
  clear hS
  go_enter Tryz.func138, Tryz.ntmps138
  go_wp2_with fail
  refine (HD.out _).mono ?_
  rintro e w1 ⟨rfl, b1⟩
  have hl1 : Hid (LaidN w1) := hl.out.below b1
  go_wp2_with fail
  refine (HV.out _ hl1).mono ?_
  rintro e w2 ⟨rfl, b2⟩
  go_wp2
  go_ret
  exact ⟨rfl, b1.trans (b2.mono b1.size)⟩
set_option maxHeartbeats 400000 in
theorem signed_pos (x : Nat) (w : World) : Calls Tryz.prog 137 #[.float .f64 x, .bool false] w fun e w' => e = .returned (.float .f64 x) ∧ w' = w := by
  go_enter Tryz.func137, Tryz.ntmps137
  go_wp2
  go_ret
  exact ⟨rfl, rfl⟩
set_option maxHeartbeats 4000000 in
set_option maxRecDepth 100000 in
theorem read_e1 (w : World) (hl : Hid (LaidN w)) : Calls Tryz.prog 122 #[.string (Sb [0, 49])] w fun e w' => e = .returned (.float .f64 4607182418800017408) ∧ Below w.heap.size w w' := by
  have HT := Hid.mk' (fun W => trim_any (Sb [0, 49]) W (by rw [Sb_size]; decide))
  rw [show mkB (trimN (uns (Sb [0, 49]))) = [0, 49] by decide +kernel] at HT
  have HX := Hid.mk' (fun W => text_core ⟨[0, 49].toArray⟩ W (by decide))
  rw [show textC (pts ⟨[0, 49].toArray⟩) = [49] by kernel_rfl, show (⟨[49].toArray⟩ : ByteArray) = Sb [49] from rfl] at HX
  have HB := Hid.mk' (fun W hW => based_any (Sb [49]) W (by rw [Sb_size]; decide) hW)
  rw [show basedN (Sb [49]) = 0 by decide] at HB
  have HU := Hid.mk' (fun W => unsigned_any (Sb [49]) W (by rw [Sb_size]; decide))
  rw [show unsT (Sb [49]) = Sb [49] by unfold unsT; rw [if_neg (by decide)], show minusN (Sb [49]) = false by decide] at HU
  have HV := Hid.mk' (fun W hW => readUns_e1 W hW)
  have HS := Hid.mk' (fun W => signed_pos 4607182418800017408 W)
  generalize Sb [0, 49] = I at *
  generalize (⟨[0, 49].toArray⟩ : ByteArray) = J at *
  obtain ⟨S, hS⟩ : ∃ S, Sb [49] = S := ⟨_, rfl⟩
  have hsz : (S.size : Int) = 1 := by rw [← hS]; rfl
  have hne : S.toList.isEmpty = false := by rw [← hS]; exact ne_empty (by decide)
  rw [hS] at HX HB HV HU
  clear hS
  go_enter Tryz.func122, Tryz.ntmps122
  go_wp2_with fail
  refine (HT.out _).mono ?_
  rintro e w1 ⟨rfl, b1⟩
  go_wp2_with fail
  refine (HX.out _).mono ?_
  rintro e w2 ⟨rfl, b2⟩
  have b02 : Below w.heap.size w w2 := b1.trans (b2.mono b1.size)
  clear b1 b2
  have hl2 : Hid (LaidN w2) := hl.out.below b02
  go_wp2_with fail
  refine (HB.out _ hl2).mono ?_
  rintro e w3 ⟨rfl, b3⟩
  have b03 : Below w.heap.size w w3 := b02.trans (b3.mono b02.size)
  clear b02 b3
  go_wp2_with fail
  refine (HU.out _).mono ?_
  rintro e w4 ⟨rfl, b4⟩
  have b04 : Below w.heap.size w w4 := b03.trans (b4.mono b03.size)
  clear b03 b4
  have hl4 : Hid (LaidN w4) := hl.out.below b04
  go_wp2_with fail
  refine (HV.out _ hl4).mono ?_
  rintro e w5 ⟨rfl, b5⟩
  go_wp2_with (go_at_call 137; refine (HS.out _).mono ?_; rintro e w7 ⟨rfl, hw7⟩; rw [hw7]; clear hw7 w7)
  go_ret
  exact ⟨rfl, b04.trans (b5.mono b04.size)⟩
set_option maxHeartbeats 4000000 in
set_option maxRecDepth 100000 in
theorem read_e2 (w : World) (hl : Hid (LaidN w)) : Calls Tryz.prog 122 #[.string (Sb [0, 32, 0, 49, 0, 50, 0, 32])] w fun e w' => e = .returned (.float .f64 4622945017495814144) ∧ Below w.heap.size w w' := by
  have HT := Hid.mk' (fun W => trim_any (Sb [0, 32, 0, 49, 0, 50, 0, 32]) W (by rw [Sb_size]; decide))
  rw [show mkB (trimN (uns (Sb [0, 32, 0, 49, 0, 50, 0, 32]))) = [0, 49, 0, 50] by decide +kernel] at HT
  have HX := Hid.mk' (fun W => text_core ⟨[0, 49, 0, 50].toArray⟩ W (by decide))
  rw [show textC (pts ⟨[0, 49, 0, 50].toArray⟩) = [49, 50] by kernel_rfl, show (⟨[49, 50].toArray⟩ : ByteArray) = Sb [49, 50] from rfl] at HX
  have HB := Hid.mk' (fun W hW => based_any (Sb [49, 50]) W (by rw [Sb_size]; decide) hW)
  rw [show basedN (Sb [49, 50]) = 0 by decide] at HB
  have HU := Hid.mk' (fun W => unsigned_any (Sb [49, 50]) W (by rw [Sb_size]; decide))
  rw [show unsT (Sb [49, 50]) = Sb [49, 50] by unfold unsT; rw [if_neg (by decide)], show minusN (Sb [49, 50]) = false by decide] at HU
  have HV := Hid.mk' (fun W hW => readUns_e2 W hW)
  have HS := Hid.mk' (fun W => signed_pos 4622945017495814144 W)
  generalize Sb [0, 32, 0, 49, 0, 50, 0, 32] = I at *
  generalize (⟨[0, 49, 0, 50].toArray⟩ : ByteArray) = J at *
  obtain ⟨S, hS⟩ : ∃ S, Sb [49, 50] = S := ⟨_, rfl⟩
  have hsz : (S.size : Int) = 2 := by rw [← hS]; rfl
  have hne : S.toList.isEmpty = false := by rw [← hS]; exact ne_empty (by decide)
  rw [hS] at HX HB HV HU
  clear hS
  go_enter Tryz.func122, Tryz.ntmps122
  go_wp2_with fail
  refine (HT.out _).mono ?_
  rintro e w1 ⟨rfl, b1⟩
  go_wp2_with fail
  refine (HX.out _).mono ?_
  rintro e w2 ⟨rfl, b2⟩
  have b02 : Below w.heap.size w w2 := b1.trans (b2.mono b1.size)
  clear b1 b2
  have hl2 : Hid (LaidN w2) := hl.out.below b02
  go_wp2_with fail
  refine (HB.out _ hl2).mono ?_
  rintro e w3 ⟨rfl, b3⟩
  have b03 : Below w.heap.size w w3 := b02.trans (b3.mono b02.size)
  clear b02 b3
  go_wp2_with fail
  refine (HU.out _).mono ?_
  rintro e w4 ⟨rfl, b4⟩
  have b04 : Below w.heap.size w w4 := b03.trans (b4.mono b03.size)
  clear b03 b4
  have hl4 : Hid (LaidN w4) := hl.out.below b04
  go_wp2_with fail
  refine (HV.out _ hl4).mono ?_
  rintro e w5 ⟨rfl, b5⟩
  go_wp2_with (go_at_call 137; refine (HS.out _).mono ?_; rintro e w7 ⟨rfl, hw7⟩; rw [hw7]; clear hw7 w7)
  go_ret
  exact ⟨rfl, b04.trans (b5.mono b04.size)⟩
end Go.Proofs.YtbkkkpfoaggejaaGreatDoor

namespace Go.Proofs.YtbkkkpfoaggejaaGreatDoor
set_option linter.unusedVariables false
open Go.RowKit Fl

/-- The text 0.3e1. -/
structure Ise3 (s : ByteArray) : Prop where
  sz : (s.size : Int) = 5
  z0 : PlainAid.bt s 0 = 48
  z1 : PlainAid.bt s 1 = 46
  z2 : PlainAid.bt s 2 = 51
  z3 : PlainAid.bt s 3 = 101
  z4 : PlainAid.bt s 4 = 49
set_option maxHeartbeats 4000000 in
set_option maxRecDepth 100000 in
theorem readFloat_e3 (s : ByteArray) (h : Ise3 s) (w : World) : Calls Tryz.prog 283 #[.string s] w fun e w' => e = .returned (.tuple #[.int .u64 3, .int .i64 0, .bool false, .bool false, .bool false, .int .i64 5, .bool true]) ∧ w' = w := by
  obtain ⟨sz, z0, z1, z2, z3, z4⟩ := h
  have hbt := PlainAid.get_bt s
  have l46 : bits .or .u8 46 32 = 46 := by decide
  have l48 : bits .or .u8 48 32 = 48 := by decide
  have l49 : bits .or .u8 49 32 = 49 := by decide
  have l51 : bits .or .u8 51 32 = 51 := by decide
  have l101 : bits .or .u8 101 32 = 101 := by decide
  go_enter Tryz.func283, Tryz.ntmps283
  go_wp2
  go_step3
  go_wp2
  go_step3
  go_wp2
  go_rounds 8
  go_rounds 3
  rw [Exit.noGoto_ret]
  exact bodyPost_ret (v := .tuple #[.int .u64 3, .int .i64 0, .bool false, .bool false, .bool false, .int .i64 5, .bool true]) (by simp [results, Tryz.results283, go_sem]) rfl ⟨rfl, rfl⟩
set_option maxHeartbeats 4000000 in
set_option maxRecDepth 100000 in
theorem special_e3 (s : ByteArray) (h : Ise3 s) (w : World) : Calls Tryz.prog 282 #[.string s] w fun e w' => e = .returned (.tuple #[.float .f64 0, .int .i64 0, .bool false]) ∧ w' = w := by
  obtain ⟨sz, z0, z1, z2, z3, z4⟩ := h
  have hbt := PlainAid.get_bt s
  go_enter Tryz.func282, Tryz.ntmps282
  go_wp2
  go_returns
  exact ⟨rfl, rfl⟩
set_option maxHeartbeats 4000000 in
set_option maxRecDepth 100000 in
theorem exact_e3 (w : World) (hl : LaidN w) : Calls Tryz.prog 293 #[.int .u64 3, .int .i64 0, .bool false] w fun e w' => e = .returned (.tuple #[.float .f64 4613937818241073152, .bool true]) ∧ ∃ n, w' = w.drewN n := by
  have c0 := hl.info.1
  have f1 : floatOfInt .f64 3 = 4613937818241073152 := by decide
  clear hl
  go_enter Tryz.func293, Tryz.ntmps293
  go_wp2
  go_ret2
  exact ⟨rfl, 0, rfl⟩
set_option maxHeartbeats 4000000 in
set_option maxRecDepth 100000 in
theorem atof_e3 (s : ByteArray) (h : Ise3 s) (w : World) (hl : LaidN w) : Calls Tryz.prog 256 #[.string s] w fun e w' => e = .returned (.tuple #[.float .f64 4613937818241073152, .int .i64 5, .nilIface]) ∧ ∃ n, w' = w.drewN n := by
  have HS := Hid.mk' (fun W => special_e3 s h W)
  have HR := Hid.mk' (fun W => readFloat_e3 s h W)
  have HE := Hid.mk' (exact_e3 w hl)
  have c0 := hl.opt
  clear h hl
  go_enter Tryz.func256, Tryz.ntmps256
  go_wp2_with (first | (go_at_call 282; refine (HS.out _).mono ?_; rintro e w1 ⟨rfl, hw1⟩; rw [hw1]; clear hw1 w1) | (go_at_call 283; refine (HR.out _).mono ?_; rintro e w1 ⟨rfl, hw1⟩; rw [hw1]; clear hw1 w1) | (go_at_call 291; refine (lbool2 _ _).mono ?_; rintro e w1 ⟨rfl, hw1⟩; rw [hw1]; clear hw1 w1))
  refine HE.out.mono ?_
  rintro e w1 ⟨rfl, n1, hw1⟩
  rw [hw1]; clear hw1 w1
  go_wp2
  go_ret3
  exact ⟨rfl, _, rfl⟩
set_option maxHeartbeats 4000000 in
theorem pfix_e3 (s : ByteArray) (h : Ise3 s) (w : World) (hl : LaidN w) : Calls Tryz.prog 231 #[.string s, .int .i64 64] w fun e w' => e = .returned (.tuple #[.float .f64 4613937818241073152, .int .i64 5, .nilIface]) ∧ ∃ n, w' = w.drewN n := by
  have HE := Hid.mk' (atof_e3 s h w hl)
  clear h hl
  go_enter Tryz.func231, Tryz.ntmps231
  go_wp2_with fail
  refine HE.out.mono ?_
  rintro e w1 ⟨rfl, n1, hw1⟩
  rw [hw1]; clear hw1 w1
  go_wp2
  go_ret3
  exact ⟨rfl, _, rfl⟩
set_option maxHeartbeats 4000000 in
theorem pfin_e3 (s : ByteArray) (h : Ise3 s) (w : World) (hl : LaidN w) : Calls Tryz.prog 209 #[.string s, .int .i64 64] w fun e w' => e = .returned (.tuple #[.float .f64 4613937818241073152, .nilIface]) ∧ ∃ n, w' = w.drewN n := by
  have HE := Hid.mk' (pfix_e3 s h w hl)
  have sz := h.sz
  clear h hl
  go_enter Tryz.func209, Tryz.ntmps209
  go_wp2_with fail
  refine HE.out.mono ?_
  rintro e w1 ⟨rfl, n1, hw1⟩
  rw [hw1]; clear hw1 w1
  go_wp2
  go_ret2
  exact ⟨rfl, _, rfl⟩
set_option maxHeartbeats 4000000 in
theorem pf_e3 (s : ByteArray) (h : Ise3 s) (w : World) (hl : LaidN w) : Calls Tryz.prog 177 #[.string s, .int .i64 64] w fun e w' => e = .returned (.tuple #[.float .f64 4613937818241073152, .nilIface]) ∧ ∃ n, w' = w.drewN n := by
  have HE := Hid.mk' (pfin_e3 s h w hl)
  clear h hl
  go_enter Tryz.func177, Tryz.ntmps177
  go_wp2_with fail
  refine HE.out.mono ?_
  rintro e w1 ⟨rfl, n1, hw1⟩
  rw [hw1]; clear hw1 w1
  go_wp2
  go_ret2
  exact ⟨rfl, _, rfl⟩
theorem ise3 : Ise3 (Sb [48, 46, 51, 101, 49]) := ⟨by decide, by decide, by decide, by decide, by decide, by decide⟩
set_option maxHeartbeats 1000000 in
set_option maxRecDepth 100000 in
theorem decVal_e3 (w : World) (hl : Hid (LaidN w)) :
    Calls Tryz.prog 156 #[.string (Sb [51])] w fun e w' => e = .returned (.float .f64 4613937818241073152) ∧ Below w.heap.size w w' := by
  obtain ⟨S, hS⟩ : ∃ S, Sb [51] = S := ⟨_, rfl⟩
  have hsz : (S.size : Int) = 1 := by rw [← hS]; rfl
  have HI := Hid.mk' (fun W => Tryz.strings_IndexAny_laid S ⟨#[101, 69]⟩ W (by omega) (by decide) (fun j b h => by rw [← hS, Sb_list] at h; have := List.mem_of_getElem? h; simp at this; subst this; decide) (fun j b h => by have := List.mem_of_getElem? h; simp at this; rcases this with rfl | rfl <;> decide))
  have hix : Lib.indexAny S.data.toList (⟨#[101, 69]⟩ : ByteArray).data.toList = -1 := by rw [← hS]; decide
  rw [hix] at HI
  have HF := Hid.mk' (fun W => Tryz.strconv_FormatInt_10_small 1 (by omega) W)
  have HS := Hid.mk' hS
  clear hix
  rw [hS]
  clear hS
  go_enter Tryz.func156, Tryz.ntmps156
  go_wp2_with fail
  refine (HI.out _).mono ?_
  rintro e w1 ⟨rfl, b1⟩
  have hl2 : Hid (LaidN w1) := hl.out.below b1
  obtain ⟨m2, hm2⟩ := hl2.out.maxl
  have HB := Hid.mk' b1
  clear b1
  go_wp2_with fail
  rw [← HS.out]
  refine (Tryz.strings_Cut _ _ m2 _ (by rw [Sb_size]; decide) hm2).mono ?_
  rintro e w3 ⟨rfl, n3, hw3⟩
  rw [hw3, Sb_list, show (⟨#[46]⟩ : ByteArray).data.toList = [46] from rfl, show Lib.cut [51] [46] = ([51], [], false) by decide]
  clear hm2 hw3 w3
  dsimp only
  go_wp2_with fail
  rw [show (⟨[51].toArray⟩ : ByteArray) ++ ⟨[].toArray⟩ = Sb [51] from rfl]
  refine (Tryz.strings_TrimLeft_one (Sb [51]) 48 (by decide) _).mono ?_
  rintro e w3 ⟨rfl, hw3⟩
  rw [hw3, Sb_list, show Lib.trimLeftB [51] 48 = [51] by decide]; clear hw3 w3
  have hne : (⟨[51].toArray⟩ : ByteArray).toList.isEmpty = false := ne_empty (by decide)
  go_wp2_with fail
  refine (HF.out _).mono ?_
  rintro e w3 ⟨rfl, hw3⟩
  rw [hw3, show Lib.decDigits 1 = [49] from Lib.decDigits_one (by omega)]; clear hw3 w3
  go_wp2_with fail
  rw [show (⟨#[48, 46]⟩ : ByteArray) ++ ⟨[51].toArray⟩ ++ ⟨#[101]⟩ ++ ⟨[49].toArray⟩ = Sb [48, 46, 51, 101, 49] from rfl]
  have hl3 : LaidN (w1.drewN n3) := hl2.out.below (kept_drewN _ 0 _ _).1
  refine (pf_e3 _ ise3 _ hl3).mono ?_
  rintro e w4 ⟨rfl, n4, hw4⟩
  have bb : Below w.heap.size w w4 := by rw [hw4]; exact below_draws (below_draws HB.out n3) n4
  clear hw4 hl3
  go_wp2
  go_ret
  exact ⟨rfl, bb⟩
set_option maxHeartbeats 4000000 in
set_option maxRecDepth 100000 in
theorem value_e3 (w : World) (hl : Hid (LaidN w)) :
    Calls Tryz.prog 135 #[.string (Sb [51])] w fun e w' => e = .returned (.float .f64 4613937818241073152) ∧ Below w.heap.size w w' := by
  have HL := Hid.mk' (fun W hW => letter_any (Sb [51]) W (by rw [Sb_size]; decide) hW)
  rw [show prefN (Sb [51]) = 0 by decide] at HL
  have HD := Hid.mk' (fun W hW => decVal_e3 W hW)
  go_enter Tryz.func135, Tryz.ntmps135
  go_wp2_with fail
  refine (HL.out _ hl).mono ?_
  rintro e w1 ⟨rfl, b1⟩
  have hl1 : Hid (LaidN w1) := hl.out.below b1
  go_wp2_with fail
  refine (HD.out _ hl1).mono ?_
  rintro e w2 ⟨rfl, b2⟩
  go_wp2
  go_ret
  exact ⟨rfl, b1.trans (b2.mono b1.size)⟩
set_option maxHeartbeats 4000000 in
set_option maxRecDepth 100000 in
theorem readUns_e3 (w : World) (hl : Hid (LaidN w)) :
    Calls Tryz.prog 138 #[.string (Sb [51])] w fun e w' => e = .returned (.float .f64 4613937818241073152) ∧ Below w.heap.size w w' := by
  have HD := Hid.mk' (fun W => decimal_any (Sb [51]) W (by rw [Sb_size]; decide))
  rw [show decB (Sb [51]) = 1 by decide] at HD
  have HV := Hid.mk' (fun W hW => value_e3 W hW)
  obtain ⟨S, hS⟩ : ∃ S, Sb [51] = S := ⟨_, rfl⟩
  have hsz : (S.size : Int) = 1 := by rw [← hS]; rfl
  have hne : S.toList.isEmpty = false := by rw [← hS]; exact ne_empty (by decide)
  have hni : (S.toList == [73, 110, 102, 105, 110, 105, 116, 121]) = false := by rw [← hS]; decide +kernel
  rw [hS] at HD HV ⊢
  clear hS
  go_enter Tryz.func138, Tryz.ntmps138
  go_wp2_with fail
  refine (HD.out _).mono ?_
  rintro e w1 ⟨rfl, b1⟩
  have hl1 : Hid (LaidN w1) := hl.out.below b1
  go_wp2_with fail
  refine (HV.out _ hl1).mono ?_
  rintro e w2 ⟨rfl, b2⟩
  go_wp2
  go_ret
  exact ⟨rfl, b1.trans (b2.mono b1.size)⟩
set_option maxHeartbeats 4000000 in
set_option maxRecDepth 100000 in
theorem read_e3 (w : World) (hl : Hid (LaidN w)) : Calls Tryz.prog 122 #[.string (Sb [0, 51])] w fun e w' => e = .returned (.float .f64 4613937818241073152) ∧ Below w.heap.size w w' := by
  have HT := Hid.mk' (fun W => trim_any (Sb [0, 51]) W (by rw [Sb_size]; decide))
  rw [show mkB (trimN (uns (Sb [0, 51]))) = [0, 51] by decide +kernel] at HT
  have HX := Hid.mk' (fun W => text_core ⟨[0, 51].toArray⟩ W (by decide))
  rw [show textC (pts ⟨[0, 51].toArray⟩) = [51] by kernel_rfl, show (⟨[51].toArray⟩ : ByteArray) = Sb [51] from rfl] at HX
  have HB := Hid.mk' (fun W hW => based_any (Sb [51]) W (by rw [Sb_size]; decide) hW)
  rw [show basedN (Sb [51]) = 0 by decide] at HB
  have HU := Hid.mk' (fun W => unsigned_any (Sb [51]) W (by rw [Sb_size]; decide))
  rw [show unsT (Sb [51]) = Sb [51] by unfold unsT; rw [if_neg (by decide)], show minusN (Sb [51]) = false by decide] at HU
  have HV := Hid.mk' (fun W hW => readUns_e3 W hW)
  have HS := Hid.mk' (fun W => signed_pos 4613937818241073152 W)
  generalize Sb [0, 51] = I at *
  generalize (⟨[0, 51].toArray⟩ : ByteArray) = J at *
  obtain ⟨S, hS⟩ : ∃ S, Sb [51] = S := ⟨_, rfl⟩
  have hsz : (S.size : Int) = 1 := by rw [← hS]; rfl
  have hne : S.toList.isEmpty = false := by rw [← hS]; exact ne_empty (by decide)
  rw [hS] at HX HB HV HU
  clear hS
  go_enter Tryz.func122, Tryz.ntmps122
  go_wp2_with fail
  refine (HT.out _).mono ?_
  rintro e w1 ⟨rfl, b1⟩
  go_wp2_with fail
  refine (HX.out _).mono ?_
  rintro e w2 ⟨rfl, b2⟩
  have b02 : Below w.heap.size w w2 := b1.trans (b2.mono b1.size)
  clear b1 b2
  have hl2 : Hid (LaidN w2) := hl.out.below b02
  go_wp2_with fail
  refine (HB.out _ hl2).mono ?_
  rintro e w3 ⟨rfl, b3⟩
  have b03 : Below w.heap.size w w3 := b02.trans (b3.mono b02.size)
  clear b02 b3
  go_wp2_with fail
  refine (HU.out _).mono ?_
  rintro e w4 ⟨rfl, b4⟩
  have b04 : Below w.heap.size w w4 := b03.trans (b4.mono b03.size)
  clear b03 b4
  have hl4 : Hid (LaidN w4) := hl.out.below b04
  go_wp2_with fail
  refine (HV.out _ hl4).mono ?_
  rintro e w5 ⟨rfl, b5⟩
  go_wp2_with (go_at_call 137; refine (HS.out _).mono ?_; rintro e w7 ⟨rfl, hw7⟩; rw [hw7]; clear hw7 w7)
  go_ret
  exact ⟨rfl, b04.trans (b5.mono b04.size)⟩
end Go.Proofs.YtbkkkpfoaggejaaGreatDoor

namespace Go.Proofs.YtbkkkpfoaggejaaGreatDoor
set_option linter.unusedVariables false
open Go.RowKit Go.Sort Fl

theorem cv_results_cell {fn : Func} {p : Tmp} {ty : TypeId} (h : fn.results = #[.cell p ty]) (tmps : Array Value) (P : Program) (w : World) :
    (results fn tmps).run P w = ((asAddr (tmps.getD p undef)).run P w).andThen fun a w₁ => (loadVar ty a).run P w₁ := by
  simp only [results, h]
  simp [Sem.run_bind, Result.andThen]
/-- A value's block, to be written. -/
structure CellF (w : World) (b : Nat) : Prop where
  lt : b < w.heap.size
  c : ∃ v0 v1 v2 v3, w.cell? ⟨b, 0, none⟩ = some v0 ∧ w.cell? ⟨b, 1, none⟩ = some v1 ∧ w.cell? ⟨b, 2, none⟩ = some v2 ∧ w.cell? ⟨b, 3, none⟩ = some v3
  f0 : w.frozen? ⟨b, 0, none⟩ = false
  f1 : w.frozen? ⟨b, 1, none⟩ = false
  f2 : w.frozen? ⟨b, 2, none⟩ = false
  f3 : w.frozen? ⟨b, 3, none⟩ = false
set_option maxHeartbeats 1000000 in
set_option maxRecDepth 100000 in
theorem rstr_any (s : ByteArray) (w : World) : Calls Tryz.prog 21 #[.string s] w fun e w' => e = .returned (.agg #[.int .i64 4, .float .f64 0, .string s, .int .i64 0]) ∧ Below w.heap.size w w' := by
  go_enter Tryz.func21, Tryz.ntmps21
  go_wp2
  (try simp only [Exit.inBlock, Exit.then])
  refine bodyPost_ret (v := .agg #[.int .i64 4, .float .f64 0, .string s, .int .i64 0]) ?_ rfl ⟨rfl, by (repeat' (first | (with_reducible exact Below.refl _ _) | (with_reducible assumption) | (with_reducible refine Below.drew ?_) | (with_reducible refine below_drewN ?_ _) | (with_reducible refine Below.alloc ?_ ?_ _) | (with_reducible refine Below.setCell ?_ ?_ _) | (simp; done) | (simp; omega)))⟩
  rw [cv_results_cell rfl]
  go_simp
set_option maxHeartbeats 1000000 in
set_option maxRecDepth 100000 in
theorem rnum_any (x : Nat) (w : World) : Calls Tryz.prog 9 #[.float .f64 x] w fun e w' => e = .returned (.agg #[.int .i64 3, .float .f64 x, .string ⟨#[]⟩, .int .i64 0]) ∧ Below w.heap.size w w' := by
  go_enter Tryz.func9, Tryz.ntmps9
  go_wp2
  (try simp only [Exit.inBlock, Exit.then])
  refine bodyPost_ret (v := .agg #[.int .i64 3, .float .f64 x, .string ⟨#[]⟩, .int .i64 0]) ?_ rfl ⟨rfl, by (repeat' (first | (with_reducible exact Below.refl _ _) | (with_reducible assumption) | (with_reducible refine Below.drew ?_) | (with_reducible refine below_drewN ?_ _) | (with_reducible refine Below.alloc ?_ ?_ _) | (with_reducible refine Below.setCell ?_ ?_ _) | (simp; done) | (simp; omega)))⟩
  rw [cv_results_cell rfl]
  go_simp
set_option maxHeartbeats 1000000 in
set_option maxRecDepth 100000 in
theorem rasciiV_any (s q : ByteArray) (hq : ofFst (ofS s) = q) (w : World) (hs : (s.size : Int) ≤ 524288) :
    Calls Tryz.prog 13 #[.string s] w fun e w' => e = .returned (.agg #[.int .i64 4, .float .f64 0, .string q, .int .i64 0]) ∧ Below w.heap.size w w' := by
  have HA := Hid.mk' (fun W => rascii_any s W hs)
  have HS := Hid.mk' (fun W => rstr_any q W)
  rw [hq] at HA
  clear hq
  go_enter Tryz.func13, Tryz.ntmps13
  go_wp2_with fail
  refine (HA.out _).mono ?_
  rintro e w1 ⟨rfl, b1⟩
  go_wp2_with fail
  refine (HS.out _).mono ?_
  rintro e w2 ⟨rfl, b2⟩
  have b3 := b1.trans (b2.mono b1.size)
  clear b1 b2
  have q0 := (b3.cell (p := ⟨w.heap.size, 0, none⟩) (by simp)).trans (World.cell?_alloc_new _ _ _ _)
  have f0 := (b3.frozen (p := ⟨w.heap.size, 0, none⟩) (by simp)).trans (World.frozen?_alloc_new _ _ _ _)
  have q1 := (b3.cell (p := ⟨w.heap.size, 1, none⟩) (by simp)).trans (World.cell?_alloc_new _ _ _ _)
  have f1 := (b3.frozen (p := ⟨w.heap.size, 1, none⟩) (by simp)).trans (World.frozen?_alloc_new _ _ _ _)
  have q2 := (b3.cell (p := ⟨w.heap.size, 2, none⟩) (by simp)).trans (World.cell?_alloc_new _ _ _ _)
  have f2 := (b3.frozen (p := ⟨w.heap.size, 2, none⟩) (by simp)).trans (World.frozen?_alloc_new _ _ _ _)
  have q3 := (b3.cell (p := ⟨w.heap.size, 3, none⟩) (by simp)).trans (World.cell?_alloc_new _ _ _ _)
  have f3 := (b3.frozen (p := ⟨w.heap.size, 3, none⟩) (by simp)).trans (World.frozen?_alloc_new _ _ _ _)
  simp only [List.getElem?_toArray, List.getElem?_cons_zero, List.getElem?_cons_succ] at q0 q1 q2 q3
  have c3 : Below w.heap.size w w2 := bl_chain (by (repeat' (first | (with_reducible exact Below.refl _ _) | (with_reducible assumption) | (with_reducible refine Below.drew ?_) | (with_reducible refine below_drewN ?_ _) | (with_reducible refine Below.alloc ?_ ?_ _) | (with_reducible refine Below.setCell ?_ ?_ _) | (simp; done) | (simp; omega)))) b3
  clear b3
  go_wp2
  (try simp only [Exit.inBlock, Exit.then])
  refine bodyPost_ret (v := .agg #[.int .i64 4, .float .f64 0, .string q, .int .i64 0]) ?_ rfl ⟨rfl, by (repeat' (first | (with_reducible exact Below.refl _ _) | (with_reducible assumption) | (with_reducible refine Below.drew ?_) | (with_reducible refine below_drewN ?_ _) | (with_reducible refine Below.alloc ?_ ?_ _) | (with_reducible refine Below.setCell ?_ ?_ _) | (simp; done) | (simp; omega)))⟩
  rw [cv_results_cell rfl]
  go_simp
set_option maxHeartbeats 1000000 in
set_option maxRecDepth 100000 in
theorem number_t (s : ByteArray) (f : Nat) (HR : Hid (∀ W, Hid (LaidN W) → Calls Tryz.prog 122 #[.string s] W fun e w' => e = .returned (.float .f64 f) ∧ Below W.heap.size W w')) (w : World) (hl : Hid (LaidN w)) :
    Calls Tryz.prog 104 #[.agg #[.int .i64 4, .float .f64 0, .string s, .int .i64 0]] w fun e w' => e = .returned (.tuple #[.float .f64 f, .bool true]) ∧ Below w.heap.size w w' := by
  have HK := Hid.mk' (fun W => kindOf_any 4 0 s 0 W)
  rw [show kd 4 = 4 from rfl] at HK
  go_enter Tryz.func104, Tryz.ntmps104
  go_wp2_with fail
  refine (HK.out _).mono ?_
  rintro e w1 ⟨rfl, b1⟩
  have c1 : Below w.heap.size w w1 := bl_chain (by (repeat' (first | (with_reducible exact Below.refl _ _) | (with_reducible assumption) | (with_reducible refine Below.drew ?_) | (with_reducible refine below_drewN ?_ _) | (with_reducible refine Below.alloc ?_ ?_ _) | (with_reducible refine Below.setCell ?_ ?_ _) | (simp; done) | (simp; omega)))) b1
  have V1 : CellV w1 w.heap.size 4 0 s 0 := CellV.below (by first | (with_reducible assumption) | (with_reducible refine CellV.drew ?_; assumption) | (constructor <;> first | (simp; done) | (simp; omega))) b1
  obtain ⟨-, z10, z11, z12, z13⟩ := id V1
  clear b1
  have hl1 : Hid (LaidN w1) := hl.out.below c1
  go_wp2_with fail
  refine (HR.out _ hl1).mono ?_
  rintro e w2 ⟨rfl, b2⟩
  have c2 : Below w.heap.size w w2 := bl_chain (by (repeat' (first | (with_reducible exact Below.refl _ _) | (with_reducible assumption) | (with_reducible refine Below.drew ?_) | (with_reducible refine below_drewN ?_ _) | (with_reducible refine Below.alloc ?_ ?_ _) | (with_reducible refine Below.setCell ?_ ?_ _) | (simp; done) | (simp; omega)))) b2
  clear b2
  go_wp2
  go_ret2
  exact ⟨rfl, by (repeat' (first | (with_reducible exact Below.refl _ _) | (with_reducible assumption) | (with_reducible refine Below.drew ?_) | (with_reducible refine below_drewN ?_ _) | (with_reducible refine Below.alloc ?_ ?_ _) | (with_reducible refine Below.setCell ?_ ?_ _) | (simp; done) | (simp; omega)))⟩
set_option maxHeartbeats 1000000 in
set_option maxRecDepth 100000 in
theorem asnum_t (s : ByteArray) (f : Nat) (HR : Hid (∀ W, Hid (LaidN W) → Calls Tryz.prog 122 #[.string s] W fun e w' => e = .returned (.float .f64 f) ∧ Below W.heap.size W w')) (w : World) (hl : Hid (LaidN w)) :
    Calls Tryz.prog 95 #[.agg #[.int .i64 4, .float .f64 0, .string s, .int .i64 0]] w fun e w' => e = .returned (.agg #[.int .i64 3, .float .f64 f, .string ⟨#[]⟩, .int .i64 0]) ∧ Below w.heap.size w w' := by
  have HK := Hid.mk' (fun W hW => number_t s f HR W hW)
  go_enter Tryz.func95, Tryz.ntmps95
  go_wp2_with fail
  refine (HK.out _ (Hid.mk' (hl.out.below (by (repeat' (first | (with_reducible exact Below.refl _ _) | (with_reducible assumption) | (with_reducible refine Below.drew ?_) | (with_reducible refine below_drewN ?_ _) | (with_reducible refine Below.alloc ?_ ?_ _) | (with_reducible refine Below.setCell ?_ ?_ _) | (simp; done) | (simp; omega))))))).mono ?_
  rintro e w1 ⟨rfl, b1⟩
  have q0 : w1.cell? ⟨w.heap.size + 1, 0, none⟩ = some (.int .i64 0) := (b1.cell (p := ⟨w.heap.size + 1, 0, none⟩) (by simp)).trans (by simp)
  have f0 : w1.frozen? ⟨w.heap.size + 1, 0, none⟩ = false := (b1.frozen (p := ⟨w.heap.size + 1, 0, none⟩) (by simp)).trans (by simp)
  have q1 : w1.cell? ⟨w.heap.size + 1, 1, none⟩ = some (.float .f64 0) := (b1.cell (p := ⟨w.heap.size + 1, 1, none⟩) (by simp)).trans (by simp)
  have f1 : w1.frozen? ⟨w.heap.size + 1, 1, none⟩ = false := (b1.frozen (p := ⟨w.heap.size + 1, 1, none⟩) (by simp)).trans (by simp)
  have q2 : w1.cell? ⟨w.heap.size + 1, 2, none⟩ = some (.string ⟨#[]⟩) := (b1.cell (p := ⟨w.heap.size + 1, 2, none⟩) (by simp)).trans (by simp)
  have f2 : w1.frozen? ⟨w.heap.size + 1, 2, none⟩ = false := (b1.frozen (p := ⟨w.heap.size + 1, 2, none⟩) (by simp)).trans (by simp)
  have q3 : w1.cell? ⟨w.heap.size + 1, 3, none⟩ = some (.int .i64 0) := (b1.cell (p := ⟨w.heap.size + 1, 3, none⟩) (by simp)).trans (by simp)
  have f3 : w1.frozen? ⟨w.heap.size + 1, 3, none⟩ = false := (b1.frozen (p := ⟨w.heap.size + 1, 3, none⟩) (by simp)).trans (by simp)
  have c1 : Below w.heap.size w w1 := bl_chain (by (repeat' (first | (with_reducible exact Below.refl _ _) | (with_reducible assumption) | (with_reducible refine Below.drew ?_) | (with_reducible refine below_drewN ?_ _) | (with_reducible refine Below.alloc ?_ ?_ _) | (with_reducible refine Below.setCell ?_ ?_ _) | (simp; done) | (simp; omega)))) b1
  clear b1
  go_wp2
  (try simp only [Exit.inBlock, Exit.then])
  refine bodyPost_ret (v := .agg #[.int .i64 3, .float .f64 f, .string ⟨#[]⟩, .int .i64 0]) ?_ rfl ⟨rfl, by (repeat' (first | (with_reducible exact Below.refl _ _) | (with_reducible assumption) | (with_reducible refine Below.drew ?_) | (with_reducible refine below_drewN ?_ _) | (with_reducible refine Below.alloc ?_ ?_ _) | (with_reducible refine Below.setCell ?_ ?_ _) | (simp; done) | (simp; omega)))⟩
  rw [cv_results_cell rfl]
  go_simp
set_option maxHeartbeats 1000000 in
set_option maxRecDepth 100000 in
theorem truthy_one (w : World) : Calls Tryz.prog 71 #[.agg #[.int .i64 3, .float .f64 4607182418800017408, .string ⟨#[]⟩, .int .i64 0]] w fun e w' => e = .returned (.bool true) ∧ Below w.heap.size w w' := by
  have HK := Hid.mk' (fun W => kindOf_any 3 4607182418800017408 ⟨#[]⟩ 0 W)
  rw [show kd 3 = 3 from rfl] at HK
  have q1 : (FloatKind.f64.format.order 4607182418800017408 0 == some Ordering.lt) = false := by decide
  have q2 : (FloatKind.f64.format.order 4607182418800017408 0 == some Ordering.gt) = true := by decide
  go_enter Tryz.func71, Tryz.ntmps71
  go_wp2_with fail
  refine (HK.out _).mono ?_
  rintro e w1 ⟨rfl, b1⟩
  have c1 : Below w.heap.size w w1 := bl_chain (by (repeat' (first | (with_reducible exact Below.refl _ _) | (with_reducible assumption) | (with_reducible refine Below.drew ?_) | (with_reducible refine below_drewN ?_ _) | (with_reducible refine Below.alloc ?_ ?_ _) | (with_reducible refine Below.setCell ?_ ?_ _) | (simp; done) | (simp; omega)))) b1
  have V1 : CellV w1 w.heap.size 3 4607182418800017408 ⟨#[]⟩ 0 := CellV.below (by first | (with_reducible assumption) | (with_reducible refine CellV.drew ?_; assumption) | (constructor <;> first | (simp; done) | (simp; omega))) b1
  obtain ⟨-, z10, z11, z12, z13⟩ := id V1
  clear b1
  go_wp2
  go_ret
  exact ⟨rfl, by (repeat' (first | (with_reducible exact Below.refl _ _) | (with_reducible assumption) | (with_reducible refine Below.drew ?_) | (with_reducible refine below_drewN ?_ _) | (with_reducible refine Below.alloc ?_ ?_ _) | (with_reducible refine Below.setCell ?_ ?_ _) | (simp; done) | (simp; omega)))⟩
set_option maxHeartbeats 1000000 in
set_option maxRecDepth 100000 in
theorem type_text (s : ByteArray) (w : World) : Calls Tryz.prog 73 #[.agg #[.int .i64 4, .float .f64 0, .string s, .int .i64 0]] w fun e w' => e = .returned (.string ⟨#[115, 116, 114, 105, 110, 103]⟩) ∧ Below w.heap.size w w' := by
  have HK := Hid.mk' (fun W => kindOf_any 4 0 s 0 W)
  rw [show kd 4 = 4 from rfl] at HK
  go_enter Tryz.func73, Tryz.ntmps73
  go_wp2_with fail
  refine (HK.out _).mono ?_
  rintro e w1 ⟨rfl, b1⟩
  have c1 : Below w.heap.size w w1 := bl_chain (by (repeat' (first | (with_reducible exact Below.refl _ _) | (with_reducible assumption) | (with_reducible refine Below.drew ?_) | (with_reducible refine below_drewN ?_ _) | (with_reducible refine Below.alloc ?_ ?_ _) | (with_reducible refine Below.setCell ?_ ?_ _) | (simp; done) | (simp; omega)))) b1
  have V1 : CellV w1 w.heap.size 4 0 s 0 := CellV.below (by first | (with_reducible assumption) | (with_reducible refine CellV.drew ?_; assumption) | (constructor <;> first | (simp; done) | (simp; omega))) b1
  obtain ⟨-, z10, z11, z12, z13⟩ := id V1
  clear b1
  go_wp2
  go_ret
  exact ⟨rfl, by (repeat' (first | (with_reducible exact Below.refl _ _) | (with_reducible assumption) | (with_reducible refine Below.drew ?_) | (with_reducible refine below_drewN ?_ _) | (with_reducible refine Below.alloc ?_ ?_ _) | (with_reducible refine Below.setCell ?_ ?_ _) | (simp; done) | (simp; omega)))⟩
end Go.Proofs.YtbkkkpfoaggejaaGreatDoor
