/- lex.escapeAhead, partAhead at what Quote writes. -/
import Derived.Test.YtopdogpcachonaaGreatDoorLQp
import Derived.Test.YtopdogpcachonaaGreatDoorLBd
import Derived.Test.YtopdogpcachonaaGreatDoorLQr
namespace Go.Proofs.YtopdogpcachonaaGreatDoor
set_option linter.unusedVariables false
open Go.RowKit Go.Shelf

set_option maxHeartbeats 1000000 in
set_option maxRecDepth 100000 in
theorem fixed_c (s : ByteArray) (ds : List Nat) (hd : ∀ d ∈ ds, d < 16) (hl : ds.length = 4) (hx : Hid (s.extract 1 5 = Sb (ds.map hxd))) (hs : 5 ≤ (s.size : Int)) (w : World) :
    Calls Tryz.prog 151 #[.string s, .int .i64 4] w fun e w' => e = .returned (.tuple #[.string ⟨(pb (hv ds)).toArray⟩, .int .i64 5]) ∧ Below w.heap.size w w' := by
  have HH := Hid.mk' (hexed_any ds hd (by omega) w)
  rw [← hx.out] at HH
  have hlt := hv_lt ds hd 4 (by omega)
  rw [List.take_of_length_le (by omega)] at hlt
  have HP := Hid.mk' (fun W => point_any (hv ds) (by omega) W)
  obtain ⟨z, hz⟩ : ∃ z : Int, (hv ds : Int) = z := ⟨_, rfl⟩
  rw [hz] at HH HP
  generalize ByteArray.mk (pb (hv ds)).toArray = T at *
  clear hx hlt hz hd hl
  go_enter Tryz.func151, Tryz.ntmps151
  go_wp2_with fail
  refine HH.out.mono ?_; rintro e w1 ⟨rfl, b1⟩
  go_wp2_with fail
  refine (HP.out _).mono ?_; rintro e w2 ⟨rfl, b2⟩
  have HB := Hid.mk' (b1.trans (b2.mono b1.size))
  clear b1 b2
  go_wp2
  go_ret2
  exact ⟨rfl, HB.out⟩
set_option maxHeartbeats 1000000 in
set_option maxRecDepth 100000 in
theorem digitAt_c (s : ByteArray) (z : Int) (hs : 1 ≤ (s.size : Int)) (hz : PlainAid.bt s 0 = z) (hd : digZ z = false) (w : World) : Calls Tryz.prog 153 #[.string s, .int .i64 0] w fun e w' => e = .returned (.bool false) ∧ w' = w := by
  have HD := Hid.mk' (fun W => isDigit_any z W)
  rw [hd] at HD
  have hbt := PlainAid.get_bt s
  clear hd
  go_enter Tryz.func153, Tryz.ntmps153
  go_wp2_with (go_at_call 83; refine (HD.out _).mono ?_; rintro e w1 ⟨rfl, hw1⟩; rw [hw1]; clear hw1 w1)
  go_ret
  exact ⟨rfl, rfl⟩
set_option maxHeartbeats 1000000 in
set_option maxRecDepth 100000 in
theorem escape_self (s : ByteArray) (x : UInt8) (hx0 : s.data.toList[0]? = some x) (hx : x = 34 ∨ x = 92) (w : World) :
    Calls Tryz.prog 126 #[.string s] w fun e w' => e = .returned (.tuple #[.string ⟨(pb x.toNat).toArray⟩, .int .i64 1]) ∧ Below w.heap.size w w' := by
  have hs : 1 ≤ (s.size : Int) := by
    have := (List.getElem?_eq_some_iff.1 hx0).1
    have e : s.data.toList.length = s.size := rfl
    omega
  have hbt0 : PlainAid.bt s 0 = (x.toNat : Int) := by
    rw [bt_by]; unfold by'; rw [List.getD_eq_getElem?_getD, hx0]; rfl
  have HDC := Hid.mk' (fun W => Tryz.utf8_DecodeRuneInString_ascii s x W hx0 (by rcases hx with rfl | rfl <;> decide))
  have HPF := Hid.mk' (fun W => Tryz.strings_HasPrefix s ⟨#[117, 123]⟩ W)
  rw [show Lib.hasPrefix s.data.toList (⟨#[117, 123]⟩ : ByteArray).data.toList = false from pre_no s x hx0 117 [123] (by rcases hx with rfl | rfl <;> decide)] at HPF
  have HDA := Hid.mk' (fun W => digitAt_c s x.toNat hs hbt0 (by rcases hx with rfl | rfl <;> decide) W)
  have HEL := Hid.mk' (fun W => endsLine_any (x.toNat : Int) W)
  rw [show endsZ (x.toNat : Int) = false by rcases hx with rfl | rfl <;> decide] at HEL
  have HIR := Hid.mk' (fun W => Tryz.strings_IndexRune_ascii ⟨#[110, 116, 98, 118, 102, 114]⟩ (x.toNat : Int) W (by omega) (by rcases hx with rfl | rfl <;> decide))
  rw [show Lib.indexByte (⟨#[110, 116, 98, 118, 102, 114]⟩ : ByteArray).data.toList ((x.toNat : Int)).toNat.toUInt8 = -1 by rcases hx with rfl | rfl <;> decide] at HIR
  have HPT := Hid.mk' (fun W => point_any x.toNat (by have := x.toNat_lt; omega) W)
  generalize ByteArray.mk (pb x.toNat).toArray = T at *
  clear hbt0 hx0
  rcases hx with rfl | rfl
  all_goals
    go_enter Tryz.func126, Tryz.ntmps126
    go_wp2_with fail
    refine (HDC.out _).mono ?_; rintro e w1 ⟨rfl, hw1⟩; rw [hw1]; clear hw1 w1
    go_wp2_with fail
    refine (HPF.out _).mono ?_; rintro e w1 ⟨rfl, hw1⟩; rw [hw1]; clear hw1 w1
    go_wp2_with fail
    refine (HDA.out _).mono ?_; rintro e w1 ⟨rfl, hw1⟩; rw [hw1]; clear hw1 w1
    go_wp2_with fail
    refine (HEL.out _).mono ?_; rintro e w1 ⟨rfl, hw1⟩; rw [hw1]; clear hw1 w1
    go_wp2_with fail
    refine (HIR.out _).mono ?_; rintro e w1 ⟨rfl, hw1⟩; rw [hw1]; clear hw1 w1
    go_wp2_with fail
    refine (HPT.out _).mono ?_; rintro e w1 ⟨rfl, b1⟩
    go_wp2
    go_ret2
    exact ⟨rfl, b1⟩
set_option maxHeartbeats 1000000 in
set_option maxRecDepth 100000 in
theorem escape_u (s : ByteArray) (ds : List Nat) (hd : ∀ d ∈ ds, d < 16) (hl : ds.length = 4) (hx : Hid (s.extract 1 5 = Sb (ds.map hxd))) (hs : 5 ≤ (s.size : Int)) (hx0 : s.data.toList[0]? = some 117) (hx1 : Lib.hasPrefix s.data.toList [117, 123] = false) (w : World) :
    Calls Tryz.prog 126 #[.string s] w fun e w' => e = .returned (.tuple #[.string ⟨(pb (hv ds)).toArray⟩, .int .i64 5]) ∧ Below w.heap.size w w' := by
  have HDC := Hid.mk' (fun W => Tryz.utf8_DecodeRuneInString_ascii s 117 W hx0 (by decide))
  have HPF := Hid.mk' (fun W => Tryz.strings_HasPrefix s ⟨#[117, 123]⟩ W)
  rw [show Lib.hasPrefix s.data.toList (⟨#[117, 123]⟩ : ByteArray).data.toList = false from hx1] at HPF
  have HFX := Hid.mk' (fun W => fixed_c s ds hd hl hx hs W)
  generalize ByteArray.mk (pb (hv ds)).toArray = T at *
  clear hx0 hx1 hx hd hl
  go_enter Tryz.func126, Tryz.ntmps126
  go_wp2_with fail
  refine (HDC.out _).mono ?_; rintro e w1 ⟨rfl, hw1⟩; rw [hw1]; clear hw1 w1
  go_wp2_with fail
  refine (HPF.out _).mono ?_; rintro e w1 ⟨rfl, hw1⟩; rw [hw1]; clear hw1 w1
  go_wp2_with fail
  refine (HFX.out _).mono ?_; rintro e w1 ⟨rfl, b1⟩
  go_wp2
  go_ret2
  exact ⟨rfl, b1⟩
set_option maxHeartbeats 1000000 in
set_option maxRecDepth 100000 in
theorem part_esc (s R : ByteArray) (T : ByteArray) (k : Nat) (l : Bool) (hs : 1 ≤ (s.size : Int)) (hk : (k : Int) ≤ 5) (HR : Hid (s.extract 1 s.size = R)) (w : World)
    (HE : Calls Tryz.prog 126 #[.string R] w fun e w' => e = .returned (.tuple #[.string T, .int .i64 k]) ∧ Below w.heap.size w w') :
    Calls Tryz.prog 104 #[.string s, .int .i32 92, .bool l] w fun e w' => e = .returned (.tuple #[.string T, .int .i64 ((k + 1 : Nat) : Int)]) ∧ Below w.heap.size w w' := by
  have HEE := Hid.mk' HE
  rw [← HR.out] at HEE
  obtain ⟨z, hz⟩ : ∃ z : Int, (k : Int) = z := ⟨_, rfl⟩
  rw [show ((k + 1 : Nat) : Int) = 1 + z by omega]
  rw [hz] at HEE hk
  have hz0 : 0 ≤ z := by omega
  clear HE HR hz
  go_enter Tryz.func104, Tryz.ntmps104
  go_wp2_with fail
  refine HEE.out.mono ?_; rintro e w1 ⟨rfl, b1⟩
  go_wp2
  go_ret2
  exact ⟨rfl, b1⟩
theorem hv4 (u : Nat) (hu : u < 65536) : hv [u / 4096 % 16, u / 256 % 16, u / 16 % 16, u % 16] = u := by
  unfold hv
  simp only [List.foldl_cons, List.foldl_nil]
  omega
theorem hxd_ne (m : Nat) (hm : m < 16) : hxd m ≠ 123 := by
  intro h
  have e := congrArg UInt8.toNat h
  have : (hxd m).toNat < 123 := by
    unfold hxd
    split
    · rw [u8_lt _ (by omega)]; omega
    · rw [u8_lt _ (by omega)]; omega
  rw [e] at this
  exact absurd this (by decide)
theorem Sb_rest (l : List UInt8) (k : Nat) : (Sb l).extract k (Sb l).size = Sb (l.drop k) := Sb_ext (by rw [rest_list, Sb_list])
/-- partAhead at what a unit is written as. -/
theorem part_q (u : Nat) (hu : u < 65536) (m : List UInt8) (x : UInt8) (hx : (qU u ++ m)[0]? = some x) (w : World) :
    Calls Tryz.prog 104 #[.string (Sb (qU u ++ m)), .int .i32 (x.toNat : Int), .bool false] w fun e w' => e = .returned (.tuple #[.string ⟨(pb u).toArray⟩, .int .i64 ((qU u).length : Int)]) ∧ Below w.heap.size w w' := by
  by_cases q1 : u = 34 ∨ u = 92
  · rw [qU_esc u q1] at hx ⊢
    obtain rfl : x = 92 := by simpa using hx.symm
    have hu8 : u.toUInt8.toNat = u := u8_lt u (by omega)
    have he := escape_self (Sb (u.toUInt8 :: m)) u.toUInt8 (by rw [Sb_list]; rfl) (by rcases q1 with rfl | rfl <;> decide) w
    rw [hu8] at he
    exact part_esc (Sb (92 :: u.toUInt8 :: m)) (Sb (u.toUInt8 :: m)) _ 1 false (by rw [Sb_size]; simp only [List.length_cons]; omega) (by decide) (Hid.mk' (Sb_rest _ 1)) w he
  · by_cases q2 : 32 ≤ u ∧ u ≤ 126
    · rw [qU_plain u q1 q2] at hx ⊢
      obtain rfl : x = u.toUInt8 := by simpa using hx.symm
      have hu8 : u.toUInt8.toNat = u := u8_lt u (by omega)
      rw [hu8]
      exact partAhead_c _ u false w (by omega) (by simp; omega) (by simp; omega) (by simp; omega)
    · rw [qU_hex u q1 q2] at hx ⊢
      unfold hxs at hx ⊢
      obtain rfl : x = 92 := by simpa using hx.symm
      have mm (k : Nat) : k % 16 < 16 := Nat.mod_lt _ (by decide)
      have he := escape_u (Sb (117 :: hxd (u / 4096 % 16) :: hxd (u / 256 % 16) :: hxd (u / 16 % 16) :: hxd (u % 16) :: m)) [u / 4096 % 16, u / 256 % 16, u / 16 % 16, u % 16]
        (by
          intro d hd
          simp only [List.mem_cons, List.not_mem_nil, or_false] at hd
          rcases hd with rfl | rfl | rfl | rfl <;> exact mm _) rfl (Hid.mk' (by rw [Sb_extract]; rfl)) (by rw [Sb_size]; simp only [List.length_cons]; omega) (by rw [Sb_list]; rfl)
        (by
          rw [Sb_list]
          unfold Lib.hasPrefix
          have hne := Ne.symm (hxd_ne (u / 4096 % 16) (mm _))
          simp [List.isPrefixOf, hne]) w
      rw [hv4 u hu] at he
      exact part_esc (Sb (92 :: 117 :: hxd (u / 4096 % 16) :: hxd (u / 256 % 16) :: hxd (u / 16 % 16) :: hxd (u % 16) :: m)) (Sb (117 :: hxd (u / 4096 % 16) :: hxd (u / 256 % 16) :: hxd (u / 16 % 16) :: hxd (u % 16) :: m)) _ 5 false (by rw [Sb_size]; simp only [List.length_cons]; omega) (by decide) (Hid.mk' (Sb_rest _ 1)) w he
end Go.Proofs.YtopdogpcachonaaGreatDoor
