/- digits.Show: the program's text of a number. -/
import Derived.Test.YtjnbnejfdleocaaGreatDoorShowP
import Derived.Test.YtjnbnejfdleocaaGreatDoorMf
import Derived.Lib.AtoiErrMem
import Derived.Lib.ItoaLen
namespace Go.Proofs.YtjnbnejfdleocaaGreatDoor
set_option linter.unusedVariables false
open Go.RowKit Fl

theorem Sb46 : (⟨#[46]⟩ : ByteArray) = Sb [46] := rfl
theorem Sb101 : (⟨#[101]⟩ : ByteArray) = Sb [101] := rfl
theorem Sb45 : (⟨#[45]⟩ : ByteArray) = Sb [45] := rfl
theorem Sb43 : (⟨#[43]⟩ : ByteArray) = Sb [43] := rfl
theorem Sb48 : (⟨#[48]⟩ : ByteArray) = Sb [48] := rfl
theorem Sb4846 : (⟨#[48, 46]⟩ : ByteArray) = Sb [48, 46] := rfl
theorem strN_Sb (l : List Nat) : strN l = Sb (u8s l) := rfl
set_option maxHeartbeats 1000000 in
set_option maxRecDepth 100000 in
theorem shortest_any (b : Nat) (w : World) (h0 : 0 < b) (h1 : b < 9218868437227405312) (hl : Hid (Laid w)) :
    Calls Tryz.prog 44 #[.float .f64 b] w fun e w' => e = .returned (.tuple #[.string (Sb (u8s (shDs b))), .int .i64 (shX b + 1)]) ∧ Below w.heap.size w w' := by
  have HF := Hid.mk' (fmtFloat_any b w h0 h1 hl.out.f)
  have hx := shX_range b h0 h1
  have hn := shDs_len b h0 h1
  obtain ⟨M, hM⟩ : ∃ M, u8s (manN (shDs b)) = M := ⟨_, rfl⟩
  obtain ⟨X, hX⟩ : ∃ X, u8s (expS (shX b)) = X := ⟨_, rfl⟩
  have hT : u8s (ffT b) = M ++ 101 :: X := by rw [ffT_parts, u8s_append, hM, ← hX]; rfl
  have hcut : Lib.cut (M ++ 101 :: X) [101] = (M, X, true) := cut_one M X 101 (hM ▸ man_no_e b)
  have hrep : Lib.replace M [46] [] 1 = u8s (shDs b) := hM ▸ man_digits b
  have hat : Lib.atoi X = some (shX b) := hX ▸ atoi_exp _ ⟨by omega, by omega⟩
  have hXl : X.length ≤ 4 := by rw [← hX]; simp [u8s, expS_len]
  have hMl : M.length ≤ 21 := by
    rw [← hM]
    simp only [u8s, List.length_map]
    cases h : shDs b with
    | nil => simp [manN]
    | cons d r =>
      rw [h] at hn
      cases r with
      | nil => simp [manN]
      | cons e r => simp [manN] at *; omega
  generalize shX b = x at *
  generalize u8s (shDs b) = D at *
  rw [strN_Sb, hT] at HF
  have HC := Hid.mk' hcut
  have HR := Hid.mk' hrep
  have HA := Hid.mk' hat
  clear hT hcut hrep hat hM hX hn
  go_enter Tryz.func44, Tryz.ntmps44
  go_wp2_with fail
  refine HF.out.mono ?_
  rintro e1 w1 ⟨rfl, b1⟩
  obtain ⟨m1, hm1⟩ := (hl.out.below b1).maxl
  go_wp2_with fail
  refine (Tryz.strings_Cut _ _ m1 _ (by rw [Sb_size]; simp; omega) hm1).mono ?_
  rintro e2 w2 ⟨rfl, n2, hw2⟩
  rw [Sb_list, show (⟨#[101]⟩ : ByteArray).data.toList = [101] from rfl, HC.out]
  have b2 : Below w.heap.size w w2 := by rw [hw2]; exact below_draws b1 n2
  have HB2 := Hid.mk' b2
  clear hw2 hm1 b1 b2
  go_wp2_with fail
  refine (Tryz.strconv_Atoi ⟨X.toArray⟩ x (by simp [ByteArray.size]; omega) (by simpa using HA.out) _).mono ?_
  rintro e3 w3 ⟨rfl, t3, hw3⟩
  have b3 : Below w.heap.size w w3 := by rw [hw3]; exact HB2.out.trans (Lib.bytesWorld_below _ _ _ |>.mono HB2.out.size)
  obtain ⟨m3, hm3⟩ := (hl.out.below b3).maxl
  have HB3 := Hid.mk' b3
  clear hw3 b3
  go_wp2_with fail
  refine (Tryz.strings_Replace ⟨M.toArray⟩ ⟨#[46]⟩ ⟨#[]⟩ 1 m3 _ (by simp [ByteArray.size]; omega) hm3 (by decide) (by simp [ByteArray.size]; omega)).mono ?_
  rintro e4 w4 ⟨rfl, b4⟩
  rw [show (⟨M.toArray⟩ : ByteArray).data.toList = M by simp, show (⟨#[46]⟩ : ByteArray).data.toList = [46] from rfl, show (⟨#[]⟩ : ByteArray).data.toList = [] from rfl, HR.out]
  clear hm3
  go_wp2
  go_ret2
  exact ⟨rfl, HB3.out.trans (b4.mono HB3.out.size)⟩

set_option maxHeartbeats 1000000 in
set_option maxRecDepth 100000 in
theorem scientific_any (d : List UInt8) (p : Int) (w : World) (hd : 1 ≤ d.length ∧ d.length ≤ 100) (hp : -10000 ≤ p ∧ p ≤ 10000) (hl : Hid (Laid w)) :
    Calls Tryz.prog 67 #[.string (Sb d), .int .i64 p] w fun e w' => e = .returned (.string (Sb (sciB d p))) ∧ Below w.heap.size w w' := by
  have hs : (Sb d).size = d.length := Sb_size d
  have hdl : (Sb d).data.toList = d := Sb_list d
  have HD := Hid.mk' hdl
  clear hdl
  obtain ⟨q, hq⟩ : ∃ q, (p < 0 ∧ q = -p) ∨ (0 ≤ p ∧ q = p) := by
    rcases Int.lt_or_le p 0 with c | c
    · exact ⟨_, .inl ⟨c, rfl⟩⟩
    · exact ⟨_, .inr ⟨c, rfl⟩⟩
  have hq0 : 0 ≤ q ∧ q ≤ 10000 := by omega
  have hI := Sb_size (Lib.itoa q)
  have hI2 := Lib.itoa_length_le q (by omega) (by omega)
  have hI3 : ((Sb (Lib.itoa q)).size : Int) ≤ 21 := by omega
  have HP : Hid (powB p = (if p < 0 then 45 else 43) :: Lib.itoa q) := by
    show _ = _
    unfold powB
    rcases hq with ⟨c, rfl⟩ | ⟨c, rfl⟩
    · rw [if_pos c, if_pos c]
    · rw [if_neg (by omega), if_neg (by omega)]
  clear hI hI2
  rcases Nat.lt_or_ge 1 d.length with a | a <;> rcases hq with ⟨c, rfl⟩ | ⟨c, rfl⟩
  all_goals
    go_enter Tryz.func67, Tryz.ntmps67
    go_wp2_with fail
    refine (Tryz.strconv_Itoa _ (by omega) (by omega) _ hl.out.u64p).mono ?_
    rintro e1 w1 ⟨rfl, k1, os1, hw1⟩
    have b1 : Below w.heap.size w w1 := by rw [hw1]; exact Lib.below_grow _ _ (Nat.le_refl _) _ _
    clear hw1
    rw [show ∀ I : List UInt8, (⟨I.toArray⟩ : ByteArray) = Sb I from fun _ => rfl]
    go_wp2
    go_ret
    refine ⟨congrArg (fun s => Ending.returned (.string s)) (Sb_ext ?_), b1⟩
    rw [sciB, HP.out]
    simp only [Sb_extract, Sb46, Sb101, Sb45, Sb43, Sb_append, Sb_list]
    first
      | (rw [if_pos a, if_pos c]; simp; done)
      | (rw [if_pos a, if_neg (by omega)]; simp; done)
      | (rw [if_neg (by omega), if_pos c]; simp; done)
      | (rw [if_neg (by omega), if_neg (by omega)]; simp; done)

set_option maxHeartbeats 1000000 in
set_option maxRecDepth 100000 in
theorem laid_any (d : List UInt8) (n : Int) (w : World) (hd : 1 ≤ d.length ∧ d.length ≤ 100) (hn : -9000 ≤ n ∧ n ≤ 9000) (hl : Hid (Laid w)) :
    Calls Tryz.prog 43 #[.string (Sb d), .int .i64 n] w fun e w' => e = .returned (.string (Sb (laidB d n))) ∧ Below w.heap.size w w' := by
  have hs : (Sb d).size = d.length := Sb_size d
  by_cases a1 : n < -5 ∨ 21 < n
  · have HS := Hid.mk' (scientific_any d (n - 1) w hd ⟨by omega, by omega⟩ hl)
    have HE : Hid (laidB d n = sciB d (n - 1)) := by show _ = _; unfold laidB; rw [if_pos a1]
    rcases a1 with a1 | a1
    all_goals
      go_enter Tryz.func43, Tryz.ntmps43
      go_wp2_with fail
      refine HS.out.mono ?_
      rintro e1 w1 ⟨rfl, b1⟩
      go_wp2
      go_ret
      exact ⟨by rw [HE.out]; rfl, b1⟩
  · by_cases a2 : n ≤ 0
    · obtain ⟨k, hk⟩ : ∃ k : Nat, -n = (k : Int) := ⟨(-n).toNat, by omega⟩
      have HE : Hid (laidB d n = [48, 46] ++ zs k ++ d) := by show _ = _; unfold laidB; rw [if_neg a1, if_pos a2, hk]; rfl
      have HR := Hid.mk' (Tryz.strings_Repeat ⟨#[48]⟩ k w (by omega) (by simp [ByteArray.size]; omega))
      rw [show (⟨#[48]⟩ : ByteArray).data.toList = [48] from rfl, repeat_zs] at HR
      have hz := Sb_size (zs k)
      have hz2 : (zs k).length = k := by simp [zs]
      have hz3 : ((Sb (zs k)).size : Int) ≤ 5 := by omega
      clear hz hz2
      have b1' : -5 ≤ n := by omega
      go_enter Tryz.func43, Tryz.ntmps43
      go_wp2_with fail
      refine HR.out.mono ?_
      rintro e1 w1 ⟨rfl, b1⟩
      rw [show ∀ I : List UInt8, (⟨I.toArray⟩ : ByteArray) = Sb I from fun _ => rfl]
      go_wp2
      go_ret
      refine ⟨congrArg (fun s => Ending.returned (.string s)) (Sb_ext ?_), b1⟩
      rw [HE.out]
      simp only [Sb4846, Sb_append, Sb_list]
    · by_cases a3 : n < d.length
      · obtain ⟨k, rfl⟩ : ∃ k : Nat, n = (k : Int) := ⟨n.toNat, by omega⟩
        have HE : Hid (laidB d k = d.take k ++ 46 :: d.drop k) := by show _ = _; unfold laidB; rw [if_neg a1, if_neg a2, if_pos a3]; rfl
        have hk : k < d.length := by omega
        have hk2 : k ≤ 21 := by omega
        have hk0 : 0 < k := by omega
        clear a1 a2 a3
        go_enter Tryz.func43, Tryz.ntmps43
        go_wp2_with fail
        go_region
        go_wp2
        go_ret
        refine ⟨congrArg (fun s => Ending.returned (.string s)) (Sb_ext ?_), below_draws (Below.refl _ _) 1⟩
        rw [HE.out]
        simp only [Sb_extract, Sb46, Sb_append, Sb_list]
        simp
      · obtain ⟨k, hk⟩ : ∃ k : Nat, n - (d.length : Int) = (k : Int) := ⟨(n - d.length).toNat, by omega⟩
        have HE : Hid (laidB d n = d ++ zs k) := by show _ = _; unfold laidB; rw [if_neg a1, if_neg a2, if_neg a3, hk]; rfl
        have HR := Hid.mk' (Tryz.strings_Repeat ⟨#[48]⟩ k w (by omega) (by simp [ByteArray.size]; omega))
        rw [show (⟨#[48]⟩ : ByteArray).data.toList = [48] from rfl, repeat_zs] at HR
        have hz := Sb_size (zs k)
        have hz2 : (zs k).length = k := by simp [zs]
        have hz3 : ((Sb (zs k)).size : Int) ≤ 21 := by omega
        clear hz hz2
        have c1 : (d.length : Int) ≤ n := by omega
        have c2 : 0 < n := by omega
        have c3 : n ≤ 21 := by omega
        clear a1 a2 a3
        go_enter Tryz.func43, Tryz.ntmps43
        go_wp2_with fail
        refine HR.out.mono ?_
        rintro e1 w1 ⟨rfl, b1⟩
        rw [show ∀ I : List UInt8, (⟨I.toArray⟩ : ByteArray) = Sb I from fun _ => rfl]
        go_wp2
        go_ret
        refine ⟨congrArg (fun s => Ending.returned (.string s)) (Sb_ext ?_), b1⟩
        rw [HE.out]
        simp only [Sb_append, Sb_list]
end Go.Proofs.YtjnbnejfdleocaaGreatDoor
