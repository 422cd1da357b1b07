/- lintelref05.Name. -/
import Derived.Test.YtllglkegdlcgcaaGreatDoorRWl
namespace Go.Proofs.YtllglkegdlcgcaaGreatDoor
set_option linter.unusedVariables false
open Go.RowKit

theorem toList_empty (s : ByteArray) : s.toList.isEmpty = (s.size == 0) := by
  have : s.toList.length = s.size := by rw [ByteArray.toList_eq]; simp
  cases hh : s.toList with
  | nil => rw [hh] at this; simp at this; simp [← this]
  | cons a b => rw [hh] at this; simp at this; simp [← this]
theorem rnm_drop (s : ByteArray) (i : Nat) (h : i < s.size) : rnmB (s.data.toList.drop i) = ((letZ (s[i].toNat : Int) || digZ (s[i].toNat : Int)) && rnmB (s.data.toList.drop (i + 1))) := by
  rw [list_drop s i h]; rfl
set_option maxHeartbeats 2000000 in
set_option maxRecDepth 100000 in
theorem rName_any (s : ByteArray) (w : World) (hs : (s.size : Int) ≤ 140737488351232) : Calls Tryz.prog 8 #[.string s] w fun e w' => e = .returned (.bool (nameB s)) ∧ Below w.heap.size w w' := by
  have he := toList_empty s
  by_cases h0 : s.size = 0
  · have e0 : s.toList.isEmpty = true := by rw [he, h0]; rfl
    have hn : nameB s = false := by unfold nameB; rw [h0]; rfl
    rw [hn]
    clear he
    go_enter Tryz.func8, Tryz.ntmps8
    go_wp2
    go_ret
    exact ⟨rfl, Below.refl _ _⟩
  · have h1 : 0 < s.size := by omega
    have e0 : s.toList.isEmpty = false := by rw [he]; simpa using h0
    have i1 : (0 : Int) < (s.size : Int) := by omega
    have hn := name_eq s h1
    have HL := Hid.mk' (fun W => rletter_any (s[0].toNat : Int) W)
    have HW := Hid.mk' (fun W => rWord_any s W)
    have HM := Hid.mk' (fun i (h : i < s.size) W => rmore_any (s[i].toNat : Int) W)
    have HD := Hid.mk' (fun i (h : i < s.size) => rnm_drop s i h)
    obtain ⟨lb, hlb⟩ : ∃ lb, letZ (s[0].toNat : Int) = lb := ⟨_, rfl⟩
    obtain ⟨wb, hwb⟩ : ∃ wb, wordB s = wb := ⟨_, rfl⟩
    obtain ⟨rb, hrb⟩ : ∃ rb, rnmB s.data.toList = rb := ⟨_, rfl⟩
    rw [hlb, hwb, hrb] at hn
    rw [hn]
    rw [hlb] at HL
    rw [hwb] at HW
    have HR : Hid (rnmB (s.data.toList.drop 0) = rb) := Hid.mk' (by rw [List.drop_zero]; exact hrb)
    clear hn hlb hwb hrb he h0
    cases lb
    · rw [Bool.false_and]
      go_enter Tryz.func8, Tryz.ntmps8
      go_wp2_with fail
      refine (HL.out _).mono ?_
      rintro e w1 ⟨rfl, hw1⟩
      rw [hw1]; clear hw1 w1
      go_wp2
      go_ret
      exact ⟨rfl, Below.refl _ _⟩
    · cases wb
      · rw [Bool.true_and, Bool.not_false, Bool.true_and]
        go_enter Tryz.func8, Tryz.ntmps8
        go_wp2_with fail
        refine (HL.out _).mono ?_
        rintro e w1 ⟨rfl, hw1⟩
        rw [hw1]; clear hw1 w1
        go_wp2_with fail
        refine (HW.out _).mono ?_
        rintro e w1 ⟨rfl, b1⟩
        go_wp2_with fail
        go_loop [3] (fun vi => ∃ i : Nat, vi = .int .i64 i ∧ i ≤ s.size ∧ Hid (rnmB (s.data.toList.drop i) = rb)) (fun vi => s.size - (intOf vi).toNat)
        case atStart => exact ⟨0, rfl, Nat.zero_le _, HR⟩
        case round =>
          clear HR HL HW
          obtain ⟨i, rfl, hi, HR⟩ := hrel
          by_cases hlt : i < s.size
          · have j1 : (i : Int) < (s.size : Int) := by omega
            have j2 : (0 : Int) ≤ (i : Int) := by omega
            have HMi := Hid.mk' (HM.out i hlt)
            have hdi := HD.out i hlt
            rw [HR.out] at hdi
            obtain ⟨mb, hmb⟩ : ∃ mb, (letZ (s[i].toNat : Int) || digZ (s[i].toNat : Int)) = mb := ⟨_, rfl⟩
            rw [hmb] at HMi hdi
            have HDI := Hid.mk' hdi
            clear hdi hmb HR
            go_wp2_with fail
            refine (HMi.out _).mono ?_
            rintro e w2 ⟨rfl, hw2⟩
            rw [hw2]; clear hw2 w2
            cases mb
            · have HF : Hid (rb = false) := Hid.mk' (by simpa using HDI.out)
              go_wp2
              go_ret
              rw [HF.out]
              exact ⟨rfl, b1⟩
            · have HF : Hid (rnmB (s.data.toList.drop (i + 1)) = rb) := Hid.mk' (by simpa using HDI.out.symm)
              go_wp2
              go_round
              case rel => exact ⟨i + 1, by go_num, by omega, HF⟩
              case measure => simp [intOf]; omega
          · obtain rfl : i = s.size := by omega
            have j1 : ¬ (s.size : Int) < (s.size : Int) := by omega
            have HF : Hid (rb = true) := Hid.mk' (by rw [← HR.out, List.drop_of_length_le (by simp)]; rfl)
            go_wp2
            go_ret
            rw [HF.out]
            exact ⟨rfl, b1⟩
      · rw [Bool.true_and, Bool.not_true, Bool.false_and]
        go_enter Tryz.func8, Tryz.ntmps8
        go_wp2_with fail
        refine (HL.out _).mono ?_
        rintro e w1 ⟨rfl, hw1⟩
        rw [hw1]; clear hw1 w1
        go_wp2_with fail
        refine (HW.out _).mono ?_
        rintro e w1 ⟨rfl, b1⟩
        go_wp2
        go_ret
        exact ⟨rfl, b1⟩
end Go.Proofs.YtllglkegdlcgcaaGreatDoor
