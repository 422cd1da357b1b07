/- lintelref05.letter, more, Among, list, Words, Word, Name. -/
import Derived.Test.YtllglkegdlcgcaaGreatDoorLNm
import Derived.Test.YtllglkegdlcgcaaGreatDoorRdSt
import Derived.Test.YtllglkegdlcgcaaGreatDoorOwn
namespace Go.Proofs.YtllglkegdlcgcaaGreatDoor
set_option linter.unusedVariables false
open Go.RowKit

set_option maxHeartbeats 1000000 in
theorem rletter_any (z : Int) (w : World) : Calls Tryz.prog 13 #[.int .u8 z] w fun e w' => e = .returned (.bool (letZ z)) ∧ w' = w := by
  obtain ⟨r, hr⟩ : ∃ r, letZ z = r := ⟨_, rfl⟩
  rw [hr]
  have HR : Hid (letZ z = r) := Hid.mk' hr
  clear hr
  go_enter Tryz.func13, Tryz.ntmps13
  go_wp2
  all_goals
    go_ret
    refine ⟨ret_bool' ?_, rfl⟩
    rw [← HR.out]
    unfold letZ
    first
      | (symm; rw [decide_eq_true_eq]; omega)
      | (symm; rw [decide_eq_false_iff_not]; omega)
      | (rw [decide_eq_decide]; omega)
      | (rw [Bool.eq_iff_iff, decide_eq_true_eq, beq_iff_eq]; omega)
      | (rw [Bool.eq_iff_iff, decide_eq_true_eq]; simp; omega)
set_option maxHeartbeats 1000000 in
theorem rmore_any (z : Int) (w : World) : Calls Tryz.prog 14 #[.int .u8 z] w fun e w' => e = .returned (.bool (letZ z || digZ z)) ∧ w' = w := by
  have HL := Hid.mk' (fun W => rletter_any z W)
  obtain ⟨lb, hlb⟩ : ∃ lb, letZ z = lb := ⟨_, rfl⟩
  obtain ⟨r, hr⟩ : ∃ r, digZ z = r := ⟨_, rfl⟩
  rw [hlb] at HL
  rw [hlb, hr]
  have HR : Hid (digZ z = r) := Hid.mk' hr
  clear hr hlb
  go_enter Tryz.func14, Tryz.ntmps14
  go_wp2_with fail
  refine (HL.out _).mono ?_
  rintro e w1 ⟨rfl, hw1⟩
  rw [hw1]; clear hw1 w1
  cases lb
  · go_wp2
    all_goals
      go_ret
      refine ⟨ret_bool' ?_, rfl⟩
      (try rw [Bool.false_or])
      rw [← HR.out]
      unfold digZ
      first
        | (symm; rw [decide_eq_true_eq]; omega)
        | (symm; rw [decide_eq_false_iff_not]; omega)
        | (rw [decide_eq_decide]; omega)
  · go_wp2
    go_ret
    exact ⟨rfl, rfl⟩
/-- Whether a text is one of a list. -/
def amongB (ts : List ByteArray) (s : ByteArray) : Bool := ts.any (fun t => t.toList == s.toList)
set_option maxHeartbeats 1000000 in
set_option maxRecDepth 100000 in
theorem among_any (ts : List ByteArray) (s : ByteArray) (hl : ts.length ≤ 1000000) (v : Value) (w : World) (hv : RdS w v ts) :
    Calls Tryz.prog 10 #[v, .string s] w fun e w' => e = .returned (.bool (amongB ts s)) ∧ w' = w := by
  obtain ⟨x, c, rfl⟩ := hv.form
  have HV := Hid.mk' hv
  obtain ⟨R, hR⟩ : ∃ R, amongB ts s = R := ⟨_, rfl⟩
  rw [hR]
  have HR : Hid (amongB (ts.drop 0) s = R) := Hid.mk' (by rw [List.drop_zero]; exact hR)
  clear hv hR
  obtain ⟨N, hN⟩ : ∃ N, ts.length = N := ⟨_, rfl⟩
  rw [hN] at hl HV ⊢
  have HN := Hid.mk' hN
  clear hN
  go_enter Tryz.func10, Tryz.ntmps10
  go_wp2_with fail
  go_loop [9] (fun vi => ∃ i : Nat, vi = .int .i64 i ∧ i ≤ N ∧ Hid (amongB (ts.drop i) s = R)) (fun vi => N - (intOf vi).toNat)
  case atStart => exact ⟨0, rfl, Nat.zero_le _, HR⟩
  case round =>
    clear HR
    obtain ⟨i, rfl, hi, HR⟩ := hrel
    by_cases hlt : i < N
    · have zi : (i : Int) < (N : Int) := by omega
      have hil : i < ts.length := by rw [HN.out]; exact hlt
      rcases HV.out with ⟨a', c', e', h'⟩ | ⟨g, o, c', e', hlc, hg, hcc⟩
      · rw [h'] at hil; simp at hil
      · obtain rfl : x = some ⟨g, o, none⟩ := by injection e'
        have cc := hcc i hil
        obtain ⟨t, htt⟩ : ∃ t, ts[i] = t := ⟨_, rfl⟩
        have HR2 : Hid (((t.toList == s.toList) || amongB (ts.drop (i + 1)) s) = R) := Hid.mk' (by rw [← HR.out, List.drop_eq_getElem_cons hil, htt]; rfl)
        rw [htt] at cc
        clear hcc htt e' hlc HR
        obtain ⟨tb, htb⟩ : ∃ tb, (t.toList == s.toList) = tb := ⟨_, rfl⟩
        rw [htb] at HR2
        cases tb
        · have HF : Hid (amongB (ts.drop (i + 1)) s = R) := Hid.mk' (by simpa using HR2.out)
          clear HR2
          go_wp2
          go_round
          case rel => exact ⟨i + 1, by go_num, by omega, HF⟩
          case measure => simp [intOf]; omega
        · have HF : Hid (true = R) := Hid.mk' (by simpa using HR2.out)
          clear HR2
          go_wp2
          go_ret
          rw [← HF.out]
          exact ⟨rfl, rfl⟩
    · obtain rfl : i = N := by omega
      have zi : ¬ (i : Int) < (i : Int) := by omega
      have HF : Hid (false = R) := Hid.mk' (by rw [← HR.out, List.drop_of_length_le (by rw [HN.out]; exact Nat.le_refl _)]; rfl)
      go_wp2
      go_ret
      rw [← HF.out]
      exact ⟨rfl, rfl⟩
end Go.Proofs.YtllglkegdlcgcaaGreatDoor
