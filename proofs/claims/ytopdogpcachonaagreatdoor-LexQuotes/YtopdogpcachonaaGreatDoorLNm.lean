/- lex.isLetter, isDigit, nameAhead, Name: names, any text. -/
import Derived.Test.YtopdogpcachonaaGreatDoorLWd
namespace Go.Proofs.YtopdogpcachonaaGreatDoor
set_option linter.unusedVariables false
open Go.RowKit

def letZ (z : Int) : Bool := decide ((97 ≤ z ∧ z ≤ 122) ∨ (65 ≤ z ∧ z ≤ 90) ∨ z = 36 ∨ z = 95)
def digZ (z : Int) : Bool := decide (48 ≤ z ∧ z ≤ 57)
theorem ret_bool' {a b : Bool} (h : a = b) : Ending.returned (.bool a) = .returned (.bool b) := by rw [h]
set_option maxHeartbeats 1000000 in
theorem isLetter_any (z : Int) (w : World) : Calls Tryz.prog 82 #[.int .u8 z] w fun e w' => e = .returned (.bool (letZ z)) ∧ w' = w := by
  obtain ⟨r, hr⟩ : ∃ r, letZ z = r := ⟨_, rfl⟩
  rw [hr]
  have HR : Hid (letZ z = r) := Hid.mk' hr
  clear hr
  go_enter Tryz.func82, Tryz.ntmps82
  go_wp2
  all_goals
    go_ret
    refine ⟨ret_bool' ?_, rfl⟩
    rw [← HR.out]
    unfold letZ
    first
      | (symm; rw [decide_eq_true_eq]; omega)
      | (symm; rw [decide_eq_false_iff_not]; omega)
      | (rw [decide_eq_decide]; omega)
      | (rw [Bool.eq_iff_iff, decide_eq_true_eq, beq_iff_eq]; omega)
      | (rw [Bool.eq_iff_iff, decide_eq_true_eq]; simp; omega)
set_option maxHeartbeats 1000000 in
theorem isDigit_any (z : Int) (w : World) : Calls Tryz.prog 83 #[.int .u8 z] w fun e w' => e = .returned (.bool (digZ z)) ∧ w' = w := by
  obtain ⟨r, hr⟩ : ∃ r, digZ z = r := ⟨_, rfl⟩
  rw [hr]
  have HR : Hid (digZ z = r) := Hid.mk' hr
  clear hr
  go_enter Tryz.func83, Tryz.ntmps83
  go_wp2
  all_goals
    go_ret
    refine ⟨ret_bool' ?_, rfl⟩
    rw [← HR.out]
    unfold digZ
    first
      | (symm; rw [decide_eq_true_eq]; omega)
      | (symm; rw [decide_eq_false_iff_not]; omega)
      | (rw [decide_eq_decide]; omega)
      | (rw [Bool.eq_iff_iff, decide_eq_true_eq, beq_iff_eq]; omega)
      | (rw [Bool.eq_iff_iff, decide_eq_true_eq]; simp; omega)
/-- How far a name goes that begins there. -/
def nmB (i : Nat) (c : UInt8) : Bool := letZ (c.toNat : Int) || (i != 0 && digZ (c.toNat : Int))
def nmN : List UInt8 → Nat → Nat
  | [], i => i
  | c :: r, i => if nmB i c then nmN r (i + 1) else i
theorem nmN_le : ∀ (l : List UInt8) (i : Nat), nmN l i ≤ i + l.length
  | [], i => Nat.le_refl _
  | c :: r, i => by
    unfold nmN
    split
    · have := nmN_le r (i + 1); simp; omega
    · simp
theorem list_drop (s : ByteArray) (i : Nat) (h : i < s.size) : s.data.toList.drop i = s[i] :: s.data.toList.drop (i + 1) := by
  rw [List.drop_eq_getElem_cons (by simpa using h)]
  rfl
set_option maxHeartbeats 1000000 in
set_option maxRecDepth 100000 in
theorem nameAhead_any (s : ByteArray) (w : World) (hs : (s.size : Int) ≤ 140737488351232) : Calls Tryz.prog 63 #[.string s] w fun e w' => e = .returned (.int .i64 (nmN s.data.toList 0 : Nat)) ∧ w' = w := by
  have HL := Hid.mk' (fun z W => isLetter_any z W)
  have HD := Hid.mk' (fun z W => isDigit_any z W)
  obtain ⟨R, hR⟩ : ∃ R, nmN s.data.toList 0 = R := ⟨_, rfl⟩
  rw [hR]
  have HR : Hid (nmN (s.data.toList.drop 0) 0 = R) := Hid.mk' (by rw [List.drop_zero]; exact hR)
  clear hR
  go_enter Tryz.func63, Tryz.ntmps63
  go_wp2_with fail
  go_loop [6] (fun vi => ∃ i : Nat, vi = .int .i64 i ∧ i ≤ s.size ∧ Hid (nmN (s.data.toList.drop i) i = R)) (fun vi => s.size - (intOf vi).toNat)
  case atStart => exact ⟨0, rfl, Nat.zero_le _, HR⟩
  case round =>
    clear HR
    obtain ⟨i, rfl, hi, HR⟩ := hrel
    by_cases hlt : i < s.size
    · have i1 : (i : Int) < (s.size : Int) := by omega
      have i2 : (0 : Int) ≤ (i : Int) := by omega
      have HR2 : Hid ((if nmB i s[i] then nmN (s.data.toList.drop (i + 1)) (i + 1) else i) = R) := Hid.mk' (by rw [← HR.out, list_drop s i hlt, nmN])
      have HLc := Hid.mk' (fun W => HL.out (s[i].toNat : Int) W)
      have HDc := Hid.mk' (fun W => HD.out (s[i].toNat : Int) W)
      obtain ⟨lb, hlb⟩ : ∃ lb, letZ (s[i].toNat : Int) = lb := ⟨_, rfl⟩
      obtain ⟨db, hdb⟩ : ∃ db, digZ (s[i].toNat : Int) = db := ⟨_, rfl⟩
      have hnb : nmB i s[i] = (lb || (i != 0 && db)) := by unfold nmB; rw [hlb, hdb]
      rw [hnb] at HR2
      rw [hlb] at HLc
      rw [hdb] at HDc
      clear hnb hlb hdb HR HL HD
      cases lb
      · by_cases h0 : i = 0
        · subst h0
          have HF : Hid (0 = R) := Hid.mk' (by simpa using HR2.out)
          clear HR2 HDc
          go_wp2_with fail
          refine (HLc.out _).mono ?_
          rintro e w1 ⟨rfl, hw1⟩
          rw [hw1]; clear hw1 w1
          go_wp2
          go_ret
          rw [← HF.out]
          exact ⟨rfl, rfl⟩
        · have z0 : ((i : Int) == 0) = false := by simp; omega
          have hi0 : (i != 0) = true := by simpa using h0
          rw [hi0] at HR2
          go_wp2_with fail
          refine (HLc.out _).mono ?_
          rintro e w1 ⟨rfl, hw1⟩
          rw [hw1]; clear hw1 w1
          go_wp2_with fail
          refine (HDc.out _).mono ?_
          rintro e w1 ⟨rfl, hw1⟩
          rw [hw1]; clear hw1 w1
          cases db
          · have HF : Hid (i = R) := Hid.mk' (by simpa using HR2.out)
            go_wp2
            go_ret
            rw [← HF.out]
            exact ⟨rfl, rfl⟩
          · have HF : Hid (nmN (s.data.toList.drop (i + 1)) (i + 1) = R) := Hid.mk' (by simpa using HR2.out)
            go_wp2
            go_round
            case rel => exact ⟨i + 1, by go_num, by omega, HF⟩
            case measure => simp [intOf]; omega
      · have HF : Hid (nmN (s.data.toList.drop (i + 1)) (i + 1) = R) := Hid.mk' (by simpa using HR2.out)
        clear HR2 HDc
        go_wp2_with fail
        refine (HLc.out _).mono ?_
        rintro e w1 ⟨rfl, hw1⟩
        rw [hw1]; clear hw1 w1
        go_wp2
        go_round
        case rel => exact ⟨i + 1, by go_num, by omega, HF⟩
        case measure => simp [intOf]; omega
    · obtain rfl : i = s.size := by omega
      have i1 : ¬ (s.size : Int) < (s.size : Int) := by omega
      have HF : Hid (s.size = R) := Hid.mk' (by rw [← HR.out, List.drop_of_length_le (by simp), nmN])
      go_wp2
      go_ret
      rw [← HF.out]
      exact ⟨rfl, rfl⟩
/-- Whether a text is a name. -/
def nameB (s : ByteArray) : Bool := s.size != 0 && (nmN s.data.toList 0 == s.size && !wordB s)
end Go.Proofs.YtopdogpcachonaaGreatDoor
