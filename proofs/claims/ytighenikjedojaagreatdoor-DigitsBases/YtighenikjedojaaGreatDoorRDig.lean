/- lintelref03.digit, run, prefixed, decimal: the document's number texts. -/
import Derived.Test.YtighenikjedojaaGreatDoorTrim
namespace Go.Proofs.YtighenikjedojaaGreatDoor
set_option linter.unusedVariables false
open Go.RowKit

def digitN (c : Nat) : Nat := if 48 ≤ c ∧ c ≤ 57 then c - 48 else if 97 ≤ c ∧ c ≤ 122 then c - 97 + 10 else if 65 ≤ c ∧ c ≤ 90 then c - 65 + 10 else 99

set_option maxHeartbeats 1000000 in
set_option maxRecDepth 100000 in
theorem digit_any (c : Nat) (w : World) (hc : c < 256) :
    Calls Tryz.prog 67 #[.int .u8 c] w fun e w' => e = .returned (.int .i64 (digitN c : Nat)) ∧ w' = w := by
  obtain ⟨z, hz⟩ : ∃ z : Int, (c : Int) = z := ⟨_, rfl⟩
  have h0 : 0 ≤ z := by omega
  have h1 : z < 256 := by omega
  obtain ⟨r, hr⟩ : ∃ r : Int, ((digitN c : Nat) : Int) = r := ⟨_, rfl⟩
  have HR : Hid ((48 ≤ z ∧ z ≤ 57 → r = z - 48) ∧ (97 ≤ z ∧ z ≤ 122 → r = z - 97 + 10) ∧ (65 ≤ z ∧ z ≤ 90 → r = z - 65 + 10) ∧ (¬ (48 ≤ z ∧ z ≤ 57) → ¬ (97 ≤ z ∧ z ≤ 122) → ¬ (65 ≤ z ∧ z ≤ 90) → r = 99)) := by
    unfold digitN at hr
    refine ⟨fun h => ?_, fun h => ?_, fun h => ?_, fun a1 a2 a3 => ?_⟩
    · rw [if_pos (by omega)] at hr; omega
    · rw [if_neg (by omega), if_pos (by omega)] at hr; omega
    · rw [if_neg (by omega), if_neg (by omega), if_pos (by omega)] at hr; omega
    · rw [if_neg (by omega), if_neg (by omega), if_neg (by omega)] at hr; omega
  rw [hz, hr]
  clear hz hr
  by_cases a1 : 48 ≤ z ∧ z ≤ 57
  · have HE := Hid.mk' (HR.out.1 a1)
    clear HR
    go_enter Tryz.func67, Tryz.ntmps67
    go_wp2
    all_goals
      go_ret
      exact ⟨by rw [HE.out]; rfl, rfl⟩
  · by_cases a2 : 97 ≤ z ∧ z ≤ 122
    · have HE := Hid.mk' (HR.out.2.1 a2)
      clear HR
      go_enter Tryz.func67, Tryz.ntmps67
      go_wp2
      all_goals
        go_ret
        exact ⟨by rw [HE.out]; rfl, rfl⟩
    · by_cases a3 : 65 ≤ z ∧ z ≤ 90
      · have HE := Hid.mk' (HR.out.2.2.1 a3)
        clear HR
        go_enter Tryz.func67, Tryz.ntmps67
        go_wp2
        all_goals
          go_ret
          exact ⟨by rw [HE.out]; rfl, rfl⟩
      · have HE := Hid.mk' (HR.out.2.2.2 a1 a2 a3)
        clear HR
        go_enter Tryz.func67, Tryz.ntmps67
        go_wp2
        all_goals
          go_ret
          exact ⟨by rw [HE.out]; rfl, rfl⟩

/-- A text's bytes. -/
def bys (s : ByteArray) : List Nat := s.data.toList.map (·.toNat)
theorem bys_length (s : ByteArray) : (bys s).length = s.size := by simp [bys]
theorem bys_get (s : ByteArray) (i : Nat) (h : i < s.size) : (bys s)[i]'(by rw [bys_length]; exact h) = by' s i := by
  unfold bys by'
  have hl : i < s.data.toList.length := by simpa using h
  rw [List.getElem_map, List.getD_eq_getElem?_getD, List.getElem?_eq_getElem hl]
  rfl
/-- How many digits to a base stand at a place. -/
def runN (s : ByteArray) (at' : Nat) (b : Int) : Nat := (((bys s).drop at').takeWhile fun c => decide ((digitN c : Int) < b)).length
theorem runN_of (s : ByteArray) (p k : Nat) (b : Int) (hp : p + k ≤ s.size) (h1 : ∀ j, j < k → (digitN (by' s (p + j)) : Int) < b) (h2 : p + k < s.size → ¬ (digitN (by' s (p + k)) : Int) < b) : runN s p b = k := by
  have hl : ((bys s).drop p).length = s.size - p := by rw [List.length_drop, bys_length]
  refine takeWhile_len _ k (by rw [hl]; omega) (fun j h hj => ?_) (fun h => ?_)
  · rw [List.getElem_drop, bys_get s (p + j) (by omega)]
    exact decide_eq_true (h1 j hj)
  · rw [hl] at h
    rw [List.getElem_drop, bys_get s (p + k) (by omega)]
    exact decide_eq_false (h2 (by omega))
theorem runN_le (s : ByteArray) (p : Nat) (b : Int) : runN s p b ≤ s.size - p := by
  have := List.IsPrefix.length_le (List.takeWhile_prefix (fun c => decide ((digitN c : Int) < b)) (l := (bys s).drop p))
  rw [List.length_drop, bys_length] at this
  exact this

set_option maxHeartbeats 1000000 in
set_option maxRecDepth 100000 in
theorem run_any (s : ByteArray) (p : Nat) (b : Int) (w : World) (hs : (s.size : Int) ≤ 1048576) (hp : p ≤ s.size) :
    Calls Tryz.prog 38 #[.string s, .int .i64 p, .int .i64 b] w fun e w' => e = .returned (.int .i64 (runN s p b : Nat)) ∧ w' = w := by
  go_enter Tryz.func38, Tryz.ntmps38
  go_wp2
  go_loopw [7] (fun v wr => ∃ k : Nat, v = .int .i64 k ∧ p + k ≤ s.size ∧ Hid (∀ j, j < k → (digitN (by' s (p + j)) : Int) < b) ∧ wr = w) (fun v _ => s.size - (intOf v).toNat)
  case atStart => exact ⟨0, rfl, by omega, fun j hj => by omega, rfl⟩
  case round =>
    obtain ⟨k, rfl, hk, HE, rfl⟩ := hrel
    by_cases hlt : p + k < s.size
    · have i1 : (p : Int) + (k : Int) < (s.size : Int) := by omega
      have i2 : (0 : Int) ≤ (p : Int) + (k : Int) := by omega
      have hbg := by_get s (p + k) hlt
      have HD := Hid.mk' (fun W => digit_any (s[p + k].toNat) W (UInt8.toNat_lt _))
      rw [← hbg] at HD
      obtain ⟨r, hr⟩ : ∃ r : Int, ((digitN (by' s (p + k)) : Nat) : Int) = r := ⟨_, rfl⟩
      rw [hr] at HD
      rw [hbg] at HD
      by_cases hb : r < b
      · have HN : Hid (∀ j, j < k + 1 → (digitN (by' s (p + j)) : Int) < b) := fun j hj => by
          by_cases e : j = k
          · subst e; rw [hr]; exact hb
          · exact HE.out j (by omega)
        clear hr hbg
        go_wp2_with (go_at_call 67; refine (HD.out _).mono ?_; rintro e w3 ⟨rfl, hw3⟩; rw [hw3]; clear hw3 w3)
        go_roundw
        case rel => exact ⟨k + 1, by go_num, by omega, HN, trivial⟩
        case measure => simp [intOf]; omega
      · have HF : Hid (runN s p b = k) := runN_of s p k b hk HE.out (fun h => by rw [hr]; exact hb)
        clear hr hbg
        go_wp2_with (go_at_call 67; refine (HD.out _).mono ?_; rintro e w3 ⟨rfl, hw3⟩; rw [hw3]; clear hw3 w3)
        go_ret
        exact ⟨by rw [HF.out]; rfl, rfl⟩
    · have i1 : ¬ (p : Int) + (k : Int) < (s.size : Int) := by omega
      have HF : Hid (runN s p b = k) := runN_of s p k b hk HE.out (fun h => absurd h hlt)
      go_wp2
      go_ret
      exact ⟨by rw [HF.out]; rfl, rfl⟩

/-- The base of 0x, 0o, 0b; 0: none stands there. -/
def prefN (s : ByteArray) : Nat := if s.size < 2 ∨ by' s 0 ≠ 48 then 0 else if by' s 1 = 120 ∨ by' s 1 = 88 then 16 else if by' s 1 = 111 ∨ by' s 1 = 79 then 8 else if by' s 1 = 98 ∨ by' s 1 = 66 then 2 else 0
set_option maxHeartbeats 1000000 in
set_option maxRecDepth 100000 in
theorem prefixed_any (s : ByteArray) (w : World) (hs : (s.size : Int) ≤ 1048576) :
    Calls Tryz.prog 37 #[.string s] w fun e w' => e = .returned (.int .i64 (prefN s : Nat)) ∧ w' = w := by
  by_cases h2 : s.size < 2
  · have hp : prefN s = 0 := by unfold prefN; rw [if_pos (.inl h2)]
    have i1 : (s.size : Int) < 2 := by omega
    rw [hp]
    go_enter Tryz.func37, Tryz.ntmps37
    go_wp2
    go_ret
    exact ⟨rfl, rfl⟩
  · have i1 : ¬ (s.size : Int) < 2 := by omega
    have i2 : (0 : Int) < (s.size : Int) := by omega
    have i3 : (1 : Int) < (s.size : Int) := by omega
    have e0 := by_get s 0 (by omega)
    have e1 := by_get s 1 (by omega)
    obtain ⟨r, hr⟩ : ∃ r : Int, ((prefN s : Nat) : Int) = r := ⟨_, rfl⟩
    have HR : Hid (((s[0].toNat : Int) ≠ 48 → r = 0) ∧ ((s[0].toNat : Int) = 48 → ((s[1].toNat : Int) = 120 ∨ (s[1].toNat : Int) = 88 → r = 16) ∧ ((s[1].toNat : Int) = 111 ∨ (s[1].toNat : Int) = 79 → r = 8) ∧ ((s[1].toNat : Int) = 98 ∨ (s[1].toNat : Int) = 66 → r = 2) ∧ ((s[1].toNat : Int) ≠ 120 → (s[1].toNat : Int) ≠ 88 → (s[1].toNat : Int) ≠ 111 → (s[1].toNat : Int) ≠ 79 → (s[1].toNat : Int) ≠ 98 → (s[1].toNat : Int) ≠ 66 → r = 0))) := by
      unfold prefN at hr
      rw [e0, e1] at hr
      refine ⟨fun h => ?_, fun h => ⟨fun q => ?_, fun q => ?_, fun q => ?_, fun q1 q2 q3 q4 q5 q6 => ?_⟩⟩
      · rw [if_pos (by omega)] at hr; omega
      · rw [if_neg (by omega), if_pos (by omega)] at hr; omega
      · rw [if_neg (by omega), if_neg (by omega), if_pos (by omega)] at hr; omega
      · rw [if_neg (by omega), if_neg (by omega), if_neg (by omega), if_pos (by omega)] at hr; omega
      · rw [if_neg (by omega), if_neg (by omega), if_neg (by omega), if_neg (by omega)] at hr; omega
    rw [hr]
    clear hr e0 e1
    go_enter Tryz.func37, Tryz.ntmps37
    go_wp2
    all_goals
      go_ret
      refine ⟨ret_int ?_, rfl⟩
      have hr := HR.out
      simp only [beq_iff_eq, beq_eq_false_iff_ne, bne_iff_ne, bne_eq_false_iff_eq, ne_eq] at *
      omega
end Go.Proofs.YtighenikjedojaaGreatDoor
