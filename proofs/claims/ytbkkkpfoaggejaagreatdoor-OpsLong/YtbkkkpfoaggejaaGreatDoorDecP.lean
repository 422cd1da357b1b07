/- digits.unsigned, pointAhead, powerAhead, decimal, based: how many bytes a number has. -/
import Derived.Test.YtbkkkpfoaggejaaGreatDoorWorth
namespace Go.Proofs.YtbkkkpfoaggejaaGreatDoor
set_option linter.unusedVariables false
open Go.RowKit Fl

def tl (s : ByteArray) (i : Nat) : ByteArray := s.extract i s.size
theorem tl_size (s : ByteArray) (i : Nat) : (tl s i).size = s.size - i := by simp [tl]
def sgnN (t : ByteArray) : Bool := decide (0 < t.size ∧ (by' t 0 = 43 ∨ by' t 0 = 45))
def unsT (t : ByteArray) : ByteArray := if sgnN t = true then tl t 1 else t
def minusN (t : ByteArray) : Bool := sgnN t && decide (by' t 0 = 45)
def ptN (s : ByteArray) : Nat := if 0 < s.size ∧ by' s 0 = 46 then 1 + runN (tl s 1) 0 10 else 0
def pwN (s : ByteArray) : Nat := if 0 < s.size ∧ (by' s 0 = 101 ∨ by' s 0 = 69) then (if runN (unsT (tl s 1)) 0 10 = 0 then 0 else s.size - (unsT (tl s 1)).size + runN (unsT (tl s 1)) 0 10) else 0
def decB (s : ByteArray) : Nat := if runN s 0 10 = 0 ∧ ptN (tl s (runN s 0 10)) < 2 then 0 else runN s 0 10 + ptN (tl s (runN s 0 10)) + pwN (tl s (runN s 0 10 + ptN (tl s (runN s 0 10))))
def basedN (s : ByteArray) : Nat := if prefN s = 0 then 0 else if runN (tl s 2) 0 (prefN s : Nat) = 0 then 0 else 2 + runN (tl s 2) 0 (prefN s : Nat)
theorem empty_of {s : ByteArray} (h : s.size = 0) : s = ⟨#[]⟩ := ByteArray.ext (Array.eq_empty_of_size_eq_zero h)
theorem ne_empty {s : ByteArray} (h : 0 < s.size) : s.toList.isEmpty = false := by
  have : s.toList.length = s.size := by rw [ByteArray.toList_eq]; simp
  cases hh : s.toList with
  | nil => rw [hh] at this; simp at this; omega
  | cons a b => rfl
theorem unsT_size (t : ByteArray) : (unsT t).size ≤ t.size := by
  unfold unsT
  split
  · rw [tl_size]; omega
  · exact Nat.le_refl _
theorem runN_le' (s : ByteArray) (b : Int) : runN s 0 b ≤ s.size := by have := runN_le s 0 b; omega

set_option maxHeartbeats 1000000 in
set_option maxRecDepth 100000 in
theorem unsigned_any (t : ByteArray) (w : World) (hs : (t.size : Int) ≤ 1048576) :
    Calls Tryz.prog 136 #[.string t] w fun e w' => e = .returned (.tuple #[.string (unsT t), .bool (minusN t)]) ∧ Below w.heap.size w w' := by
  by_cases h0 : t.size = 0
  · obtain rfl := empty_of h0
    go_enter Tryz.func136, Tryz.ntmps136
    go_wp2
    go_ret2
    exact ⟨rfl, Below.refl _ _⟩
  · have hne := ne_empty (s := t) (by omega)
    have hb := PlainAid.get_bt t
    have hz0 := bt_by t 0
    obtain ⟨z, hz⟩ : ∃ z : Int, PlainAid.bt t 0 = z := ⟨_, rfl⟩
    have hzz : (by' t 0 : Int) = z := by rw [← hz0, hz]
    have h1 : 1 ≤ (t.size : Int) := by omega
    by_cases a1 : z = 43
    · have HU : Hid (unsT t = tl t 1) := by show _ = _; unfold unsT sgnN; rw [if_pos (decide_eq_true ⟨by omega, by omega⟩)]
      have HM : Hid (minusN t = false) := by show _ = _; unfold minusN; rw [decide_eq_false (show ¬ by' t 0 = 45 by omega), Bool.and_false]
      have q1 : (z != 43) = false := by rw [bne_eq_false_iff_eq]; exact a1
      have q2 : (z == 45) = false := by rw [beq_eq_false_iff_ne]; omega
      clear hz0 hzz a1
      go_enter Tryz.func136, Tryz.ntmps136
      go_wp2_with fail
      go_region
      go_wp2
      go_ret2
      exact ⟨by rw [HU.out, HM.out]; rfl, below_draws (Below.refl _ _) 1⟩
    · have q1 : (z != 43) = true := by rw [bne_iff_ne]; exact a1
      by_cases a2 : z = 45
      · have HU : Hid (unsT t = tl t 1) := by show _ = _; unfold unsT sgnN; rw [if_pos (decide_eq_true ⟨by omega, by omega⟩)]
        have HM : Hid (minusN t = true) := by show _ = _; unfold minusN sgnN; rw [decide_eq_true (show by' t 0 = 45 by omega), decide_eq_true ⟨by omega, by omega⟩]; rfl
        have q3 : (z != 45) = false := by rw [bne_eq_false_iff_eq]; exact a2
        have q2 : (z == 45) = true := by rw [beq_iff_eq]; exact a2
        clear hz0 hzz a1 a2
        go_enter Tryz.func136, Tryz.ntmps136
        go_wp2_with fail
        go_region
        go_wp2
        go_ret2
        exact ⟨by rw [HU.out, HM.out]; rfl, below_draws (Below.refl _ _) 1⟩
      · have HU : Hid (unsT t = t) := by show _ = _; unfold unsT sgnN; rw [if_neg (by rw [decide_eq_true_iff]; omega)]
        have HM : Hid (minusN t = false) := by show _ = _; unfold minusN; rw [decide_eq_false (show ¬ by' t 0 = 45 by omega), Bool.and_false]
        have q3 : (z != 45) = true := by rw [bne_iff_ne]; exact a2
        clear hz0 hzz a1 a2
        go_enter Tryz.func136, Tryz.ntmps136
        go_wp2
        go_ret2
        exact ⟨by rw [HU.out, HM.out]; rfl, Below.refl _ _⟩
set_option maxHeartbeats 1000000 in
set_option maxRecDepth 100000 in
theorem point_ahead (s : ByteArray) (w : World) (hs : (s.size : Int) ≤ 1048576) :
    Calls Tryz.prog 179 #[.string s] w fun e w' => e = .returned (.int .i64 (ptN s : Nat)) ∧ Below w.heap.size w w' := by
  by_cases h0 : s.size = 0
  · obtain rfl := empty_of h0
    go_enter Tryz.func179, Tryz.ntmps179
    go_wp2
    go_ret
    exact ⟨rfl, Below.refl _ _⟩
  · have hne := ne_empty (s := s) (by omega)
    have hb := PlainAid.get_bt s
    have hz0 := bt_by s 0
    obtain ⟨z, hz⟩ : ∃ z : Int, PlainAid.bt s 0 = z := ⟨_, rfl⟩
    have hzz : (by' s 0 : Int) = z := by rw [← hz0, hz]
    have h1 : 1 ≤ (s.size : Int) := by omega
    by_cases a1 : z = 46
    · have HP : Hid (ptN s = 1 + runN (tl s 1) 0 10) := by show _ = _; unfold ptN; rw [if_pos ⟨by omega, by omega⟩]
      have q1 : (z != 46) = false := by rw [bne_eq_false_iff_eq]; exact a1
      have HD := Hid.mk' (fun W => digitsAhead_any (tl s 1) 10 W (by rw [tl_size]; omega) ⟨by omega, by omega⟩)
      have hr := runN_le' (tl s 1) 10
      rw [tl_size] at hr
      obtain ⟨r, hr2⟩ : ∃ r, runN (tl s 1) 0 10 = r := ⟨_, rfl⟩
      rw [hr2] at HD HP hr
      clear hz0 hzz a1 hr2
      go_enter Tryz.func179, Tryz.ntmps179
      go_wp2_with fail
      refine (HD.out _).mono ?_
      rintro e w1 ⟨rfl, b1⟩
      go_wp2
      go_ret
      exact ⟨by rw [HP.out]; exact ret_int (by omega), b1⟩
    · have HP : Hid (ptN s = 0) := by show _ = _; unfold ptN; rw [if_neg (by omega)]
      have q1 : (z != 46) = true := by rw [bne_iff_ne]; exact a1
      clear hz0 hzz a1
      go_enter Tryz.func179, Tryz.ntmps179
      go_wp2
      go_ret
      exact ⟨by rw [HP.out]; rfl, Below.refl _ _⟩
section
open Go.RowKit Fl

theorem ptN_le (s : ByteArray) : ptN s ≤ s.size := by
  unfold ptN
  split
  · have := runN_le' (tl s 1) 10
    rw [tl_size] at this
    omega
  · omega
theorem pwN_le (s : ByteArray) : pwN s ≤ s.size := by
  unfold pwN
  split
  · have := runN_le' (unsT (tl s 1)) 10
    have h2 := unsT_size (tl s 1)
    rw [tl_size] at h2
    split <;> omega
  · omega
set_option maxHeartbeats 1000000 in
set_option maxRecDepth 100000 in
theorem power_ahead (s : ByteArray) (w : World) (hs : (s.size : Int) ≤ 1048576) :
    Calls Tryz.prog 180 #[.string s] w fun e w' => e = .returned (.int .i64 (pwN s : Nat)) ∧ Below w.heap.size w w' := by
  by_cases h0 : s.size = 0
  · obtain rfl := empty_of h0
    go_enter Tryz.func180, Tryz.ntmps180
    go_wp2
    go_ret
    exact ⟨rfl, Below.refl _ _⟩
  · have hne := ne_empty (s := s) (by omega)
    have hb := PlainAid.get_bt s
    have hz0 := bt_by s 0
    obtain ⟨z, hz⟩ : ∃ z : Int, PlainAid.bt s 0 = z := ⟨_, rfl⟩
    have hzz : (by' s 0 : Int) = z := by rw [← hz0, hz]
    have h1 : 1 ≤ (s.size : Int) := by omega
    by_cases a1 : z = 101 ∨ z = 69
    · have HP0 : pwN s = if runN (unsT (tl s 1)) 0 10 = 0 then 0 else s.size - (unsT (tl s 1)).size + runN (unsT (tl s 1)) 0 10 := by unfold pwN; rw [if_pos ⟨by omega, by omega⟩]
      have HU := Hid.mk' (fun W => unsigned_any (tl s 1) W (by rw [tl_size]; omega))
      have h2 := unsT_size (tl s 1)
      rw [tl_size] at h2
      have HD := Hid.mk' (fun W => digitsAhead_any (unsT (tl s 1)) 10 W (by omega) ⟨by omega, by omega⟩)
      have hr := runN_le' (unsT (tl s 1)) 10
      generalize unsT (tl s 1) = u at *
      generalize minusN (tl s 1) = mi at *
      obtain ⟨r, hr2⟩ : ∃ r, runN u 0 10 = r := ⟨_, rfl⟩
      rw [hr2] at HD HP0 hr
      have HP := Hid.mk' HP0
      have hu1 : (u.size : Int) ≤ s.size := by omega
      have q0 : (z != 101) = true ∧ (z != 69) = false ∨ (z != 101) = false := by
        rcases a1 with rfl | rfl <;> decide
      clear hz0 hzz hr2 HP0 a1
      by_cases hr0 : r = 0
      · have q5 : ((r : Int) == 0) = true := by rw [beq_iff_eq]; omega
        have HQ := Hid.mk' hr0
        clear hr0
        rcases q0 with ⟨q1, q2⟩ | q1
        all_goals
          go_enter Tryz.func180, Tryz.ntmps180
          go_wp2_with fail
          refine (HU.out _).mono ?_
          rintro e w1 ⟨rfl, b1⟩
          go_wp2_with fail
          refine (HD.out _).mono ?_
          rintro e w2 ⟨rfl, b2⟩
          go_wp2
          go_ret
          exact ⟨by rw [HP.out, if_pos HQ.out]; rfl, b1.trans (b2.mono b1.size)⟩
      · have q5 : ((r : Int) == 0) = false := by rw [beq_eq_false_iff_ne]; omega
        rcases q0 with ⟨q1, q2⟩ | q1
        all_goals
          go_enter Tryz.func180, Tryz.ntmps180
          go_wp2_with fail
          refine (HU.out _).mono ?_
          rintro e w1 ⟨rfl, b1⟩
          go_wp2_with fail
          refine (HD.out _).mono ?_
          rintro e w2 ⟨rfl, b2⟩
          go_wp2
          go_ret
          exact ⟨by rw [HP.out, if_neg hr0]; exact ret_int (by omega), b1.trans (b2.mono b1.size)⟩
    · have HP : Hid (pwN s = 0) := by show _ = _; unfold pwN; rw [if_neg (by omega)]
      have q1 : (z != 101) = true := by rw [bne_iff_ne]; omega
      have q2 : (z != 69) = true := by rw [bne_iff_ne]; omega
      clear hz0 hzz a1
      go_enter Tryz.func180, Tryz.ntmps180
      go_wp2
      go_ret
      exact ⟨by rw [HP.out]; rfl, Below.refl _ _⟩
set_option maxHeartbeats 1000000 in
set_option maxRecDepth 100000 in
theorem decimal_any (s : ByteArray) (w : World) (hs : (s.size : Int) ≤ 1048576) :
    Calls Tryz.prog 157 #[.string s] w fun e w' => e = .returned (.int .i64 (decB s : Nat)) ∧ Below w.heap.size w w' := by
  have HA := Hid.mk' (fun W => digitsAhead_any s 10 W hs ⟨by omega, by omega⟩)
  have ha := runN_le' s 10
  have hD0 : decB s = if runN s 0 10 = 0 ∧ ptN (tl s (runN s 0 10)) < 2 then 0 else runN s 0 10 + ptN (tl s (runN s 0 10)) + pwN (tl s (runN s 0 10 + ptN (tl s (runN s 0 10)))) := rfl
  generalize runN s 0 10 = a at *
  have HF := Hid.mk' (fun W => point_ahead (tl s a) W (by rw [tl_size]; omega))
  have hf := ptN_le (tl s a)
  rw [tl_size] at hf
  generalize ptN (tl s a) = f at *
  have HP := Hid.mk' (fun W => power_ahead (tl s (a + f)) W (by rw [tl_size]; omega))
  have hp := pwN_le (tl s (a + f))
  rw [tl_size] at hp
  generalize pwN (tl s (a + f)) = p at *
  have HD := Hid.mk' hD0
  clear hD0
  by_cases c : a = 0 ∧ f < 2
  · have q1 : ((a : Int) == 0) = true := by rw [beq_iff_eq]; omega
    have q2 : (f : Int) < 2 := by omega
    have HQ := Hid.mk' c
    clear c
    go_enter Tryz.func157, Tryz.ntmps157
    go_wp2_with fail
    refine (HA.out _).mono ?_
    rintro e w1 ⟨rfl, b1⟩
    go_wp2_with fail
    refine (HF.out _).mono ?_
    rintro e w2 ⟨rfl, b2⟩
    go_wp2
    go_ret
    exact ⟨by rw [HD.out, if_pos HQ.out]; rfl, b1.trans (b2.mono b1.size)⟩
  · have q0 : ((a : Int) == 0) = false ∨ ((a : Int) == 0) = true ∧ 2 ≤ (f : Int) := by
      by_cases h : a = 0
      · exact .inr ⟨by rw [beq_iff_eq]; omega, by omega⟩
      · exact .inl (by rw [beq_eq_false_iff_ne]; omega)
    rcases q0 with q1 | ⟨q1, q2⟩
    all_goals
      go_enter Tryz.func157, Tryz.ntmps157
      go_wp2_with fail
      refine (HA.out _).mono ?_
      rintro e w1 ⟨rfl, b1⟩
      go_wp2_with fail
      refine (HF.out _).mono ?_
      rintro e w2 ⟨rfl, b2⟩
      go_wp2_with fail
      refine (HP.out _).mono ?_
      rintro e w3 ⟨rfl, b3⟩
      go_wp2
      go_ret
      exact ⟨by rw [HD.out, if_neg c]; exact ret_int (by omega), (b1.trans (b2.mono b1.size)).trans (b3.mono (Nat.le_trans b1.size b2.size))⟩
theorem pref_cases (s : ByteArray) : prefN s = 0 ∨ (2 ≤ s.size ∧ (prefN s = 16 ∨ prefN s = 8 ∨ prefN s = 2)) := by
  unfold prefN
  by_cases h : s.size < 2 ∨ by' s 0 ≠ 48
  · rw [if_pos h]; exact .inl rfl
  · rw [if_neg h]
    by_cases a1 : by' s 1 = 120 ∨ by' s 1 = 88
    · rw [if_pos a1]; exact .inr ⟨by omega, .inl rfl⟩
    · rw [if_neg a1]
      by_cases a2 : by' s 1 = 111 ∨ by' s 1 = 79
      · rw [if_pos a2]; exact .inr ⟨by omega, .inr (.inl rfl)⟩
      · rw [if_neg a2]
        by_cases a3 : by' s 1 = 98 ∨ by' s 1 = 66
        · rw [if_pos a3]; exact .inr ⟨by omega, .inr (.inr rfl)⟩
        · rw [if_neg a3]; exact .inl rfl
set_option maxHeartbeats 1000000 in
set_option maxRecDepth 100000 in
theorem based_any (s : ByteArray) (w : World) (hs : (s.size : Int) ≤ 1048576) (hl : Hid (LaidN w)) :
    Calls Tryz.prog 134 #[.string s] w fun e w' => e = .returned (.int .i64 (basedN s : Nat)) ∧ Below w.heap.size w w' := by
  have HL := Hid.mk' (fun W hW => letter_any s W hs hW)
  have hB0 : basedN s = if prefN s = 0 then 0 else if runN (tl s 2) 0 (prefN s : Nat) = 0 then 0 else 2 + runN (tl s 2) 0 (prefN s : Nat) := rfl
  have hp := pref_cases s
  generalize prefN s = p at *
  by_cases c : p = 0
  · have q1 : ((p : Int) == 0) = true := by rw [beq_iff_eq]; omega
    rw [if_pos c] at hB0
    have HB := Hid.mk' hB0
    clear hB0 hp c
    go_enter Tryz.func134, Tryz.ntmps134
    go_wp2_with fail
    refine (HL.out _ hl).mono ?_
    rintro e w1 ⟨rfl, b1⟩
    go_wp2
    go_ret
    exact ⟨by rw [HB.out]; rfl, b1⟩
  · have q1 : ((p : Int) == 0) = false := by rw [beq_eq_false_iff_ne]; omega
    have hp2 := hp.resolve_left c
    have HA := Hid.mk' (fun W => digitsAhead_any (tl s 2) (p : Nat) W (by rw [tl_size]; omega) ⟨by omega, by omega⟩)
    have ha := runN_le' (tl s 2) (p : Nat)
    rw [tl_size] at ha
    generalize runN (tl s 2) 0 (p : Nat) = a at *
    have HB := Hid.mk' hB0
    have h2 : 2 ≤ (s.size : Int) := by omega
    clear hB0 hp hp2
    by_cases c2 : a = 0
    · have q2 : ((a : Int) == 0) = true := by rw [beq_iff_eq]; omega
      have HQ := Hid.mk' c2
      clear c2
      go_enter Tryz.func134, Tryz.ntmps134
      go_wp2_with fail
      refine (HL.out _ hl).mono ?_
      rintro e w1 ⟨rfl, b1⟩
      go_wp2_with fail
      refine (HA.out _).mono ?_
      rintro e w2 ⟨rfl, b2⟩
      go_wp2
      go_ret
      exact ⟨by rw [HB.out, if_neg c, if_pos HQ.out]; rfl, b1.trans (b2.mono b1.size)⟩
    · have q2 : ((a : Int) == 0) = false := by rw [beq_eq_false_iff_ne]; omega
      go_enter Tryz.func134, Tryz.ntmps134
      go_wp2_with fail
      refine (HL.out _ hl).mono ?_
      rintro e w1 ⟨rfl, b1⟩
      go_wp2_with fail
      refine (HA.out _).mono ?_
      rintro e w2 ⟨rfl, b2⟩
      go_wp2
      go_ret
      exact ⟨by rw [HB.out, if_neg c, if_neg c2]; exact ret_int (by omega), b1.trans (b2.mono b1.size)⟩
end
end Go.Proofs.YtbkkkpfoaggejaaGreatDoor
