/- units.Compare and lintelref01.Compare: texts compare unit by unit, as their bytes do. -/
import Derived.Test.YtcjpoabknlpopaaDoorRUnits
import Derived.Lib.Bytealg
import Derived.Lib.Strings
namespace Go.Proofs.YtcjpoabknlpopaaDoor
set_option linter.unusedVariables false
open Go.RowKit

theorem ebs_step (s : ByteArray) (k : Nat) (h : k < s.size / 2) : ∃ b0 b1 : UInt8, (ebs s).drop (2 * k) = b0 :: b1 :: (ebs s).drop (2 * (k + 1)) ∧ b0.toNat = by' s (2 * k) ∧ b1.toNat = by' s (2 * k + 1) := by
  have hl := ebs_length s
  refine ⟨(ebs s)[2 * k]'(by omega), (ebs s)[2 * k + 1]'(by omega), ?_, ebs_get s _ _, ebs_get s _ _⟩
  rw [List.drop_eq_getElem_cons (show 2 * k < (ebs s).length by omega), List.drop_eq_getElem_cons (show 2 * k + 1 < (ebs s).length by omega)]
  rfl
theorem ebs_end (s : ByteArray) (k : Nat) (h : ¬ k < s.size / 2) : (ebs s).drop (2 * k) = [] := by
  have hl := ebs_length s
  exact List.drop_eq_nil_of_le (by omega)

/-- The bytes' order from a unit on. -/
def cmpK (a b : ByteArray) (k : Nat) : Int := Lib.compareBytes ((ebs a).drop (2 * k)) ((ebs b).drop (2 * k))
theorem cmpK_lt (a b : ByteArray) (k : Nat) (ha : k < a.size / 2) (hb : k < b.size / 2) (h : un a k < un b k) : cmpK a b k = -1 := by
  obtain ⟨x0, x1, ex, hx0, hx1⟩ := ebs_step a k ha
  obtain ⟨y0, y1, ey, hy0, hy1⟩ := ebs_step b k hb
  have l1 := by_lt a (2 * k + 1); have l2 := by_lt b (2 * k + 1)
  unfold un at h
  unfold cmpK
  rw [ex, ey]
  simp only [Lib.compareBytes, UInt8.lt_iff_toNat_lt, hx0, hx1, hy0, hy1]
  by_cases h1 : by' a (2 * k) < by' b (2 * k)
  · simp [h1]
  · have h2 : ¬ by' b (2 * k) < by' a (2 * k) := by omega
    have h3 : by' a (2 * k + 1) < by' b (2 * k + 1) := by omega
    simp [h1, h2, h3]
theorem cmpK_gt (a b : ByteArray) (k : Nat) (ha : k < a.size / 2) (hb : k < b.size / 2) (h : un b k < un a k) : cmpK a b k = 1 := by
  obtain ⟨x0, x1, ex, hx0, hx1⟩ := ebs_step a k ha
  obtain ⟨y0, y1, ey, hy0, hy1⟩ := ebs_step b k hb
  have l1 := by_lt a (2 * k + 1); have l2 := by_lt b (2 * k + 1)
  unfold un at h
  unfold cmpK
  rw [ex, ey]
  simp only [Lib.compareBytes, UInt8.lt_iff_toNat_lt, hx0, hx1, hy0, hy1]
  by_cases h1 : by' b (2 * k) < by' a (2 * k)
  · have h2 : ¬ by' a (2 * k) < by' b (2 * k) := by omega
    simp [h1, h2]
  · have h2 : ¬ by' a (2 * k) < by' b (2 * k) := by omega
    have h3 : by' b (2 * k + 1) < by' a (2 * k + 1) := by omega
    have h4 : ¬ by' a (2 * k + 1) < by' b (2 * k + 1) := by omega
    simp [h1, h2, h3, h4]
theorem cmpK_eq (a b : ByteArray) (k : Nat) (ha : k < a.size / 2) (hb : k < b.size / 2) (h : un a k = un b k) : cmpK a b k = cmpK a b (k + 1) := by
  obtain ⟨x0, x1, ex, hx0, hx1⟩ := ebs_step a k ha
  obtain ⟨y0, y1, ey, hy0, hy1⟩ := ebs_step b k hb
  have l1 := by_lt a (2 * k + 1); have l2 := by_lt b (2 * k + 1)
  unfold un at h
  unfold cmpK
  rw [ex, ey]
  simp only [Lib.compareBytes, UInt8.lt_iff_toNat_lt, hx0, hx1, hy0, hy1]
  have h1 : ¬ by' b (2 * k) < by' a (2 * k) := by omega
  have h2 : ¬ by' a (2 * k) < by' b (2 * k) := by omega
  have h3 : ¬ by' b (2 * k + 1) < by' a (2 * k + 1) := by omega
  have h4 : ¬ by' a (2 * k + 1) < by' b (2 * k + 1) := by omega
  simp [h1, h2, h3, h4]
theorem cmpK_more (a b : ByteArray) (k : Nat) (ha : k < a.size / 2) (hb : ¬ k < b.size / 2) : cmpK a b k = 1 := by
  obtain ⟨x0, x1, ex, _⟩ := ebs_step a k ha
  unfold cmpK; rw [ex, ebs_end b k hb]; rfl
theorem cmpK_less (a b : ByteArray) (k : Nat) (ha : ¬ k < a.size / 2) (hb : k < b.size / 2) : cmpK a b k = -1 := by
  obtain ⟨x0, x1, ex, _⟩ := ebs_step b k hb
  unfold cmpK; rw [ex, ebs_end a k ha]; rfl
theorem cmpK_end (a b : ByteArray) (k : Nat) (ha : ¬ k < a.size / 2) (hb : ¬ k < b.size / 2) : cmpK a b k = 0 := by
  unfold cmpK; rw [ebs_end a k ha, ebs_end b k hb]; rfl

theorem cb_neg : ∀ (a b : List UInt8), Lib.compareBytes b a = -Lib.compareBytes a b
  | [], [] => rfl
  | [], _ :: _ => rfl
  | _ :: _, [] => rfl
  | a :: us, b :: vs => by
    simp only [Lib.compareBytes]
    by_cases h1 : a < b
    · have h2 : ¬ b < a := by rw [UInt8.lt_iff_toNat_lt] at *; omega
      simp [h1, h2]
    · by_cases h2 : b < a
      · simp [h1, h2]
      · simp [h1, h2, cb_neg us vs]
theorem cb_range : ∀ (a b : List UInt8), Lib.compareBytes a b = -1 ∨ Lib.compareBytes a b = 0 ∨ Lib.compareBytes a b = 1
  | [], [] => .inr (.inl rfl)
  | [], _ :: _ => .inl rfl
  | _ :: _, [] => .inr (.inr rfl)
  | a :: us, b :: vs => by
    simp only [Lib.compareBytes]
    split
    · exact .inl rfl
    · split
      · exact .inr (.inr rfl)
      · exact cb_range us vs
theorem cb_zero : ∀ (a b : List UInt8), Lib.compareBytes a b = 0 ↔ a = b
  | [], [] => by simp [Lib.compareBytes]
  | [], _ :: _ => by simp [Lib.compareBytes]
  | _ :: _, [] => by simp [Lib.compareBytes]
  | a :: us, b :: vs => by
    simp only [Lib.compareBytes]
    split
    · rename_i h
      have : a ≠ b := by rintro rfl; rw [UInt8.lt_iff_toNat_lt] at h; omega
      simp [this]
    · split
      · rename_i h
        have : a ≠ b := by rintro rfl; rw [UInt8.lt_iff_toNat_lt] at h; omega
        simp [this]
      · rename_i h1 h2
        have : a = b := by rw [← UInt8.toNat_inj]; rw [UInt8.lt_iff_toNat_lt] at *; omega
        simp [this, cb_zero us vs]
theorem cb_lt : ∀ (a b : List UInt8), decide (Lib.compareBytes a b < 0) = Op.bytesLess a b
  | [], [] => by simp [Lib.compareBytes, Op.bytesLess]
  | [], _ :: _ => by simp [Lib.compareBytes, Op.bytesLess]
  | _ :: _, [] => by simp [Lib.compareBytes, Op.bytesLess]
  | a :: us, b :: vs => by
    simp only [Lib.compareBytes, Op.bytesLess]
    by_cases h1 : a < b
    · simp [h1]
    · by_cases h2 : b < a
      · have : a ≠ b := by rintro rfl; exact h1 h2
        simp [h1, h2, this]
      · have : a = b := by rw [← UInt8.toNat_inj]; rw [UInt8.lt_iff_toNat_lt] at *; omega
        subst this
        simp [h1, ← cb_lt us vs]

theorem cmp_swap (a b : ByteArray) : cmpK b a 0 = wrap64 (-cmpK a b 0) := by
  have h : cmpK b a 0 = -cmpK a b 0 := cb_neg _ _
  have hr : cmpK a b 0 = -1 ∨ cmpK a b 0 = 0 ∨ cmpK a b 0 = 1 := cb_range _ _
  rw [h]
  rcases hr with h | h | h <;> rw [h] <;> simp [wrap64]
theorem cmp_less (a b : ByteArray) : decide (cmpK a b 0 < 0) = Op.bytesLess (evenS a).toList (evenS b).toList := by
  rw [ByteArray.toList_eq, ByteArray.toList_eq, evenS_bytes, evenS_bytes]
  exact cb_lt _ _
theorem cmp_same (a b : ByteArray) : ((cmpK a b 0 == 0) == ((evenS a).toList == (evenS b).toList)) = true := by
  rw [ByteArray.toList_eq, ByteArray.toList_eq, evenS_bytes, evenS_bytes]
  have h : cmpK a b 0 = 0 ↔ ebs a = ebs b := cb_zero _ _
  rw [beq_iff_eq, Bool.eq_iff_iff]
  simpa using h

set_option maxHeartbeats 1000000 in
set_option maxRecDepth 100000 in
theorem compareString_any (a b : ByteArray) (w : World) :
    Calls Tryd.prog 59 #[.string a, .string b] w fun e w' => e = .returned (.int .i64 (Lib.compareBytes a.data.toList b.data.toList)) ∧ w' = w := by
  go_enter Tryd.func59, Tryd.ntmps59
  go_wp2
  rw [run_callFunc_extern Tryd.func73 (by kernel_rfl) (by kernel_rfl) (by kernel_rfl) (e := Extern.BytealgCompare.compare) (by kernel_rfl), Lib.run_compareString]
  simp only [Result.andThen]
  rw [Oper.upon_value]
  go_wp2
  go_ret
  exact ⟨rfl, rfl⟩

set_option maxHeartbeats 400000 in
theorem strCompare_any (a b : ByteArray) (w : World) :
    Calls Tryd.prog 37 #[.string a, .string b] w fun e w' => e = .returned (.int .i64 (Lib.compareBytes a.data.toList b.data.toList)) ∧ w' = w := by
  go_enter Tryd.func37, Tryd.ntmps37
  go_wp2_with (go_at_call 59; refine (compareString_any _ _ _).mono ?_; rintro e w' ⟨rfl, rfl⟩)
  go_ret
  exact ⟨rfl, rfl⟩

set_option maxHeartbeats 400000 in
set_option maxRecDepth 100000 in
theorem piece_wide (s : ByteArray) (i j : Nat) (w : World) (hs : (s.size : Int) ≤ 140737488351232) (hij : i ≤ j) (hj : j ≤ s.size / 2) :
    Calls Tryd.prog 44 #[.string s, .int .i64 i, .int .i64 j] w fun e w' => e = .returned (.string (s.extract (2 * i) (2 * j))) ∧ w' = w := by
  have h1 : (0 : Int) ≤ 2 * (i : Int) := by omega
  have h2 : 2 * (i : Int) ≤ 2 * (j : Int) := by omega
  have h3 : 2 * (j : Int) ≤ (s.size : Int) := by omega
  go_enter Tryd.func44, Tryd.ntmps44
  go_wp2
  go_ret
  exact ⟨rfl, rfl⟩

set_option maxHeartbeats 400000 in
set_option maxRecDepth 100000 in
theorem even_wide (s : ByteArray) (w : World) (hs : (s.size : Int) ≤ 140737488351232) :
    Calls Tryd.prog 38 #[.string s] w fun e w' => e = .returned (.string (evenS s)) ∧ w' = w := by
  have hm : s.size ≤ maxLen := by unfold maxLen; omega
  have HE : Hid (evenS s = s.extract (2 * 0) (2 * (s.size / 2))) := by
    show _ = _
    unfold evenS; rw [Nat.mul_comm]
  go_enter Tryd.func38, Tryd.ntmps38
  go_wp2_with (first | (go_at_call 26; refine (len_any _ _ hm).mono ?_; rintro e w' ⟨rfl, rfl⟩) | (go_at_call 44; refine (piece_wide s 0 (s.size / 2) _ hs (Nat.zero_le _) (Nat.le_refl _)).mono ?_; rintro e w' ⟨rfl, rfl⟩))
  go_ret
  rw [HE.out]
  exact ⟨rfl, rfl⟩

set_option maxHeartbeats 400000 in
set_option maxRecDepth 100000 in
theorem compare_wide (a b : ByteArray) (w : World) (ha : (a.size : Int) ≤ 140737488351232) (hb : (b.size : Int) ≤ 140737488351232) :
    Calls Tryd.prog 25 #[.string a, .string b] w fun e w' => e = .returned (.int .i64 (cmpK a b 0)) ∧ w' = w := by
  have HE : Hid (cmpK a b 0 = Lib.compareBytes (evenS a).data.toList (evenS b).data.toList) := by
    show _ = _
    rw [evenS_bytes, evenS_bytes]; rfl
  go_enter Tryd.func25, Tryd.ntmps25
  go_wp2_with fail
  refine (even_wide a _ ha).mono ?_
  rintro e w1 ⟨rfl, hw1⟩
  rw [hw1]; clear hw1 w1
  go_wp2_with fail
  refine (even_wide b _ hb).mono ?_
  rintro e w1 ⟨rfl, hw1⟩
  rw [hw1]; clear hw1 w1
  go_wp2_with fail
  refine (strCompare_any _ _ _).mono ?_
  rintro e w1 ⟨rfl, hw1⟩
  rw [hw1]; clear hw1 w1
  go_wp2
  go_ret
  rw [HE.out]
  exact ⟨rfl, rfl⟩

theorem piece_any (s : ByteArray) (i j : Nat) (w : World) (hs : (s.size : Int) ≤ 1048576) (hij : i ≤ j) (hj : j ≤ s.size / 2) :
    Calls Tryd.prog 44 #[.string s, .int .i64 i, .int .i64 j] w fun e w' => e = .returned (.string (s.extract (2 * i) (2 * j))) ∧ w' = w := piece_wide s i j w (by omega) hij hj
theorem even_any (s : ByteArray) (w : World) (hs : (s.size : Int) ≤ 1048576) :
    Calls Tryd.prog 38 #[.string s] w fun e w' => e = .returned (.string (evenS s)) ∧ w' = w := even_wide s w (by omega)
theorem compare_any (a b : ByteArray) (w : World) (ha : (a.size : Int) ≤ 1048576) (hb : (b.size : Int) ≤ 1048576) :
    Calls Tryd.prog 25 #[.string a, .string b] w fun e w' => e = .returned (.int .i64 (cmpK a b 0)) ∧ w' = w := compare_wide a b w (by omega) (by omega)

end Go.Proofs.YtcjpoabknlpopaaDoor
