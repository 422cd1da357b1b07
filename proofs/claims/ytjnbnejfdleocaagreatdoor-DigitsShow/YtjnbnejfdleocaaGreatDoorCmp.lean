/- units.Compare and lintelref01.Compare: texts compare unit by unit, as their bytes do. -/
import Derived.Test.YtjnbnejfdleocaaGreatDoorRUnits
import Derived.Lib.Bytealg
import Derived.Lib.Strings
namespace Go.Proofs.YtjnbnejfdleocaaGreatDoor
set_option linter.unusedVariables false
open Go.RowKit

theorem ebs_step (s : ByteArray) (k : Nat) (h : k < s.size / 2) : ∃ b0 b1 : UInt8, (ebs s).drop (2 * k) = b0 :: b1 :: (ebs s).drop (2 * (k + 1)) ∧ b0.toNat = by' s (2 * k) ∧ b1.toNat = by' s (2 * k + 1) := by
  have hl := ebs_length s
  refine ⟨(ebs s)[2 * k]'(by omega), (ebs s)[2 * k + 1]'(by omega), ?_, ebs_get s _ _, ebs_get s _ _⟩
  rw [List.drop_eq_getElem_cons (show 2 * k < (ebs s).length by omega), List.drop_eq_getElem_cons (show 2 * k + 1 < (ebs s).length by omega)]
  rfl
theorem ebs_end (s : ByteArray) (k : Nat) (h : ¬ k < s.size / 2) : (ebs s).drop (2 * k) = [] := by
  have hl := ebs_length s
  exact List.drop_eq_nil_of_le (by omega)

/-- The bytes' order from a unit on. -/
def cmpK (a b : ByteArray) (k : Nat) : Int := Lib.compareBytes ((ebs a).drop (2 * k)) ((ebs b).drop (2 * k))
theorem cmpK_lt (a b : ByteArray) (k : Nat) (ha : k < a.size / 2) (hb : k < b.size / 2) (h : un a k < un b k) : cmpK a b k = -1 := by
  obtain ⟨x0, x1, ex, hx0, hx1⟩ := ebs_step a k ha
  obtain ⟨y0, y1, ey, hy0, hy1⟩ := ebs_step b k hb
  have l1 := by_lt a (2 * k + 1); have l2 := by_lt b (2 * k + 1)
  unfold un at h
  unfold cmpK
  rw [ex, ey]
  simp only [Lib.compareBytes, UInt8.lt_iff_toNat_lt, hx0, hx1, hy0, hy1]
  by_cases h1 : by' a (2 * k) < by' b (2 * k)
  · simp [h1]
  · have h2 : ¬ by' b (2 * k) < by' a (2 * k) := by omega
    have h3 : by' a (2 * k + 1) < by' b (2 * k + 1) := by omega
    simp [h1, h2, h3]
theorem cmpK_gt (a b : ByteArray) (k : Nat) (ha : k < a.size / 2) (hb : k < b.size / 2) (h : un b k < un a k) : cmpK a b k = 1 := by
  obtain ⟨x0, x1, ex, hx0, hx1⟩ := ebs_step a k ha
  obtain ⟨y0, y1, ey, hy0, hy1⟩ := ebs_step b k hb
  have l1 := by_lt a (2 * k + 1); have l2 := by_lt b (2 * k + 1)
  unfold un at h
  unfold cmpK
  rw [ex, ey]
  simp only [Lib.compareBytes, UInt8.lt_iff_toNat_lt, hx0, hx1, hy0, hy1]
  by_cases h1 : by' b (2 * k) < by' a (2 * k)
  · have h2 : ¬ by' a (2 * k) < by' b (2 * k) := by omega
    simp [h1, h2]
  · have h2 : ¬ by' a (2 * k) < by' b (2 * k) := by omega
    have h3 : by' b (2 * k + 1) < by' a (2 * k + 1) := by omega
    have h4 : ¬ by' a (2 * k + 1) < by' b (2 * k + 1) := by omega
    simp [h1, h2, h3, h4]
theorem cmpK_eq (a b : ByteArray) (k : Nat) (ha : k < a.size / 2) (hb : k < b.size / 2) (h : un a k = un b k) : cmpK a b k = cmpK a b (k + 1) := by
  obtain ⟨x0, x1, ex, hx0, hx1⟩ := ebs_step a k ha
  obtain ⟨y0, y1, ey, hy0, hy1⟩ := ebs_step b k hb
  have l1 := by_lt a (2 * k + 1); have l2 := by_lt b (2 * k + 1)
  unfold un at h
  unfold cmpK
  rw [ex, ey]
  simp only [Lib.compareBytes, UInt8.lt_iff_toNat_lt, hx0, hx1, hy0, hy1]
  have h1 : ¬ by' b (2 * k) < by' a (2 * k) := by omega
  have h2 : ¬ by' a (2 * k) < by' b (2 * k) := by omega
  have h3 : ¬ by' b (2 * k + 1) < by' a (2 * k + 1) := by omega
  have h4 : ¬ by' a (2 * k + 1) < by' b (2 * k + 1) := by omega
  simp [h1, h2, h3, h4]
theorem cmpK_more (a b : ByteArray) (k : Nat) (ha : k < a.size / 2) (hb : ¬ k < b.size / 2) : cmpK a b k = 1 := by
  obtain ⟨x0, x1, ex, _⟩ := ebs_step a k ha
  unfold cmpK; rw [ex, ebs_end b k hb]; rfl
theorem cmpK_less (a b : ByteArray) (k : Nat) (ha : ¬ k < a.size / 2) (hb : k < b.size / 2) : cmpK a b k = -1 := by
  obtain ⟨x0, x1, ex, _⟩ := ebs_step b k hb
  unfold cmpK; rw [ex, ebs_end a k ha]; rfl
theorem cmpK_end (a b : ByteArray) (k : Nat) (ha : ¬ k < a.size / 2) (hb : ¬ k < b.size / 2) : cmpK a b k = 0 := by
  unfold cmpK; rw [ebs_end a k ha, ebs_end b k hb]; rfl

theorem cb_neg : ∀ (a b : List UInt8), Lib.compareBytes b a = -Lib.compareBytes a b
  | [], [] => rfl
  | [], _ :: _ => rfl
  | _ :: _, [] => rfl
  | a :: us, b :: vs => by
    simp only [Lib.compareBytes]
    by_cases h1 : a < b
    · have h2 : ¬ b < a := by rw [UInt8.lt_iff_toNat_lt] at *; omega
      simp [h1, h2]
    · by_cases h2 : b < a
      · simp [h1, h2]
      · simp [h1, h2, cb_neg us vs]
theorem cb_range : ∀ (a b : List UInt8), Lib.compareBytes a b = -1 ∨ Lib.compareBytes a b = 0 ∨ Lib.compareBytes a b = 1
  | [], [] => .inr (.inl rfl)
  | [], _ :: _ => .inl rfl
  | _ :: _, [] => .inr (.inr rfl)
  | a :: us, b :: vs => by
    simp only [Lib.compareBytes]
    split
    · exact .inl rfl
    · split
      · exact .inr (.inr rfl)
      · exact cb_range us vs
theorem cb_zero : ∀ (a b : List UInt8), Lib.compareBytes a b = 0 ↔ a = b
  | [], [] => by simp [Lib.compareBytes]
  | [], _ :: _ => by simp [Lib.compareBytes]
  | _ :: _, [] => by simp [Lib.compareBytes]
  | a :: us, b :: vs => by
    simp only [Lib.compareBytes]
    split
    · rename_i h
      have : a ≠ b := by rintro rfl; rw [UInt8.lt_iff_toNat_lt] at h; omega
      simp [this]
    · split
      · rename_i h
        have : a ≠ b := by rintro rfl; rw [UInt8.lt_iff_toNat_lt] at h; omega
        simp [this]
      · rename_i h1 h2
        have : a = b := by rw [← UInt8.toNat_inj]; rw [UInt8.lt_iff_toNat_lt] at *; omega
        simp [this, cb_zero us vs]
theorem cb_lt : ∀ (a b : List UInt8), decide (Lib.compareBytes a b < 0) = Op.bytesLess a b
  | [], [] => by simp [Lib.compareBytes, Op.bytesLess]
  | [], _ :: _ => by simp [Lib.compareBytes, Op.bytesLess]
  | _ :: _, [] => by simp [Lib.compareBytes, Op.bytesLess]
  | a :: us, b :: vs => by
    simp only [Lib.compareBytes, Op.bytesLess]
    by_cases h1 : a < b
    · simp [h1]
    · by_cases h2 : b < a
      · have : a ≠ b := by rintro rfl; exact h1 h2
        simp [h1, h2, this]
      · have : a = b := by rw [← UInt8.toNat_inj]; rw [UInt8.lt_iff_toNat_lt] at *; omega
        subst this
        simp [h1, ← cb_lt us vs]

theorem cmp_swap (a b : ByteArray) : cmpK b a 0 = wrap64 (-cmpK a b 0) := by
  have h : cmpK b a 0 = -cmpK a b 0 := cb_neg _ _
  have hr : cmpK a b 0 = -1 ∨ cmpK a b 0 = 0 ∨ cmpK a b 0 = 1 := cb_range _ _
  rw [h]
  rcases hr with h | h | h <;> rw [h] <;> simp [wrap64]
theorem cmp_less (a b : ByteArray) : decide (cmpK a b 0 < 0) = Op.bytesLess (evenS a).toList (evenS b).toList := by
  rw [ByteArray.toList_eq, ByteArray.toList_eq, evenS_bytes, evenS_bytes]
  exact cb_lt _ _
theorem cmp_same (a b : ByteArray) : ((cmpK a b 0 == 0) == ((evenS a).toList == (evenS b).toList)) = true := by
  rw [ByteArray.toList_eq, ByteArray.toList_eq, evenS_bytes, evenS_bytes]
  have h : cmpK a b 0 = 0 ↔ ebs a = ebs b := cb_zero _ _
  rw [beq_iff_eq, Bool.eq_iff_iff]
  simpa using h

set_option maxHeartbeats 400000 in
set_option maxRecDepth 100000 in
theorem piece_wide (s : ByteArray) (i j : Nat) (w : World) (hs : (s.size : Int) ≤ 140737488351232) (hij : i ≤ j) (hj : j ≤ s.size / 2) :
    Calls Tryz.prog 51 #[.string s, .int .i64 i, .int .i64 j] w fun e w' => e = .returned (.string (s.extract (2 * i) (2 * j))) ∧ w' = w := by
  have h1 : (0 : Int) ≤ 2 * (i : Int) := by omega
  have h2 : 2 * (i : Int) ≤ 2 * (j : Int) := by omega
  have h3 : 2 * (j : Int) ≤ (s.size : Int) := by omega
  go_enter Tryz.func51, Tryz.ntmps51
  go_wp2
  go_ret
  exact ⟨rfl, rfl⟩

theorem piece_any (s : ByteArray) (i j : Nat) (w : World) (hs : (s.size : Int) ≤ 1048576) (hij : i ≤ j) (hj : j ≤ s.size / 2) :
    Calls Tryz.prog 51 #[.string s, .int .i64 i, .int .i64 j] w fun e w' => e = .returned (.string (s.extract (2 * i) (2 * j))) ∧ w' = w := piece_wide s i j w (by omega) hij hj
end Go.Proofs.YtjnbnejfdleocaaGreatDoor
