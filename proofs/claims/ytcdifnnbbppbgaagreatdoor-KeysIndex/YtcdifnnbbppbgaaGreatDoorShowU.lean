/- digits.showUnsigned, text, Show. -/
import Derived.Test.YtcdifnnbbppbgaaGreatDoorShow
import Derived.Test.YtcdifnnbbppbgaaGreatDoorMod
namespace Go.Proofs.YtcdifnnbbppbgaaGreatDoor
set_option linter.unusedVariables false
open Go.RowKit Fl

theorem gtM (x : Nat) (hx : x < 18446744073709551616) : (FloatKind.f64.format.order x 9218868437227405311 == some Ordering.gt) = decide (x = 9218868437227405312) := by
  rw [f64]
  by_cases hn : nan x
  · rw [order_nan _ _ hx (by omega) (.inl hn)]
    unfold nan at hn
    rw [decide_eq_false (by omega)]
    rfl
  · rw [order_key _ _ hx (by omega) hn (by unfold nan; omega)]
    have k2 : key 9218868437227405311 = 9218868437227405311 := by unfold key; rw [if_neg (by omega)]; rfl
    rw [k2]
    unfold nan at hn
    by_cases e : x = 9218868437227405312
    · have k1 : key x = (x : Int) := by unfold key; rw [if_neg (by omega)]; omega
      rw [decide_eq_true e, k1, Int.compare_eq_gt.2 (by omega)]
      rfl
    · have k1 : key x ≤ 9218868437227405311 := by unfold key; split <;> omega
      have : compare (key x) 9218868437227405311 ≠ .gt := fun h => by have := Int.compare_eq_gt.1 h; omega
      rw [decide_eq_false e]
      generalize compare (key x) 9218868437227405311 = o at this ⊢
      cases o <;> simp at this ⊢
set_option maxHeartbeats 400000 in
theorem isInf1_any (x : Nat) (w : World) (h : x < 18446744073709551616) :
    Calls Tryz.prog 45 #[.float .f64 x, .int .i64 1] w fun e w' => e = .returned (.bool (decide (x = 9218868437227405312))) ∧ w' = w := by
  have hg := gtM x h
  go_enter Tryz.func45, Tryz.ntmps45
  go_wp2
  go_ret
  exact ⟨rfl, rfl⟩
/-- The text of a number that is not below 0, or of none. -/
def unsB (x : Nat) : List UInt8 := if nan x then [78, 97, 78] else if x = 9218868437227405312 then [73, 110, 102, 105, 110, 105, 116, 121] else if x % 9223372036854775808 = 0 then [48] else posB x
theorem laidB_len (d : List UInt8) (n : Int) (hd : d.length ≤ 100) (hn : -9000 ≤ n ∧ n ≤ 9000) : (laidB d n).length ≤ 300 := by
  unfold laidB
  split
  · unfold sciB powB
    have h1 := Lib.itoa_length_le (-(n - 1)) (by omega) (by omega)
    have h2 := Lib.itoa_length_le (n - 1) (by omega) (by omega)
    have h3 : (d.take 1).length ≤ 1 := by simp; omega
    have h4 : (d.drop 1).length ≤ 100 := by simp; omega
    simp only [List.length_append, List.length_cons]
    split <;> split <;> simp only [List.length_cons, List.length_nil] <;> omega
  · split
    · simp [zs]; omega
    · split
      · simp; omega
      · simp [zs]; omega
theorem unsB_len (x : Nat) (hx : x ≤ 9218868437227405312 ∨ nan x ∨ x % 9223372036854775808 = 0) : (unsB x).length ≤ 300 := by
  unfold unsB
  split
  · simp
  · rename_i h1
    split
    · simp
    · split
      · simp
      · rename_i h2 h3
        have hb : 0 < x ∧ x < 9218868437227405312 := by unfold nan at *; omega
        have hd := shDs_len x hb.1 hb.2
        have hX := shX_range x hb.1 hb.2
        exact laidB_len _ _ (by simp [u8s]; omega) ⟨by omega, by omega⟩
/-- The text of any number by its bits. -/
def showB (x : Nat) : List UInt8 := if 9223372036854775808 < x ∧ ¬ nan x then 45 :: unsB (x % 9223372036854775808) else unsB x
theorem showB_neg (x : Nat) (hx : 9223372036854775808 < x) (hn : ¬ nan x) : showB x = 45 :: unsB (x % 9223372036854775808) := by
  unfold showB
  rw [if_pos ⟨hx, hn⟩]
theorem showB_pos (x : Nat) (hx : nan x ∨ ¬ 9223372036854775808 < x) : showB x = unsB x := by
  unfold showB
  rw [if_neg (fun h => hx.elim h.2 (fun q => q h.1))]
theorem showB_len (x : Nat) (hx : x < 18446744073709551616) : (showB x).length ≤ 301 := by
  unfold showB
  split
  · rename_i h
    have := unsB_len (x % 9223372036854775808) (by have := h.2; unfold nan at *; omega)
    simp
    omega
  · rename_i h
    have := unsB_len x (by unfold nan at *; omega)
    omega
end Go.Proofs.YtcdifnnbbppbgaaGreatDoor
