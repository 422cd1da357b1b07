/- Package ops: integers, the number turned round; sums and products do not hang on the order of their sides. Written by tools/mkopg.py. -/
import Derived.Test.YtbkkkpfoaggejaaGreatDoorOpF
namespace Go.Proofs.YtbkkkpfoaggejaaGreatDoor
set_option linter.unusedVariables false
set_option linter.unusedSimpArgs false
open Go.RowKit Go.Sort Fl

theorem og_nearest (neg : Bool) (m : Nat) (e : Int) : ∃ g, Ieee.double.nearest neg m e = Ieee.double.word neg g ∧ g ≤ 9218868437227405312 := by
  unfold Ieee.Format.nearest
  split
  · exact ⟨0, rfl, by omega⟩
  · exact ⟨_, rfl, Nat.min_le_right _ _⟩
theorem og_word (neg : Bool) (g : Nat) (h : g ≤ 9218868437227405312) : Ieee.double.word neg g < 18446744073709551616 := by
  rw [word_eq]
  cases neg
  · simp; omega
  · simp; omega
theorem og_write (d : Ieee.Datum) (h : d.isNaN = false) : Ieee.double.write d < 18446744073709551616 := by
  cases d with
  | number s m e =>
    obtain ⟨g, h1, h2⟩ := og_nearest s m e
    show Ieee.double.nearest s m e < _
    rw [h1]
    exact og_word s g h2
  | infinity s => exact og_word s 9218868437227405312 (by omega)
  | nan s t => cases h
theorem og_sum_num (d e f : Ieee.Datum) (h : d.sum e = some f) : f.isNaN = false := by
  cases d <;> cases e <;> simp only [Ieee.Datum.sum] at h <;> first | cases h; done | (split at h <;> first | cases h; done | (cases h; rfl)) | (cases h; rfl)
theorem og_prod_num (d e f : Ieee.Datum) (h : d.product e = some f) : f.isNaN = false := by
  cases d <;> cases e <;> simp only [Ieee.Datum.product] at h <;> first | cases h; done | (split at h <;> first | cases h; done | (cases h; rfl)) | (cases h; rfl)
theorem og_sum_comm (d e : Ieee.Datum) : d.sum e = e.sum d := by
  cases d <;> cases e <;> simp only [Ieee.Datum.sum]
  · rename_i s m i t n j
    rw [Int.min_comm j i, Int.add_comm (Ieee.signed t n _), Bool.and_comm t s]
  · rename_i s t
    by_cases h : s = t
    · subst h; rfl
    · rw [if_neg h, if_neg (fun q => h q.symm)]
theorem og_prod_comm (d e : Ieee.Datum) : d.product e = e.product d := by
  cases d <;> cases e <;> simp only [Ieee.Datum.product]
  all_goals first | rfl | skip
  · rename_i s m i t n j
    rw [Nat.mul_comm n m, Int.add_comm j i, Bool.xor_comm t s]
  all_goals (rename_i s t; rw [Bool.xor_comm])
theorem og_add_comm (x y : Nat) : Ieee.double.add x y = Ieee.double.add y x := by unfold Ieee.Format.add; rw [og_sum_comm]
theorem og_mul_comm (x y : Nat) : Ieee.double.mul x y = Ieee.double.mul y x := by unfold Ieee.Format.mul; rw [og_prod_comm]
theorem og_add_lt (x y z : Nat) (h : Ieee.double.add x y = some z) : z < 18446744073709551616 := by
  unfold Ieee.Format.add at h
  cases hs : (Ieee.double.read x).sum (Ieee.double.read y) with
  | none => rw [hs] at h; cases h
  | some d => rw [hs] at h; cases h; exact og_write d (og_sum_num _ _ _ hs)
theorem og_mul_lt (x y z : Nat) (h : Ieee.double.mul x y = some z) : z < 18446744073709551616 := by
  unfold Ieee.Format.mul at h
  cases hs : (Ieee.double.read x).product (Ieee.double.read y) with
  | none => rw [hs] at h; cases h
  | some d => rw [hs] at h; cases h; exact og_write d (og_prod_num _ _ _ hs)
/-- A number's sign turned round. -/
theorem og_neg (y : Nat) (hy : y < 18446744073709551616) : y ^^^ 9223372036854775808 < 18446744073709551616 ∧ Ieee.double.read (y ^^^ 9223372036854775808) = (Ieee.double.read y).opposite := by
  have key : ∀ (s : Bool) (g : Nat), g < 9223372036854775808 → Ieee.double.read (Ieee.double.word (!s) g) = (Ieee.double.read (Ieee.double.word s g)).opposite := fun s g hg => by
    by_cases h : g < 9218868437227405312
    · rw [read_word _ _ h, read_word _ _ h]; rfl
    · by_cases h2 : g = 9218868437227405312
      · subst h2; rw [read_inf, read_inf]; rfl
      · rw [read_nan _ _ (by omega) hg, read_nan _ _ (by omega) hg]; rfl
  by_cases h : 9223372036854775808 ≤ y
  · obtain ⟨g, rfl⟩ : ∃ g, y = 9223372036854775808 + g := ⟨y - 9223372036854775808, by omega⟩
    have hg : g < 9223372036854775808 := by omega
    rw [xor_half' g hg]
    have k := key true g hg
    rw [word_eq, word_eq] at k
    exact ⟨by omega, k⟩
  · have hg : y < 9223372036854775808 := by omega
    rw [xor_half y hg]
    have k := key false y hg
    rw [word_eq, word_eq] at k
    exact ⟨by omega, k⟩
theorem og_sub (x y : Nat) (hy : y < 18446744073709551616) : Ieee.double.sub x y = Ieee.double.add x (y ^^^ 9223372036854775808) := by
  unfold Ieee.Format.sub Ieee.Format.add
  rw [(og_neg y hy).2]
theorem og_alike (o : Option Nat) (ho : ∀ z, o = some z → z < 18446744073709551616) (r s : Nat) (hr : FR o r) (hs : FR o s) : r < 18446744073709551616 ∧ s < 18446744073709551616 ∧ alike r s = true := by
  cases o with
  | some z =>
    obtain rfl := hr.1 _ rfl
    obtain rfl := hs.1 _ rfl
    exact ⟨ho _ rfl, ho _ rfl, by unfold alike; simp⟩
  | none =>
    obtain ⟨h1, h2⟩ := hr.2 rfl
    obtain ⟨h3, h4⟩ := hs.2 rfl
    exact ⟨h1, h3, by unfold alike; exact decide_eq_true (.inr ⟨h2, h4⟩)⟩
theorem og_bits (o : BinOp) (x y : Int) (h : o = .and ∨ o = .or ∨ o = .xor) : bits o .i32 x y = bits o .i32 y x := by
  rcases h with rfl | rfl | rfl
  all_goals
    unfold bits
    first
      | (rw [BitVec.and_comm]; done) | (rw [BitVec.or_comm]; done) | (rw [BitVec.xor_comm]; done)
      | (simp only [BitVec.and_comm, BitVec.or_comm, BitVec.xor_comm]; done)
set_option maxHeartbeats 1000000 in
set_option maxRecDepth 100000 in
theorem integers_h (ka : Int) (xa : Nat) (sa : ByteArray) (ra : Int) (kb : Int) (xb : Nat) (sb : ByteArray) (rb : Int) (fa fb : Nat) (hla : fa < 18446744073709551616) (hlb : fb < 18446744073709551616) (ha : ka ≠ 6) (hb : kb ≠ 6) (HA : Hid (NumIs ka xa sa ra fa)) (HB : Hid (NumIs kb xb sb rb fb)) (w : World) (hl : Hid (Laid w)) : Calls Tryz.prog 69 #[.agg #[.int .i64 ka, .float .f64 xa, .string sa, .int .i64 ra, .int .i64 kb, .float .f64 xb, .string sb, .int .i64 rb]] w fun e w' => e = .returned (.tuple #[.int .i32 (wrap32 (u32 fa)), .int .i32 (wrap32 (u32 fb))]) ∧ Below w.heap.size w w' := by
  have HN := Hid.mk' (fun W (hW : Hid (Laid W)) => numbers_h ka xa sa ra kb xb sb rb fa fb ha hb HA HB W hW)
  have HIA := Hid.mk' (fun W => int32_any fa W hla)
  have HIB := Hid.mk' (fun W => int32_any fb W hlb)
  clear ha hb HA HB hla hlb
  go_enter Tryz.func69, Tryz.ntmps69
  go_wp2_with fail
  with_reducible refine (HN.out _ (Hid.mk' (hl.out.below (by (repeat' (first | (with_reducible exact Below.refl _ _) | (with_reducible assumption) | (with_reducible refine Below.drew ?_) | (with_reducible refine below_drewN ?_ _) | (with_reducible refine Below.alloc ?_ ?_ _) | (with_reducible refine Below.setCell ?_ ?_ _) | exact Below.size (show Below w.heap.size w _ by assumption) | (simp; done) | (simp; omega))))))).mono ?_; rintro e w1 ⟨rfl, b1⟩; have c1 : Below w.heap.size w w1 := bl_chain (by (repeat' (first | (with_reducible exact Below.refl _ _) | (with_reducible assumption) | (with_reducible refine Below.drew ?_) | (with_reducible refine below_drewN ?_ _) | (with_reducible refine Below.alloc ?_ ?_ _) | (with_reducible refine Below.setCell ?_ ?_ _) | exact Below.size (show Below w.heap.size w _ by assumption) | (simp; done) | (simp; omega)))) b1; have P1 : CellP w1 (w.heap.size) ka xa sa ra kb xb sb rb := CellP.below (by first | (with_reducible assumption) | (with_reducible refine CellP.drew ?_; assumption) | (with_reducible exact CellP.new _ _ _ _ _ _ _ _ _) | (with_reducible refine CellP.drew (CellP.new _ _ _ _ _ _ _ _ _)) | (constructor <;> first | (simp; done) | (simp; omega))) b1; obtain ⟨-, p10, p11, p12, p13, p14, p15, p16, p17⟩ := id P1; clear b1
  go_wp2_with fail
  refine (HIA.out _).mono ?_
  rintro e w8 ⟨rfl, hw8⟩
  rw [hw8]; clear hw8 w8
  go_wp2_with fail
  refine (HIB.out _).mono ?_
  rintro e w8 ⟨rfl, hw8⟩
  rw [hw8]; clear hw8 w8
  go_wp2
  go_ret2
  exact ⟨rfl, by (repeat' (first | (with_reducible exact Below.refl _ _) | (with_reducible assumption) | (with_reducible refine Below.drew ?_) | (with_reducible refine below_drewN ?_ _) | (with_reducible refine Below.alloc ?_ ?_ _) | (with_reducible refine Below.setCell ?_ ?_ _) | exact Below.size (show Below w.heap.size w _ by assumption) | (simp; done) | (simp; omega)))⟩
set_option maxHeartbeats 1000000 in
set_option maxRecDepth 100000 in
theorem and_h (ka : Int) (xa : Nat) (sa : ByteArray) (ra : Int) (kb : Int) (xb : Nat) (sb : ByteArray) (rb : Int) (fa fb : Nat) (hla : fa < 18446744073709551616) (hlb : fb < 18446744073709551616) (ha : ka ≠ 6) (hb : kb ≠ 6) (HA : Hid (NumIs ka xa sa ra fa)) (HB : Hid (NumIs kb xb sb rb fb)) (w : World) (hl : Hid (Laid w)) : Calls Tryz.prog 43 #[.agg #[.int .i64 ka, .float .f64 xa, .string sa, .int .i64 ra, .int .i64 kb, .float .f64 xb, .string sb, .int .i64 rb]] w fun e w' => e = .returned (.float .f64 (floatOfInt .f64 (bits .and .i32 (wrap32 (u32 fa)) (wrap32 (u32 fb))))) ∧ Below w.heap.size w w' := by
  have HN := Hid.mk' (fun W (hW : Hid (Laid W)) => integers_h ka xa sa ra kb xb sb rb fa fb hla hlb ha hb HA HB W hW)
  clear ha hb HA HB hla hlb
  revert HN
  generalize wrap32 (u32 fa) = X
  generalize wrap32 (u32 fb) = Y
  intro HN
  go_enter Tryz.func43, Tryz.ntmps43
  go_wp2_with fail
  with_reducible refine (HN.out _ (Hid.mk' (hl.out.below (by (repeat' (first | (with_reducible exact Below.refl _ _) | (with_reducible assumption) | (with_reducible refine Below.drew ?_) | (with_reducible refine below_drewN ?_ _) | (with_reducible refine Below.alloc ?_ ?_ _) | (with_reducible refine Below.setCell ?_ ?_ _) | exact Below.size (show Below w.heap.size w _ by assumption) | (simp; done) | (simp; omega))))))).mono ?_; rintro e w1 ⟨rfl, b1⟩; have c1 : Below w.heap.size w w1 := bl_chain (by (repeat' (first | (with_reducible exact Below.refl _ _) | (with_reducible assumption) | (with_reducible refine Below.drew ?_) | (with_reducible refine below_drewN ?_ _) | (with_reducible refine Below.alloc ?_ ?_ _) | (with_reducible refine Below.setCell ?_ ?_ _) | exact Below.size (show Below w.heap.size w _ by assumption) | (simp; done) | (simp; omega)))) b1; have P1 : CellP w1 (w.heap.size) ka xa sa ra kb xb sb rb := CellP.below (by first | (with_reducible assumption) | (with_reducible refine CellP.drew ?_; assumption) | (with_reducible exact CellP.new _ _ _ _ _ _ _ _ _) | (with_reducible refine CellP.drew (CellP.new _ _ _ _ _ _ _ _ _)) | (constructor <;> first | (simp; done) | (simp; omega))) b1; obtain ⟨-, p10, p11, p12, p13, p14, p15, p16, p17⟩ := id P1; clear b1
  go_wp2
  go_ret
  exact ⟨rfl, by (repeat' (first | (with_reducible exact Below.refl _ _) | (with_reducible assumption) | (with_reducible refine Below.drew ?_) | (with_reducible refine below_drewN ?_ _) | (with_reducible refine Below.alloc ?_ ?_ _) | (with_reducible refine Below.setCell ?_ ?_ _) | exact Below.size (show Below w.heap.size w _ by assumption) | (simp; done) | (simp; omega)))⟩
set_option maxHeartbeats 1000000 in
set_option maxRecDepth 100000 in
theorem or_h (ka : Int) (xa : Nat) (sa : ByteArray) (ra : Int) (kb : Int) (xb : Nat) (sb : ByteArray) (rb : Int) (fa fb : Nat) (hla : fa < 18446744073709551616) (hlb : fb < 18446744073709551616) (ha : ka ≠ 6) (hb : kb ≠ 6) (HA : Hid (NumIs ka xa sa ra fa)) (HB : Hid (NumIs kb xb sb rb fb)) (w : World) (hl : Hid (Laid w)) : Calls Tryz.prog 44 #[.agg #[.int .i64 ka, .float .f64 xa, .string sa, .int .i64 ra, .int .i64 kb, .float .f64 xb, .string sb, .int .i64 rb]] w fun e w' => e = .returned (.float .f64 (floatOfInt .f64 (bits .or .i32 (wrap32 (u32 fa)) (wrap32 (u32 fb))))) ∧ Below w.heap.size w w' := by
  have HN := Hid.mk' (fun W (hW : Hid (Laid W)) => integers_h ka xa sa ra kb xb sb rb fa fb hla hlb ha hb HA HB W hW)
  clear ha hb HA HB hla hlb
  revert HN
  generalize wrap32 (u32 fa) = X
  generalize wrap32 (u32 fb) = Y
  intro HN
  go_enter Tryz.func44, Tryz.ntmps44
  go_wp2_with fail
  with_reducible refine (HN.out _ (Hid.mk' (hl.out.below (by (repeat' (first | (with_reducible exact Below.refl _ _) | (with_reducible assumption) | (with_reducible refine Below.drew ?_) | (with_reducible refine below_drewN ?_ _) | (with_reducible refine Below.alloc ?_ ?_ _) | (with_reducible refine Below.setCell ?_ ?_ _) | exact Below.size (show Below w.heap.size w _ by assumption) | (simp; done) | (simp; omega))))))).mono ?_; rintro e w1 ⟨rfl, b1⟩; have c1 : Below w.heap.size w w1 := bl_chain (by (repeat' (first | (with_reducible exact Below.refl _ _) | (with_reducible assumption) | (with_reducible refine Below.drew ?_) | (with_reducible refine below_drewN ?_ _) | (with_reducible refine Below.alloc ?_ ?_ _) | (with_reducible refine Below.setCell ?_ ?_ _) | exact Below.size (show Below w.heap.size w _ by assumption) | (simp; done) | (simp; omega)))) b1; have P1 : CellP w1 (w.heap.size) ka xa sa ra kb xb sb rb := CellP.below (by first | (with_reducible assumption) | (with_reducible refine CellP.drew ?_; assumption) | (with_reducible exact CellP.new _ _ _ _ _ _ _ _ _) | (with_reducible refine CellP.drew (CellP.new _ _ _ _ _ _ _ _ _)) | (constructor <;> first | (simp; done) | (simp; omega))) b1; obtain ⟨-, p10, p11, p12, p13, p14, p15, p16, p17⟩ := id P1; clear b1
  go_wp2
  go_ret
  exact ⟨rfl, by (repeat' (first | (with_reducible exact Below.refl _ _) | (with_reducible assumption) | (with_reducible refine Below.drew ?_) | (with_reducible refine below_drewN ?_ _) | (with_reducible refine Below.alloc ?_ ?_ _) | (with_reducible refine Below.setCell ?_ ?_ _) | exact Below.size (show Below w.heap.size w _ by assumption) | (simp; done) | (simp; omega)))⟩
set_option maxHeartbeats 1000000 in
set_option maxRecDepth 100000 in
theorem either_h (ka : Int) (xa : Nat) (sa : ByteArray) (ra : Int) (kb : Int) (xb : Nat) (sb : ByteArray) (rb : Int) (fa fb : Nat) (hla : fa < 18446744073709551616) (hlb : fb < 18446744073709551616) (ha : ka ≠ 6) (hb : kb ≠ 6) (HA : Hid (NumIs ka xa sa ra fa)) (HB : Hid (NumIs kb xb sb rb fb)) (w : World) (hl : Hid (Laid w)) : Calls Tryz.prog 45 #[.agg #[.int .i64 ka, .float .f64 xa, .string sa, .int .i64 ra, .int .i64 kb, .float .f64 xb, .string sb, .int .i64 rb]] w fun e w' => e = .returned (.float .f64 (floatOfInt .f64 (bits .xor .i32 (wrap32 (u32 fa)) (wrap32 (u32 fb))))) ∧ Below w.heap.size w w' := by
  have HN := Hid.mk' (fun W (hW : Hid (Laid W)) => integers_h ka xa sa ra kb xb sb rb fa fb hla hlb ha hb HA HB W hW)
  clear ha hb HA HB hla hlb
  revert HN
  generalize wrap32 (u32 fa) = X
  generalize wrap32 (u32 fb) = Y
  intro HN
  go_enter Tryz.func45, Tryz.ntmps45
  go_wp2_with fail
  with_reducible refine (HN.out _ (Hid.mk' (hl.out.below (by (repeat' (first | (with_reducible exact Below.refl _ _) | (with_reducible assumption) | (with_reducible refine Below.drew ?_) | (with_reducible refine below_drewN ?_ _) | (with_reducible refine Below.alloc ?_ ?_ _) | (with_reducible refine Below.setCell ?_ ?_ _) | exact Below.size (show Below w.heap.size w _ by assumption) | (simp; done) | (simp; omega))))))).mono ?_; rintro e w1 ⟨rfl, b1⟩; have c1 : Below w.heap.size w w1 := bl_chain (by (repeat' (first | (with_reducible exact Below.refl _ _) | (with_reducible assumption) | (with_reducible refine Below.drew ?_) | (with_reducible refine below_drewN ?_ _) | (with_reducible refine Below.alloc ?_ ?_ _) | (with_reducible refine Below.setCell ?_ ?_ _) | exact Below.size (show Below w.heap.size w _ by assumption) | (simp; done) | (simp; omega)))) b1; have P1 : CellP w1 (w.heap.size) ka xa sa ra kb xb sb rb := CellP.below (by first | (with_reducible assumption) | (with_reducible refine CellP.drew ?_; assumption) | (with_reducible exact CellP.new _ _ _ _ _ _ _ _ _) | (with_reducible refine CellP.drew (CellP.new _ _ _ _ _ _ _ _ _)) | (constructor <;> first | (simp; done) | (simp; omega))) b1; obtain ⟨-, p10, p11, p12, p13, p14, p15, p16, p17⟩ := id P1; clear b1
  go_wp2
  go_ret
  exact ⟨rfl, by (repeat' (first | (with_reducible exact Below.refl _ _) | (with_reducible assumption) | (with_reducible refine Below.drew ?_) | (with_reducible refine below_drewN ?_ _) | (with_reducible refine Below.alloc ?_ ?_ _) | (with_reducible refine Below.setCell ?_ ?_ _) | exact Below.size (show Below w.heap.size w _ by assumption) | (simp; done) | (simp; omega)))⟩
set_option maxHeartbeats 1000000 in
set_option maxRecDepth 100000 in
theorem minus_h (ka : Int) (xa : Nat) (sa : ByteArray) (ra : Int) (fa : Nat) (ha : ka ≠ 6) (HA : Hid (NumIs ka xa sa ra fa)) (w : World) (hl : Hid (Laid w)) : Calls Tryz.prog 52 #[.agg #[.int .i64 ka, .float .f64 xa, .string sa, .int .i64 ra]] w fun e w' => ∃ kr xr sr rr, e = .returned (.agg #[.int .i64 kr, .float .f64 xr, .string sr, .int .i64 rr]) ∧ (kr = 3 ∧ sr = ⟨#[]⟩ ∧ rr = 0 ∧ xr = fa ^^^ 9223372036854775808) ∧ Below w.heap.size w w' := by
  have HN := Hid.mk' (fun W (hW : Hid (Laid W)) => onumeric_h ka xa sa ra fa ha HA W hW)
  have HF := Hid.mk' (fun f W => op_number f W)
  have hng : Op.negFloat .f64 fa = fa ^^^ 9223372036854775808 := rfl
  clear ha HA
  go_enter Tryz.func52, Tryz.ntmps52
  go_wp2_with fail
  with_reducible refine (HN.out _ (Hid.mk' (hl.out.below (by (repeat' (first | (with_reducible exact Below.refl _ _) | (with_reducible assumption) | (with_reducible refine Below.drew ?_) | (with_reducible refine below_drewN ?_ _) | (with_reducible refine Below.alloc ?_ ?_ _) | (with_reducible refine Below.setCell ?_ ?_ _) | exact Below.size (show Below w.heap.size w _ by assumption) | (simp; done) | (simp; omega))))))).mono ?_; rintro e w1 ⟨rfl, b1⟩; have c1 : Below w.heap.size w w1 := bl_chain (by (repeat' (first | (with_reducible exact Below.refl _ _) | (with_reducible assumption) | (with_reducible refine Below.drew ?_) | (with_reducible refine below_drewN ?_ _) | (with_reducible refine Below.alloc ?_ ?_ _) | (with_reducible refine Below.setCell ?_ ?_ _) | exact Below.size (show Below w.heap.size w _ by assumption) | (simp; done) | (simp; omega)))) b1; have lt1 : w.heap.size + 1 < w1.heap.size := Nat.lt_of_lt_of_le (by first | assumption | (simp; done) | (simp; omega)) b1.size; have q10 : w1.cell? ⟨w.heap.size + 1, 0, none⟩ = some (.int .i64 0) := (b1.cell (p := ⟨w.heap.size + 1, 0, none⟩) (by simp)).trans (by simp); have f10 : w1.frozen? ⟨w.heap.size + 1, 0, none⟩ = false := (b1.frozen (p := ⟨w.heap.size + 1, 0, none⟩) (by simp)).trans (by simp); have q11 : w1.cell? ⟨w.heap.size + 1, 1, none⟩ = some (.float .f64 0) := (b1.cell (p := ⟨w.heap.size + 1, 1, none⟩) (by simp)).trans (by simp); have f11 : w1.frozen? ⟨w.heap.size + 1, 1, none⟩ = false := (b1.frozen (p := ⟨w.heap.size + 1, 1, none⟩) (by simp)).trans (by simp); have q12 : w1.cell? ⟨w.heap.size + 1, 2, none⟩ = some (.string ⟨#[]⟩) := (b1.cell (p := ⟨w.heap.size + 1, 2, none⟩) (by simp)).trans (by simp); have f12 : w1.frozen? ⟨w.heap.size + 1, 2, none⟩ = false := (b1.frozen (p := ⟨w.heap.size + 1, 2, none⟩) (by simp)).trans (by simp); have q13 : w1.cell? ⟨w.heap.size + 1, 3, none⟩ = some (.int .i64 0) := (b1.cell (p := ⟨w.heap.size + 1, 3, none⟩) (by simp)).trans (by simp); have f13 : w1.frozen? ⟨w.heap.size + 1, 3, none⟩ = false := (b1.frozen (p := ⟨w.heap.size + 1, 3, none⟩) (by simp)).trans (by simp); clear b1
  go_wp2_with fail
  with_reducible refine (HF.out _ _).mono ?_; rintro e w2 ⟨rfl, b2⟩; have c2 : Below w.heap.size w w2 := bl_chain (by (repeat' (first | (with_reducible exact Below.refl _ _) | (with_reducible assumption) | (with_reducible refine Below.drew ?_) | (with_reducible refine below_drewN ?_ _) | (with_reducible refine Below.alloc ?_ ?_ _) | (with_reducible refine Below.setCell ?_ ?_ _) | exact Below.size (show Below w.heap.size w _ by assumption) | (simp; done) | (simp; omega)))) b2; have lt2 : w.heap.size + 1 < w2.heap.size := Nat.lt_of_lt_of_le (by first | assumption | (simp; done) | (simp; omega)) b2.size; have q20 : w2.cell? ⟨w.heap.size + 1, 0, none⟩ = some (.int .i64 0) := (b2.cell (p := ⟨w.heap.size + 1, 0, none⟩) lt1).trans q10; have f20 : w2.frozen? ⟨w.heap.size + 1, 0, none⟩ = false := (b2.frozen (p := ⟨w.heap.size + 1, 0, none⟩) lt1).trans f10; have q21 : w2.cell? ⟨w.heap.size + 1, 1, none⟩ = some (.float .f64 0) := (b2.cell (p := ⟨w.heap.size + 1, 1, none⟩) lt1).trans q11; have f21 : w2.frozen? ⟨w.heap.size + 1, 1, none⟩ = false := (b2.frozen (p := ⟨w.heap.size + 1, 1, none⟩) lt1).trans f11; have q22 : w2.cell? ⟨w.heap.size + 1, 2, none⟩ = some (.string ⟨#[]⟩) := (b2.cell (p := ⟨w.heap.size + 1, 2, none⟩) lt1).trans q12; have f22 : w2.frozen? ⟨w.heap.size + 1, 2, none⟩ = false := (b2.frozen (p := ⟨w.heap.size + 1, 2, none⟩) lt1).trans f12; have q23 : w2.cell? ⟨w.heap.size + 1, 3, none⟩ = some (.int .i64 0) := (b2.cell (p := ⟨w.heap.size + 1, 3, none⟩) lt1).trans q13; have f23 : w2.frozen? ⟨w.heap.size + 1, 3, none⟩ = false := (b2.frozen (p := ⟨w.heap.size + 1, 3, none⟩) lt1).trans f13; clear b2
  go_wp2
  (try simp only [Exit.inBlock, Exit.then])
  refine bodyPost_ret (v := .agg #[.int .i64 3, .float .f64 (fa ^^^ 9223372036854775808), .string ⟨#[]⟩, .int .i64 0]) ?_ rfl ⟨3, _, _, _, rfl, ⟨rfl, rfl, rfl, rfl⟩, by (repeat' (first | (with_reducible exact Below.refl _ _) | (with_reducible assumption) | (with_reducible refine Below.drew ?_) | (with_reducible refine below_drewN ?_ _) | (with_reducible refine Below.alloc ?_ ?_ _) | (with_reducible refine Below.setCell ?_ ?_ _) | exact Below.size (show Below w.heap.size w _ by assumption) | (simp; done) | (simp; omega)))⟩
  rw [cv_results_cell rfl]
  go_simp
set_option maxHeartbeats 1000000 in
set_option maxRecDepth 100000 in
theorem ralike_n (x y : Nat) (w : World) (hx : x < 18446744073709551616) (hy : y < 18446744073709551616) : Calls Tryz.prog 10 #[.agg #[.int .i64 3, .float .f64 x, .string ⟨#[]⟩, .int .i64 0], .agg #[.int .i64 3, .float .f64 y, .string ⟨#[]⟩, .int .i64 0]] w fun e w' => e = .returned (.bool (alike x y)) ∧ Below w.heap.size w w' := by
  have HS := Hid.mk' (fun W => rsame_any x y 2 W hx hy)
  rw [show sameB x y 2 = alike x y from rfl] at HS
  revert HS
  generalize alike x y = L
  intro HS
  clear hx hy
  cases L
  all_goals
    go_enter Tryz.func10, Tryz.ntmps10
    go_wp2_with fail
    refine (HS.out _).mono ?_
    rintro e w8 ⟨rfl, hw8⟩
    rw [hw8]; clear hw8 w8
    go_wp2
    go_ret
    exact ⟨rfl, by (repeat' (first | (with_reducible exact Below.refl _ _) | (with_reducible assumption) | (with_reducible refine Below.drew ?_) | (with_reducible refine below_drewN ?_ _) | (with_reducible refine Below.alloc ?_ ?_ _) | (with_reducible refine Below.setCell ?_ ?_ _) | exact Below.size (show Below w.heap.size w _ by assumption) | (simp; done) | (simp; omega)))⟩
theorem fb_plus (x y : Nat) (hx : x < 18446744073709551616) (hy : y < 18446744073709551616) (w : World) (hl : Hid (Laid w)) : Calls Tryz.prog 7 #[.string ⟨#[43]⟩, .agg #[.int .i64 3, .float .f64 x, .string ⟨#[]⟩, .int .i64 0], .agg #[.int .i64 3, .float .f64 y, .string ⟨#[]⟩, .int .i64 0]] w fun e w' => ∃ r, e = .returned (.tuple #[.agg #[.int .i64 3, .float .f64 r, .string ⟨#[]⟩, .int .i64 0], .int .i64 0]) ∧ FR (Ieee.double.add x y) r ∧ Below w.heap.size w w' := by
  refine Calls.mono (bin_plus_n 3 x ⟨#[]⟩ 0 3 y ⟨#[]⟩ 0 x y (by decide) (by decide) (by decide) (by decide) (Hid.mk' (number_n x ⟨#[]⟩ 0)) (Hid.mk' (number_n y ⟨#[]⟩ 0)) w hl) ?_
  rintro e w1 ⟨kr, xr, sr, rr, rfl, ⟨rfl, rfl, rfl, hf⟩, hb⟩
  exact ⟨xr, rfl, hf, hb⟩
theorem fb_minus (x y : Nat) (hx : x < 18446744073709551616) (hy : y < 18446744073709551616) (w : World) (hl : Hid (Laid w)) : Calls Tryz.prog 7 #[.string ⟨#[45]⟩, .agg #[.int .i64 3, .float .f64 x, .string ⟨#[]⟩, .int .i64 0], .agg #[.int .i64 3, .float .f64 y, .string ⟨#[]⟩, .int .i64 0]] w fun e w' => ∃ r, e = .returned (.tuple #[.agg #[.int .i64 3, .float .f64 r, .string ⟨#[]⟩, .int .i64 0], .int .i64 0]) ∧ FR (Ieee.double.sub x y) r ∧ Below w.heap.size w w' := by
  refine Calls.mono (bin_minus_n 3 x ⟨#[]⟩ 0 3 y ⟨#[]⟩ 0 x y (by decide) (by decide) (Hid.mk' (number_n x ⟨#[]⟩ 0)) (Hid.mk' (number_n y ⟨#[]⟩ 0)) w hl) ?_
  rintro e w1 ⟨kr, xr, sr, rr, rfl, ⟨rfl, rfl, rfl, hf⟩, hb⟩
  exact ⟨xr, rfl, hf, hb⟩
theorem fb_times (x y : Nat) (hx : x < 18446744073709551616) (hy : y < 18446744073709551616) (w : World) (hl : Hid (Laid w)) : Calls Tryz.prog 7 #[.string ⟨#[42]⟩, .agg #[.int .i64 3, .float .f64 x, .string ⟨#[]⟩, .int .i64 0], .agg #[.int .i64 3, .float .f64 y, .string ⟨#[]⟩, .int .i64 0]] w fun e w' => ∃ r, e = .returned (.tuple #[.agg #[.int .i64 3, .float .f64 r, .string ⟨#[]⟩, .int .i64 0], .int .i64 0]) ∧ FR (Ieee.double.mul x y) r ∧ Below w.heap.size w w' := by
  refine Calls.mono (bin_times_n 3 x ⟨#[]⟩ 0 3 y ⟨#[]⟩ 0 x y (by decide) (by decide) (Hid.mk' (number_n x ⟨#[]⟩ 0)) (Hid.mk' (number_n y ⟨#[]⟩ 0)) w hl) ?_
  rintro e w1 ⟨kr, xr, sr, rr, rfl, ⟨rfl, rfl, rfl, hf⟩, hb⟩
  exact ⟨xr, rfl, hf, hb⟩
theorem fb_and (x y : Nat) (hx : x < 18446744073709551616) (hy : y < 18446744073709551616) (w : World) (hl : Hid (Laid w)) : Calls Tryz.prog 7 #[.string ⟨#[38]⟩, .agg #[.int .i64 3, .float .f64 x, .string ⟨#[]⟩, .int .i64 0], .agg #[.int .i64 3, .float .f64 y, .string ⟨#[]⟩, .int .i64 0]] w fun e w' => ∃ r, e = .returned (.tuple #[.agg #[.int .i64 3, .float .f64 r, .string ⟨#[]⟩, .int .i64 0], .int .i64 0]) ∧ FR (some (floatOfInt .f64 (bits .and .i32 (wrap32 (u32 x)) (wrap32 (u32 y))))) r ∧ Below w.heap.size w w' := by
  refine Calls.mono (bin_shift ⟨#[38]⟩ 43 (enters_of Tryz.func43 (by kernel_rfl) rfl) 3 x ⟨#[]⟩ 0 3 y ⟨#[]⟩ 0 _ (by decide) (by decide) (by decide) (Hid.mk' (fun X hX => and_h 3 x ⟨#[]⟩ 0 3 y ⟨#[]⟩ 0 x y hx hy (by decide) (by decide) (Hid.mk' (number_n x ⟨#[]⟩ 0)) (Hid.mk' (number_n y ⟨#[]⟩ 0)) X hX)) (by decide) w hl) ?_
  rintro e w1 ⟨rfl, hb⟩
  exact ⟨_, rfl, ⟨fun z hz => Option.some.inj hz, fun hz => by cases hz⟩, hb⟩
theorem fb_or (x y : Nat) (hx : x < 18446744073709551616) (hy : y < 18446744073709551616) (w : World) (hl : Hid (Laid w)) : Calls Tryz.prog 7 #[.string ⟨#[124]⟩, .agg #[.int .i64 3, .float .f64 x, .string ⟨#[]⟩, .int .i64 0], .agg #[.int .i64 3, .float .f64 y, .string ⟨#[]⟩, .int .i64 0]] w fun e w' => ∃ r, e = .returned (.tuple #[.agg #[.int .i64 3, .float .f64 r, .string ⟨#[]⟩, .int .i64 0], .int .i64 0]) ∧ FR (some (floatOfInt .f64 (bits .or .i32 (wrap32 (u32 x)) (wrap32 (u32 y))))) r ∧ Below w.heap.size w w' := by
  refine Calls.mono (bin_shift ⟨#[124]⟩ 44 (enters_of Tryz.func44 (by kernel_rfl) rfl) 3 x ⟨#[]⟩ 0 3 y ⟨#[]⟩ 0 _ (by decide) (by decide) (by decide) (Hid.mk' (fun X hX => or_h 3 x ⟨#[]⟩ 0 3 y ⟨#[]⟩ 0 x y hx hy (by decide) (by decide) (Hid.mk' (number_n x ⟨#[]⟩ 0)) (Hid.mk' (number_n y ⟨#[]⟩ 0)) X hX)) (by decide) w hl) ?_
  rintro e w1 ⟨rfl, hb⟩
  exact ⟨_, rfl, ⟨fun z hz => Option.some.inj hz, fun hz => by cases hz⟩, hb⟩
theorem fb_xor (x y : Nat) (hx : x < 18446744073709551616) (hy : y < 18446744073709551616) (w : World) (hl : Hid (Laid w)) : Calls Tryz.prog 7 #[.string ⟨#[94]⟩, .agg #[.int .i64 3, .float .f64 x, .string ⟨#[]⟩, .int .i64 0], .agg #[.int .i64 3, .float .f64 y, .string ⟨#[]⟩, .int .i64 0]] w fun e w' => ∃ r, e = .returned (.tuple #[.agg #[.int .i64 3, .float .f64 r, .string ⟨#[]⟩, .int .i64 0], .int .i64 0]) ∧ FR (some (floatOfInt .f64 (bits .xor .i32 (wrap32 (u32 x)) (wrap32 (u32 y))))) r ∧ Below w.heap.size w w' := by
  refine Calls.mono (bin_shift ⟨#[94]⟩ 45 (enters_of Tryz.func45 (by kernel_rfl) rfl) 3 x ⟨#[]⟩ 0 3 y ⟨#[]⟩ 0 _ (by decide) (by decide) (by decide) (Hid.mk' (fun X hX => either_h 3 x ⟨#[]⟩ 0 3 y ⟨#[]⟩ 0 x y hx hy (by decide) (by decide) (Hid.mk' (number_n x ⟨#[]⟩ 0)) (Hid.mk' (number_n y ⟨#[]⟩ 0)) X hX)) (by decide) w hl) ?_
  rintro e w1 ⟨rfl, hb⟩
  exact ⟨_, rfl, ⟨fun z hz => Option.some.inj hz, fun hz => by cases hz⟩, hb⟩
theorem fb_neg (y : Nat) (w : World) (hl : Hid (Laid w)) : Calls Tryz.prog 11 #[.string ⟨#[45]⟩, .agg #[.int .i64 3, .float .f64 y, .string ⟨#[]⟩, .int .i64 0]] w fun e w' => e = .returned (.tuple #[.agg #[.int .i64 3, .float .f64 (y ^^^ 9223372036854775808), .string ⟨#[]⟩, .int .i64 0], .int .i64 0]) ∧ Below w.heap.size w w' := by
  refine Calls.mono (un_sign ⟨#[45]⟩ 52 (enters_of Tryz.func52 (by kernel_rfl) rfl) 3 y ⟨#[]⟩ 0 (fun kr xr sr rr => kr = 3 ∧ sr = ⟨#[]⟩ ∧ rr = 0 ∧ xr = y ^^^ 9223372036854775808) (by decide) (Hid.mk' (fun W hW => minus_h 3 y ⟨#[]⟩ 0 y (by decide) (Hid.mk' (number_n y ⟨#[]⟩ 0)) W hW)) (by decide) w hl) ?_
  rintro e w1 ⟨kr, xr, sr, rr, rfl, ⟨rfl, rfl, rfl, rfl⟩, hb⟩
  exact ⟨rfl, hb⟩
end Go.Proofs.YtbkkkpfoaggejaaGreatDoor
