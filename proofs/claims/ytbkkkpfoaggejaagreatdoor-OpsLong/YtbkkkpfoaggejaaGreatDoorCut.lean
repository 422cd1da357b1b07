/- strings.Clone: the same bytes, in memory of their own. units.Compare and lintelref01.Compare: texts compare unit by unit, as their bytes do. units.Cut and lintelref01.Cut: pieces of a text. -/
import Derived.Test.YtbkkkpfoaggejaaGreatDoorBase
import Derived.Lib.BufferWrite
import Derived.Lib.UnsafeStr
import Derived.Laws.MakeOwn
import Derived.Test.YtbkkkpfoaggejaaGreatDoorRUnits
import Derived.Lib.Bytealg
import Derived.Lib.Strings
import Derived.Test.YtbkkkpfoaggejaaGreatDoorMake
namespace Go.Proofs.YtbkkkpfoaggejaaGreatDoor
set_option linter.unusedVariables false
open Go.RowKit

set_option maxHeartbeats 1000000 in
set_option maxRecDepth 100000 in
theorem slclone_wide (s : ByteArray) (w : World) (hs : (s.size : Int) ≤ 140737488351232) :
    Calls Tryz.prog 165 #[.string s] w fun e w' => e = .returned (.string s) ∧ Below w.heap.size w w' := by
  by_cases h0 : s.size = 0
  · obtain rfl : s = ⟨#[]⟩ := ByteArray.ext (Array.eq_empty_of_size_eq_zero h0)
    go_enter Tryz.func165, Tryz.ntmps165
    go_wp2
    go_ret
    exact ⟨rfl, Below.refl _ _⟩
  · obtain ⟨i0, hi, hz0, hz1, hz2⟩ := info_parts info8
    have hsz : (Tryz.prog.info? 5).map (·.size) = some 1 := by rw [hi]; simp [hz1]
    have hone : Tryz.prog.cellsOf 5 = 1 := by simp [Program.cellsOf, hi, hz1]
    obtain ⟨M, hM⟩ : ∃ M, M = madeCells (Value.int .u8 0).cells (((s.size : Nat) : Int).toNat * i0.size) := ⟨_, rfl⟩
    have hMs : M.size = s.size := by rw [hM, size_madeCells, hz1]; simp
    have mk : ∀ W : World, (Instr.makeSlice 54 (.int .i64 (s.size : Int)) (.int .i64 (s.size : Int))).run Tryz.prog W = .ok (.slice (some ⟨W.heap.size, 0, none⟩) s.size s.size) (W.alloc (.cells M 5)) := fun W => by
      have h := run_make (P := Tryz.prog) W 54 5 i0 (.int .u8 0) Tryz.underlying54 hi hz0 .i64 .i64 (s.size : Int) (s.size : Int) (by omega) (by omega) (by rw [hz2]; omega) (by omega)
      rw [← hM] at h
      simpa using h
    have cp := Lib.run_copy_row_string (P := Tryz.prog) (w.alloc (.cells M 5)) 54 9 3 5 w.heap.size 0 s.size s.size s M 5 Tryz.underlying54 hsz (heap_alloc_new w _) (Nat.le_refl _) (by omega)
    clear hM
    obtain ⟨Y, hY⟩ : ∃ Y, Y = (M.toList.take 0 ++ Lib.byteCells s.data.toList ++ M.toList.drop (0 + s.size)).toArray := ⟨_, rfl⟩
    rw [← hY] at cp
    have hlen : s.data.toList.length = s.size := by simp
    have hYl : Y.toList = Lib.byteCells s.data.toList := by
      rw [hY]
      have : M.toList.drop (0 + s.size) = [] := List.drop_of_length_le (by rw [Array.length_toList]; omega)
      rw [this]
      simp
    have hYs : Y.size = s.size := by rw [← Array.length_toList, hYl, Lib.byteCells_length, hlen]
    have hg : ((w.alloc (.cells M 5)).setRow w.heap.size Y).heap[w.heap.size]? = some (.cells Y 5 (0, 0)) := setRow_heap _ _ M _ 5 (0, 0) (heap_alloc_new w _)
    have us := Lib.run_unsafeString_row (P := Tryz.prog) ((w.alloc (.cells M 5)).setRow w.heap.size Y) 184 3 9 5 Tryz.underlying184 hone w.heap.size Y.size (by unfold World.shape?; rw [hg]) s.data.toList (fun e => h0 (by rw [← hlen, e]; rfl)) (by omega) (by omega)
      (fun j x hx => Lib.cells_of_row hg Y.size j _ (by rw [List.take_of_length_le (by rw [Array.length_toList]; exact Nat.le_refl _), hYl]; simp [Lib.byteCells, hx]))
    rw [hlen] at us
    clear hY
    go_enter Tryz.func165, Tryz.ntmps165
    go_wp2
    go_ret
    have b1 : Below w.heap.size w (w.alloc (.cells M 5)) := (Below.refl _ w).alloc (Nat.le_refl _) _
    have b2 : Below w.heap.size (w.alloc (.cells M 5)) ((w.alloc (.cells M 5)).setRow w.heap.size Y) := ⟨rfl, rfl, rfl, by simp, fun k hk => setRow_other _ _ _ _ (by omega)⟩
    exact ⟨rfl, Lib.below_freeze (b1.trans b2) (p := ⟨w.heap.size, 0, none⟩) (Nat.le_refl _) _⟩

set_option maxHeartbeats 400000 in
theorem clone_wide (s : ByteArray) (w : World) (hs : (s.size : Int) ≤ 140737488351232) :
    Calls Tryz.prog 148 #[.string s] w fun e w' => e = .returned (.string s) ∧ Below w.heap.size w w' := by
  go_enter Tryz.func148, Tryz.ntmps148
  go_wp2_with (go_at_call 165; refine (slclone_wide _ _ hs).mono ?_; rintro e w' ⟨rfl, b1⟩)
  go_ret
  exact ⟨rfl, b1⟩

theorem slclone_any (s : ByteArray) (w : World) (hs : (s.size : Int) ≤ 1048576) :
    Calls Tryz.prog 165 #[.string s] w fun e w' => e = .returned (.string s) ∧ Below w.heap.size w w' := slclone_wide s w (by omega)
theorem clone_any (s : ByteArray) (w : World) (hs : (s.size : Int) ≤ 1048576) :
    Calls Tryz.prog 148 #[.string s] w fun e w' => e = .returned (.string s) ∧ Below w.heap.size w w' := clone_wide s w (by omega)

end Go.Proofs.YtbkkkpfoaggejaaGreatDoor

namespace Go.Proofs.YtbkkkpfoaggejaaGreatDoor
set_option linter.unusedVariables false
open Go.RowKit

theorem ebs_step (s : ByteArray) (k : Nat) (h : k < s.size / 2) : ∃ b0 b1 : UInt8, (ebs s).drop (2 * k) = b0 :: b1 :: (ebs s).drop (2 * (k + 1)) ∧ b0.toNat = by' s (2 * k) ∧ b1.toNat = by' s (2 * k + 1) := by
  have hl := ebs_length s
  refine ⟨(ebs s)[2 * k]'(by omega), (ebs s)[2 * k + 1]'(by omega), ?_, ebs_get s _ _, ebs_get s _ _⟩
  rw [List.drop_eq_getElem_cons (show 2 * k < (ebs s).length by omega), List.drop_eq_getElem_cons (show 2 * k + 1 < (ebs s).length by omega)]
  rfl
theorem ebs_end (s : ByteArray) (k : Nat) (h : ¬ k < s.size / 2) : (ebs s).drop (2 * k) = [] := by
  have hl := ebs_length s
  exact List.drop_eq_nil_of_le (by omega)

/-- The bytes' order from a unit on. -/
def cmpK (a b : ByteArray) (k : Nat) : Int := Lib.compareBytes ((ebs a).drop (2 * k)) ((ebs b).drop (2 * k))
theorem cmpK_lt (a b : ByteArray) (k : Nat) (ha : k < a.size / 2) (hb : k < b.size / 2) (h : un a k < un b k) : cmpK a b k = -1 := by
  obtain ⟨x0, x1, ex, hx0, hx1⟩ := ebs_step a k ha
  obtain ⟨y0, y1, ey, hy0, hy1⟩ := ebs_step b k hb
  have l1 := by_lt a (2 * k + 1); have l2 := by_lt b (2 * k + 1)
  unfold un at h
  unfold cmpK
  rw [ex, ey]
  simp only [Lib.compareBytes, UInt8.lt_iff_toNat_lt, hx0, hx1, hy0, hy1]
  by_cases h1 : by' a (2 * k) < by' b (2 * k)
  · simp [h1]
  · have h2 : ¬ by' b (2 * k) < by' a (2 * k) := by omega
    have h3 : by' a (2 * k + 1) < by' b (2 * k + 1) := by omega
    simp [h1, h2, h3]
theorem cmpK_gt (a b : ByteArray) (k : Nat) (ha : k < a.size / 2) (hb : k < b.size / 2) (h : un b k < un a k) : cmpK a b k = 1 := by
  obtain ⟨x0, x1, ex, hx0, hx1⟩ := ebs_step a k ha
  obtain ⟨y0, y1, ey, hy0, hy1⟩ := ebs_step b k hb
  have l1 := by_lt a (2 * k + 1); have l2 := by_lt b (2 * k + 1)
  unfold un at h
  unfold cmpK
  rw [ex, ey]
  simp only [Lib.compareBytes, UInt8.lt_iff_toNat_lt, hx0, hx1, hy0, hy1]
  by_cases h1 : by' b (2 * k) < by' a (2 * k)
  · have h2 : ¬ by' a (2 * k) < by' b (2 * k) := by omega
    simp [h1, h2]
  · have h2 : ¬ by' a (2 * k) < by' b (2 * k) := by omega
    have h3 : by' b (2 * k + 1) < by' a (2 * k + 1) := by omega
    have h4 : ¬ by' a (2 * k + 1) < by' b (2 * k + 1) := by omega
    simp [h1, h2, h3, h4]
theorem cmpK_eq (a b : ByteArray) (k : Nat) (ha : k < a.size / 2) (hb : k < b.size / 2) (h : un a k = un b k) : cmpK a b k = cmpK a b (k + 1) := by
  obtain ⟨x0, x1, ex, hx0, hx1⟩ := ebs_step a k ha
  obtain ⟨y0, y1, ey, hy0, hy1⟩ := ebs_step b k hb
  have l1 := by_lt a (2 * k + 1); have l2 := by_lt b (2 * k + 1)
  unfold un at h
  unfold cmpK
  rw [ex, ey]
  simp only [Lib.compareBytes, UInt8.lt_iff_toNat_lt, hx0, hx1, hy0, hy1]
  have h1 : ¬ by' b (2 * k) < by' a (2 * k) := by omega
  have h2 : ¬ by' a (2 * k) < by' b (2 * k) := by omega
  have h3 : ¬ by' b (2 * k + 1) < by' a (2 * k + 1) := by omega
  have h4 : ¬ by' a (2 * k + 1) < by' b (2 * k + 1) := by omega
  simp [h1, h2, h3, h4]
theorem cmpK_more (a b : ByteArray) (k : Nat) (ha : k < a.size / 2) (hb : ¬ k < b.size / 2) : cmpK a b k = 1 := by
  obtain ⟨x0, x1, ex, _⟩ := ebs_step a k ha
  unfold cmpK; rw [ex, ebs_end b k hb]; rfl
theorem cmpK_less (a b : ByteArray) (k : Nat) (ha : ¬ k < a.size / 2) (hb : k < b.size / 2) : cmpK a b k = -1 := by
  obtain ⟨x0, x1, ex, _⟩ := ebs_step b k hb
  unfold cmpK; rw [ex, ebs_end a k ha]; rfl
theorem cmpK_end (a b : ByteArray) (k : Nat) (ha : ¬ k < a.size / 2) (hb : ¬ k < b.size / 2) : cmpK a b k = 0 := by
  unfold cmpK; rw [ebs_end a k ha, ebs_end b k hb]; rfl

theorem cb_neg : ∀ (a b : List UInt8), Lib.compareBytes b a = -Lib.compareBytes a b
  | [], [] => rfl
  | [], _ :: _ => rfl
  | _ :: _, [] => rfl
  | a :: us, b :: vs => by
    simp only [Lib.compareBytes]
    by_cases h1 : a < b
    · have h2 : ¬ b < a := by rw [UInt8.lt_iff_toNat_lt] at *; omega
      simp [h1, h2]
    · by_cases h2 : b < a
      · simp [h1, h2]
      · simp [h1, h2, cb_neg us vs]
theorem cb_range : ∀ (a b : List UInt8), Lib.compareBytes a b = -1 ∨ Lib.compareBytes a b = 0 ∨ Lib.compareBytes a b = 1
  | [], [] => .inr (.inl rfl)
  | [], _ :: _ => .inl rfl
  | _ :: _, [] => .inr (.inr rfl)
  | a :: us, b :: vs => by
    simp only [Lib.compareBytes]
    split
    · exact .inl rfl
    · split
      · exact .inr (.inr rfl)
      · exact cb_range us vs
theorem cb_zero : ∀ (a b : List UInt8), Lib.compareBytes a b = 0 ↔ a = b
  | [], [] => by simp [Lib.compareBytes]
  | [], _ :: _ => by simp [Lib.compareBytes]
  | _ :: _, [] => by simp [Lib.compareBytes]
  | a :: us, b :: vs => by
    simp only [Lib.compareBytes]
    split
    · rename_i h
      have : a ≠ b := by rintro rfl; rw [UInt8.lt_iff_toNat_lt] at h; omega
      simp [this]
    · split
      · rename_i h
        have : a ≠ b := by rintro rfl; rw [UInt8.lt_iff_toNat_lt] at h; omega
        simp [this]
      · rename_i h1 h2
        have : a = b := by rw [← UInt8.toNat_inj]; rw [UInt8.lt_iff_toNat_lt] at *; omega
        simp [this, cb_zero us vs]
theorem cb_lt : ∀ (a b : List UInt8), decide (Lib.compareBytes a b < 0) = Op.bytesLess a b
  | [], [] => by simp [Lib.compareBytes, Op.bytesLess]
  | [], _ :: _ => by simp [Lib.compareBytes, Op.bytesLess]
  | _ :: _, [] => by simp [Lib.compareBytes, Op.bytesLess]
  | a :: us, b :: vs => by
    simp only [Lib.compareBytes, Op.bytesLess]
    by_cases h1 : a < b
    · simp [h1]
    · by_cases h2 : b < a
      · have : a ≠ b := by rintro rfl; exact h1 h2
        simp [h1, h2, this]
      · have : a = b := by rw [← UInt8.toNat_inj]; rw [UInt8.lt_iff_toNat_lt] at *; omega
        subst this
        simp [h1, ← cb_lt us vs]

theorem cmp_swap (a b : ByteArray) : cmpK b a 0 = wrap64 (-cmpK a b 0) := by
  have h : cmpK b a 0 = -cmpK a b 0 := cb_neg _ _
  have hr : cmpK a b 0 = -1 ∨ cmpK a b 0 = 0 ∨ cmpK a b 0 = 1 := cb_range _ _
  rw [h]
  rcases hr with h | h | h <;> rw [h] <;> simp [wrap64]
theorem cmp_less (a b : ByteArray) : decide (cmpK a b 0 < 0) = Op.bytesLess (evenS a).toList (evenS b).toList := by
  rw [ByteArray.toList_eq, ByteArray.toList_eq, evenS_bytes, evenS_bytes]
  exact cb_lt _ _
theorem cmp_same (a b : ByteArray) : ((cmpK a b 0 == 0) == ((evenS a).toList == (evenS b).toList)) = true := by
  rw [ByteArray.toList_eq, ByteArray.toList_eq, evenS_bytes, evenS_bytes]
  have h : cmpK a b 0 = 0 ↔ ebs a = ebs b := cb_zero _ _
  rw [beq_iff_eq, Bool.eq_iff_iff]
  simpa using h

set_option maxHeartbeats 1000000 in
set_option maxRecDepth 100000 in
theorem compareString_any (a b : ByteArray) (w : World) :
    Calls Tryz.prog 128 #[.string a, .string b] w fun e w' => e = .returned (.int .i64 (Lib.compareBytes a.data.toList b.data.toList)) ∧ w' = w := by
  go_enter Tryz.func128, Tryz.ntmps128
  go_wp2
  rw [run_callFunc_extern Tryz.func145 (by kernel_rfl) (by kernel_rfl) (by kernel_rfl) (e := Extern.BytealgCompare.compare) (by kernel_rfl), Lib.run_compareString]
  simp only [Result.andThen]
  rw [Oper.upon_value]
  go_wp2
  go_ret
  exact ⟨rfl, rfl⟩

set_option maxHeartbeats 400000 in
theorem strCompare_any (a b : ByteArray) (w : World) :
    Calls Tryz.prog 115 #[.string a, .string b] w fun e w' => e = .returned (.int .i64 (Lib.compareBytes a.data.toList b.data.toList)) ∧ w' = w := by
  go_enter Tryz.func115, Tryz.ntmps115
  go_wp2_with (go_at_call 128; refine (compareString_any _ _ _).mono ?_; rintro e w' ⟨rfl, rfl⟩)
  go_ret
  exact ⟨rfl, rfl⟩

set_option maxHeartbeats 400000 in
set_option maxRecDepth 100000 in
theorem piece_wide (s : ByteArray) (i j : Nat) (w : World) (hs : (s.size : Int) ≤ 140737488351232) (hij : i ≤ j) (hj : j ≤ s.size / 2) :
    Calls Tryz.prog 118 #[.string s, .int .i64 i, .int .i64 j] w fun e w' => e = .returned (.string (s.extract (2 * i) (2 * j))) ∧ w' = w := by
  have h1 : (0 : Int) ≤ 2 * (i : Int) := by omega
  have h2 : 2 * (i : Int) ≤ 2 * (j : Int) := by omega
  have h3 : 2 * (j : Int) ≤ (s.size : Int) := by omega
  go_enter Tryz.func118, Tryz.ntmps118
  go_wp2
  go_ret
  exact ⟨rfl, rfl⟩

set_option maxHeartbeats 400000 in
set_option maxRecDepth 100000 in
theorem even_wide (s : ByteArray) (w : World) (hs : (s.size : Int) ≤ 140737488351232) :
    Calls Tryz.prog 102 #[.string s] w fun e w' => e = .returned (.string (evenS s)) ∧ w' = w := by
  have hm : s.size ≤ maxLen := by unfold maxLen; omega
  have HE : Hid (evenS s = s.extract (2 * 0) (2 * (s.size / 2))) := by
    show _ = _
    unfold evenS; rw [Nat.mul_comm]
  go_enter Tryz.func102, Tryz.ntmps102
  go_wp2_with (first | (go_at_call 99; refine (len_any _ _ hm).mono ?_; rintro e w' ⟨rfl, rfl⟩) | (go_at_call 118; refine (piece_wide s 0 (s.size / 2) _ hs (Nat.zero_le _) (Nat.le_refl _)).mono ?_; rintro e w' ⟨rfl, rfl⟩))
  go_ret
  rw [HE.out]
  exact ⟨rfl, rfl⟩

set_option maxHeartbeats 400000 in
set_option maxRecDepth 100000 in
theorem compare_wide (a b : ByteArray) (w : World) (ha : (a.size : Int) ≤ 140737488351232) (hb : (b.size : Int) ≤ 140737488351232) :
    Calls Tryz.prog 94 #[.string a, .string b] w fun e w' => e = .returned (.int .i64 (cmpK a b 0)) ∧ w' = w := by
  have HE : Hid (cmpK a b 0 = Lib.compareBytes (evenS a).data.toList (evenS b).data.toList) := by
    show _ = _
    rw [evenS_bytes, evenS_bytes]; rfl
  go_enter Tryz.func94, Tryz.ntmps94
  go_wp2_with fail
  refine (even_wide a _ ha).mono ?_
  rintro e w1 ⟨rfl, hw1⟩
  rw [hw1]; clear hw1 w1
  go_wp2_with fail
  refine (even_wide b _ hb).mono ?_
  rintro e w1 ⟨rfl, hw1⟩
  rw [hw1]; clear hw1 w1
  go_wp2_with fail
  refine (strCompare_any _ _ _).mono ?_
  rintro e w1 ⟨rfl, hw1⟩
  rw [hw1]; clear hw1 w1
  go_wp2
  go_ret
  rw [HE.out]
  exact ⟨rfl, rfl⟩

theorem piece_any (s : ByteArray) (i j : Nat) (w : World) (hs : (s.size : Int) ≤ 1048576) (hij : i ≤ j) (hj : j ≤ s.size / 2) :
    Calls Tryz.prog 118 #[.string s, .int .i64 i, .int .i64 j] w fun e w' => e = .returned (.string (s.extract (2 * i) (2 * j))) ∧ w' = w := piece_wide s i j w (by omega) hij hj
theorem even_any (s : ByteArray) (w : World) (hs : (s.size : Int) ≤ 1048576) :
    Calls Tryz.prog 102 #[.string s] w fun e w' => e = .returned (.string (evenS s)) ∧ w' = w := even_wide s w (by omega)
theorem compare_any (a b : ByteArray) (w : World) (ha : (a.size : Int) ≤ 1048576) (hb : (b.size : Int) ≤ 1048576) :
    Calls Tryz.prog 94 #[.string a, .string b] w fun e w' => e = .returned (.int .i64 (cmpK a b 0)) ∧ w' = w := compare_wide a b w (by omega) (by omega)

end Go.Proofs.YtbkkkpfoaggejaaGreatDoor

namespace Go.Proofs.YtbkkkpfoaggejaaGreatDoor
set_option linter.unusedVariables false
open Go.RowKit

/-- A piece of a text. -/
def cutS (s : ByteArray) (i j : Int) : ByteArray := if min j ((s.size / 2 : Nat) : Int) ≤ max i 0 then ⟨#[]⟩ else s.extract (2 * (max i 0).toNat) (2 * (min j ((s.size / 2 : Nat) : Int)).toNat)
theorem cutS_no {s : ByteArray} {i j : Int} (h : min j ((s.size / 2 : Nat) : Int) ≤ max i 0) : cutS s i j = ⟨#[]⟩ := by unfold cutS; rw [if_pos h]
theorem cutS_yes {s : ByteArray} {i j : Int} (f t : Nat) (hf : max i 0 = f) (ht : min j ((s.size / 2 : Nat) : Int) = t) (h : f < t) : cutS s i j = s.extract (2 * f) (2 * t) := by
  unfold cutS; rw [hf, ht, if_neg (by omega)]; rfl

set_option maxHeartbeats 400000 in
set_option maxRecDepth 100000 in
theorem cut_no (s : ByteArray) (i j : Int) (w : World) (hs : (s.size : Int) ≤ 140737488351232) (hno : min j ((s.size / 2 : Nat) : Int) ≤ max i 0) :
    Calls Tryz.prog 131 #[.string s, .int .i64 i, .int .i64 j] w fun e w' => e = .returned (.string ⟨#[]⟩) ∧ Below w.heap.size w w' := by
  have hm : s.size ≤ maxLen := by unfold maxLen; omega
  by_cases h1 : i < 0
  all_goals by_cases h2 : (s.size : Int) / 2 < j
  all_goals
    go_enter Tryz.func131, Tryz.ntmps131
    go_wp2_with (first | (go_at_call 99; refine (len_any _ _ hm).mono ?_; rintro e w1 ⟨rfl, hw1⟩; rw [hw1]; clear hw1 w1))
    go_ret
    exact ⟨rfl, Below.refl _ _⟩

set_option maxHeartbeats 400000 in
set_option maxRecDepth 100000 in
theorem cut_yes (s : ByteArray) (i j : Int) (f t : Nat) (w : World) (hs : (s.size : Int) ≤ 140737488351232) (hf : (i < 0 ∧ f = 0) ∨ i = f) (ht : ((s.size : Int) / 2 < j ∧ t = s.size / 2) ∨ ((t : Int) ≤ (s.size : Int) / 2 ∧ j = t)) (hft : f < t) :
    Calls Tryz.prog 131 #[.string s, .int .i64 i, .int .i64 j] w fun e w' => e = .returned (.string (s.extract (2 * f) (2 * t))) ∧ Below w.heap.size w w' := by
  have hm : s.size ≤ maxLen := by unfold maxLen; omega
  have htn : t ≤ s.size / 2 := by omega
  have hx : ((s.extract (2 * f) (2 * t)).size : Int) ≤ 140737488351232 := by
    have : (s.extract (2 * f) (2 * t)).size ≤ s.size := by simp; omega
    omega
  have HP := Hid.mk' (fun W => piece_wide s f t W hs (by omega) htn)
  have HX := Hid.mk' (fun W => clone_wide (s.extract (2 * f) (2 * t)) W hx)
  clear hx
  rcases hf with ⟨h1, rfl⟩ | rfl
  all_goals rcases ht with ⟨h2, rfl⟩ | ⟨h2, rfl⟩
  all_goals
    go_enter Tryz.func131, Tryz.ntmps131
    go_wp2_with (first | (go_at_call 99; refine (len_any _ _ hm).mono ?_; rintro e w1 ⟨rfl, hw1⟩; rw [hw1]; clear hw1 w1) | (go_at_call 118; refine (HP.out _).mono ?_; rintro e w1 ⟨rfl, hw1⟩; rw [hw1]; clear hw1 w1) | (go_at_call 148; refine (HX.out _).mono ?_; rintro e w2 ⟨rfl, b2⟩))
    go_ret
    exact ⟨rfl, b2⟩

theorem cut_wide (s : ByteArray) (i j : Int) (w : World) (hs : (s.size : Int) ≤ 140737488351232) :
    Calls Tryz.prog 131 #[.string s, .int .i64 i, .int .i64 j] w fun e w' => e = .returned (.string (cutS s i j)) ∧ Below w.heap.size w w' := by
  by_cases hno : min j ((s.size / 2 : Nat) : Int) ≤ max i 0
  · rw [cutS_no hno]
    exact cut_no s i j w hs hno
  · obtain ⟨f, hf⟩ : ∃ f : Nat, max i 0 = f := ⟨(max i 0).toNat, by omega⟩
    obtain ⟨t, ht⟩ : ∃ t : Nat, min j ((s.size / 2 : Nat) : Int) = t := ⟨(min j ((s.size / 2 : Nat) : Int)).toNat, by omega⟩
    rw [cutS_yes f t hf ht (by omega)]
    exact cut_yes s i j f t w hs (by omega) (by omega) (by omega)

theorem cut_any (s : ByteArray) (i j : Int) (w : World) (hs : (s.size : Int) ≤ 1048576) :
    Calls Tryz.prog 131 #[.string s, .int .i64 i, .int .i64 j] w fun e w' => e = .returned (.string (cutS s i j)) ∧ Below w.heap.size w w' := cut_wide s i j w (by omega)

end Go.Proofs.YtbkkkpfoaggejaaGreatDoor
