/- OpsLong: texts are put one behind the other up to just so many units. Written by tools/mkopl.py. -/
import Derived.Test.YtbkkkpfoaggejaaGreatDoorOpJ
namespace Go.Proofs.YtbkkkpfoaggejaaGreatDoor
set_option linter.unusedVariables false
set_option linter.unusedSimpArgs false
open Go.RowKit Go.Sort Fl

theorem ol_hsum (a b : ByteArray) : hsum [a, b] = a.size / 2 + b.size / 2 := by simp [hsum]
theorem plus_yes (a b : ByteArray) (ha : a.size ≤ 1000000) (hb : b.size ≤ 1000000) (h : a.size / 2 + b.size / 2 ≤ 65536) (w : World) (hl : Hid (Laid w)) : Calls Tryz.prog 7 #[.string ⟨#[43]⟩, .agg #[.int .i64 4, .float .f64 0, .string a, .int .i64 0], .agg #[.int .i64 4, .float .f64 0, .string b, .int .i64 0]] w fun e w' => ∃ t : ByteArray, e = .returned (.tuple #[.agg #[.int .i64 4, .float .f64 0, .string t, .int .i64 0], .int .i64 0]) ∧ t.size = 2 * (a.size / 2 + b.size / 2) ∧ Below w.heap.size w w' := by
  have hz : ∀ s ∈ [a, b], s.size ≤ 1000000 := by intro s hs; simp only [List.mem_cons, List.not_mem_nil, or_false] at hs; rcases hs with rfl | rfl <;> assumption
  refine Calls.mono (bin_plus_t 4 0 a 0 4 0 b 0 a b ⟨(joinB [a, b]).toArray⟩ (by decide) (by decide) (.inl rfl) (Hid.mk' (writ_text 0 a 0)) (Hid.mk' (writ_text 0 b 0))
    (Hid.mk' (fun v W hv => joinL_yes [a, b] (by simp) hz v W hv (by rw [ol_hsum]; exact h))) w hl) ?_
  rintro e w1 ⟨kr, xr, sr, rr, rfl, ⟨rfl, rfl, rfl, rfl⟩, hb⟩
  refine ⟨_, rfl, ?_, hb⟩
  have q := joinB_length [a, b]
  rw [ol_hsum] at q
  show (joinB [a, b]).toArray.size = _
  simpa using q
theorem plus_no (a b : ByteArray) (ha : a.size ≤ 1000000) (hb : b.size ≤ 1000000) (h : 65536 < a.size / 2 + b.size / 2) (w : World) (hl : Hid (Laid w)) : Calls Tryz.prog 7 #[.string ⟨#[43]⟩, .agg #[.int .i64 4, .float .f64 0, .string a, .int .i64 0], .agg #[.int .i64 4, .float .f64 0, .string b, .int .i64 0]] w fun e w' => e = .returned (.tuple #[.agg #[.int .i64 0, .float .f64 0, .string ⟨#[]⟩, .int .i64 0], .int .i64 193]) ∧ Below w.heap.size w w' := by
  have hz : ∀ s ∈ [a, b], s.size ≤ 1000000 := by intro s hs; simp only [List.mem_cons, List.not_mem_nil, or_false] at hs; rcases hs with rfl | rfl <;> assumption
  exact bin_throws ⟨#[43]⟩ 26 (enters_of Tryz.func26 (by kernel_rfl) rfl) 4 0 a 0 4 0 b 0 (by decide) (Hid.mk' (fun W hW => add_no 4 0 a 0 4 0 b 0 a b ⟨#[]⟩ (by decide) (by decide) rfl (Hid.mk' (writ_text 0 a 0)) (Hid.mk' (writ_text 0 b 0))
    (Hid.mk' (fun v X hv => joinL_no [a, b] (by simp) hz v X hv (by rw [ol_hsum]; exact h))) W hW)) (by decide) w hl
set_option maxHeartbeats 4000000 in
set_option maxRecDepth 100000 in
theorem long_bad0 (u : ByteArray) (n m : Int) (w : World) (hu : (u.size : Int) ≤ 140737488351232) (hl : Hid (Laid w)) (g0 : ((u.size : Int) != 2) = true) : Calls Tryz.prog 3 #[.string u, .int .i64 n, .int .i64 m] w fun e w' => e = .returned (.bool true) ∧ Below w.heap.size w w' := by
  have HW := Hid.mk' (fun W (hW : Hid (Laid W)) => awake19 W hW)
  go_enter Tryz.func3, Tryz.ntmps3
  go_wp2_with fail
  refine (HW.out _ (Hid.mk' (hl.out.below (by (repeat' (first | (with_reducible exact Below.refl _ _) | (with_reducible assumption) | (with_reducible refine Below.drew ?_) | (with_reducible refine below_drewN ?_ _) | (with_reducible refine Below.alloc ?_ ?_ _) | (with_reducible refine Below.setCell ?_ ?_ _) | exact Below.size (show Below w.heap.size w _ by assumption) | (simp; done) | (simp; omega))))))).mono ?_
  rintro e w1 ⟨rfl, b1⟩
  have c1 : Below w.heap.size w w1 := bl_chain (by (repeat' (first | (with_reducible exact Below.refl _ _) | (with_reducible assumption) | (with_reducible refine Below.drew ?_) | (with_reducible refine below_drewN ?_ _) | (with_reducible refine Below.alloc ?_ ?_ _) | (with_reducible refine Below.setCell ?_ ?_ _) | exact Below.size (show Below w.heap.size w _ by assumption) | (simp; done) | (simp; omega)))) b1
  have hl1 : Hid (Laid w1) := Hid.mk' (hl.out.below c1)
  clear b1
  go_wp2
  go_ret
  exact ⟨rfl, by (repeat' (first | (with_reducible exact Below.refl _ _) | (with_reducible assumption) | (with_reducible refine Below.drew ?_) | (with_reducible refine below_drewN ?_ _) | (with_reducible refine Below.alloc ?_ ?_ _) | (with_reducible refine Below.setCell ?_ ?_ _) | exact Below.size (show Below w.heap.size w _ by assumption) | (simp; done) | (simp; omega)))⟩
set_option maxHeartbeats 4000000 in
set_option maxRecDepth 100000 in
theorem long_bad1 (u : ByteArray) (n m : Int) (w : World) (hu : (u.size : Int) ≤ 140737488351232) (hl : Hid (Laid w)) (g0 : ((u.size : Int) != 2) = false) (g1 : decide (n < 0) = true) : Calls Tryz.prog 3 #[.string u, .int .i64 n, .int .i64 m] w fun e w' => e = .returned (.bool true) ∧ Below w.heap.size w w' := by
  have HW := Hid.mk' (fun W (hW : Hid (Laid W)) => awake19 W hW)
  go_enter Tryz.func3, Tryz.ntmps3
  go_wp2_with fail
  refine (HW.out _ (Hid.mk' (hl.out.below (by (repeat' (first | (with_reducible exact Below.refl _ _) | (with_reducible assumption) | (with_reducible refine Below.drew ?_) | (with_reducible refine below_drewN ?_ _) | (with_reducible refine Below.alloc ?_ ?_ _) | (with_reducible refine Below.setCell ?_ ?_ _) | exact Below.size (show Below w.heap.size w _ by assumption) | (simp; done) | (simp; omega))))))).mono ?_
  rintro e w1 ⟨rfl, b1⟩
  have c1 : Below w.heap.size w w1 := bl_chain (by (repeat' (first | (with_reducible exact Below.refl _ _) | (with_reducible assumption) | (with_reducible refine Below.drew ?_) | (with_reducible refine below_drewN ?_ _) | (with_reducible refine Below.alloc ?_ ?_ _) | (with_reducible refine Below.setCell ?_ ?_ _) | exact Below.size (show Below w.heap.size w _ by assumption) | (simp; done) | (simp; omega)))) b1
  have hl1 : Hid (Laid w1) := Hid.mk' (hl.out.below c1)
  clear b1
  go_wp2
  go_ret
  exact ⟨rfl, by (repeat' (first | (with_reducible exact Below.refl _ _) | (with_reducible assumption) | (with_reducible refine Below.drew ?_) | (with_reducible refine below_drewN ?_ _) | (with_reducible refine Below.alloc ?_ ?_ _) | (with_reducible refine Below.setCell ?_ ?_ _) | exact Below.size (show Below w.heap.size w _ by assumption) | (simp; done) | (simp; omega)))⟩
set_option maxHeartbeats 4000000 in
set_option maxRecDepth 100000 in
theorem long_bad2 (u : ByteArray) (n m : Int) (w : World) (hu : (u.size : Int) ≤ 140737488351232) (hl : Hid (Laid w)) (g0 : ((u.size : Int) != 2) = false) (g1 : decide (n < 0) = false) (g2 : decide (m < 0) = true) : Calls Tryz.prog 3 #[.string u, .int .i64 n, .int .i64 m] w fun e w' => e = .returned (.bool true) ∧ Below w.heap.size w w' := by
  have HW := Hid.mk' (fun W (hW : Hid (Laid W)) => awake19 W hW)
  go_enter Tryz.func3, Tryz.ntmps3
  go_wp2_with fail
  refine (HW.out _ (Hid.mk' (hl.out.below (by (repeat' (first | (with_reducible exact Below.refl _ _) | (with_reducible assumption) | (with_reducible refine Below.drew ?_) | (with_reducible refine below_drewN ?_ _) | (with_reducible refine Below.alloc ?_ ?_ _) | (with_reducible refine Below.setCell ?_ ?_ _) | exact Below.size (show Below w.heap.size w _ by assumption) | (simp; done) | (simp; omega))))))).mono ?_
  rintro e w1 ⟨rfl, b1⟩
  have c1 : Below w.heap.size w w1 := bl_chain (by (repeat' (first | (with_reducible exact Below.refl _ _) | (with_reducible assumption) | (with_reducible refine Below.drew ?_) | (with_reducible refine below_drewN ?_ _) | (with_reducible refine Below.alloc ?_ ?_ _) | (with_reducible refine Below.setCell ?_ ?_ _) | exact Below.size (show Below w.heap.size w _ by assumption) | (simp; done) | (simp; omega)))) b1
  have hl1 : Hid (Laid w1) := Hid.mk' (hl.out.below c1)
  clear b1
  go_wp2
  go_ret
  exact ⟨rfl, by (repeat' (first | (with_reducible exact Below.refl _ _) | (with_reducible assumption) | (with_reducible refine Below.drew ?_) | (with_reducible refine below_drewN ?_ _) | (with_reducible refine Below.alloc ?_ ?_ _) | (with_reducible refine Below.setCell ?_ ?_ _) | exact Below.size (show Below w.heap.size w _ by assumption) | (simp; done) | (simp; omega)))⟩
set_option maxHeartbeats 4000000 in
set_option maxRecDepth 100000 in
theorem long_bad3 (u : ByteArray) (n m : Int) (w : World) (hu : (u.size : Int) ≤ 140737488351232) (hl : Hid (Laid w)) (g0 : ((u.size : Int) != 2) = false) (g1 : decide (n < 0) = false) (g2 : decide (m < 0) = false) (g3 : decide (70000 < n) = true) : Calls Tryz.prog 3 #[.string u, .int .i64 n, .int .i64 m] w fun e w' => e = .returned (.bool true) ∧ Below w.heap.size w w' := by
  have HW := Hid.mk' (fun W (hW : Hid (Laid W)) => awake19 W hW)
  go_enter Tryz.func3, Tryz.ntmps3
  go_wp2_with fail
  refine (HW.out _ (Hid.mk' (hl.out.below (by (repeat' (first | (with_reducible exact Below.refl _ _) | (with_reducible assumption) | (with_reducible refine Below.drew ?_) | (with_reducible refine below_drewN ?_ _) | (with_reducible refine Below.alloc ?_ ?_ _) | (with_reducible refine Below.setCell ?_ ?_ _) | exact Below.size (show Below w.heap.size w _ by assumption) | (simp; done) | (simp; omega))))))).mono ?_
  rintro e w1 ⟨rfl, b1⟩
  have c1 : Below w.heap.size w w1 := bl_chain (by (repeat' (first | (with_reducible exact Below.refl _ _) | (with_reducible assumption) | (with_reducible refine Below.drew ?_) | (with_reducible refine below_drewN ?_ _) | (with_reducible refine Below.alloc ?_ ?_ _) | (with_reducible refine Below.setCell ?_ ?_ _) | exact Below.size (show Below w.heap.size w _ by assumption) | (simp; done) | (simp; omega)))) b1
  have hl1 : Hid (Laid w1) := Hid.mk' (hl.out.below c1)
  clear b1
  go_wp2
  go_ret
  exact ⟨rfl, by (repeat' (first | (with_reducible exact Below.refl _ _) | (with_reducible assumption) | (with_reducible refine Below.drew ?_) | (with_reducible refine below_drewN ?_ _) | (with_reducible refine Below.alloc ?_ ?_ _) | (with_reducible refine Below.setCell ?_ ?_ _) | exact Below.size (show Below w.heap.size w _ by assumption) | (simp; done) | (simp; omega)))⟩
set_option maxHeartbeats 4000000 in
set_option maxRecDepth 100000 in
theorem long_bad4 (u : ByteArray) (n m : Int) (w : World) (hu : (u.size : Int) ≤ 140737488351232) (hl : Hid (Laid w)) (g0 : ((u.size : Int) != 2) = false) (g1 : decide (n < 0) = false) (g2 : decide (m < 0) = false) (g3 : decide (70000 < n) = false) (g4 : decide (70000 < m) = true) : Calls Tryz.prog 3 #[.string u, .int .i64 n, .int .i64 m] w fun e w' => e = .returned (.bool true) ∧ Below w.heap.size w w' := by
  have HW := Hid.mk' (fun W (hW : Hid (Laid W)) => awake19 W hW)
  go_enter Tryz.func3, Tryz.ntmps3
  go_wp2_with fail
  refine (HW.out _ (Hid.mk' (hl.out.below (by (repeat' (first | (with_reducible exact Below.refl _ _) | (with_reducible assumption) | (with_reducible refine Below.drew ?_) | (with_reducible refine below_drewN ?_ _) | (with_reducible refine Below.alloc ?_ ?_ _) | (with_reducible refine Below.setCell ?_ ?_ _) | exact Below.size (show Below w.heap.size w _ by assumption) | (simp; done) | (simp; omega))))))).mono ?_
  rintro e w1 ⟨rfl, b1⟩
  have c1 : Below w.heap.size w w1 := bl_chain (by (repeat' (first | (with_reducible exact Below.refl _ _) | (with_reducible assumption) | (with_reducible refine Below.drew ?_) | (with_reducible refine below_drewN ?_ _) | (with_reducible refine Below.alloc ?_ ?_ _) | (with_reducible refine Below.setCell ?_ ?_ _) | exact Below.size (show Below w.heap.size w _ by assumption) | (simp; done) | (simp; omega)))) b1
  have hl1 : Hid (Laid w1) := Hid.mk' (hl.out.below c1)
  clear b1
  go_wp2
  go_ret
  exact ⟨rfl, by (repeat' (first | (with_reducible exact Below.refl _ _) | (with_reducible assumption) | (with_reducible refine Below.drew ?_) | (with_reducible refine below_drewN ?_ _) | (with_reducible refine Below.alloc ?_ ?_ _) | (with_reducible refine Below.setCell ?_ ?_ _) | exact Below.size (show Below w.heap.size w _ by assumption) | (simp; done) | (simp; omega)))⟩
set_option maxHeartbeats 4000000 in
set_option maxRecDepth 100000 in
theorem long_yes (u : ByteArray) (n m : Nat) (w : World) (hu : u.size = 2) (hn : n ≤ 70000) (hm : m ≤ 70000) (hc : n + m ≤ 65536) (hl : Hid (Laid w)) (g0 : ((u.size : Int) != 2) = false) (g1 : decide ((n : Int) < 0) = false) (g2 : decide ((m : Int) < 0) = false) (g3 : decide ((70000 : Int) < n) = false) (g4 : decide ((70000 : Int) < m) = false) : Calls Tryz.prog 3 #[.string u, .int .i64 n, .int .i64 m] w fun e w' => e = .returned (.bool true) ∧ Below w.heap.size w w' := by
  have HLO := Hid.mk' (fun k W (hk : k ≤ 70000) => long_any u k W hu hk)
  have heq : ∀ W, (binOp .eql 26 (.agg #[.int .i64 0, .float .f64 0, .string ⟨#[]⟩, .int .i64 0]) (.agg #[.int .i64 0, .float .f64 0, .string ⟨#[]⟩, .int .i64 0])).run Tryz.prog W = .ok (.bool true) W := fun W => by kernel_rfl
  have hbig : decide ((65536 : Int) < (n : Int) + (m : Int)) = false := decide_eq_false (by omega)
  have hus : (u.size : Int) ≤ 140737488351232 := by omega
  have HW := Hid.mk' (fun W (hW : Hid (Laid W)) => awake19 W hW)
  go_enter Tryz.func3, Tryz.ntmps3
  go_wp2_with fail
  refine (HW.out _ (Hid.mk' (hl.out.below (by (repeat' (first | (with_reducible exact Below.refl _ _) | (with_reducible assumption) | (with_reducible refine Below.drew ?_) | (with_reducible refine below_drewN ?_ _) | (with_reducible refine Below.alloc ?_ ?_ _) | (with_reducible refine Below.setCell ?_ ?_ _) | exact Below.size (show Below w.heap.size w _ by assumption) | (simp; done) | (simp; omega))))))).mono ?_
  rintro e w1 ⟨rfl, b1⟩
  have c1 : Below w.heap.size w w1 := bl_chain (by (repeat' (first | (with_reducible exact Below.refl _ _) | (with_reducible assumption) | (with_reducible refine Below.drew ?_) | (with_reducible refine below_drewN ?_ _) | (with_reducible refine Below.alloc ?_ ?_ _) | (with_reducible refine Below.setCell ?_ ?_ _) | exact Below.size (show Below w.heap.size w _ by assumption) | (simp; done) | (simp; omega)))) b1
  have hl1 : Hid (Laid w1) := Hid.mk' (hl.out.below c1)
  clear b1
  go_wp2_with fail
  refine (HLO.out _ _ hn).mono ?_
  rintro e w2 ⟨A, rfl, hA, b2⟩
  have c2 : Below w.heap.size w w2 := bl_chain (by (repeat' (first | (with_reducible exact Below.refl _ _) | (with_reducible assumption) | (with_reducible refine Below.drew ?_) | (with_reducible refine below_drewN ?_ _) | (with_reducible refine Below.alloc ?_ ?_ _) | (with_reducible refine Below.setCell ?_ ?_ _) | exact Below.size (show Below w.heap.size w _ by assumption) | (simp; done) | (simp; omega)))) b2
  clear b2
  go_wp2_with fail
  refine (HLO.out _ _ hm).mono ?_
  rintro e w3 ⟨B, rfl, hB, b3⟩
  have c3 : Below w.heap.size w w3 := bl_chain (by (repeat' (first | (with_reducible exact Below.refl _ _) | (with_reducible assumption) | (with_reducible refine Below.drew ?_) | (with_reducible refine below_drewN ?_ _) | (with_reducible refine Below.alloc ?_ ?_ _) | (with_reducible refine Below.setCell ?_ ?_ _) | exact Below.size (show Below w.heap.size w _ by assumption) | (simp; done) | (simp; omega)))) b3
  clear b3
  have HP := Hid.mk' (plus_yes A B (by omega) (by omega) (by omega) w3 (Hid.mk' (hl.out.below c3)))
  have HAB := Hid.mk' (show A.size / 2 + B.size / 2 = n + m by omega)
  clear hA hB
  go_wp2_with fail
  refine HP.out.mono ?_
  rintro e w4 ⟨T, rfl, hT, b4⟩
  have hTs : (T.size : Int) = 2 * ((n : Int) + (m : Int)) := by rw [hT, HAB.out]; omega
  clear hT
  have c4 : Below w.heap.size w w4 := bl_chain (by (repeat' (first | (with_reducible exact Below.refl _ _) | (with_reducible assumption) | (with_reducible refine Below.drew ?_) | (with_reducible refine below_drewN ?_ _) | (with_reducible refine Below.alloc ?_ ?_ _) | (with_reducible refine Below.setCell ?_ ?_ _) | exact Below.size (show Below w.heap.size w _ by assumption) | (simp; done) | (simp; omega)))) b4
  clear b4
  go_wp2
  go_ret
  exact ⟨rfl, by (repeat' (first | (with_reducible exact Below.refl _ _) | (with_reducible assumption) | (with_reducible refine Below.drew ?_) | (with_reducible refine below_drewN ?_ _) | (with_reducible refine Below.alloc ?_ ?_ _) | (with_reducible refine Below.setCell ?_ ?_ _) | exact Below.size (show Below w.heap.size w _ by assumption) | (simp; done) | (simp; omega)))⟩
set_option maxHeartbeats 4000000 in
set_option maxRecDepth 100000 in
theorem long_no (u : ByteArray) (n m : Nat) (w : World) (hu : u.size = 2) (hn : n ≤ 70000) (hm : m ≤ 70000) (hc : 65536 < n + m) (hl : Hid (Laid w)) (g0 : ((u.size : Int) != 2) = false) (g1 : decide ((n : Int) < 0) = false) (g2 : decide ((m : Int) < 0) = false) (g3 : decide ((70000 : Int) < n) = false) (g4 : decide ((70000 : Int) < m) = false) : Calls Tryz.prog 3 #[.string u, .int .i64 n, .int .i64 m] w fun e w' => e = .returned (.bool true) ∧ Below w.heap.size w w' := by
  have HLO := Hid.mk' (fun k W (hk : k ≤ 70000) => long_any u k W hu hk)
  have heq : ∀ W, (binOp .eql 26 (.agg #[.int .i64 0, .float .f64 0, .string ⟨#[]⟩, .int .i64 0]) (.agg #[.int .i64 0, .float .f64 0, .string ⟨#[]⟩, .int .i64 0])).run Tryz.prog W = .ok (.bool true) W := fun W => by kernel_rfl
  have hbig : decide ((65536 : Int) < (n : Int) + (m : Int)) = true := decide_eq_true (by omega)
  have hus : (u.size : Int) ≤ 140737488351232 := by omega
  have HW := Hid.mk' (fun W (hW : Hid (Laid W)) => awake19 W hW)
  go_enter Tryz.func3, Tryz.ntmps3
  go_wp2_with fail
  refine (HW.out _ (Hid.mk' (hl.out.below (by (repeat' (first | (with_reducible exact Below.refl _ _) | (with_reducible assumption) | (with_reducible refine Below.drew ?_) | (with_reducible refine below_drewN ?_ _) | (with_reducible refine Below.alloc ?_ ?_ _) | (with_reducible refine Below.setCell ?_ ?_ _) | exact Below.size (show Below w.heap.size w _ by assumption) | (simp; done) | (simp; omega))))))).mono ?_
  rintro e w1 ⟨rfl, b1⟩
  have c1 : Below w.heap.size w w1 := bl_chain (by (repeat' (first | (with_reducible exact Below.refl _ _) | (with_reducible assumption) | (with_reducible refine Below.drew ?_) | (with_reducible refine below_drewN ?_ _) | (with_reducible refine Below.alloc ?_ ?_ _) | (with_reducible refine Below.setCell ?_ ?_ _) | exact Below.size (show Below w.heap.size w _ by assumption) | (simp; done) | (simp; omega)))) b1
  have hl1 : Hid (Laid w1) := Hid.mk' (hl.out.below c1)
  clear b1
  go_wp2_with fail
  refine (HLO.out _ _ hn).mono ?_
  rintro e w2 ⟨A, rfl, hA, b2⟩
  have c2 : Below w.heap.size w w2 := bl_chain (by (repeat' (first | (with_reducible exact Below.refl _ _) | (with_reducible assumption) | (with_reducible refine Below.drew ?_) | (with_reducible refine below_drewN ?_ _) | (with_reducible refine Below.alloc ?_ ?_ _) | (with_reducible refine Below.setCell ?_ ?_ _) | exact Below.size (show Below w.heap.size w _ by assumption) | (simp; done) | (simp; omega)))) b2
  clear b2
  go_wp2_with fail
  refine (HLO.out _ _ hm).mono ?_
  rintro e w3 ⟨B, rfl, hB, b3⟩
  have c3 : Below w.heap.size w w3 := bl_chain (by (repeat' (first | (with_reducible exact Below.refl _ _) | (with_reducible assumption) | (with_reducible refine Below.drew ?_) | (with_reducible refine below_drewN ?_ _) | (with_reducible refine Below.alloc ?_ ?_ _) | (with_reducible refine Below.setCell ?_ ?_ _) | exact Below.size (show Below w.heap.size w _ by assumption) | (simp; done) | (simp; omega)))) b3
  clear b3
  have HP := Hid.mk' (plus_no A B (by omega) (by omega) (by omega) w3 (Hid.mk' (hl.out.below c3)))
  have HAB := Hid.mk' (show A.size / 2 + B.size / 2 = n + m by omega)
  clear hA hB
  go_wp2_with fail
  refine HP.out.mono ?_
  rintro e w4 ⟨rfl, b4⟩
  have c4 : Below w.heap.size w w4 := bl_chain (by (repeat' (first | (with_reducible exact Below.refl _ _) | (with_reducible assumption) | (with_reducible refine Below.drew ?_) | (with_reducible refine below_drewN ?_ _) | (with_reducible refine Below.alloc ?_ ?_ _) | (with_reducible refine Below.setCell ?_ ?_ _) | exact Below.size (show Below w.heap.size w _ by assumption) | (simp; done) | (simp; omega)))) b4
  clear b4
  go_wp2
  go_ret
  exact ⟨rfl, by (repeat' (first | (with_reducible exact Below.refl _ _) | (with_reducible assumption) | (with_reducible refine Below.drew ?_) | (with_reducible refine below_drewN ?_ _) | (with_reducible refine Below.alloc ?_ ?_ _) | (with_reducible refine Below.setCell ?_ ?_ _) | exact Below.size (show Below w.heap.size w _ by assumption) | (simp; done) | (simp; omega)))⟩
theorem long_walk (u : ByteArray) (n m : Int) (w : World) (hu0 : u.size ≤ 140737488351232) (hn : (Lit.int .i64 n).wf = true) (hm : (Lit.int .i64 m).wf = true) (hl : Hid (Laid w)) : Calls Tryz.prog 3 #[.string u, .int .i64 n, .int .i64 m] w fun e w' => e = .returned (.bool true) ∧ Below w.heap.size w w' := by
  have hu : (u.size : Int) ≤ 140737488351232 := by omega
  by_cases h0 : u.size = 2
  · have g0 : ((u.size : Int) != 2) = false := by rw [h0]; rfl
    by_cases h1 : n < 0
    · exact long_bad1 u n m w hu hl g0 (decide_eq_true h1)
    by_cases h2 : m < 0
    · exact long_bad2 u n m w hu hl g0 (decide_eq_false h1) (decide_eq_true h2)
    by_cases h3 : 70000 < n
    · exact long_bad3 u n m w hu hl g0 (decide_eq_false h1) (decide_eq_false h2) (decide_eq_true h3)
    by_cases h4 : 70000 < m
    · exact long_bad4 u n m w hu hl g0 (decide_eq_false h1) (decide_eq_false h2) (decide_eq_false h3) (decide_eq_true h4)
    obtain ⟨N, rfl⟩ : ∃ N : Nat, n = N := ⟨n.toNat, by omega⟩
    obtain ⟨K, rfl⟩ : ∃ K : Nat, m = K := ⟨m.toNat, by omega⟩
    by_cases hc : N + K ≤ 65536
    · exact long_yes u N K w h0 (by omega) (by omega) hc hl g0 (decide_eq_false h1) (decide_eq_false h2) (decide_eq_false h3) (decide_eq_false h4)
    · exact long_no u N K w h0 (by omega) (by omega) (by omega) hl g0 (decide_eq_false h1) (decide_eq_false h2) (decide_eq_false h3) (decide_eq_false h4)
  · exact long_bad0 u n m w hu hl (by simp only [bne_iff_ne, ne_eq]; omega)
end Go.Proofs.YtbkkkpfoaggejaaGreatDoor
