/- Values: kinds, sameness in three ways: package conv and the document. Written by tools/mkcv.py. -/
import Derived.Test.YtbkkkpfoaggejaaGreatDoorCvN
import Derived.Test.YtbkkkpfoaggejaaGreatDoorRCmp
import Derived.Deep.RegionWith
import Derived.Deep.Cut
import Derived.Shelf.SlSortCmp.QuietGrown
namespace Go.Proofs.YtbkkkpfoaggejaaGreatDoor
set_option linter.unusedVariables false
open Go.RowKit Go.Sort Fl

/-- A value's kind, undefined's for one that is none. -/
def kd (k : Int) : Int := if k < 0 ∨ 6 < k then 0 else k
theorem kd_cases (k : Int) : kd k = 0 ∨ kd k = 1 ∨ kd k = 2 ∨ kd k = 3 ∨ kd k = 4 ∨ kd k = 5 ∨ kd k = 6 := by unfold kd; split <;> omega
theorem bl_chain {w X w1 : World} (h : Below w.heap.size w X) (b : Below X.heap.size X w1) : Below w.heap.size w w1 := h.trans (b.mono h.size)
@[go_sem] theorem cv_store_float (p : Addr) (x : Nat) (md : Mode) (W : World) : (store p (.float .f64 x) md).run Tryz.prog W = stored Tryz.prog W p (.float .f64 x) md := run_store Tryz.prog W p _ md rfl
/-- A value that lies in a block of its own. -/
structure CellV (w : World) (b : Nat) (k : Int) (x : Nat) (s : ByteArray) (r : Int) : Prop where
  lt : b < w.heap.size
  c0 : w.cell? ⟨b, 0, none⟩ = some (.int .i64 k)
  c1 : w.cell? ⟨b, 1, none⟩ = some (.float .f64 x)
  c2 : w.cell? ⟨b, 2, none⟩ = some (.string s)
  c3 : w.cell? ⟨b, 3, none⟩ = some (.int .i64 r)
theorem CellV.below {w w' : World} {b : Nat} {k : Int} {x : Nat} {s : ByteArray} {r : Int} (h : CellV w b k x s r) (hb : Below w.heap.size w w') : CellV w' b k x s r :=
  ⟨Nat.lt_of_lt_of_le h.lt hb.size, (hb.cell (p := ⟨b, 0, none⟩) h.lt).trans h.c0, (hb.cell (p := ⟨b, 1, none⟩) h.lt).trans h.c1, (hb.cell (p := ⟨b, 2, none⟩) h.lt).trans h.c2, (hb.cell (p := ⟨b, 3, none⟩) h.lt).trans h.c3⟩
theorem CellV.drew {w : World} {b : Nat} {k : Int} {x : Nat} {s : ByteArray} {r : Int} (h : CellV w b k x s r) : CellV w.drew b k x s r := ⟨h.lt, h.c0, h.c1, h.c2, h.c3⟩
theorem CellV.grow {w : World} {b : Nat} {k : Int} {x : Nat} {s : ByteArray} {r : Int} (h : CellV w b k x s r) (n : Nat) (os : Array Obj) : CellV (grow (w.drewN n) os) b k x s r :=
  ⟨by rw [size_grow]; exact Nat.lt_of_lt_of_le h.lt (Nat.le_add_right _ _), cell_grown h.lt h.c0 n os, cell_grown h.lt h.c1 n os, cell_grown h.lt h.c2 n os, cell_grown h.lt h.c3 n os⟩
theorem below_grow {w W : World} {B : Nat} (h : Below B w W) (hB : B ≤ W.heap.size) (os : Array Obj) : Below B w (grow W os) :=
  h.trans ⟨rfl, rfl, rfl, by simp, fun k hk => heap_grow_old _ _ (Nat.lt_of_lt_of_le hk hB)⟩
/-- Whether two values are the same. -/
def sameV (ka : Int) (xa : Nat) (sa : ByteArray) (ra : Int) (kb : Int) (xb : Nat) (sb : ByteArray) (rb : Int) (how : Int) : Bool :=
  if kd ka = kd kb then
    (if kd ka = 2 then decide (xa = 4607182418800017408) == decide (xb = 4607182418800017408)
    else if kd ka = 3 then sameB xa xb how
    else if kd ka = 4 then cmpK sa sb 0 == 0
    else if kd ka = 5 ∨ kd ka = 6 then ra == rb
    else true)
  else false

set_option maxHeartbeats 1000000 in
set_option maxRecDepth 100000 in
theorem kindOf_any (k : Int) (x : Nat) (s : ByteArray) (r : Int) (w : World) : Calls Tryz.prog 91 #[.agg #[.int .i64 k, .float .f64 x, .string s, .int .i64 r]] w fun e w' => e = .returned (.int .i64 (kd k)) ∧ Below w.heap.size w w' := by
  by_cases h1 : k < 0
  · have HE := Hid.mk' (show kd k = 0 from if_pos (.inl h1))
    go_enter Tryz.func91, Tryz.ntmps91
    go_wp2
    go_ret
    exact ⟨by rw [HE.out]; rfl, by (repeat' (first | (with_reducible exact Below.refl _ _) | (with_reducible assumption) | (with_reducible refine Below.drew ?_) | (with_reducible refine Below.alloc ?_ ?_ _) | (with_reducible refine Below.setCell ?_ ?_ _) | (simp; done) | (simp; omega)))⟩
  · by_cases h2 : 6 < k
    · have HE := Hid.mk' (show kd k = 0 from if_pos (.inr h2))
      go_enter Tryz.func91, Tryz.ntmps91
      go_wp2
      go_ret
      exact ⟨by rw [HE.out]; rfl, by (repeat' (first | (with_reducible exact Below.refl _ _) | (with_reducible assumption) | (with_reducible refine Below.drew ?_) | (with_reducible refine Below.alloc ?_ ?_ _) | (with_reducible refine Below.setCell ?_ ?_ _) | (simp; done) | (simp; omega)))⟩
    · have HE := Hid.mk' (show kd k = k from if_neg (fun h => h.elim h1 h2))
      go_enter Tryz.func91, Tryz.ntmps91
      go_wp2
      go_ret
      exact ⟨by rw [HE.out]; rfl, by (repeat' (first | (with_reducible exact Below.refl _ _) | (with_reducible assumption) | (with_reducible refine Below.drew ?_) | (with_reducible refine Below.alloc ?_ ?_ _) | (with_reducible refine Below.setCell ?_ ?_ _) | (simp; done) | (simp; omega)))⟩
set_option maxHeartbeats 1000000 in
set_option maxRecDepth 100000 in
theorem isTrue_any (k : Int) (x : Nat) (s : ByteArray) (r : Int) (w : World) (hx : x < 18446744073709551616) : Calls Tryz.prog 92 #[.agg #[.int .i64 k, .float .f64 x, .string s, .int .i64 r]] w fun e w' => e = .returned (.bool (decide (x = 4607182418800017408))) ∧ Below w.heap.size w w' := by
  have HE := Hid.mk' (one_eq x hx)
  go_enter Tryz.func92, Tryz.ntmps92
  go_wp2
  go_ret
  exact ⟨by rw [← HE.out]; rfl, by (repeat' (first | (with_reducible exact Below.refl _ _) | (with_reducible assumption) | (with_reducible refine Below.drew ?_) | (with_reducible refine Below.alloc ?_ ?_ _) | (with_reducible refine Below.setCell ?_ ?_ _) | (simp; done) | (simp; omega)))⟩
set_option maxHeartbeats 1000000 in
set_option maxRecDepth 100000 in
theorem vsame_0 (ka : Int) (xa : Nat) (sa : ByteArray) (ra : Int) (kb : Int) (xb : Nat) (sb : ByteArray) (rb : Int) (how : Int) (w : World) (ha : xa < 18446744073709551616) (hb : xb < 18446744073709551616) (za : (sa.size : Int) ≤ 140737488351232) (zb : (sb.size : Int) ≤ 140737488351232) (ea : kd ka = 0) (eb : kd kb = 0) :
    Calls Tryz.prog 61 #[.agg #[.int .i64 ka, .float .f64 xa, .string sa, .int .i64 ra], .agg #[.int .i64 kb, .float .f64 xb, .string sb, .int .i64 rb], .int .i64 how] w fun e w' => e = .returned (.bool (true)) ∧ Below w.heap.size w w' := by
  have HA := Hid.mk' (fun W => kindOf_any ka xa sa ra W)
  have HB := Hid.mk' (fun W => kindOf_any kb xb sb rb W)
  rw [ea] at HA
  rw [eb] at HB
  clear ea eb
  go_enter Tryz.func61, Tryz.ntmps61
  go_wp2_with fail
  refine (HA.out _).mono ?_
  rintro e w1 ⟨rfl, b1⟩
  have c1 : Below w.heap.size w w1 := bl_chain (by (repeat' (first | (with_reducible exact Below.refl _ _) | (with_reducible assumption) | (with_reducible refine Below.drew ?_) | (with_reducible refine Below.alloc ?_ ?_ _) | (with_reducible refine Below.setCell ?_ ?_ _) | (simp; done) | (simp; omega)))) b1
  have Va1 : CellV w1 (w.heap.size) ka xa sa ra := CellV.below (by first | (with_reducible assumption) | (with_reducible refine CellV.drew ?_; assumption) | (constructor <;> first | (simp; done) | (simp; omega))) b1
  obtain ⟨-, za10, za11, za12, za13⟩ := id Va1
  have Vb1 : CellV w1 (w.heap.size + 1) kb xb sb rb := CellV.below (by first | (with_reducible assumption) | (with_reducible refine CellV.drew ?_; assumption) | (constructor <;> first | (simp; done) | (simp; omega))) b1
  obtain ⟨-, zb10, zb11, zb12, zb13⟩ := id Vb1
  clear b1
  go_wp2_with fail
  refine (HB.out _).mono ?_
  rintro e w2 ⟨rfl, b2⟩
  have c2 : Below w.heap.size w w2 := bl_chain (by (repeat' (first | (with_reducible exact Below.refl _ _) | (with_reducible assumption) | (with_reducible refine Below.drew ?_) | (with_reducible refine Below.alloc ?_ ?_ _) | (with_reducible refine Below.setCell ?_ ?_ _) | (simp; done) | (simp; omega)))) b2
  have Va2 : CellV w2 (w.heap.size) ka xa sa ra := CellV.below (by first | (with_reducible assumption) | (with_reducible refine CellV.drew ?_; assumption) | (constructor <;> first | (simp; done) | (simp; omega))) b2
  obtain ⟨-, za20, za21, za22, za23⟩ := id Va2
  have Vb2 : CellV w2 (w.heap.size + 1) kb xb sb rb := CellV.below (by first | (with_reducible assumption) | (with_reducible refine CellV.drew ?_; assumption) | (constructor <;> first | (simp; done) | (simp; omega))) b2
  obtain ⟨-, zb20, zb21, zb22, zb23⟩ := id Vb2
  clear b2
  go_wp2
  all_goals go_ret
  all_goals exact ⟨rfl, by (repeat' (first | (with_reducible exact Below.refl _ _) | (with_reducible assumption) | (with_reducible refine Below.drew ?_) | (with_reducible refine Below.alloc ?_ ?_ _) | (with_reducible refine Below.setCell ?_ ?_ _) | (simp; done) | (simp; omega)))⟩
set_option maxHeartbeats 1000000 in
set_option maxRecDepth 100000 in
theorem vsame_1 (ka : Int) (xa : Nat) (sa : ByteArray) (ra : Int) (kb : Int) (xb : Nat) (sb : ByteArray) (rb : Int) (how : Int) (w : World) (ha : xa < 18446744073709551616) (hb : xb < 18446744073709551616) (za : (sa.size : Int) ≤ 140737488351232) (zb : (sb.size : Int) ≤ 140737488351232) (ea : kd ka = 1) (eb : kd kb = 1) :
    Calls Tryz.prog 61 #[.agg #[.int .i64 ka, .float .f64 xa, .string sa, .int .i64 ra], .agg #[.int .i64 kb, .float .f64 xb, .string sb, .int .i64 rb], .int .i64 how] w fun e w' => e = .returned (.bool (true)) ∧ Below w.heap.size w w' := by
  have HA := Hid.mk' (fun W => kindOf_any ka xa sa ra W)
  have HB := Hid.mk' (fun W => kindOf_any kb xb sb rb W)
  rw [ea] at HA
  rw [eb] at HB
  clear ea eb
  go_enter Tryz.func61, Tryz.ntmps61
  go_wp2_with fail
  refine (HA.out _).mono ?_
  rintro e w1 ⟨rfl, b1⟩
  have c1 : Below w.heap.size w w1 := bl_chain (by (repeat' (first | (with_reducible exact Below.refl _ _) | (with_reducible assumption) | (with_reducible refine Below.drew ?_) | (with_reducible refine Below.alloc ?_ ?_ _) | (with_reducible refine Below.setCell ?_ ?_ _) | (simp; done) | (simp; omega)))) b1
  have Va1 : CellV w1 (w.heap.size) ka xa sa ra := CellV.below (by first | (with_reducible assumption) | (with_reducible refine CellV.drew ?_; assumption) | (constructor <;> first | (simp; done) | (simp; omega))) b1
  obtain ⟨-, za10, za11, za12, za13⟩ := id Va1
  have Vb1 : CellV w1 (w.heap.size + 1) kb xb sb rb := CellV.below (by first | (with_reducible assumption) | (with_reducible refine CellV.drew ?_; assumption) | (constructor <;> first | (simp; done) | (simp; omega))) b1
  obtain ⟨-, zb10, zb11, zb12, zb13⟩ := id Vb1
  clear b1
  go_wp2_with fail
  refine (HB.out _).mono ?_
  rintro e w2 ⟨rfl, b2⟩
  have c2 : Below w.heap.size w w2 := bl_chain (by (repeat' (first | (with_reducible exact Below.refl _ _) | (with_reducible assumption) | (with_reducible refine Below.drew ?_) | (with_reducible refine Below.alloc ?_ ?_ _) | (with_reducible refine Below.setCell ?_ ?_ _) | (simp; done) | (simp; omega)))) b2
  have Va2 : CellV w2 (w.heap.size) ka xa sa ra := CellV.below (by first | (with_reducible assumption) | (with_reducible refine CellV.drew ?_; assumption) | (constructor <;> first | (simp; done) | (simp; omega))) b2
  obtain ⟨-, za20, za21, za22, za23⟩ := id Va2
  have Vb2 : CellV w2 (w.heap.size + 1) kb xb sb rb := CellV.below (by first | (with_reducible assumption) | (with_reducible refine CellV.drew ?_; assumption) | (constructor <;> first | (simp; done) | (simp; omega))) b2
  obtain ⟨-, zb20, zb21, zb22, zb23⟩ := id Vb2
  clear b2
  go_wp2
  all_goals go_ret
  all_goals exact ⟨rfl, by (repeat' (first | (with_reducible exact Below.refl _ _) | (with_reducible assumption) | (with_reducible refine Below.drew ?_) | (with_reducible refine Below.alloc ?_ ?_ _) | (with_reducible refine Below.setCell ?_ ?_ _) | (simp; done) | (simp; omega)))⟩
set_option maxHeartbeats 1000000 in
set_option maxRecDepth 100000 in
theorem vsame_2 (ka : Int) (xa : Nat) (sa : ByteArray) (ra : Int) (kb : Int) (xb : Nat) (sb : ByteArray) (rb : Int) (how : Int) (w : World) (ha : xa < 18446744073709551616) (hb : xb < 18446744073709551616) (za : (sa.size : Int) ≤ 140737488351232) (zb : (sb.size : Int) ≤ 140737488351232) (ea : kd ka = 2) (eb : kd kb = 2) :
    Calls Tryz.prog 61 #[.agg #[.int .i64 ka, .float .f64 xa, .string sa, .int .i64 ra], .agg #[.int .i64 kb, .float .f64 xb, .string sb, .int .i64 rb], .int .i64 how] w fun e w' => e = .returned (.bool (decide (xa = 4607182418800017408) == decide (xb = 4607182418800017408))) ∧ Below w.heap.size w w' := by
  have HA := Hid.mk' (fun W => kindOf_any ka xa sa ra W)
  have HB := Hid.mk' (fun W => kindOf_any kb xb sb rb W)
  rw [ea] at HA
  rw [eb] at HB
  have HTA := Hid.mk' (fun W => isTrue_any ka xa sa ra W ha)
  have HTB := Hid.mk' (fun W => isTrue_any kb xb sb rb W hb)
  clear ea eb
  go_enter Tryz.func61, Tryz.ntmps61
  go_wp2_with fail
  refine (HA.out _).mono ?_
  rintro e w1 ⟨rfl, b1⟩
  have c1 : Below w.heap.size w w1 := bl_chain (by (repeat' (first | (with_reducible exact Below.refl _ _) | (with_reducible assumption) | (with_reducible refine Below.drew ?_) | (with_reducible refine Below.alloc ?_ ?_ _) | (with_reducible refine Below.setCell ?_ ?_ _) | (simp; done) | (simp; omega)))) b1
  have Va1 : CellV w1 (w.heap.size) ka xa sa ra := CellV.below (by first | (with_reducible assumption) | (with_reducible refine CellV.drew ?_; assumption) | (constructor <;> first | (simp; done) | (simp; omega))) b1
  obtain ⟨-, za10, za11, za12, za13⟩ := id Va1
  have Vb1 : CellV w1 (w.heap.size + 1) kb xb sb rb := CellV.below (by first | (with_reducible assumption) | (with_reducible refine CellV.drew ?_; assumption) | (constructor <;> first | (simp; done) | (simp; omega))) b1
  obtain ⟨-, zb10, zb11, zb12, zb13⟩ := id Vb1
  clear b1
  go_wp2_with fail
  refine (HB.out _).mono ?_
  rintro e w2 ⟨rfl, b2⟩
  have c2 : Below w.heap.size w w2 := bl_chain (by (repeat' (first | (with_reducible exact Below.refl _ _) | (with_reducible assumption) | (with_reducible refine Below.drew ?_) | (with_reducible refine Below.alloc ?_ ?_ _) | (with_reducible refine Below.setCell ?_ ?_ _) | (simp; done) | (simp; omega)))) b2
  have Va2 : CellV w2 (w.heap.size) ka xa sa ra := CellV.below (by first | (with_reducible assumption) | (with_reducible refine CellV.drew ?_; assumption) | (constructor <;> first | (simp; done) | (simp; omega))) b2
  obtain ⟨-, za20, za21, za22, za23⟩ := id Va2
  have Vb2 : CellV w2 (w.heap.size + 1) kb xb sb rb := CellV.below (by first | (with_reducible assumption) | (with_reducible refine CellV.drew ?_; assumption) | (constructor <;> first | (simp; done) | (simp; omega))) b2
  obtain ⟨-, zb20, zb21, zb22, zb23⟩ := id Vb2
  clear b2
  go_wp2_with fail
  go_region_with (first | (go_at_call 92; first | (with_reducible refine (HTA.out _).mono ?_; rintro e w4 ⟨rfl, b4⟩; have c4 : Below w.heap.size w w4 := bl_chain (by (repeat' (first | (with_reducible exact Below.refl _ _) | (with_reducible assumption) | (with_reducible refine Below.drew ?_) | (with_reducible refine Below.alloc ?_ ?_ _) | (with_reducible refine Below.setCell ?_ ?_ _) | (simp; done) | (simp; omega)))) b4; have Va4 : CellV w4 (w.heap.size) ka xa sa ra := CellV.below (by first | (with_reducible assumption) | (with_reducible refine CellV.drew ?_; assumption) | (constructor <;> first | (simp; done) | (simp; omega))) b4; obtain ⟨-, za40, za41, za42, za43⟩ := id Va4; have Vb4 : CellV w4 (w.heap.size + 1) kb xb sb rb := CellV.below (by first | (with_reducible assumption) | (with_reducible refine CellV.drew ?_; assumption) | (constructor <;> first | (simp; done) | (simp; omega))) b4; obtain ⟨-, zb40, zb41, zb42, zb43⟩ := id Vb4; clear b4) | (with_reducible refine (HTB.out _).mono ?_; rintro e w4 ⟨rfl, b4⟩; have c4 : Below w.heap.size w w4 := bl_chain (by (repeat' (first | (with_reducible exact Below.refl _ _) | (with_reducible assumption) | (with_reducible refine Below.drew ?_) | (with_reducible refine Below.alloc ?_ ?_ _) | (with_reducible refine Below.setCell ?_ ?_ _) | (simp; done) | (simp; omega)))) b4; have Va4 : CellV w4 (w.heap.size) ka xa sa ra := CellV.below (by first | (with_reducible assumption) | (with_reducible refine CellV.drew ?_; assumption) | (constructor <;> first | (simp; done) | (simp; omega))) b4; obtain ⟨-, za40, za41, za42, za43⟩ := id Va4; have Vb4 : CellV w4 (w.heap.size + 1) kb xb sb rb := CellV.below (by first | (with_reducible assumption) | (with_reducible refine CellV.drew ?_; assumption) | (constructor <;> first | (simp; done) | (simp; omega))) b4; obtain ⟨-, zb40, zb41, zb42, zb43⟩ := id Vb4; clear b4)))
  all_goals go_wp2
  all_goals go_ret
  all_goals exact ⟨rfl, by (repeat' (first | (with_reducible exact Below.refl _ _) | (with_reducible assumption) | (with_reducible refine Below.drew ?_) | (with_reducible refine Below.alloc ?_ ?_ _) | (with_reducible refine Below.setCell ?_ ?_ _) | (simp; done) | (simp; omega)))⟩
set_option maxHeartbeats 1000000 in
set_option maxRecDepth 100000 in
theorem vsame_3 (ka : Int) (xa : Nat) (sa : ByteArray) (ra : Int) (kb : Int) (xb : Nat) (sb : ByteArray) (rb : Int) (how : Int) (w : World) (ha : xa < 18446744073709551616) (hb : xb < 18446744073709551616) (za : (sa.size : Int) ≤ 140737488351232) (zb : (sb.size : Int) ≤ 140737488351232) (ea : kd ka = 3) (eb : kd kb = 3) :
    Calls Tryz.prog 61 #[.agg #[.int .i64 ka, .float .f64 xa, .string sa, .int .i64 ra], .agg #[.int .i64 kb, .float .f64 xb, .string sb, .int .i64 rb], .int .i64 how] w fun e w' => e = .returned (.bool (sameB xa xb how)) ∧ Below w.heap.size w w' := by
  have HA := Hid.mk' (fun W => kindOf_any ka xa sa ra W)
  have HB := Hid.mk' (fun W => kindOf_any kb xb sb rb W)
  rw [ea] at HA
  rw [eb] at HB
  have HN := Hid.mk' (fun W => nsame_any xa xb how W ha hb)
  clear ea eb
  go_enter Tryz.func61, Tryz.ntmps61
  go_wp2_with fail
  refine (HA.out _).mono ?_
  rintro e w1 ⟨rfl, b1⟩
  have c1 : Below w.heap.size w w1 := bl_chain (by (repeat' (first | (with_reducible exact Below.refl _ _) | (with_reducible assumption) | (with_reducible refine Below.drew ?_) | (with_reducible refine Below.alloc ?_ ?_ _) | (with_reducible refine Below.setCell ?_ ?_ _) | (simp; done) | (simp; omega)))) b1
  have Va1 : CellV w1 (w.heap.size) ka xa sa ra := CellV.below (by first | (with_reducible assumption) | (with_reducible refine CellV.drew ?_; assumption) | (constructor <;> first | (simp; done) | (simp; omega))) b1
  obtain ⟨-, za10, za11, za12, za13⟩ := id Va1
  have Vb1 : CellV w1 (w.heap.size + 1) kb xb sb rb := CellV.below (by first | (with_reducible assumption) | (with_reducible refine CellV.drew ?_; assumption) | (constructor <;> first | (simp; done) | (simp; omega))) b1
  obtain ⟨-, zb10, zb11, zb12, zb13⟩ := id Vb1
  clear b1
  go_wp2_with fail
  refine (HB.out _).mono ?_
  rintro e w2 ⟨rfl, b2⟩
  have c2 : Below w.heap.size w w2 := bl_chain (by (repeat' (first | (with_reducible exact Below.refl _ _) | (with_reducible assumption) | (with_reducible refine Below.drew ?_) | (with_reducible refine Below.alloc ?_ ?_ _) | (with_reducible refine Below.setCell ?_ ?_ _) | (simp; done) | (simp; omega)))) b2
  have Va2 : CellV w2 (w.heap.size) ka xa sa ra := CellV.below (by first | (with_reducible assumption) | (with_reducible refine CellV.drew ?_; assumption) | (constructor <;> first | (simp; done) | (simp; omega))) b2
  obtain ⟨-, za20, za21, za22, za23⟩ := id Va2
  have Vb2 : CellV w2 (w.heap.size + 1) kb xb sb rb := CellV.below (by first | (with_reducible assumption) | (with_reducible refine CellV.drew ?_; assumption) | (constructor <;> first | (simp; done) | (simp; omega))) b2
  obtain ⟨-, zb20, zb21, zb22, zb23⟩ := id Vb2
  clear b2
  go_wp2_with fail
  refine (HN.out _).mono ?_
  rintro e w9 ⟨rfl, hw9⟩
  rw [hw9]; clear hw9 w9
  go_wp2
  all_goals go_ret
  all_goals exact ⟨rfl, by (repeat' (first | (with_reducible exact Below.refl _ _) | (with_reducible assumption) | (with_reducible refine Below.drew ?_) | (with_reducible refine Below.alloc ?_ ?_ _) | (with_reducible refine Below.setCell ?_ ?_ _) | (simp; done) | (simp; omega)))⟩
set_option maxHeartbeats 1000000 in
set_option maxRecDepth 100000 in
theorem vsame_4 (ka : Int) (xa : Nat) (sa : ByteArray) (ra : Int) (kb : Int) (xb : Nat) (sb : ByteArray) (rb : Int) (how : Int) (w : World) (ha : xa < 18446744073709551616) (hb : xb < 18446744073709551616) (za : (sa.size : Int) ≤ 140737488351232) (zb : (sb.size : Int) ≤ 140737488351232) (ea : kd ka = 4) (eb : kd kb = 4) :
    Calls Tryz.prog 61 #[.agg #[.int .i64 ka, .float .f64 xa, .string sa, .int .i64 ra], .agg #[.int .i64 kb, .float .f64 xb, .string sb, .int .i64 rb], .int .i64 how] w fun e w' => e = .returned (.bool (cmpK sa sb 0 == 0)) ∧ Below w.heap.size w w' := by
  have HA := Hid.mk' (fun W => kindOf_any ka xa sa ra W)
  have HB := Hid.mk' (fun W => kindOf_any kb xb sb rb W)
  rw [ea] at HA
  rw [eb] at HB
  have HC := Hid.mk' (fun W => compare_wide sa sb W za zb)
  clear ea eb
  go_enter Tryz.func61, Tryz.ntmps61
  go_wp2_with fail
  refine (HA.out _).mono ?_
  rintro e w1 ⟨rfl, b1⟩
  have c1 : Below w.heap.size w w1 := bl_chain (by (repeat' (first | (with_reducible exact Below.refl _ _) | (with_reducible assumption) | (with_reducible refine Below.drew ?_) | (with_reducible refine Below.alloc ?_ ?_ _) | (with_reducible refine Below.setCell ?_ ?_ _) | (simp; done) | (simp; omega)))) b1
  have Va1 : CellV w1 (w.heap.size) ka xa sa ra := CellV.below (by first | (with_reducible assumption) | (with_reducible refine CellV.drew ?_; assumption) | (constructor <;> first | (simp; done) | (simp; omega))) b1
  obtain ⟨-, za10, za11, za12, za13⟩ := id Va1
  have Vb1 : CellV w1 (w.heap.size + 1) kb xb sb rb := CellV.below (by first | (with_reducible assumption) | (with_reducible refine CellV.drew ?_; assumption) | (constructor <;> first | (simp; done) | (simp; omega))) b1
  obtain ⟨-, zb10, zb11, zb12, zb13⟩ := id Vb1
  clear b1
  go_wp2_with fail
  refine (HB.out _).mono ?_
  rintro e w2 ⟨rfl, b2⟩
  have c2 : Below w.heap.size w w2 := bl_chain (by (repeat' (first | (with_reducible exact Below.refl _ _) | (with_reducible assumption) | (with_reducible refine Below.drew ?_) | (with_reducible refine Below.alloc ?_ ?_ _) | (with_reducible refine Below.setCell ?_ ?_ _) | (simp; done) | (simp; omega)))) b2
  have Va2 : CellV w2 (w.heap.size) ka xa sa ra := CellV.below (by first | (with_reducible assumption) | (with_reducible refine CellV.drew ?_; assumption) | (constructor <;> first | (simp; done) | (simp; omega))) b2
  obtain ⟨-, za20, za21, za22, za23⟩ := id Va2
  have Vb2 : CellV w2 (w.heap.size + 1) kb xb sb rb := CellV.below (by first | (with_reducible assumption) | (with_reducible refine CellV.drew ?_; assumption) | (constructor <;> first | (simp; done) | (simp; omega))) b2
  obtain ⟨-, zb20, zb21, zb22, zb23⟩ := id Vb2
  clear b2
  go_wp2_with fail
  refine (HC.out _).mono ?_
  rintro e w9 ⟨rfl, hw9⟩
  rw [hw9]; clear hw9 w9
  go_wp2
  all_goals go_ret
  all_goals exact ⟨rfl, by (repeat' (first | (with_reducible exact Below.refl _ _) | (with_reducible assumption) | (with_reducible refine Below.drew ?_) | (with_reducible refine Below.alloc ?_ ?_ _) | (with_reducible refine Below.setCell ?_ ?_ _) | (simp; done) | (simp; omega)))⟩
set_option maxHeartbeats 1000000 in
set_option maxRecDepth 100000 in
theorem vsame_5 (ka : Int) (xa : Nat) (sa : ByteArray) (ra : Int) (kb : Int) (xb : Nat) (sb : ByteArray) (rb : Int) (how : Int) (w : World) (ha : xa < 18446744073709551616) (hb : xb < 18446744073709551616) (za : (sa.size : Int) ≤ 140737488351232) (zb : (sb.size : Int) ≤ 140737488351232) (ea : kd ka = 5) (eb : kd kb = 5) :
    Calls Tryz.prog 61 #[.agg #[.int .i64 ka, .float .f64 xa, .string sa, .int .i64 ra], .agg #[.int .i64 kb, .float .f64 xb, .string sb, .int .i64 rb], .int .i64 how] w fun e w' => e = .returned (.bool (ra == rb)) ∧ Below w.heap.size w w' := by
  have HA := Hid.mk' (fun W => kindOf_any ka xa sa ra W)
  have HB := Hid.mk' (fun W => kindOf_any kb xb sb rb W)
  rw [ea] at HA
  rw [eb] at HB
  clear ea eb
  go_enter Tryz.func61, Tryz.ntmps61
  go_wp2_with fail
  refine (HA.out _).mono ?_
  rintro e w1 ⟨rfl, b1⟩
  have c1 : Below w.heap.size w w1 := bl_chain (by (repeat' (first | (with_reducible exact Below.refl _ _) | (with_reducible assumption) | (with_reducible refine Below.drew ?_) | (with_reducible refine Below.alloc ?_ ?_ _) | (with_reducible refine Below.setCell ?_ ?_ _) | (simp; done) | (simp; omega)))) b1
  have Va1 : CellV w1 (w.heap.size) ka xa sa ra := CellV.below (by first | (with_reducible assumption) | (with_reducible refine CellV.drew ?_; assumption) | (constructor <;> first | (simp; done) | (simp; omega))) b1
  obtain ⟨-, za10, za11, za12, za13⟩ := id Va1
  have Vb1 : CellV w1 (w.heap.size + 1) kb xb sb rb := CellV.below (by first | (with_reducible assumption) | (with_reducible refine CellV.drew ?_; assumption) | (constructor <;> first | (simp; done) | (simp; omega))) b1
  obtain ⟨-, zb10, zb11, zb12, zb13⟩ := id Vb1
  clear b1
  go_wp2_with fail
  refine (HB.out _).mono ?_
  rintro e w2 ⟨rfl, b2⟩
  have c2 : Below w.heap.size w w2 := bl_chain (by (repeat' (first | (with_reducible exact Below.refl _ _) | (with_reducible assumption) | (with_reducible refine Below.drew ?_) | (with_reducible refine Below.alloc ?_ ?_ _) | (with_reducible refine Below.setCell ?_ ?_ _) | (simp; done) | (simp; omega)))) b2
  have Va2 : CellV w2 (w.heap.size) ka xa sa ra := CellV.below (by first | (with_reducible assumption) | (with_reducible refine CellV.drew ?_; assumption) | (constructor <;> first | (simp; done) | (simp; omega))) b2
  obtain ⟨-, za20, za21, za22, za23⟩ := id Va2
  have Vb2 : CellV w2 (w.heap.size + 1) kb xb sb rb := CellV.below (by first | (with_reducible assumption) | (with_reducible refine CellV.drew ?_; assumption) | (constructor <;> first | (simp; done) | (simp; omega))) b2
  obtain ⟨-, zb20, zb21, zb22, zb23⟩ := id Vb2
  clear b2
  go_wp2
  all_goals go_ret
  all_goals exact ⟨rfl, by (repeat' (first | (with_reducible exact Below.refl _ _) | (with_reducible assumption) | (with_reducible refine Below.drew ?_) | (with_reducible refine Below.alloc ?_ ?_ _) | (with_reducible refine Below.setCell ?_ ?_ _) | (simp; done) | (simp; omega)))⟩
set_option maxHeartbeats 1000000 in
set_option maxRecDepth 100000 in
theorem vsame_6 (ka : Int) (xa : Nat) (sa : ByteArray) (ra : Int) (kb : Int) (xb : Nat) (sb : ByteArray) (rb : Int) (how : Int) (w : World) (ha : xa < 18446744073709551616) (hb : xb < 18446744073709551616) (za : (sa.size : Int) ≤ 140737488351232) (zb : (sb.size : Int) ≤ 140737488351232) (ea : kd ka = 6) (eb : kd kb = 6) :
    Calls Tryz.prog 61 #[.agg #[.int .i64 ka, .float .f64 xa, .string sa, .int .i64 ra], .agg #[.int .i64 kb, .float .f64 xb, .string sb, .int .i64 rb], .int .i64 how] w fun e w' => e = .returned (.bool (ra == rb)) ∧ Below w.heap.size w w' := by
  have HA := Hid.mk' (fun W => kindOf_any ka xa sa ra W)
  have HB := Hid.mk' (fun W => kindOf_any kb xb sb rb W)
  rw [ea] at HA
  rw [eb] at HB
  clear ea eb
  go_enter Tryz.func61, Tryz.ntmps61
  go_wp2_with fail
  refine (HA.out _).mono ?_
  rintro e w1 ⟨rfl, b1⟩
  have c1 : Below w.heap.size w w1 := bl_chain (by (repeat' (first | (with_reducible exact Below.refl _ _) | (with_reducible assumption) | (with_reducible refine Below.drew ?_) | (with_reducible refine Below.alloc ?_ ?_ _) | (with_reducible refine Below.setCell ?_ ?_ _) | (simp; done) | (simp; omega)))) b1
  have Va1 : CellV w1 (w.heap.size) ka xa sa ra := CellV.below (by first | (with_reducible assumption) | (with_reducible refine CellV.drew ?_; assumption) | (constructor <;> first | (simp; done) | (simp; omega))) b1
  obtain ⟨-, za10, za11, za12, za13⟩ := id Va1
  have Vb1 : CellV w1 (w.heap.size + 1) kb xb sb rb := CellV.below (by first | (with_reducible assumption) | (with_reducible refine CellV.drew ?_; assumption) | (constructor <;> first | (simp; done) | (simp; omega))) b1
  obtain ⟨-, zb10, zb11, zb12, zb13⟩ := id Vb1
  clear b1
  go_wp2_with fail
  refine (HB.out _).mono ?_
  rintro e w2 ⟨rfl, b2⟩
  have c2 : Below w.heap.size w w2 := bl_chain (by (repeat' (first | (with_reducible exact Below.refl _ _) | (with_reducible assumption) | (with_reducible refine Below.drew ?_) | (with_reducible refine Below.alloc ?_ ?_ _) | (with_reducible refine Below.setCell ?_ ?_ _) | (simp; done) | (simp; omega)))) b2
  have Va2 : CellV w2 (w.heap.size) ka xa sa ra := CellV.below (by first | (with_reducible assumption) | (with_reducible refine CellV.drew ?_; assumption) | (constructor <;> first | (simp; done) | (simp; omega))) b2
  obtain ⟨-, za20, za21, za22, za23⟩ := id Va2
  have Vb2 : CellV w2 (w.heap.size + 1) kb xb sb rb := CellV.below (by first | (with_reducible assumption) | (with_reducible refine CellV.drew ?_; assumption) | (constructor <;> first | (simp; done) | (simp; omega))) b2
  obtain ⟨-, zb20, zb21, zb22, zb23⟩ := id Vb2
  clear b2
  go_wp2
  all_goals go_ret
  all_goals exact ⟨rfl, by (repeat' (first | (with_reducible exact Below.refl _ _) | (with_reducible assumption) | (with_reducible refine Below.drew ?_) | (with_reducible refine Below.alloc ?_ ?_ _) | (with_reducible refine Below.setCell ?_ ?_ _) | (simp; done) | (simp; omega)))⟩
set_option maxHeartbeats 1000000 in
set_option maxRecDepth 100000 in
theorem vsame_un (ka : Int) (xa : Nat) (sa : ByteArray) (ra : Int) (kb : Int) (xb : Nat) (sb : ByteArray) (rb : Int) (how : Int) (w : World) (h : kd ka ≠ kd kb) :
    Calls Tryz.prog 61 #[.agg #[.int .i64 ka, .float .f64 xa, .string sa, .int .i64 ra], .agg #[.int .i64 kb, .float .f64 xb, .string sb, .int .i64 rb], .int .i64 how] w fun e w' => e = .returned (.bool false) ∧ Below w.heap.size w w' := by
  have HA := Hid.mk' (fun W => kindOf_any ka xa sa ra W)
  have HB := Hid.mk' (fun W => kindOf_any kb xb sb rb W)
  obtain ⟨p, hp⟩ : ∃ p, kd ka = p := ⟨_, rfl⟩
  obtain ⟨q, hq⟩ : ∃ q, kd kb = q := ⟨_, rfl⟩
  rw [hp] at HA
  rw [hq] at HB
  have hn : (p != q) = true := by rw [bne_iff_ne]; exact hp ▸ hq ▸ h
  clear hp hq h
  go_enter Tryz.func61, Tryz.ntmps61
  go_wp2_with fail
  refine (HA.out _).mono ?_
  rintro e w1 ⟨rfl, b1⟩
  have c1 : Below w.heap.size w w1 := bl_chain (by (repeat' (first | (with_reducible exact Below.refl _ _) | (with_reducible assumption) | (with_reducible refine Below.drew ?_) | (with_reducible refine Below.alloc ?_ ?_ _) | (with_reducible refine Below.setCell ?_ ?_ _) | (simp; done) | (simp; omega)))) b1
  have Va1 : CellV w1 (w.heap.size) ka xa sa ra := CellV.below (by first | (with_reducible assumption) | (with_reducible refine CellV.drew ?_; assumption) | (constructor <;> first | (simp; done) | (simp; omega))) b1
  obtain ⟨-, za10, za11, za12, za13⟩ := id Va1
  have Vb1 : CellV w1 (w.heap.size + 1) kb xb sb rb := CellV.below (by first | (with_reducible assumption) | (with_reducible refine CellV.drew ?_; assumption) | (constructor <;> first | (simp; done) | (simp; omega))) b1
  obtain ⟨-, zb10, zb11, zb12, zb13⟩ := id Vb1
  clear b1
  go_wp2_with fail
  refine (HB.out _).mono ?_
  rintro e w2 ⟨rfl, b2⟩
  have c2 : Below w.heap.size w w2 := bl_chain (by (repeat' (first | (with_reducible exact Below.refl _ _) | (with_reducible assumption) | (with_reducible refine Below.drew ?_) | (with_reducible refine Below.alloc ?_ ?_ _) | (with_reducible refine Below.setCell ?_ ?_ _) | (simp; done) | (simp; omega)))) b2
  have Va2 : CellV w2 (w.heap.size) ka xa sa ra := CellV.below (by first | (with_reducible assumption) | (with_reducible refine CellV.drew ?_; assumption) | (constructor <;> first | (simp; done) | (simp; omega))) b2
  obtain ⟨-, za20, za21, za22, za23⟩ := id Va2
  have Vb2 : CellV w2 (w.heap.size + 1) kb xb sb rb := CellV.below (by first | (with_reducible assumption) | (with_reducible refine CellV.drew ?_; assumption) | (constructor <;> first | (simp; done) | (simp; omega))) b2
  obtain ⟨-, zb20, zb21, zb22, zb23⟩ := id Vb2
  clear b2
  go_wp2
  all_goals go_ret
  all_goals exact ⟨rfl, by (repeat' (first | (with_reducible exact Below.refl _ _) | (with_reducible assumption) | (with_reducible refine Below.drew ?_) | (with_reducible refine Below.alloc ?_ ?_ _) | (with_reducible refine Below.setCell ?_ ?_ _) | (simp; done) | (simp; omega)))⟩
theorem vsame (ka : Int) (xa : Nat) (sa : ByteArray) (ra : Int) (kb : Int) (xb : Nat) (sb : ByteArray) (rb : Int) (how : Int) (w : World) (ha : xa < 18446744073709551616) (hb : xb < 18446744073709551616) (za : (sa.size : Int) ≤ 140737488351232) (zb : (sb.size : Int) ≤ 140737488351232) :
    Calls Tryz.prog 61 #[.agg #[.int .i64 ka, .float .f64 xa, .string sa, .int .i64 ra], .agg #[.int .i64 kb, .float .f64 xb, .string sb, .int .i64 rb], .int .i64 how] w fun e w' => e = .returned (.bool (sameV ka xa sa ra kb xb sb rb how)) ∧ Below w.heap.size w w' := by
  by_cases hk : kd ka = kd kb
  · rcases kd_cases ka with e | e | e | e | e | e | e
    · have hkb : kd kb = 0 := by omega
      have HE : sameV ka xa sa ra kb xb sb rb how = (true) := by unfold sameV; rw [if_pos hk]; simp only [e]; rfl
      rw [HE]; exact vsame_0 ka xa sa ra kb xb sb rb how w ha hb za zb e hkb
    · have hkb : kd kb = 1 := by omega
      have HE : sameV ka xa sa ra kb xb sb rb how = (true) := by unfold sameV; rw [if_pos hk]; simp only [e]; rfl
      rw [HE]; exact vsame_1 ka xa sa ra kb xb sb rb how w ha hb za zb e hkb
    · have hkb : kd kb = 2 := by omega
      have HE : sameV ka xa sa ra kb xb sb rb how = (decide (xa = 4607182418800017408) == decide (xb = 4607182418800017408)) := by unfold sameV; rw [if_pos hk]; simp only [e]; rfl
      rw [HE]; exact vsame_2 ka xa sa ra kb xb sb rb how w ha hb za zb e hkb
    · have hkb : kd kb = 3 := by omega
      have HE : sameV ka xa sa ra kb xb sb rb how = (sameB xa xb how) := by unfold sameV; rw [if_pos hk]; simp only [e]; rfl
      rw [HE]; exact vsame_3 ka xa sa ra kb xb sb rb how w ha hb za zb e hkb
    · have hkb : kd kb = 4 := by omega
      have HE : sameV ka xa sa ra kb xb sb rb how = (cmpK sa sb 0 == 0) := by unfold sameV; rw [if_pos hk]; simp only [e]; rfl
      rw [HE]; exact vsame_4 ka xa sa ra kb xb sb rb how w ha hb za zb e hkb
    · have hkb : kd kb = 5 := by omega
      have HE : sameV ka xa sa ra kb xb sb rb how = (ra == rb) := by unfold sameV; rw [if_pos hk]; simp only [e]; rfl
      rw [HE]; exact vsame_5 ka xa sa ra kb xb sb rb how w ha hb za zb e hkb
    · have hkb : kd kb = 6 := by omega
      have HE : sameV ka xa sa ra kb xb sb rb how = (ra == rb) := by unfold sameV; rw [if_pos hk]; simp only [e]; rfl
      rw [HE]; exact vsame_6 ka xa sa ra kb xb sb rb how w ha hb za zb e hkb
  · have HE : sameV ka xa sa ra kb xb sb rb how = false := if_neg hk
    rw [HE]; exact vsame_un ka xa sa ra kb xb sb rb how w hk
theorem sh_cmp_zero (a b : ByteArray) : cmpK a b 0 = 0 ↔ evenS a = evenS b := by
  unfold cmpK
  simp only [Nat.mul_zero, List.drop_zero]
  constructor
  · intro h
    have := (cb_zero _ _).1 h
    apply ByteArray.ext
    apply Array.toList_inj.1
    rw [evenS_bytes, evenS_bytes, this]
  · intro h
    have h2 : ebs a = ebs b := by rw [← evenS_bytes, ← evenS_bytes, h]
    rw [h2]
    exact (cb_zero _ _).2 rfl
theorem cmp_zero_b (a b : ByteArray) : (cmpK a b 0 == 0) = decide (evenS a = evenS b) := by
  rw [Bool.eq_iff_iff, beq_iff_eq, decide_eq_true_iff]
  exact sh_cmp_zero a b
theorem sameV_comm (ka : Int) (xa : Nat) (sa : ByteArray) (ra : Int) (kb : Int) (xb : Nat) (sb : ByteArray) (rb : Int) (how : Int) : sameV kb xb sb rb ka xa sa ra how = sameV ka xa sa ra kb xb sb rb how := by
  unfold sameV
  by_cases hk : kd ka = kd kb
  · rw [if_pos hk, if_pos hk.symm, ← hk, sameB_comm, cmp_zero_b, cmp_zero_b]
    split
    · exact Bool.beq_comm
    · split
      · rfl
      · split
        · exact decide_eq_decide.2 ⟨Eq.symm, Eq.symm⟩
        · split
          · rw [Bool.eq_iff_iff, beq_iff_eq, beq_iff_eq]; exact ⟨Eq.symm, Eq.symm⟩
          · rfl
  · rw [if_neg hk, if_neg (fun h => hk h.symm)]
theorem sameV_trans (ka : Int) (xa : Nat) (sa : ByteArray) (ra : Int) (kb : Int) (xb : Nat) (sb : ByteArray) (rb : Int) (kc : Int) (xc : Nat) (sc : ByteArray) (rc : Int) (how : Int) (hh : how = 0 ∨ how = 1 ∨ how = 2) (h1 : sameV ka xa sa ra kb xb sb rb how = true) (h2 : sameV kb xb sb rb kc xc sc rc how = true) : sameV ka xa sa ra kc xc sc rc how = true := by
  unfold sameV at *
  by_cases hk : kd ka = kd kb
  · by_cases hl : kd kb = kd kc
    · rw [if_pos hk] at h1
      rw [if_pos hl, ← hk] at h2
      rw [if_pos (hk.trans hl)]
      rw [cmp_zero_b] at *
      by_cases q2 : kd ka = 2
      · rw [if_pos q2] at *
        rw [beq_iff_eq] at *
        exact h1.trans h2
      · rw [if_neg q2] at *
        by_cases q3 : kd ka = 3
        · rw [if_pos q3] at *
          exact sameB_trans _ _ _ how hh h1 h2
        · rw [if_neg q3] at *
          by_cases q4 : kd ka = 4
          · rw [if_pos q4] at *
            rw [decide_eq_true_iff] at *
            exact h1.trans h2
          · rw [if_neg q4] at *
            by_cases q5 : kd ka = 5 ∨ kd ka = 6
            · rw [if_pos q5] at *
              rw [beq_iff_eq] at *
              exact h1.trans h2
            · rw [if_neg q5]
    · rw [if_neg hl] at h2; cases h2
  · rw [if_neg hk] at h1; cases h1
theorem sameV_self (ka : Int) (xa : Nat) (sa : ByteArray) (ra : Int) (how : Int) (hh : how = 0 ∨ how = 1 ∨ how = 2) : sameV ka xa sa ra ka xa sa ra how = !(decide (kd ka = 3) && decide (nan xa) && decide (how = 0)) := by
  unfold sameV
  rw [if_pos rfl]
  by_cases q3 : kd ka = 3
  · rw [if_neg (by omega), if_pos q3, sameB_self _ _ hh]
    simp [q3]
  · simp only [q3, decide_false, Bool.false_and, Bool.not_false, if_false]
    split
    · simp
    · split
      · rw [cmp_zero_b]; simp
      · split
        · simp
        · rfl
end Go.Proofs.YtbkkkpfoaggejaaGreatDoor
