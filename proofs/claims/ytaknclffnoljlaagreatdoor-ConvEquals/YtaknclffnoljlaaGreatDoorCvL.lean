/- conv.Loose of two numbers, and of a number and a text: by contracts of what it calls. Written by tools/mkcvl.py. -/
import Derived.Test.YtaknclffnoljlaaGreatDoorCvA
namespace Go.Proofs.YtaknclffnoljlaaGreatDoor
set_option linter.unusedVariables false
open Go.RowKit Go.Sort Fl

theorem CellV.alloc {w : World} {b : Nat} {k : Int} {x : Nat} {s : ByteArray} {r : Int} (h : CellV w b k x s r) (o : Obj) : CellV (w.alloc o) b k x s r := h.below ((Below.refl _ _).alloc (Nat.le_refl _) _)
theorem CellV.set {w : World} {b : Nat} {k : Int} {x : Nat} {s : ByteArray} {r : Int} (h : CellV w b k x s r) (a : Addr) (ha : b ≠ a.block) (v : Value) : CellV (w.setCell a v) b k x s r :=
  have e : ∀ i, (w.setCell a v).cell? ⟨b, i, none⟩ = w.cell? ⟨b, i, none⟩ := fun i => by
    apply World.cell?_setCell_other
    intro e
    first | exact ha (congrArg Addr.block e) | exact ha (congrArg Addr.block e).symm
  ⟨by simpa using h.lt, (e 0).trans h.c0, (e 1).trans h.c1, (e 2).trans h.c2, (e 3).trans h.c3⟩
structure PairC (w : World) (g : Nat) : Prop where
  lt : g < w.heap.size
  c0 : w.cell? ⟨g, 0, none⟩ = some (.int .i64 0)
  c1 : w.cell? ⟨g, 1, none⟩ = some (.int .i64 0)
  f0 : w.frozen? ⟨g, 0, none⟩ = false
  f1 : w.frozen? ⟨g, 1, none⟩ = false
theorem PairC.below {w w' : World} {g : Nat} (h : PairC w g) (hb : Below w.heap.size w w') : PairC w' g :=
  ⟨Nat.lt_of_lt_of_le h.lt hb.size, (hb.cell (p := ⟨g, 0, none⟩) h.lt).trans h.c0, (hb.cell (p := ⟨g, 1, none⟩) h.lt).trans h.c1, (hb.frozen (p := ⟨g, 0, none⟩) h.lt).trans h.f0, (hb.frozen (p := ⟨g, 1, none⟩) h.lt).trans h.f1⟩
theorem PairC.drew {w : World} {g : Nat} (h : PairC w g) : PairC w.drew g := ⟨h.lt, h.c0, h.c1, h.f0, h.f1⟩
theorem PairC.new (w : World) : PairC (w.alloc (.cells #[.int .i64 0, .int .i64 0] 58)) w.heap.size := ⟨by simp, by simp, by simp, by simp, by simp⟩
theorem PairC.newD (w : World) : PairC (w.drew.alloc (.cells #[.int .i64 0, .int .i64 0] 58)) w.heap.size := PairC.new w.drew
theorem PairC.put {w : World} {g : Nat} (h : PairC w g) (p q : Int) : ((w.setCell ⟨g, 0, none⟩ (.int .i64 p)).setCell ⟨g, 1, none⟩ (.int .i64 q)).cell? ⟨g, 0, none⟩ = some (.int .i64 p) ∧ ((w.setCell ⟨g, 0, none⟩ (.int .i64 p)).setCell ⟨g, 1, none⟩ (.int .i64 q)).cell? ⟨g, 1, none⟩ = some (.int .i64 q) := by
  have n : (⟨g, 1, none⟩ : Addr) ≠ ⟨g, 0, none⟩ := by intro e; cases e
  have e1 : (w.setCell ⟨g, 0, none⟩ (.int .i64 p)).cell? ⟨g, 1, none⟩ = some (.int .i64 0) := by
    refine Eq.trans ?_ h.c1
    apply World.cell?_setCell_other
    exact n.symm
  constructor
  · refine Eq.trans (b := (w.setCell ⟨g, 0, none⟩ (.int .i64 p)).cell? ⟨g, 0, none⟩) ?_ ?_
    · apply World.cell?_setCell_other
      exact n
    · apply World.cell?_setCell_same
      exact h.c0
  · apply World.cell?_setCell_same
    exact e1
theorem pair_eq0 (W : World) : (binOp .eql 58 (.agg #[.int .i64 3, .int .i64 4]) (.agg #[.int .i64 0, .int .i64 1])).run Tryz.prog W = .ok (.bool false) W := by kernel_rfl
theorem pair_eq1 (W : World) : (binOp .eql 58 (.agg #[.int .i64 3, .int .i64 4]) (.agg #[.int .i64 3, .int .i64 4])).run Tryz.prog W = .ok (.bool true) W := by kernel_rfl
set_option maxHeartbeats 4000000 in
set_option maxRecDepth 100000 in
theorem loose_x (ka : Int) (xa : Nat) (sa : ByteArray) (ra : Int) (kb : Int) (xb : Nat) (sb : ByteArray) (rb : Int) (f : Nat) (R : Bool) (w : World) (ha : xa < 18446744073709551616) (hb : xb < 18446744073709551616) (za : (sa.size : Int) ≤ 140737488351232) (zb : (sb.size : Int) ≤ 140737488351232) (hl : Hid (LaidN w))
    (HH : (kd ka = 3 ∧ kd kb = 3 ∧ sameB xa xb 0 = R) ∨
      (kd ka = 3 ∧ kd kb = 4 ∧ Hid (∀ W, Hid (LaidN W) → Calls Tryz.prog 40 #[.agg #[.int .i64 kb, .float .f64 xb, .string sb, .int .i64 rb]] W fun e w' => e = .returned (.agg #[.int .i64 3, .float .f64 f, .string ⟨#[]⟩, .int .i64 0]) ∧ Below W.heap.size W w') ∧ Hid (∀ W, Hid (LaidN W) → Calls Tryz.prog 22 #[.agg #[.int .i64 ka, .float .f64 xa, .string sa, .int .i64 ra], .agg #[.int .i64 3, .float .f64 f, .string ⟨#[]⟩, .int .i64 0]] W fun e w' => e = .returned (.tuple #[.bool R, .bool true]) ∧ Below W.heap.size W w')) ∨
      (kd ka = 4 ∧ kd kb = 3 ∧ Hid (∀ W, Hid (LaidN W) → Calls Tryz.prog 22 #[.agg #[.int .i64 kb, .float .f64 xb, .string sb, .int .i64 rb], .agg #[.int .i64 ka, .float .f64 xa, .string sa, .int .i64 ra]] W fun e w' => e = .returned (.tuple #[.bool R, .bool true]) ∧ Below W.heap.size W w'))) :
    Calls Tryz.prog 22 #[.agg #[.int .i64 ka, .float .f64 xa, .string sa, .int .i64 ra], .agg #[.int .i64 kb, .float .f64 xb, .string sb, .int .i64 rb]] w fun e w' => e = .returned (.tuple #[.bool R, .bool true]) ∧ Below w.heap.size w w' := by
  have HA := Hid.mk' (fun W => kindOf_any ka xa sa ra W)
  have HB := Hid.mk' (fun W => kindOf_any kb xb sb rb W)
  have HS := Hid.mk' (fun W (h1 : kd ka = 3) (h2 : kd kb = 3) => vsame_3 ka xa sa ra kb xb sb rb 0 W ha hb za zb h1 h2)
  obtain ⟨p, hp⟩ : ∃ p, kd ka = p := ⟨_, rfl⟩
  obtain ⟨q, hq⟩ : ∃ q, kd kb = q := ⟨_, rfl⟩
  rw [hp] at HA HS HH
  rw [hq] at HB HS HH
  have HHH := Hid.mk' HH
  clear HH hp hq ha hb za zb
  go_enter Tryz.func22, Tryz.ntmps22
  go_wp2_with fail
  have Va0 : CellV ((w.alloc (.cells #[.int .i64 ka, .float .f64 xa, .string sa, .int .i64 ra] 25)).alloc (.cells #[.int .i64 kb, .float .f64 xb, .string sb, .int .i64 rb] 25)) w.heap.size ka xa sa ra := by constructor <;> first | (simp; done) | (simp; omega)
  have Vb0 : CellV ((w.alloc (.cells #[.int .i64 ka, .float .f64 xa, .string sa, .int .i64 ra] 25)).alloc (.cells #[.int .i64 kb, .float .f64 xb, .string sb, .int .i64 rb] 25)) (w.heap.size + 1) kb xb sb rb := by constructor <;> first | (simp; done) | (simp; omega)
  have c0 : Below w.heap.size w ((w.alloc (.cells #[.int .i64 ka, .float .f64 xa, .string sa, .int .i64 ra] 25)).alloc (.cells #[.int .i64 kb, .float .f64 xb, .string sb, .int .i64 rb] 25)) := by (repeat' (first | (with_reducible exact Below.refl _ _) | (with_reducible assumption) | (with_reducible refine Below.drew ?_) | (with_reducible refine below_drewN ?_ _) | (with_reducible refine Below.alloc ?_ ?_ _) | (with_reducible refine Below.setCell ?_ ?_ _) | exact Below.size (show Below w.heap.size w _ by assumption) | (simp; done) | (simp; omega)))
  generalize ((w.alloc (.cells #[.int .i64 ka, .float .f64 xa, .string sa, .int .i64 ra] 25)).alloc (.cells #[.int .i64 kb, .float .f64 xb, .string sb, .int .i64 rb] 25)) = w0 at Va0 Vb0 c0 ⊢
  obtain ⟨-, za00, za01, za02, za03⟩ := id Va0
  obtain ⟨-, zb00, zb01, zb02, zb03⟩ := id Vb0
  go_cut [6] from 7 (fun c wx => ∃ g, c = .pointer (some ⟨g, 0, none⟩) ∧ wx.cell? ⟨g, 0, none⟩ = some (.int .i64 p) ∧ wx.cell? ⟨g, 1, none⟩ = some (.int .i64 q) ∧ g < wx.heap.size ∧ Below w.heap.size w wx ∧ CellV wx w.heap.size ka xa sa ra ∧ CellV wx (w.heap.size + 1) kb xb sb rb)
  case first =>
    clear HS HHH hl
    have la00 : ∀ o, (w0.alloc o).cell? ⟨w.heap.size, 0, none⟩ = some (.int .i64 ka) := fun o => (Va0.alloc o).c0
    have la01 : ∀ o, (w0.alloc o).cell? ⟨w.heap.size, 1, none⟩ = some (.float .f64 xa) := fun o => (Va0.alloc o).c1
    have la02 : ∀ o, (w0.alloc o).cell? ⟨w.heap.size, 2, none⟩ = some (.string sa) := fun o => (Va0.alloc o).c2
    have la03 : ∀ o, (w0.alloc o).cell? ⟨w.heap.size, 3, none⟩ = some (.int .i64 ra) := fun o => (Va0.alloc o).c3
    have lb00 : ∀ o, (w0.alloc o).cell? ⟨w.heap.size + 1, 0, none⟩ = some (.int .i64 kb) := fun o => (Vb0.alloc o).c0
    have lb01 : ∀ o, (w0.alloc o).cell? ⟨w.heap.size + 1, 1, none⟩ = some (.float .f64 xb) := fun o => (Vb0.alloc o).c1
    have lb02 : ∀ o, (w0.alloc o).cell? ⟨w.heap.size + 1, 2, none⟩ = some (.string sb) := fun o => (Vb0.alloc o).c2
    have lb03 : ∀ o, (w0.alloc o).cell? ⟨w.heap.size + 1, 3, none⟩ = some (.int .i64 rb) := fun o => (Vb0.alloc o).c3
    go_region_with (first | (go_at_call 33; first | (with_reducible refine (HA.out _).mono ?_; rintro e w2 ⟨rfl, b2⟩; have c2 : Below w.heap.size w w2 := bl_chain (by (repeat' (first | (with_reducible exact Below.refl _ _) | (with_reducible assumption) | (with_reducible refine Below.drew ?_) | (with_reducible refine below_drewN ?_ _) | (with_reducible refine Below.alloc ?_ ?_ _) | (with_reducible refine Below.setCell ?_ ?_ _) | exact Below.size (show Below w.heap.size w _ by assumption) | (simp; done) | (simp; omega)))) b2; have Va2 : CellV w2 (w.heap.size) ka xa sa ra := CellV.below (by first | (with_reducible assumption) | (with_reducible refine CellV.drew ?_; assumption) | (with_reducible refine CellV.alloc ?_ _; assumption) | (with_reducible refine CellV.drew (CellV.alloc ?_ _); assumption) | (with_reducible refine CellV.alloc (CellV.drew ?_) _; assumption)) b2; obtain ⟨-, za20, za21, za22, za23⟩ := id Va2; have Vb2 : CellV w2 (w.heap.size + 1) kb xb sb rb := CellV.below (by first | (with_reducible assumption) | (with_reducible refine CellV.drew ?_; assumption) | (with_reducible refine CellV.alloc ?_ _; assumption) | (with_reducible refine CellV.drew (CellV.alloc ?_ _); assumption) | (with_reducible refine CellV.alloc (CellV.drew ?_) _; assumption)) b2; obtain ⟨-, zb20, zb21, zb22, zb23⟩ := id Vb2; have la20 : ∀ o, (w2.alloc o).cell? ⟨w.heap.size, 0, none⟩ = some (.int .i64 ka) := fun o => (Va2.alloc o).c0; have la21 : ∀ o, (w2.alloc o).cell? ⟨w.heap.size, 1, none⟩ = some (.float .f64 xa) := fun o => (Va2.alloc o).c1; have la22 : ∀ o, (w2.alloc o).cell? ⟨w.heap.size, 2, none⟩ = some (.string sa) := fun o => (Va2.alloc o).c2; have la23 : ∀ o, (w2.alloc o).cell? ⟨w.heap.size, 3, none⟩ = some (.int .i64 ra) := fun o => (Va2.alloc o).c3; have lb20 : ∀ o, (w2.alloc o).cell? ⟨w.heap.size + 1, 0, none⟩ = some (.int .i64 kb) := fun o => (Vb2.alloc o).c0; have lb21 : ∀ o, (w2.alloc o).cell? ⟨w.heap.size + 1, 1, none⟩ = some (.float .f64 xb) := fun o => (Vb2.alloc o).c1; have lb22 : ∀ o, (w2.alloc o).cell? ⟨w.heap.size + 1, 2, none⟩ = some (.string sb) := fun o => (Vb2.alloc o).c2; have lb23 : ∀ o, (w2.alloc o).cell? ⟨w.heap.size + 1, 3, none⟩ = some (.int .i64 rb) := fun o => (Vb2.alloc o).c3; have Y2 : PairC w2 w0.heap.size := PairC.below (by first | (with_reducible exact PairC.new _) | (with_reducible exact PairC.newD _) | (with_reducible exact PairC.drew (PairC.new _)) | (with_reducible exact PairC.drew (PairC.newD _))) b2; obtain ⟨-, y20, y21, h20, h21⟩ := id Y2; clear b2) | (with_reducible refine (HA.out _).mono ?_; rintro e w2 ⟨rfl, b2⟩; have c2 : Below w.heap.size w w2 := bl_chain (by (repeat' (first | (with_reducible exact Below.refl _ _) | (with_reducible assumption) | (with_reducible refine Below.drew ?_) | (with_reducible refine below_drewN ?_ _) | (with_reducible refine Below.alloc ?_ ?_ _) | (with_reducible refine Below.setCell ?_ ?_ _) | exact Below.size (show Below w.heap.size w _ by assumption) | (simp; done) | (simp; omega)))) b2; have Va2 : CellV w2 (w.heap.size) ka xa sa ra := CellV.below (by first | (with_reducible assumption) | (with_reducible refine CellV.drew ?_; assumption) | (with_reducible refine CellV.alloc ?_ _; assumption) | (with_reducible refine CellV.drew (CellV.alloc ?_ _); assumption) | (with_reducible refine CellV.alloc (CellV.drew ?_) _; assumption)) b2; obtain ⟨-, za20, za21, za22, za23⟩ := id Va2; have Vb2 : CellV w2 (w.heap.size + 1) kb xb sb rb := CellV.below (by first | (with_reducible assumption) | (with_reducible refine CellV.drew ?_; assumption) | (with_reducible refine CellV.alloc ?_ _; assumption) | (with_reducible refine CellV.drew (CellV.alloc ?_ _); assumption) | (with_reducible refine CellV.alloc (CellV.drew ?_) _; assumption)) b2; obtain ⟨-, zb20, zb21, zb22, zb23⟩ := id Vb2; have la20 : ∀ o, (w2.alloc o).cell? ⟨w.heap.size, 0, none⟩ = some (.int .i64 ka) := fun o => (Va2.alloc o).c0; have la21 : ∀ o, (w2.alloc o).cell? ⟨w.heap.size, 1, none⟩ = some (.float .f64 xa) := fun o => (Va2.alloc o).c1; have la22 : ∀ o, (w2.alloc o).cell? ⟨w.heap.size, 2, none⟩ = some (.string sa) := fun o => (Va2.alloc o).c2; have la23 : ∀ o, (w2.alloc o).cell? ⟨w.heap.size, 3, none⟩ = some (.int .i64 ra) := fun o => (Va2.alloc o).c3; have lb20 : ∀ o, (w2.alloc o).cell? ⟨w.heap.size + 1, 0, none⟩ = some (.int .i64 kb) := fun o => (Vb2.alloc o).c0; have lb21 : ∀ o, (w2.alloc o).cell? ⟨w.heap.size + 1, 1, none⟩ = some (.float .f64 xb) := fun o => (Vb2.alloc o).c1; have lb22 : ∀ o, (w2.alloc o).cell? ⟨w.heap.size + 1, 2, none⟩ = some (.string sb) := fun o => (Vb2.alloc o).c2; have lb23 : ∀ o, (w2.alloc o).cell? ⟨w.heap.size + 1, 3, none⟩ = some (.int .i64 rb) := fun o => (Vb2.alloc o).c3; clear b2) | (with_reducible refine (HB.out _).mono ?_; rintro e w3 ⟨rfl, b3⟩; have c3 : Below w.heap.size w w3 := bl_chain (by (repeat' (first | (with_reducible exact Below.refl _ _) | (with_reducible assumption) | (with_reducible refine Below.drew ?_) | (with_reducible refine below_drewN ?_ _) | (with_reducible refine Below.alloc ?_ ?_ _) | (with_reducible refine Below.setCell ?_ ?_ _) | exact Below.size (show Below w.heap.size w _ by assumption) | (simp; done) | (simp; omega)))) b3; have Va3 : CellV w3 (w.heap.size) ka xa sa ra := CellV.below (by first | (with_reducible assumption) | (with_reducible refine CellV.drew ?_; assumption) | (with_reducible refine CellV.alloc ?_ _; assumption) | (with_reducible refine CellV.drew (CellV.alloc ?_ _); assumption) | (with_reducible refine CellV.alloc (CellV.drew ?_) _; assumption)) b3; obtain ⟨-, za30, za31, za32, za33⟩ := id Va3; have Vb3 : CellV w3 (w.heap.size + 1) kb xb sb rb := CellV.below (by first | (with_reducible assumption) | (with_reducible refine CellV.drew ?_; assumption) | (with_reducible refine CellV.alloc ?_ _; assumption) | (with_reducible refine CellV.drew (CellV.alloc ?_ _); assumption) | (with_reducible refine CellV.alloc (CellV.drew ?_) _; assumption)) b3; obtain ⟨-, zb30, zb31, zb32, zb33⟩ := id Vb3; have la30 : ∀ o, (w3.alloc o).cell? ⟨w.heap.size, 0, none⟩ = some (.int .i64 ka) := fun o => (Va3.alloc o).c0; have la31 : ∀ o, (w3.alloc o).cell? ⟨w.heap.size, 1, none⟩ = some (.float .f64 xa) := fun o => (Va3.alloc o).c1; have la32 : ∀ o, (w3.alloc o).cell? ⟨w.heap.size, 2, none⟩ = some (.string sa) := fun o => (Va3.alloc o).c2; have la33 : ∀ o, (w3.alloc o).cell? ⟨w.heap.size, 3, none⟩ = some (.int .i64 ra) := fun o => (Va3.alloc o).c3; have lb30 : ∀ o, (w3.alloc o).cell? ⟨w.heap.size + 1, 0, none⟩ = some (.int .i64 kb) := fun o => (Vb3.alloc o).c0; have lb31 : ∀ o, (w3.alloc o).cell? ⟨w.heap.size + 1, 1, none⟩ = some (.float .f64 xb) := fun o => (Vb3.alloc o).c1; have lb32 : ∀ o, (w3.alloc o).cell? ⟨w.heap.size + 1, 2, none⟩ = some (.string sb) := fun o => (Vb3.alloc o).c2; have lb33 : ∀ o, (w3.alloc o).cell? ⟨w.heap.size + 1, 3, none⟩ = some (.int .i64 rb) := fun o => (Vb3.alloc o).c3; have U3 : PairC w3 w2.heap.size := PairC.below (by first | (with_reducible exact PairC.new _) | (with_reducible exact PairC.newD _) | (with_reducible exact PairC.drew (PairC.new _)) | (with_reducible exact PairC.drew (PairC.newD _))) b3; obtain ⟨-, u30, u31, i30, i31⟩ := id U3; clear b3) | (with_reducible refine (HB.out _).mono ?_; rintro e w3 ⟨rfl, b3⟩; have c3 : Below w.heap.size w w3 := bl_chain (by (repeat' (first | (with_reducible exact Below.refl _ _) | (with_reducible assumption) | (with_reducible refine Below.drew ?_) | (with_reducible refine below_drewN ?_ _) | (with_reducible refine Below.alloc ?_ ?_ _) | (with_reducible refine Below.setCell ?_ ?_ _) | exact Below.size (show Below w.heap.size w _ by assumption) | (simp; done) | (simp; omega)))) b3; have Va3 : CellV w3 (w.heap.size) ka xa sa ra := CellV.below (by first | (with_reducible assumption) | (with_reducible refine CellV.drew ?_; assumption) | (with_reducible refine CellV.alloc ?_ _; assumption) | (with_reducible refine CellV.drew (CellV.alloc ?_ _); assumption) | (with_reducible refine CellV.alloc (CellV.drew ?_) _; assumption)) b3; obtain ⟨-, za30, za31, za32, za33⟩ := id Va3; have Vb3 : CellV w3 (w.heap.size + 1) kb xb sb rb := CellV.below (by first | (with_reducible assumption) | (with_reducible refine CellV.drew ?_; assumption) | (with_reducible refine CellV.alloc ?_ _; assumption) | (with_reducible refine CellV.drew (CellV.alloc ?_ _); assumption) | (with_reducible refine CellV.alloc (CellV.drew ?_) _; assumption)) b3; obtain ⟨-, zb30, zb31, zb32, zb33⟩ := id Vb3; have la30 : ∀ o, (w3.alloc o).cell? ⟨w.heap.size, 0, none⟩ = some (.int .i64 ka) := fun o => (Va3.alloc o).c0; have la31 : ∀ o, (w3.alloc o).cell? ⟨w.heap.size, 1, none⟩ = some (.float .f64 xa) := fun o => (Va3.alloc o).c1; have la32 : ∀ o, (w3.alloc o).cell? ⟨w.heap.size, 2, none⟩ = some (.string sa) := fun o => (Va3.alloc o).c2; have la33 : ∀ o, (w3.alloc o).cell? ⟨w.heap.size, 3, none⟩ = some (.int .i64 ra) := fun o => (Va3.alloc o).c3; have lb30 : ∀ o, (w3.alloc o).cell? ⟨w.heap.size + 1, 0, none⟩ = some (.int .i64 kb) := fun o => (Vb3.alloc o).c0; have lb31 : ∀ o, (w3.alloc o).cell? ⟨w.heap.size + 1, 1, none⟩ = some (.float .f64 xb) := fun o => (Vb3.alloc o).c1; have lb32 : ∀ o, (w3.alloc o).cell? ⟨w.heap.size + 1, 2, none⟩ = some (.string sb) := fun o => (Vb3.alloc o).c2; have lb33 : ∀ o, (w3.alloc o).cell? ⟨w.heap.size + 1, 3, none⟩ = some (.int .i64 rb) := fun o => (Vb3.alloc o).c3; have Y3 : PairC w3 w0.heap.size := PairC.below (by first | (with_reducible assumption) | (with_reducible refine PairC.drew ?_; assumption)) b3; obtain ⟨-, y30, y31, h30, h31⟩ := id Y3; clear b3) | (with_reducible refine (HB.out _).mono ?_; rintro e w3 ⟨rfl, b3⟩; have c3 : Below w.heap.size w w3 := bl_chain (by (repeat' (first | (with_reducible exact Below.refl _ _) | (with_reducible assumption) | (with_reducible refine Below.drew ?_) | (with_reducible refine below_drewN ?_ _) | (with_reducible refine Below.alloc ?_ ?_ _) | (with_reducible refine Below.setCell ?_ ?_ _) | exact Below.size (show Below w.heap.size w _ by assumption) | (simp; done) | (simp; omega)))) b3; have Va3 : CellV w3 (w.heap.size) ka xa sa ra := CellV.below (by first | (with_reducible assumption) | (with_reducible refine CellV.drew ?_; assumption) | (with_reducible refine CellV.alloc ?_ _; assumption) | (with_reducible refine CellV.drew (CellV.alloc ?_ _); assumption) | (with_reducible refine CellV.alloc (CellV.drew ?_) _; assumption)) b3; obtain ⟨-, za30, za31, za32, za33⟩ := id Va3; have Vb3 : CellV w3 (w.heap.size + 1) kb xb sb rb := CellV.below (by first | (with_reducible assumption) | (with_reducible refine CellV.drew ?_; assumption) | (with_reducible refine CellV.alloc ?_ _; assumption) | (with_reducible refine CellV.drew (CellV.alloc ?_ _); assumption) | (with_reducible refine CellV.alloc (CellV.drew ?_) _; assumption)) b3; obtain ⟨-, zb30, zb31, zb32, zb33⟩ := id Vb3; have la30 : ∀ o, (w3.alloc o).cell? ⟨w.heap.size, 0, none⟩ = some (.int .i64 ka) := fun o => (Va3.alloc o).c0; have la31 : ∀ o, (w3.alloc o).cell? ⟨w.heap.size, 1, none⟩ = some (.float .f64 xa) := fun o => (Va3.alloc o).c1; have la32 : ∀ o, (w3.alloc o).cell? ⟨w.heap.size, 2, none⟩ = some (.string sa) := fun o => (Va3.alloc o).c2; have la33 : ∀ o, (w3.alloc o).cell? ⟨w.heap.size, 3, none⟩ = some (.int .i64 ra) := fun o => (Va3.alloc o).c3; have lb30 : ∀ o, (w3.alloc o).cell? ⟨w.heap.size + 1, 0, none⟩ = some (.int .i64 kb) := fun o => (Vb3.alloc o).c0; have lb31 : ∀ o, (w3.alloc o).cell? ⟨w.heap.size + 1, 1, none⟩ = some (.float .f64 xb) := fun o => (Vb3.alloc o).c1; have lb32 : ∀ o, (w3.alloc o).cell? ⟨w.heap.size + 1, 2, none⟩ = some (.string sb) := fun o => (Vb3.alloc o).c2; have lb33 : ∀ o, (w3.alloc o).cell? ⟨w.heap.size + 1, 3, none⟩ = some (.int .i64 rb) := fun o => (Vb3.alloc o).c3; clear b3)))
    all_goals (go_wp2_with fail; go_meet; refine ⟨_, rfl, ?_, ?_, ?_, by (repeat' (first | (with_reducible exact Below.refl _ _) | (with_reducible assumption) | (with_reducible refine Below.drew ?_) | (with_reducible refine below_drewN ?_ _) | (with_reducible refine Below.alloc ?_ ?_ _) | (with_reducible refine Below.setCell ?_ ?_ _) | exact Below.size (show Below w.heap.size w _ by assumption) | (simp; done) | (simp; omega))), ?_, ?_⟩)
    all_goals (repeat' (first | (with_reducible assumption) | (with_reducible refine CellV.alloc ?_ _) | (with_reducible refine CellV.drew ?_) | (with_reducible refine CellV.set ?_ _ ?_ _)))
    all_goals (try (first | exact (PairC.put (by assumption) _ _).1 | exact (PairC.put (by assumption) _ _).2 | (simp; done) | (show _ ≠ _; dsimp only; have l1 := Va0.lt; have l2 := Vb0.lt; have l3 := Va2.lt; have l4 := Vb2.lt; omega) | (simp only [World.size_setCell]; exact PairC.lt (by assumption)) | (simp; exact PairC.lt (by assumption)) | exact PairC.lt (by assumption)))
  case rest =>
    obtain ⟨g, rfl, y0, y1, hg, c2, Va2, Vb2⟩ := hcut
    obtain ⟨-, za20, za21, za22, za23⟩ := id Va2
    obtain ⟨-, zb20, zb21, zb22, zb23⟩ := id Vb2
    have hl2 : Hid (LaidN wc) := hl.out.below c2
    have e0 := pair_eq0
    have e1 := pair_eq1
    clear Va0 Vb0 c0 za00 za01 za02 za03 zb00 zb01 zb02 zb03 HA HB hl
    have HHC := HHH.out
    rcases HHC with ⟨rfl, rfl, hs⟩ | ⟨rfl, rfl, H1, H2⟩ | ⟨rfl, rfl, H1⟩
    · have HS2 := Hid.mk' (HS.out wc rfl rfl)
      rw [hs] at HS2
      clear HHH HS hs
      go_wp2_with fail
      refine HS2.out.mono ?_
      rintro e w3 ⟨rfl, b3⟩
      have c3 := c2.trans (b3.mono c2.size)
      go_wp2
      go_ret2
      exact ⟨rfl, c3⟩
    · clear HHH HS
      go_wp2_with fail
      go_region_with (first
        | (go_at_call 40; with_reducible refine (H1.out _ ?_).mono ?_; exact Hid.mk' (hl2.out.below (by (repeat' (first | (with_reducible exact Below.refl _ _) | (with_reducible assumption) | (with_reducible refine Below.drew ?_) | (with_reducible refine below_drewN ?_ _))))); rintro e w3 ⟨rfl, b3⟩; have d3 : Below wc.heap.size wc w3 := bl_chain (by (repeat' (first | (with_reducible exact Below.refl _ _) | (with_reducible assumption) | (with_reducible refine Below.drew ?_) | (with_reducible refine below_drewN ?_ _)))) b3; have Va3 : CellV w3 w.heap.size ka xa sa ra := Va2.below d3; obtain ⟨-, za30, za31, za32, za33⟩ := id Va3; clear b3)
        | (go_at_call 22; with_reducible refine (H2.out _ ?_).mono ?_; exact Hid.mk' (hl2.out.below (by (repeat' (first | (with_reducible exact Below.refl _ _) | (with_reducible assumption) | (with_reducible refine Below.drew ?_) | (with_reducible refine below_drewN ?_ _))))); rintro e w4 ⟨rfl, b4⟩; have d4 : Below wc.heap.size wc w4 := bl_chain (by (repeat' (first | (with_reducible exact Below.refl _ _) | (with_reducible assumption) | (with_reducible refine Below.drew ?_) | (with_reducible refine below_drewN ?_ _)))) b4; clear b4))
      all_goals go_wp2
      all_goals go_ret2
      all_goals (have c4 := c2.trans (d4.mono c2.size); exact ⟨rfl, by (repeat' (first | (with_reducible assumption) | (with_reducible refine Below.drew ?_) | (with_reducible refine below_drewN ?_ _)))⟩)
    · clear HHH HS
      go_wp2_with fail
      refine (H1.out _ hl2).mono ?_
      rintro e w3 ⟨rfl, b3⟩
      have c3 := c2.trans (b3.mono c2.size)
      go_wp2
      go_ret2
      exact ⟨rfl, c3⟩
end Go.Proofs.YtaknclffnoljlaaGreatDoor
