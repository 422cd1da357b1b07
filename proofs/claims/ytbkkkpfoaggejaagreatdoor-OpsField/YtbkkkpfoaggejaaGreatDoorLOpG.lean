/- OpsField: sums and products do not hang on the order of their sides, and a difference is a sum with the number turned round. Written by tools/mkopg.py. -/
import Derived.Test.YtbkkkpfoaggejaaGreatDoorOpG
import Derived.LoopN
namespace Go.Proofs.YtbkkkpfoaggejaaGreatDoor
set_option linter.unusedVariables false
set_option linter.unusedSimpArgs false
open Go.RowKit Go.Sort Fl

/-- Five operators that lie in a row. -/
structure S5 (w : World) (g : Nat) : Prop where
  lt : g < w.heap.size
  c0 : w.cell? ⟨g, 0, none⟩ = some (.string ⟨#[43]⟩)
  c1 : w.cell? ⟨g, 1, none⟩ = some (.string ⟨#[42]⟩)
  c2 : w.cell? ⟨g, 2, none⟩ = some (.string ⟨#[38]⟩)
  c3 : w.cell? ⟨g, 3, none⟩ = some (.string ⟨#[124]⟩)
  c4 : w.cell? ⟨g, 4, none⟩ = some (.string ⟨#[94]⟩)
theorem S5.below {w w' : World} {g : Nat} (h : S5 w g) (hb : Below w.heap.size w w') : S5 w' g :=
  ⟨Nat.lt_of_lt_of_le h.lt hb.size, (hb.cell (p := ⟨g, 0, none⟩) h.lt).trans h.c0, (hb.cell (p := ⟨g, 1, none⟩) h.lt).trans h.c1, (hb.cell (p := ⟨g, 2, none⟩) h.lt).trans h.c2, (hb.cell (p := ⟨g, 3, none⟩) h.lt).trans h.c3, (hb.cell (p := ⟨g, 4, none⟩) h.lt).trans h.c4⟩
theorem S5.alloc {w : World} {g : Nat} (h : S5 w g) (o : Obj) : S5 (w.alloc o) g := h.below ((Below.refl _ _).alloc (Nat.le_refl _) _)
theorem S5.drew {w : World} {g : Nat} (h : S5 w g) : S5 w.drew g := ⟨h.lt, h.c0, h.c1, h.c2, h.c3, h.c4⟩
theorem S5.new (w : World) (t : TypeId) : S5 (w.alloc (.cells #[.string ⟨#[43]⟩, .string ⟨#[42]⟩, .string ⟨#[38]⟩, .string ⟨#[124]⟩, .string ⟨#[94]⟩] t)) w.heap.size := by constructor <;> simp
theorem al_of (r s : Nat) (o : Option Nat) (ho : ∀ z, o = some z → z < 18446744073709551616) (hr : FR o r) (hs : FR o s) (W : World) : Calls Tryz.prog 10 #[.agg #[.int .i64 3, .float .f64 r, .string ⟨#[]⟩, .int .i64 0], .agg #[.int .i64 3, .float .f64 s, .string ⟨#[]⟩, .int .i64 0]] W fun e w' => e = .returned (.bool true) ∧ Below W.heap.size W w' := by
  obtain ⟨h1, h2, h3⟩ := og_alike o ho r s hr hs
  have q := ralike_n r s W h1 h2
  rw [h3] at q
  exact q
set_option maxHeartbeats 4000000 in
set_option maxRecDepth 100000 in
theorem field_walk (x y : Nat) (w : World) (hx : x < 18446744073709551616) (hy : y < 18446744073709551616) (hl : Hid (Laid w)) : Calls Tryz.prog 4 #[.float .f64 x, .float .f64 y] w fun e w' => e = .returned (.bool true) ∧ Below w.heap.size w w' := by
  have HW := Hid.mk' (fun W (hW : Hid (Laid W)) => awake19 W hW)
  have HNM := Hid.mk' (fun f W => rnum_any f W)
  have HX0 := Hid.mk' (fun W (hW : Hid (Laid W)) => fb_plus x y hx hy W hW)
  have HY0 := Hid.mk' (fun W (hW : Hid (Laid W)) => fb_plus y x hy hx W hW)
  have e0 : (Ieee.double.add y x : Option Nat) = Ieee.double.add x y := by rw [og_add_comm]
  rw [e0] at HY0
  have HO0 : ∀ z, (Ieee.double.add x y : Option Nat) = some z → z < 18446744073709551616 := fun z hz => og_add_lt _ _ z hz
  revert HX0 HY0 HO0
  clear e0
  generalize (Ieee.double.add x y : Option Nat) = o0
  intro HX0 HY0 HO0
  have HK0 := Hid.mk' (fun r s hr hs W => al_of r s o0 HO0 hr hs W)
  clear HO0
  have HX1 := Hid.mk' (fun W (hW : Hid (Laid W)) => fb_times x y hx hy W hW)
  have HY1 := Hid.mk' (fun W (hW : Hid (Laid W)) => fb_times y x hy hx W hW)
  have e1 : (Ieee.double.mul y x : Option Nat) = Ieee.double.mul x y := by rw [og_mul_comm]
  rw [e1] at HY1
  have HO1 : ∀ z, (Ieee.double.mul x y : Option Nat) = some z → z < 18446744073709551616 := fun z hz => og_mul_lt _ _ z hz
  revert HX1 HY1 HO1
  clear e1
  generalize (Ieee.double.mul x y : Option Nat) = o1
  intro HX1 HY1 HO1
  have HK1 := Hid.mk' (fun r s hr hs W => al_of r s o1 HO1 hr hs W)
  clear HO1
  have HX2 := Hid.mk' (fun W (hW : Hid (Laid W)) => fb_and x y hx hy W hW)
  have HY2 := Hid.mk' (fun W (hW : Hid (Laid W)) => fb_and y x hy hx W hW)
  have e2 : (some (floatOfInt .f64 (bits .and .i32 (wrap32 (u32 y)) (wrap32 (u32 x)))) : Option Nat) = some (floatOfInt .f64 (bits .and .i32 (wrap32 (u32 x)) (wrap32 (u32 y)))) := by rw [og_bits .and _ _ (by simp)]
  rw [e2] at HY2
  have HO2 : ∀ z, (some (floatOfInt .f64 (bits .and .i32 (wrap32 (u32 x)) (wrap32 (u32 y)))) : Option Nat) = some z → z < 18446744073709551616 := fun z hz => by cases hz; simpa [Lit.wf] using floatOfInt_wf .f64 _
  revert HX2 HY2 HO2
  clear e2
  generalize (some (floatOfInt .f64 (bits .and .i32 (wrap32 (u32 x)) (wrap32 (u32 y)))) : Option Nat) = o2
  intro HX2 HY2 HO2
  have HK2 := Hid.mk' (fun r s hr hs W => al_of r s o2 HO2 hr hs W)
  clear HO2
  have HX3 := Hid.mk' (fun W (hW : Hid (Laid W)) => fb_or x y hx hy W hW)
  have HY3 := Hid.mk' (fun W (hW : Hid (Laid W)) => fb_or y x hy hx W hW)
  have e3 : (some (floatOfInt .f64 (bits .or .i32 (wrap32 (u32 y)) (wrap32 (u32 x)))) : Option Nat) = some (floatOfInt .f64 (bits .or .i32 (wrap32 (u32 x)) (wrap32 (u32 y)))) := by rw [og_bits .or _ _ (by simp)]
  rw [e3] at HY3
  have HO3 : ∀ z, (some (floatOfInt .f64 (bits .or .i32 (wrap32 (u32 x)) (wrap32 (u32 y)))) : Option Nat) = some z → z < 18446744073709551616 := fun z hz => by cases hz; simpa [Lit.wf] using floatOfInt_wf .f64 _
  revert HX3 HY3 HO3
  clear e3
  generalize (some (floatOfInt .f64 (bits .or .i32 (wrap32 (u32 x)) (wrap32 (u32 y)))) : Option Nat) = o3
  intro HX3 HY3 HO3
  have HK3 := Hid.mk' (fun r s hr hs W => al_of r s o3 HO3 hr hs W)
  clear HO3
  have HX4 := Hid.mk' (fun W (hW : Hid (Laid W)) => fb_xor x y hx hy W hW)
  have HY4 := Hid.mk' (fun W (hW : Hid (Laid W)) => fb_xor y x hy hx W hW)
  have e4 : (some (floatOfInt .f64 (bits .xor .i32 (wrap32 (u32 y)) (wrap32 (u32 x)))) : Option Nat) = some (floatOfInt .f64 (bits .xor .i32 (wrap32 (u32 x)) (wrap32 (u32 y)))) := by rw [og_bits .xor _ _ (by simp)]
  rw [e4] at HY4
  have HO4 : ∀ z, (some (floatOfInt .f64 (bits .xor .i32 (wrap32 (u32 x)) (wrap32 (u32 y)))) : Option Nat) = some z → z < 18446744073709551616 := fun z hz => by cases hz; simpa [Lit.wf] using floatOfInt_wf .f64 _
  revert HX4 HY4 HO4
  clear e4
  generalize (some (floatOfInt .f64 (bits .xor .i32 (wrap32 (u32 x)) (wrap32 (u32 y)))) : Option Nat) = o4
  intro HX4 HY4 HO4
  have HK4 := Hid.mk' (fun r s hr hs W => al_of r s o4 HO4 hr hs W)
  clear HO4
  have HX5 := Hid.mk' (fun W (hW : Hid (Laid W)) => fb_minus x y hx hy W hW)
  have HU5 := Hid.mk' (fun W (hW : Hid (Laid W)) => fb_neg y W hW)
  have HY5 := Hid.mk' (fun W (hW : Hid (Laid W)) => fb_plus x (y ^^^ 9223372036854775808) hx (og_neg y hy).1 W hW)
  rw [og_sub x y hy] at HX5
  have HO5 : ∀ z, Ieee.double.add x (y ^^^ 9223372036854775808) = some z → z < 18446744073709551616 := fun z hz => og_add_lt _ _ z hz
  revert HX5 HU5 HY5 HO5
  generalize Ieee.double.add x (y ^^^ 9223372036854775808) = o5
  generalize y ^^^ 9223372036854775808 = ny
  intro HX5 HU5 HY5 HO5
  have HK5 := Hid.mk' (fun r s hr hs W => al_of r s o5 HO5 hr hs W)
  clear HO5 hx hy
  go_enter Tryz.func4, Tryz.ntmps4
  go_wp2_with fail
  refine (HW.out _ (Hid.mk' (hl.out.below (by (repeat' (first | (with_reducible exact Below.refl _ _) | (with_reducible assumption) | (with_reducible refine Below.drew ?_) | (with_reducible refine below_drewN ?_ _) | (with_reducible refine Below.alloc ?_ ?_ _) | (with_reducible refine Below.setCell ?_ ?_ _) | exact Below.size (show Below w.heap.size w _ by assumption) | (simp; done) | (simp; omega))))))).mono ?_
  rintro e w1 ⟨rfl, b1⟩
  have c1 : Below w.heap.size w w1 := bl_chain (by (repeat' (first | (with_reducible exact Below.refl _ _) | (with_reducible assumption) | (with_reducible refine Below.drew ?_) | (with_reducible refine below_drewN ?_ _) | (with_reducible refine Below.alloc ?_ ?_ _) | (with_reducible refine Below.setCell ?_ ?_ _) | exact Below.size (show Below w.heap.size w _ by assumption) | (simp; done) | (simp; omega)))) b1
  clear b1
  go_wp2_with fail
  refine (HNM.out _ _).mono ?_
  rintro e w2 ⟨rfl, b2⟩
  have c2 : Below w.heap.size w w2 := bl_chain (by (repeat' (first | (with_reducible exact Below.refl _ _) | (with_reducible assumption) | (with_reducible refine Below.drew ?_) | (with_reducible refine below_drewN ?_ _) | (with_reducible refine Below.alloc ?_ ?_ _) | (with_reducible refine Below.setCell ?_ ?_ _) | exact Below.size (show Below w.heap.size w _ by assumption) | (simp; done) | (simp; omega)))) b2
  clear b2
  go_wp2_with fail
  refine (HNM.out _ _).mono ?_
  rintro e w3 ⟨rfl, b3⟩
  have c3 : Below w.heap.size w w3 := bl_chain (by (repeat' (first | (with_reducible exact Below.refl _ _) | (with_reducible assumption) | (with_reducible refine Below.drew ?_) | (with_reducible refine below_drewN ?_ _) | (with_reducible refine Below.alloc ?_ ?_ _) | (with_reducible refine Below.setCell ?_ ?_ _) | exact Below.size (show Below w.heap.size w _ by assumption) | (simp; done) | (simp; omega)))) b3
  clear b3
  go_wp2_with fail
  have KX4 : CellV (((w3.alloc (.cells #[.int .i64 3, .float .f64 x, .string ⟨#[]⟩, .int .i64 0] 26)).alloc (.cells #[.int .i64 3, .float .f64 y, .string ⟨#[]⟩, .int .i64 0] 26)).alloc (.cells #[.string ⟨#[43]⟩, .string ⟨#[42]⟩, .string ⟨#[38]⟩, .string ⟨#[124]⟩, .string ⟨#[94]⟩] 9)) w3.heap.size 3 x ⟨#[]⟩ 0 := op_allocV (op_allocV (op_newV _ _ _ _ _) _) _
  have KY4 : CellV (((w3.alloc (.cells #[.int .i64 3, .float .f64 x, .string ⟨#[]⟩, .int .i64 0] 26)).alloc (.cells #[.int .i64 3, .float .f64 y, .string ⟨#[]⟩, .int .i64 0] 26)).alloc (.cells #[.string ⟨#[43]⟩, .string ⟨#[42]⟩, .string ⟨#[38]⟩, .string ⟨#[124]⟩, .string ⟨#[94]⟩] 9)) (w3.heap.size + 1) 3 y ⟨#[]⟩ 0 := by
    have q := op_allocV (op_newV (w3.alloc (.cells #[.int .i64 3, .float .f64 x, .string ⟨#[]⟩, .int .i64 0] 26)) 3 y ⟨#[]⟩ 0) (.cells #[.string ⟨#[43]⟩, .string ⟨#[42]⟩, .string ⟨#[38]⟩, .string ⟨#[124]⟩, .string ⟨#[94]⟩] 9)
    simpa using q
  have KS4 : S5 (((w3.alloc (.cells #[.int .i64 3, .float .f64 x, .string ⟨#[]⟩, .int .i64 0] 26)).alloc (.cells #[.int .i64 3, .float .f64 y, .string ⟨#[]⟩, .int .i64 0] 26)).alloc (.cells #[.string ⟨#[43]⟩, .string ⟨#[42]⟩, .string ⟨#[38]⟩, .string ⟨#[124]⟩, .string ⟨#[94]⟩] 9)) (w3.heap.size + 1 + 1) := by
    have q := S5.new ((w3.alloc (.cells #[.int .i64 3, .float .f64 x, .string ⟨#[]⟩, .int .i64 0] 26)).alloc (.cells #[.int .i64 3, .float .f64 y, .string ⟨#[]⟩, .int .i64 0] 26)) 9
    simpa using q
  have s3 : w.heap.size ≤ w3.heap.size := c3.size
  have c4 : Below w.heap.size w (((w3.alloc (.cells #[.int .i64 3, .float .f64 x, .string ⟨#[]⟩, .int .i64 0] 26)).alloc (.cells #[.int .i64 3, .float .f64 y, .string ⟨#[]⟩, .int .i64 0] 26)).alloc (.cells #[.string ⟨#[43]⟩, .string ⟨#[42]⟩, .string ⟨#[38]⟩, .string ⟨#[124]⟩, .string ⟨#[94]⟩] 9)) := by (repeat' (first | (with_reducible exact Below.refl _ _) | (with_reducible assumption) | (with_reducible refine Below.drew ?_) | (with_reducible refine below_drewN ?_ _) | (with_reducible refine Below.alloc ?_ ?_ _) | (with_reducible refine Below.setCell ?_ ?_ _) | exact Below.size (show Below w.heap.size w _ by assumption) | (simp; done) | (simp; omega)))
  clear s3
  generalize (((w3.alloc (.cells #[.int .i64 3, .float .f64 x, .string ⟨#[]⟩, .int .i64 0] 26)).alloc (.cells #[.int .i64 3, .float .f64 y, .string ⟨#[]⟩, .int .i64 0] 26)).alloc (.cells #[.string ⟨#[43]⟩, .string ⟨#[42]⟩, .string ⟨#[38]⟩, .string ⟨#[124]⟩, .string ⟨#[94]⟩] 9)) = w4 at KX4 KY4 KS4 c4 ⊢
  have hl4 : Hid (Laid w4) := Hid.mk' (hl.out.below c4)
  have d4 : Below w4.heap.size w4 w4 := Below.refl _ _
  obtain ⟨-, KX40, KX41, KX42, KX43⟩ := id KX4
  have lKX40 : ∀ o, (w4.alloc o).cell? ⟨w3.heap.size, 0, none⟩ = some (.int .i64 3) := fun o => (op_allocV KX4 o).c0
  have lKX41 : ∀ o, (w4.alloc o).cell? ⟨w3.heap.size, 1, none⟩ = some (.float .f64 x) := fun o => (op_allocV KX4 o).c1
  have lKX42 : ∀ o, (w4.alloc o).cell? ⟨w3.heap.size, 2, none⟩ = some (.string ⟨#[]⟩) := fun o => (op_allocV KX4 o).c2
  have lKX43 : ∀ o, (w4.alloc o).cell? ⟨w3.heap.size, 3, none⟩ = some (.int .i64 0) := fun o => (op_allocV KX4 o).c3
  obtain ⟨-, KY40, KY41, KY42, KY43⟩ := id KY4
  have lKY40 : ∀ o, (w4.alloc o).cell? ⟨(w3.heap.size + 1), 0, none⟩ = some (.int .i64 3) := fun o => (op_allocV KY4 o).c0
  have lKY41 : ∀ o, (w4.alloc o).cell? ⟨(w3.heap.size + 1), 1, none⟩ = some (.float .f64 y) := fun o => (op_allocV KY4 o).c1
  have lKY42 : ∀ o, (w4.alloc o).cell? ⟨(w3.heap.size + 1), 2, none⟩ = some (.string ⟨#[]⟩) := fun o => (op_allocV KY4 o).c2
  have lKY43 : ∀ o, (w4.alloc o).cell? ⟨(w3.heap.size + 1), 3, none⟩ = some (.int .i64 0) := fun o => (op_allocV KY4 o).c3
  obtain ⟨-, KS40, KS41, KS42, KS43, KS44⟩ := id KS4
  refine wp_loop_rounds 6 ?_
  rw [rounds_succ]
  go_wp2_with fail
  refine (HX0.out _ (Hid.mk' (hl4.out.below (by (repeat' (first | (with_reducible exact Below.refl _ _) | (with_reducible assumption) | (with_reducible refine Below.drew ?_) | (with_reducible refine below_drewN ?_ _) | (with_reducible refine Below.alloc ?_ ?_ _) | (with_reducible refine Below.setCell ?_ ?_ _) | exact Below.size (show Below w4.heap.size w4 _ by assumption) | (simp; done) | (simp; omega))))))).mono ?_
  rintro e w5 ⟨r5, rfl, hr5, b5⟩
  have d5 : Below w4.heap.size w4 w5 := bl_chain (by (repeat' (first | (with_reducible exact Below.refl _ _) | (with_reducible assumption) | (with_reducible refine Below.drew ?_) | (with_reducible refine below_drewN ?_ _) | (with_reducible refine Below.alloc ?_ ?_ _) | (with_reducible refine Below.setCell ?_ ?_ _) | exact Below.size (show Below w4.heap.size w4 _ by assumption) | (simp; done) | (simp; omega)))) b5
  have c5 : Below w.heap.size w w5 := c4.trans (d5.mono c4.size)
  have KX5 : CellV w5 w3.heap.size 3 x ⟨#[]⟩ 0 := CellV.below (by first | (with_reducible assumption) | (with_reducible exact op_newV _ _ _ _ _) | (with_reducible refine op_allocV ?_ _; assumption) | (with_reducible refine CellV.drew ?_; assumption)) b5
  obtain ⟨-, KX50, KX51, KX52, KX53⟩ := id KX5
  have lKX50 : ∀ o, (w5.alloc o).cell? ⟨w3.heap.size, 0, none⟩ = some (.int .i64 3) := fun o => (op_allocV KX5 o).c0
  have lKX51 : ∀ o, (w5.alloc o).cell? ⟨w3.heap.size, 1, none⟩ = some (.float .f64 x) := fun o => (op_allocV KX5 o).c1
  have lKX52 : ∀ o, (w5.alloc o).cell? ⟨w3.heap.size, 2, none⟩ = some (.string ⟨#[]⟩) := fun o => (op_allocV KX5 o).c2
  have lKX53 : ∀ o, (w5.alloc o).cell? ⟨w3.heap.size, 3, none⟩ = some (.int .i64 0) := fun o => (op_allocV KX5 o).c3
  have KY5 : CellV w5 (w3.heap.size + 1) 3 y ⟨#[]⟩ 0 := CellV.below (by first | (with_reducible assumption) | (with_reducible exact op_newV _ _ _ _ _) | (with_reducible refine op_allocV ?_ _; assumption) | (with_reducible refine CellV.drew ?_; assumption)) b5
  obtain ⟨-, KY50, KY51, KY52, KY53⟩ := id KY5
  have lKY50 : ∀ o, (w5.alloc o).cell? ⟨(w3.heap.size + 1), 0, none⟩ = some (.int .i64 3) := fun o => (op_allocV KY5 o).c0
  have lKY51 : ∀ o, (w5.alloc o).cell? ⟨(w3.heap.size + 1), 1, none⟩ = some (.float .f64 y) := fun o => (op_allocV KY5 o).c1
  have lKY52 : ∀ o, (w5.alloc o).cell? ⟨(w3.heap.size + 1), 2, none⟩ = some (.string ⟨#[]⟩) := fun o => (op_allocV KY5 o).c2
  have lKY53 : ∀ o, (w5.alloc o).cell? ⟨(w3.heap.size + 1), 3, none⟩ = some (.int .i64 0) := fun o => (op_allocV KY5 o).c3
  have KS5 : S5 w5 (w3.heap.size + 1 + 1) := S5.below (by first | (with_reducible assumption) | (with_reducible refine S5.alloc ?_ _; assumption) | (with_reducible refine S5.drew ?_; assumption) | (with_reducible exact S5.new _ _)) b5
  obtain ⟨-, KS50, KS51, KS52, KS53, KS54⟩ := id KS5
  clear b5
  go_wp2_with fail
  refine (HY0.out _ (Hid.mk' (hl4.out.below (by (repeat' (first | (with_reducible exact Below.refl _ _) | (with_reducible assumption) | (with_reducible refine Below.drew ?_) | (with_reducible refine below_drewN ?_ _) | (with_reducible refine Below.alloc ?_ ?_ _) | (with_reducible refine Below.setCell ?_ ?_ _) | exact Below.size (show Below w4.heap.size w4 _ by assumption) | (simp; done) | (simp; omega))))))).mono ?_
  rintro e w6 ⟨r6, rfl, hr6, b6⟩
  have d6 : Below w4.heap.size w4 w6 := bl_chain (by (repeat' (first | (with_reducible exact Below.refl _ _) | (with_reducible assumption) | (with_reducible refine Below.drew ?_) | (with_reducible refine below_drewN ?_ _) | (with_reducible refine Below.alloc ?_ ?_ _) | (with_reducible refine Below.setCell ?_ ?_ _) | exact Below.size (show Below w4.heap.size w4 _ by assumption) | (simp; done) | (simp; omega)))) b6
  have c6 : Below w.heap.size w w6 := c4.trans (d6.mono c4.size)
  have KX6 : CellV w6 w3.heap.size 3 x ⟨#[]⟩ 0 := CellV.below (by first | (with_reducible assumption) | (with_reducible exact op_newV _ _ _ _ _) | (with_reducible refine op_allocV ?_ _; assumption) | (with_reducible refine CellV.drew ?_; assumption)) b6
  obtain ⟨-, KX60, KX61, KX62, KX63⟩ := id KX6
  have lKX60 : ∀ o, (w6.alloc o).cell? ⟨w3.heap.size, 0, none⟩ = some (.int .i64 3) := fun o => (op_allocV KX6 o).c0
  have lKX61 : ∀ o, (w6.alloc o).cell? ⟨w3.heap.size, 1, none⟩ = some (.float .f64 x) := fun o => (op_allocV KX6 o).c1
  have lKX62 : ∀ o, (w6.alloc o).cell? ⟨w3.heap.size, 2, none⟩ = some (.string ⟨#[]⟩) := fun o => (op_allocV KX6 o).c2
  have lKX63 : ∀ o, (w6.alloc o).cell? ⟨w3.heap.size, 3, none⟩ = some (.int .i64 0) := fun o => (op_allocV KX6 o).c3
  have KY6 : CellV w6 (w3.heap.size + 1) 3 y ⟨#[]⟩ 0 := CellV.below (by first | (with_reducible assumption) | (with_reducible exact op_newV _ _ _ _ _) | (with_reducible refine op_allocV ?_ _; assumption) | (with_reducible refine CellV.drew ?_; assumption)) b6
  obtain ⟨-, KY60, KY61, KY62, KY63⟩ := id KY6
  have lKY60 : ∀ o, (w6.alloc o).cell? ⟨(w3.heap.size + 1), 0, none⟩ = some (.int .i64 3) := fun o => (op_allocV KY6 o).c0
  have lKY61 : ∀ o, (w6.alloc o).cell? ⟨(w3.heap.size + 1), 1, none⟩ = some (.float .f64 y) := fun o => (op_allocV KY6 o).c1
  have lKY62 : ∀ o, (w6.alloc o).cell? ⟨(w3.heap.size + 1), 2, none⟩ = some (.string ⟨#[]⟩) := fun o => (op_allocV KY6 o).c2
  have lKY63 : ∀ o, (w6.alloc o).cell? ⟨(w3.heap.size + 1), 3, none⟩ = some (.int .i64 0) := fun o => (op_allocV KY6 o).c3
  have KS6 : S5 w6 (w3.heap.size + 1 + 1) := S5.below (by first | (with_reducible assumption) | (with_reducible refine S5.alloc ?_ _; assumption) | (with_reducible refine S5.drew ?_; assumption) | (with_reducible exact S5.new _ _)) b6
  obtain ⟨-, KS60, KS61, KS62, KS63, KS64⟩ := id KS6
  have KP6 : CellV w6 w5.heap.size 3 r5 ⟨#[]⟩ 0 := CellV.below (by first | (with_reducible assumption) | (with_reducible exact op_newV _ _ _ _ _) | (with_reducible refine op_allocV ?_ _; assumption) | (with_reducible refine CellV.drew ?_; assumption)) b6
  obtain ⟨-, KP60, KP61, KP62, KP63⟩ := id KP6
  have lKP60 : ∀ o, (w6.alloc o).cell? ⟨w5.heap.size, 0, none⟩ = some (.int .i64 3) := fun o => (op_allocV KP6 o).c0
  have lKP61 : ∀ o, (w6.alloc o).cell? ⟨w5.heap.size, 1, none⟩ = some (.float .f64 r5) := fun o => (op_allocV KP6 o).c1
  have lKP62 : ∀ o, (w6.alloc o).cell? ⟨w5.heap.size, 2, none⟩ = some (.string ⟨#[]⟩) := fun o => (op_allocV KP6 o).c2
  have lKP63 : ∀ o, (w6.alloc o).cell? ⟨w5.heap.size, 3, none⟩ = some (.int .i64 0) := fun o => (op_allocV KP6 o).c3
  clear b6
  go_wp2_with fail
  refine (HK0.out r5 r6 hr5 hr6 _).mono ?_
  rintro e w7 ⟨rfl, b7⟩
  have d7 : Below w4.heap.size w4 w7 := bl_chain (by (repeat' (first | (with_reducible exact Below.refl _ _) | (with_reducible assumption) | (with_reducible refine Below.drew ?_) | (with_reducible refine below_drewN ?_ _) | (with_reducible refine Below.alloc ?_ ?_ _) | (with_reducible refine Below.setCell ?_ ?_ _) | exact Below.size (show Below w4.heap.size w4 _ by assumption) | (simp; done) | (simp; omega)))) b7
  have c7 : Below w.heap.size w w7 := c4.trans (d7.mono c4.size)
  have KX7 : CellV w7 w3.heap.size 3 x ⟨#[]⟩ 0 := CellV.below (by first | (with_reducible assumption) | (with_reducible exact op_newV _ _ _ _ _) | (with_reducible refine op_allocV ?_ _; assumption) | (with_reducible refine CellV.drew ?_; assumption)) b7
  obtain ⟨-, KX70, KX71, KX72, KX73⟩ := id KX7
  have lKX70 : ∀ o, (w7.alloc o).cell? ⟨w3.heap.size, 0, none⟩ = some (.int .i64 3) := fun o => (op_allocV KX7 o).c0
  have lKX71 : ∀ o, (w7.alloc o).cell? ⟨w3.heap.size, 1, none⟩ = some (.float .f64 x) := fun o => (op_allocV KX7 o).c1
  have lKX72 : ∀ o, (w7.alloc o).cell? ⟨w3.heap.size, 2, none⟩ = some (.string ⟨#[]⟩) := fun o => (op_allocV KX7 o).c2
  have lKX73 : ∀ o, (w7.alloc o).cell? ⟨w3.heap.size, 3, none⟩ = some (.int .i64 0) := fun o => (op_allocV KX7 o).c3
  have KY7 : CellV w7 (w3.heap.size + 1) 3 y ⟨#[]⟩ 0 := CellV.below (by first | (with_reducible assumption) | (with_reducible exact op_newV _ _ _ _ _) | (with_reducible refine op_allocV ?_ _; assumption) | (with_reducible refine CellV.drew ?_; assumption)) b7
  obtain ⟨-, KY70, KY71, KY72, KY73⟩ := id KY7
  have lKY70 : ∀ o, (w7.alloc o).cell? ⟨(w3.heap.size + 1), 0, none⟩ = some (.int .i64 3) := fun o => (op_allocV KY7 o).c0
  have lKY71 : ∀ o, (w7.alloc o).cell? ⟨(w3.heap.size + 1), 1, none⟩ = some (.float .f64 y) := fun o => (op_allocV KY7 o).c1
  have lKY72 : ∀ o, (w7.alloc o).cell? ⟨(w3.heap.size + 1), 2, none⟩ = some (.string ⟨#[]⟩) := fun o => (op_allocV KY7 o).c2
  have lKY73 : ∀ o, (w7.alloc o).cell? ⟨(w3.heap.size + 1), 3, none⟩ = some (.int .i64 0) := fun o => (op_allocV KY7 o).c3
  have KS7 : S5 w7 (w3.heap.size + 1 + 1) := S5.below (by first | (with_reducible assumption) | (with_reducible refine S5.alloc ?_ _; assumption) | (with_reducible refine S5.drew ?_; assumption) | (with_reducible exact S5.new _ _)) b7
  obtain ⟨-, KS70, KS71, KS72, KS73, KS74⟩ := id KS7
  clear b7
  clear hr5 hr6
  clear lKX50 lKX51 lKX52 lKX53 lKY50 lKY51 lKY52 lKY53 lKX60 lKX61 lKX62 lKX63 lKY60 lKY61 lKY62 lKY63 KX50 KX51 KX52 KX53 KY50 KY51 KY52 KY53 KX60 KX61 KX62 KX63 KY60 KY61 KY62 KY63 KS50 KS51 KS52 KS53 KS54 KS60 KS61 KS62 KS63 KS64 lKP60 lKP61 lKP62 lKP63 KP60 KP61 KP62 KP63
  go_wp2_with fail
  rw [rounds_succ]
  go_wp2_with fail
  refine (HX1.out _ (Hid.mk' (hl4.out.below (by (repeat' (first | (with_reducible exact Below.refl _ _) | (with_reducible assumption) | (with_reducible refine Below.drew ?_) | (with_reducible refine below_drewN ?_ _) | (with_reducible refine Below.alloc ?_ ?_ _) | (with_reducible refine Below.setCell ?_ ?_ _) | exact Below.size (show Below w4.heap.size w4 _ by assumption) | (simp; done) | (simp; omega))))))).mono ?_
  rintro e w8 ⟨r8, rfl, hr8, b8⟩
  have d8 : Below w4.heap.size w4 w8 := bl_chain (by (repeat' (first | (with_reducible exact Below.refl _ _) | (with_reducible assumption) | (with_reducible refine Below.drew ?_) | (with_reducible refine below_drewN ?_ _) | (with_reducible refine Below.alloc ?_ ?_ _) | (with_reducible refine Below.setCell ?_ ?_ _) | exact Below.size (show Below w4.heap.size w4 _ by assumption) | (simp; done) | (simp; omega)))) b8
  have c8 : Below w.heap.size w w8 := c4.trans (d8.mono c4.size)
  have KX8 : CellV w8 w3.heap.size 3 x ⟨#[]⟩ 0 := CellV.below (by first | (with_reducible assumption) | (with_reducible exact op_newV _ _ _ _ _) | (with_reducible refine op_allocV ?_ _; assumption) | (with_reducible refine CellV.drew ?_; assumption)) b8
  obtain ⟨-, KX80, KX81, KX82, KX83⟩ := id KX8
  have lKX80 : ∀ o, (w8.alloc o).cell? ⟨w3.heap.size, 0, none⟩ = some (.int .i64 3) := fun o => (op_allocV KX8 o).c0
  have lKX81 : ∀ o, (w8.alloc o).cell? ⟨w3.heap.size, 1, none⟩ = some (.float .f64 x) := fun o => (op_allocV KX8 o).c1
  have lKX82 : ∀ o, (w8.alloc o).cell? ⟨w3.heap.size, 2, none⟩ = some (.string ⟨#[]⟩) := fun o => (op_allocV KX8 o).c2
  have lKX83 : ∀ o, (w8.alloc o).cell? ⟨w3.heap.size, 3, none⟩ = some (.int .i64 0) := fun o => (op_allocV KX8 o).c3
  have KY8 : CellV w8 (w3.heap.size + 1) 3 y ⟨#[]⟩ 0 := CellV.below (by first | (with_reducible assumption) | (with_reducible exact op_newV _ _ _ _ _) | (with_reducible refine op_allocV ?_ _; assumption) | (with_reducible refine CellV.drew ?_; assumption)) b8
  obtain ⟨-, KY80, KY81, KY82, KY83⟩ := id KY8
  have lKY80 : ∀ o, (w8.alloc o).cell? ⟨(w3.heap.size + 1), 0, none⟩ = some (.int .i64 3) := fun o => (op_allocV KY8 o).c0
  have lKY81 : ∀ o, (w8.alloc o).cell? ⟨(w3.heap.size + 1), 1, none⟩ = some (.float .f64 y) := fun o => (op_allocV KY8 o).c1
  have lKY82 : ∀ o, (w8.alloc o).cell? ⟨(w3.heap.size + 1), 2, none⟩ = some (.string ⟨#[]⟩) := fun o => (op_allocV KY8 o).c2
  have lKY83 : ∀ o, (w8.alloc o).cell? ⟨(w3.heap.size + 1), 3, none⟩ = some (.int .i64 0) := fun o => (op_allocV KY8 o).c3
  have KS8 : S5 w8 (w3.heap.size + 1 + 1) := S5.below (by first | (with_reducible assumption) | (with_reducible refine S5.alloc ?_ _; assumption) | (with_reducible refine S5.drew ?_; assumption) | (with_reducible exact S5.new _ _)) b8
  obtain ⟨-, KS80, KS81, KS82, KS83, KS84⟩ := id KS8
  clear b8
  go_wp2_with fail
  refine (HY1.out _ (Hid.mk' (hl4.out.below (by (repeat' (first | (with_reducible exact Below.refl _ _) | (with_reducible assumption) | (with_reducible refine Below.drew ?_) | (with_reducible refine below_drewN ?_ _) | (with_reducible refine Below.alloc ?_ ?_ _) | (with_reducible refine Below.setCell ?_ ?_ _) | exact Below.size (show Below w4.heap.size w4 _ by assumption) | (simp; done) | (simp; omega))))))).mono ?_
  rintro e w9 ⟨r9, rfl, hr9, b9⟩
  have d9 : Below w4.heap.size w4 w9 := bl_chain (by (repeat' (first | (with_reducible exact Below.refl _ _) | (with_reducible assumption) | (with_reducible refine Below.drew ?_) | (with_reducible refine below_drewN ?_ _) | (with_reducible refine Below.alloc ?_ ?_ _) | (with_reducible refine Below.setCell ?_ ?_ _) | exact Below.size (show Below w4.heap.size w4 _ by assumption) | (simp; done) | (simp; omega)))) b9
  have c9 : Below w.heap.size w w9 := c4.trans (d9.mono c4.size)
  have KX9 : CellV w9 w3.heap.size 3 x ⟨#[]⟩ 0 := CellV.below (by first | (with_reducible assumption) | (with_reducible exact op_newV _ _ _ _ _) | (with_reducible refine op_allocV ?_ _; assumption) | (with_reducible refine CellV.drew ?_; assumption)) b9
  obtain ⟨-, KX90, KX91, KX92, KX93⟩ := id KX9
  have lKX90 : ∀ o, (w9.alloc o).cell? ⟨w3.heap.size, 0, none⟩ = some (.int .i64 3) := fun o => (op_allocV KX9 o).c0
  have lKX91 : ∀ o, (w9.alloc o).cell? ⟨w3.heap.size, 1, none⟩ = some (.float .f64 x) := fun o => (op_allocV KX9 o).c1
  have lKX92 : ∀ o, (w9.alloc o).cell? ⟨w3.heap.size, 2, none⟩ = some (.string ⟨#[]⟩) := fun o => (op_allocV KX9 o).c2
  have lKX93 : ∀ o, (w9.alloc o).cell? ⟨w3.heap.size, 3, none⟩ = some (.int .i64 0) := fun o => (op_allocV KX9 o).c3
  have KY9 : CellV w9 (w3.heap.size + 1) 3 y ⟨#[]⟩ 0 := CellV.below (by first | (with_reducible assumption) | (with_reducible exact op_newV _ _ _ _ _) | (with_reducible refine op_allocV ?_ _; assumption) | (with_reducible refine CellV.drew ?_; assumption)) b9
  obtain ⟨-, KY90, KY91, KY92, KY93⟩ := id KY9
  have lKY90 : ∀ o, (w9.alloc o).cell? ⟨(w3.heap.size + 1), 0, none⟩ = some (.int .i64 3) := fun o => (op_allocV KY9 o).c0
  have lKY91 : ∀ o, (w9.alloc o).cell? ⟨(w3.heap.size + 1), 1, none⟩ = some (.float .f64 y) := fun o => (op_allocV KY9 o).c1
  have lKY92 : ∀ o, (w9.alloc o).cell? ⟨(w3.heap.size + 1), 2, none⟩ = some (.string ⟨#[]⟩) := fun o => (op_allocV KY9 o).c2
  have lKY93 : ∀ o, (w9.alloc o).cell? ⟨(w3.heap.size + 1), 3, none⟩ = some (.int .i64 0) := fun o => (op_allocV KY9 o).c3
  have KS9 : S5 w9 (w3.heap.size + 1 + 1) := S5.below (by first | (with_reducible assumption) | (with_reducible refine S5.alloc ?_ _; assumption) | (with_reducible refine S5.drew ?_; assumption) | (with_reducible exact S5.new _ _)) b9
  obtain ⟨-, KS90, KS91, KS92, KS93, KS94⟩ := id KS9
  have KP9 : CellV w9 w8.heap.size 3 r8 ⟨#[]⟩ 0 := CellV.below (by first | (with_reducible assumption) | (with_reducible exact op_newV _ _ _ _ _) | (with_reducible refine op_allocV ?_ _; assumption) | (with_reducible refine CellV.drew ?_; assumption)) b9
  obtain ⟨-, KP90, KP91, KP92, KP93⟩ := id KP9
  have lKP90 : ∀ o, (w9.alloc o).cell? ⟨w8.heap.size, 0, none⟩ = some (.int .i64 3) := fun o => (op_allocV KP9 o).c0
  have lKP91 : ∀ o, (w9.alloc o).cell? ⟨w8.heap.size, 1, none⟩ = some (.float .f64 r8) := fun o => (op_allocV KP9 o).c1
  have lKP92 : ∀ o, (w9.alloc o).cell? ⟨w8.heap.size, 2, none⟩ = some (.string ⟨#[]⟩) := fun o => (op_allocV KP9 o).c2
  have lKP93 : ∀ o, (w9.alloc o).cell? ⟨w8.heap.size, 3, none⟩ = some (.int .i64 0) := fun o => (op_allocV KP9 o).c3
  clear b9
  go_wp2_with fail
  refine (HK1.out r8 r9 hr8 hr9 _).mono ?_
  rintro e w10 ⟨rfl, b10⟩
  have d10 : Below w4.heap.size w4 w10 := bl_chain (by (repeat' (first | (with_reducible exact Below.refl _ _) | (with_reducible assumption) | (with_reducible refine Below.drew ?_) | (with_reducible refine below_drewN ?_ _) | (with_reducible refine Below.alloc ?_ ?_ _) | (with_reducible refine Below.setCell ?_ ?_ _) | exact Below.size (show Below w4.heap.size w4 _ by assumption) | (simp; done) | (simp; omega)))) b10
  have c10 : Below w.heap.size w w10 := c4.trans (d10.mono c4.size)
  have KX10 : CellV w10 w3.heap.size 3 x ⟨#[]⟩ 0 := CellV.below (by first | (with_reducible assumption) | (with_reducible exact op_newV _ _ _ _ _) | (with_reducible refine op_allocV ?_ _; assumption) | (with_reducible refine CellV.drew ?_; assumption)) b10
  obtain ⟨-, KX100, KX101, KX102, KX103⟩ := id KX10
  have lKX100 : ∀ o, (w10.alloc o).cell? ⟨w3.heap.size, 0, none⟩ = some (.int .i64 3) := fun o => (op_allocV KX10 o).c0
  have lKX101 : ∀ o, (w10.alloc o).cell? ⟨w3.heap.size, 1, none⟩ = some (.float .f64 x) := fun o => (op_allocV KX10 o).c1
  have lKX102 : ∀ o, (w10.alloc o).cell? ⟨w3.heap.size, 2, none⟩ = some (.string ⟨#[]⟩) := fun o => (op_allocV KX10 o).c2
  have lKX103 : ∀ o, (w10.alloc o).cell? ⟨w3.heap.size, 3, none⟩ = some (.int .i64 0) := fun o => (op_allocV KX10 o).c3
  have KY10 : CellV w10 (w3.heap.size + 1) 3 y ⟨#[]⟩ 0 := CellV.below (by first | (with_reducible assumption) | (with_reducible exact op_newV _ _ _ _ _) | (with_reducible refine op_allocV ?_ _; assumption) | (with_reducible refine CellV.drew ?_; assumption)) b10
  obtain ⟨-, KY100, KY101, KY102, KY103⟩ := id KY10
  have lKY100 : ∀ o, (w10.alloc o).cell? ⟨(w3.heap.size + 1), 0, none⟩ = some (.int .i64 3) := fun o => (op_allocV KY10 o).c0
  have lKY101 : ∀ o, (w10.alloc o).cell? ⟨(w3.heap.size + 1), 1, none⟩ = some (.float .f64 y) := fun o => (op_allocV KY10 o).c1
  have lKY102 : ∀ o, (w10.alloc o).cell? ⟨(w3.heap.size + 1), 2, none⟩ = some (.string ⟨#[]⟩) := fun o => (op_allocV KY10 o).c2
  have lKY103 : ∀ o, (w10.alloc o).cell? ⟨(w3.heap.size + 1), 3, none⟩ = some (.int .i64 0) := fun o => (op_allocV KY10 o).c3
  have KS10 : S5 w10 (w3.heap.size + 1 + 1) := S5.below (by first | (with_reducible assumption) | (with_reducible refine S5.alloc ?_ _; assumption) | (with_reducible refine S5.drew ?_; assumption) | (with_reducible exact S5.new _ _)) b10
  obtain ⟨-, KS100, KS101, KS102, KS103, KS104⟩ := id KS10
  clear b10
  clear hr8 hr9
  clear lKX80 lKX81 lKX82 lKX83 lKY80 lKY81 lKY82 lKY83 lKX90 lKX91 lKX92 lKX93 lKY90 lKY91 lKY92 lKY93 KX80 KX81 KX82 KX83 KY80 KY81 KY82 KY83 KX90 KX91 KX92 KX93 KY90 KY91 KY92 KY93 KS80 KS81 KS82 KS83 KS84 KS90 KS91 KS92 KS93 KS94 lKP90 lKP91 lKP92 lKP93 KP90 KP91 KP92 KP93
  go_wp2_with fail
  rw [rounds_succ]
  go_wp2_with fail
  refine (HX2.out _ (Hid.mk' (hl4.out.below (by (repeat' (first | (with_reducible exact Below.refl _ _) | (with_reducible assumption) | (with_reducible refine Below.drew ?_) | (with_reducible refine below_drewN ?_ _) | (with_reducible refine Below.alloc ?_ ?_ _) | (with_reducible refine Below.setCell ?_ ?_ _) | exact Below.size (show Below w4.heap.size w4 _ by assumption) | (simp; done) | (simp; omega))))))).mono ?_
  rintro e w11 ⟨r11, rfl, hr11, b11⟩
  have d11 : Below w4.heap.size w4 w11 := bl_chain (by (repeat' (first | (with_reducible exact Below.refl _ _) | (with_reducible assumption) | (with_reducible refine Below.drew ?_) | (with_reducible refine below_drewN ?_ _) | (with_reducible refine Below.alloc ?_ ?_ _) | (with_reducible refine Below.setCell ?_ ?_ _) | exact Below.size (show Below w4.heap.size w4 _ by assumption) | (simp; done) | (simp; omega)))) b11
  have c11 : Below w.heap.size w w11 := c4.trans (d11.mono c4.size)
  have KX11 : CellV w11 w3.heap.size 3 x ⟨#[]⟩ 0 := CellV.below (by first | (with_reducible assumption) | (with_reducible exact op_newV _ _ _ _ _) | (with_reducible refine op_allocV ?_ _; assumption) | (with_reducible refine CellV.drew ?_; assumption)) b11
  obtain ⟨-, KX110, KX111, KX112, KX113⟩ := id KX11
  have lKX110 : ∀ o, (w11.alloc o).cell? ⟨w3.heap.size, 0, none⟩ = some (.int .i64 3) := fun o => (op_allocV KX11 o).c0
  have lKX111 : ∀ o, (w11.alloc o).cell? ⟨w3.heap.size, 1, none⟩ = some (.float .f64 x) := fun o => (op_allocV KX11 o).c1
  have lKX112 : ∀ o, (w11.alloc o).cell? ⟨w3.heap.size, 2, none⟩ = some (.string ⟨#[]⟩) := fun o => (op_allocV KX11 o).c2
  have lKX113 : ∀ o, (w11.alloc o).cell? ⟨w3.heap.size, 3, none⟩ = some (.int .i64 0) := fun o => (op_allocV KX11 o).c3
  have KY11 : CellV w11 (w3.heap.size + 1) 3 y ⟨#[]⟩ 0 := CellV.below (by first | (with_reducible assumption) | (with_reducible exact op_newV _ _ _ _ _) | (with_reducible refine op_allocV ?_ _; assumption) | (with_reducible refine CellV.drew ?_; assumption)) b11
  obtain ⟨-, KY110, KY111, KY112, KY113⟩ := id KY11
  have lKY110 : ∀ o, (w11.alloc o).cell? ⟨(w3.heap.size + 1), 0, none⟩ = some (.int .i64 3) := fun o => (op_allocV KY11 o).c0
  have lKY111 : ∀ o, (w11.alloc o).cell? ⟨(w3.heap.size + 1), 1, none⟩ = some (.float .f64 y) := fun o => (op_allocV KY11 o).c1
  have lKY112 : ∀ o, (w11.alloc o).cell? ⟨(w3.heap.size + 1), 2, none⟩ = some (.string ⟨#[]⟩) := fun o => (op_allocV KY11 o).c2
  have lKY113 : ∀ o, (w11.alloc o).cell? ⟨(w3.heap.size + 1), 3, none⟩ = some (.int .i64 0) := fun o => (op_allocV KY11 o).c3
  have KS11 : S5 w11 (w3.heap.size + 1 + 1) := S5.below (by first | (with_reducible assumption) | (with_reducible refine S5.alloc ?_ _; assumption) | (with_reducible refine S5.drew ?_; assumption) | (with_reducible exact S5.new _ _)) b11
  obtain ⟨-, KS110, KS111, KS112, KS113, KS114⟩ := id KS11
  clear b11
  go_wp2_with fail
  refine (HY2.out _ (Hid.mk' (hl4.out.below (by (repeat' (first | (with_reducible exact Below.refl _ _) | (with_reducible assumption) | (with_reducible refine Below.drew ?_) | (with_reducible refine below_drewN ?_ _) | (with_reducible refine Below.alloc ?_ ?_ _) | (with_reducible refine Below.setCell ?_ ?_ _) | exact Below.size (show Below w4.heap.size w4 _ by assumption) | (simp; done) | (simp; omega))))))).mono ?_
  rintro e w12 ⟨r12, rfl, hr12, b12⟩
  have d12 : Below w4.heap.size w4 w12 := bl_chain (by (repeat' (first | (with_reducible exact Below.refl _ _) | (with_reducible assumption) | (with_reducible refine Below.drew ?_) | (with_reducible refine below_drewN ?_ _) | (with_reducible refine Below.alloc ?_ ?_ _) | (with_reducible refine Below.setCell ?_ ?_ _) | exact Below.size (show Below w4.heap.size w4 _ by assumption) | (simp; done) | (simp; omega)))) b12
  have c12 : Below w.heap.size w w12 := c4.trans (d12.mono c4.size)
  have KX12 : CellV w12 w3.heap.size 3 x ⟨#[]⟩ 0 := CellV.below (by first | (with_reducible assumption) | (with_reducible exact op_newV _ _ _ _ _) | (with_reducible refine op_allocV ?_ _; assumption) | (with_reducible refine CellV.drew ?_; assumption)) b12
  obtain ⟨-, KX120, KX121, KX122, KX123⟩ := id KX12
  have lKX120 : ∀ o, (w12.alloc o).cell? ⟨w3.heap.size, 0, none⟩ = some (.int .i64 3) := fun o => (op_allocV KX12 o).c0
  have lKX121 : ∀ o, (w12.alloc o).cell? ⟨w3.heap.size, 1, none⟩ = some (.float .f64 x) := fun o => (op_allocV KX12 o).c1
  have lKX122 : ∀ o, (w12.alloc o).cell? ⟨w3.heap.size, 2, none⟩ = some (.string ⟨#[]⟩) := fun o => (op_allocV KX12 o).c2
  have lKX123 : ∀ o, (w12.alloc o).cell? ⟨w3.heap.size, 3, none⟩ = some (.int .i64 0) := fun o => (op_allocV KX12 o).c3
  have KY12 : CellV w12 (w3.heap.size + 1) 3 y ⟨#[]⟩ 0 := CellV.below (by first | (with_reducible assumption) | (with_reducible exact op_newV _ _ _ _ _) | (with_reducible refine op_allocV ?_ _; assumption) | (with_reducible refine CellV.drew ?_; assumption)) b12
  obtain ⟨-, KY120, KY121, KY122, KY123⟩ := id KY12
  have lKY120 : ∀ o, (w12.alloc o).cell? ⟨(w3.heap.size + 1), 0, none⟩ = some (.int .i64 3) := fun o => (op_allocV KY12 o).c0
  have lKY121 : ∀ o, (w12.alloc o).cell? ⟨(w3.heap.size + 1), 1, none⟩ = some (.float .f64 y) := fun o => (op_allocV KY12 o).c1
  have lKY122 : ∀ o, (w12.alloc o).cell? ⟨(w3.heap.size + 1), 2, none⟩ = some (.string ⟨#[]⟩) := fun o => (op_allocV KY12 o).c2
  have lKY123 : ∀ o, (w12.alloc o).cell? ⟨(w3.heap.size + 1), 3, none⟩ = some (.int .i64 0) := fun o => (op_allocV KY12 o).c3
  have KS12 : S5 w12 (w3.heap.size + 1 + 1) := S5.below (by first | (with_reducible assumption) | (with_reducible refine S5.alloc ?_ _; assumption) | (with_reducible refine S5.drew ?_; assumption) | (with_reducible exact S5.new _ _)) b12
  obtain ⟨-, KS120, KS121, KS122, KS123, KS124⟩ := id KS12
  have KP12 : CellV w12 w11.heap.size 3 r11 ⟨#[]⟩ 0 := CellV.below (by first | (with_reducible assumption) | (with_reducible exact op_newV _ _ _ _ _) | (with_reducible refine op_allocV ?_ _; assumption) | (with_reducible refine CellV.drew ?_; assumption)) b12
  obtain ⟨-, KP120, KP121, KP122, KP123⟩ := id KP12
  have lKP120 : ∀ o, (w12.alloc o).cell? ⟨w11.heap.size, 0, none⟩ = some (.int .i64 3) := fun o => (op_allocV KP12 o).c0
  have lKP121 : ∀ o, (w12.alloc o).cell? ⟨w11.heap.size, 1, none⟩ = some (.float .f64 r11) := fun o => (op_allocV KP12 o).c1
  have lKP122 : ∀ o, (w12.alloc o).cell? ⟨w11.heap.size, 2, none⟩ = some (.string ⟨#[]⟩) := fun o => (op_allocV KP12 o).c2
  have lKP123 : ∀ o, (w12.alloc o).cell? ⟨w11.heap.size, 3, none⟩ = some (.int .i64 0) := fun o => (op_allocV KP12 o).c3
  clear b12
  go_wp2_with fail
  refine (HK2.out r11 r12 hr11 hr12 _).mono ?_
  rintro e w13 ⟨rfl, b13⟩
  have d13 : Below w4.heap.size w4 w13 := bl_chain (by (repeat' (first | (with_reducible exact Below.refl _ _) | (with_reducible assumption) | (with_reducible refine Below.drew ?_) | (with_reducible refine below_drewN ?_ _) | (with_reducible refine Below.alloc ?_ ?_ _) | (with_reducible refine Below.setCell ?_ ?_ _) | exact Below.size (show Below w4.heap.size w4 _ by assumption) | (simp; done) | (simp; omega)))) b13
  have c13 : Below w.heap.size w w13 := c4.trans (d13.mono c4.size)
  have KX13 : CellV w13 w3.heap.size 3 x ⟨#[]⟩ 0 := CellV.below (by first | (with_reducible assumption) | (with_reducible exact op_newV _ _ _ _ _) | (with_reducible refine op_allocV ?_ _; assumption) | (with_reducible refine CellV.drew ?_; assumption)) b13
  obtain ⟨-, KX130, KX131, KX132, KX133⟩ := id KX13
  have lKX130 : ∀ o, (w13.alloc o).cell? ⟨w3.heap.size, 0, none⟩ = some (.int .i64 3) := fun o => (op_allocV KX13 o).c0
  have lKX131 : ∀ o, (w13.alloc o).cell? ⟨w3.heap.size, 1, none⟩ = some (.float .f64 x) := fun o => (op_allocV KX13 o).c1
  have lKX132 : ∀ o, (w13.alloc o).cell? ⟨w3.heap.size, 2, none⟩ = some (.string ⟨#[]⟩) := fun o => (op_allocV KX13 o).c2
  have lKX133 : ∀ o, (w13.alloc o).cell? ⟨w3.heap.size, 3, none⟩ = some (.int .i64 0) := fun o => (op_allocV KX13 o).c3
  have KY13 : CellV w13 (w3.heap.size + 1) 3 y ⟨#[]⟩ 0 := CellV.below (by first | (with_reducible assumption) | (with_reducible exact op_newV _ _ _ _ _) | (with_reducible refine op_allocV ?_ _; assumption) | (with_reducible refine CellV.drew ?_; assumption)) b13
  obtain ⟨-, KY130, KY131, KY132, KY133⟩ := id KY13
  have lKY130 : ∀ o, (w13.alloc o).cell? ⟨(w3.heap.size + 1), 0, none⟩ = some (.int .i64 3) := fun o => (op_allocV KY13 o).c0
  have lKY131 : ∀ o, (w13.alloc o).cell? ⟨(w3.heap.size + 1), 1, none⟩ = some (.float .f64 y) := fun o => (op_allocV KY13 o).c1
  have lKY132 : ∀ o, (w13.alloc o).cell? ⟨(w3.heap.size + 1), 2, none⟩ = some (.string ⟨#[]⟩) := fun o => (op_allocV KY13 o).c2
  have lKY133 : ∀ o, (w13.alloc o).cell? ⟨(w3.heap.size + 1), 3, none⟩ = some (.int .i64 0) := fun o => (op_allocV KY13 o).c3
  have KS13 : S5 w13 (w3.heap.size + 1 + 1) := S5.below (by first | (with_reducible assumption) | (with_reducible refine S5.alloc ?_ _; assumption) | (with_reducible refine S5.drew ?_; assumption) | (with_reducible exact S5.new _ _)) b13
  obtain ⟨-, KS130, KS131, KS132, KS133, KS134⟩ := id KS13
  clear b13
  clear hr11 hr12
  clear lKX110 lKX111 lKX112 lKX113 lKY110 lKY111 lKY112 lKY113 lKX120 lKX121 lKX122 lKX123 lKY120 lKY121 lKY122 lKY123 KX110 KX111 KX112 KX113 KY110 KY111 KY112 KY113 KX120 KX121 KX122 KX123 KY120 KY121 KY122 KY123 KS110 KS111 KS112 KS113 KS114 KS120 KS121 KS122 KS123 KS124 lKP120 lKP121 lKP122 lKP123 KP120 KP121 KP122 KP123
  go_wp2_with fail
  rw [rounds_succ]
  go_wp2_with fail
  refine (HX3.out _ (Hid.mk' (hl4.out.below (by (repeat' (first | (with_reducible exact Below.refl _ _) | (with_reducible assumption) | (with_reducible refine Below.drew ?_) | (with_reducible refine below_drewN ?_ _) | (with_reducible refine Below.alloc ?_ ?_ _) | (with_reducible refine Below.setCell ?_ ?_ _) | exact Below.size (show Below w4.heap.size w4 _ by assumption) | (simp; done) | (simp; omega))))))).mono ?_
  rintro e w14 ⟨r14, rfl, hr14, b14⟩
  have d14 : Below w4.heap.size w4 w14 := bl_chain (by (repeat' (first | (with_reducible exact Below.refl _ _) | (with_reducible assumption) | (with_reducible refine Below.drew ?_) | (with_reducible refine below_drewN ?_ _) | (with_reducible refine Below.alloc ?_ ?_ _) | (with_reducible refine Below.setCell ?_ ?_ _) | exact Below.size (show Below w4.heap.size w4 _ by assumption) | (simp; done) | (simp; omega)))) b14
  have c14 : Below w.heap.size w w14 := c4.trans (d14.mono c4.size)
  have KX14 : CellV w14 w3.heap.size 3 x ⟨#[]⟩ 0 := CellV.below (by first | (with_reducible assumption) | (with_reducible exact op_newV _ _ _ _ _) | (with_reducible refine op_allocV ?_ _; assumption) | (with_reducible refine CellV.drew ?_; assumption)) b14
  obtain ⟨-, KX140, KX141, KX142, KX143⟩ := id KX14
  have lKX140 : ∀ o, (w14.alloc o).cell? ⟨w3.heap.size, 0, none⟩ = some (.int .i64 3) := fun o => (op_allocV KX14 o).c0
  have lKX141 : ∀ o, (w14.alloc o).cell? ⟨w3.heap.size, 1, none⟩ = some (.float .f64 x) := fun o => (op_allocV KX14 o).c1
  have lKX142 : ∀ o, (w14.alloc o).cell? ⟨w3.heap.size, 2, none⟩ = some (.string ⟨#[]⟩) := fun o => (op_allocV KX14 o).c2
  have lKX143 : ∀ o, (w14.alloc o).cell? ⟨w3.heap.size, 3, none⟩ = some (.int .i64 0) := fun o => (op_allocV KX14 o).c3
  have KY14 : CellV w14 (w3.heap.size + 1) 3 y ⟨#[]⟩ 0 := CellV.below (by first | (with_reducible assumption) | (with_reducible exact op_newV _ _ _ _ _) | (with_reducible refine op_allocV ?_ _; assumption) | (with_reducible refine CellV.drew ?_; assumption)) b14
  obtain ⟨-, KY140, KY141, KY142, KY143⟩ := id KY14
  have lKY140 : ∀ o, (w14.alloc o).cell? ⟨(w3.heap.size + 1), 0, none⟩ = some (.int .i64 3) := fun o => (op_allocV KY14 o).c0
  have lKY141 : ∀ o, (w14.alloc o).cell? ⟨(w3.heap.size + 1), 1, none⟩ = some (.float .f64 y) := fun o => (op_allocV KY14 o).c1
  have lKY142 : ∀ o, (w14.alloc o).cell? ⟨(w3.heap.size + 1), 2, none⟩ = some (.string ⟨#[]⟩) := fun o => (op_allocV KY14 o).c2
  have lKY143 : ∀ o, (w14.alloc o).cell? ⟨(w3.heap.size + 1), 3, none⟩ = some (.int .i64 0) := fun o => (op_allocV KY14 o).c3
  have KS14 : S5 w14 (w3.heap.size + 1 + 1) := S5.below (by first | (with_reducible assumption) | (with_reducible refine S5.alloc ?_ _; assumption) | (with_reducible refine S5.drew ?_; assumption) | (with_reducible exact S5.new _ _)) b14
  obtain ⟨-, KS140, KS141, KS142, KS143, KS144⟩ := id KS14
  clear b14
  go_wp2_with fail
  refine (HY3.out _ (Hid.mk' (hl4.out.below (by (repeat' (first | (with_reducible exact Below.refl _ _) | (with_reducible assumption) | (with_reducible refine Below.drew ?_) | (with_reducible refine below_drewN ?_ _) | (with_reducible refine Below.alloc ?_ ?_ _) | (with_reducible refine Below.setCell ?_ ?_ _) | exact Below.size (show Below w4.heap.size w4 _ by assumption) | (simp; done) | (simp; omega))))))).mono ?_
  rintro e w15 ⟨r15, rfl, hr15, b15⟩
  have d15 : Below w4.heap.size w4 w15 := bl_chain (by (repeat' (first | (with_reducible exact Below.refl _ _) | (with_reducible assumption) | (with_reducible refine Below.drew ?_) | (with_reducible refine below_drewN ?_ _) | (with_reducible refine Below.alloc ?_ ?_ _) | (with_reducible refine Below.setCell ?_ ?_ _) | exact Below.size (show Below w4.heap.size w4 _ by assumption) | (simp; done) | (simp; omega)))) b15
  have c15 : Below w.heap.size w w15 := c4.trans (d15.mono c4.size)
  have KX15 : CellV w15 w3.heap.size 3 x ⟨#[]⟩ 0 := CellV.below (by first | (with_reducible assumption) | (with_reducible exact op_newV _ _ _ _ _) | (with_reducible refine op_allocV ?_ _; assumption) | (with_reducible refine CellV.drew ?_; assumption)) b15
  obtain ⟨-, KX150, KX151, KX152, KX153⟩ := id KX15
  have lKX150 : ∀ o, (w15.alloc o).cell? ⟨w3.heap.size, 0, none⟩ = some (.int .i64 3) := fun o => (op_allocV KX15 o).c0
  have lKX151 : ∀ o, (w15.alloc o).cell? ⟨w3.heap.size, 1, none⟩ = some (.float .f64 x) := fun o => (op_allocV KX15 o).c1
  have lKX152 : ∀ o, (w15.alloc o).cell? ⟨w3.heap.size, 2, none⟩ = some (.string ⟨#[]⟩) := fun o => (op_allocV KX15 o).c2
  have lKX153 : ∀ o, (w15.alloc o).cell? ⟨w3.heap.size, 3, none⟩ = some (.int .i64 0) := fun o => (op_allocV KX15 o).c3
  have KY15 : CellV w15 (w3.heap.size + 1) 3 y ⟨#[]⟩ 0 := CellV.below (by first | (with_reducible assumption) | (with_reducible exact op_newV _ _ _ _ _) | (with_reducible refine op_allocV ?_ _; assumption) | (with_reducible refine CellV.drew ?_; assumption)) b15
  obtain ⟨-, KY150, KY151, KY152, KY153⟩ := id KY15
  have lKY150 : ∀ o, (w15.alloc o).cell? ⟨(w3.heap.size + 1), 0, none⟩ = some (.int .i64 3) := fun o => (op_allocV KY15 o).c0
  have lKY151 : ∀ o, (w15.alloc o).cell? ⟨(w3.heap.size + 1), 1, none⟩ = some (.float .f64 y) := fun o => (op_allocV KY15 o).c1
  have lKY152 : ∀ o, (w15.alloc o).cell? ⟨(w3.heap.size + 1), 2, none⟩ = some (.string ⟨#[]⟩) := fun o => (op_allocV KY15 o).c2
  have lKY153 : ∀ o, (w15.alloc o).cell? ⟨(w3.heap.size + 1), 3, none⟩ = some (.int .i64 0) := fun o => (op_allocV KY15 o).c3
  have KS15 : S5 w15 (w3.heap.size + 1 + 1) := S5.below (by first | (with_reducible assumption) | (with_reducible refine S5.alloc ?_ _; assumption) | (with_reducible refine S5.drew ?_; assumption) | (with_reducible exact S5.new _ _)) b15
  obtain ⟨-, KS150, KS151, KS152, KS153, KS154⟩ := id KS15
  have KP15 : CellV w15 w14.heap.size 3 r14 ⟨#[]⟩ 0 := CellV.below (by first | (with_reducible assumption) | (with_reducible exact op_newV _ _ _ _ _) | (with_reducible refine op_allocV ?_ _; assumption) | (with_reducible refine CellV.drew ?_; assumption)) b15
  obtain ⟨-, KP150, KP151, KP152, KP153⟩ := id KP15
  have lKP150 : ∀ o, (w15.alloc o).cell? ⟨w14.heap.size, 0, none⟩ = some (.int .i64 3) := fun o => (op_allocV KP15 o).c0
  have lKP151 : ∀ o, (w15.alloc o).cell? ⟨w14.heap.size, 1, none⟩ = some (.float .f64 r14) := fun o => (op_allocV KP15 o).c1
  have lKP152 : ∀ o, (w15.alloc o).cell? ⟨w14.heap.size, 2, none⟩ = some (.string ⟨#[]⟩) := fun o => (op_allocV KP15 o).c2
  have lKP153 : ∀ o, (w15.alloc o).cell? ⟨w14.heap.size, 3, none⟩ = some (.int .i64 0) := fun o => (op_allocV KP15 o).c3
  clear b15
  go_wp2_with fail
  refine (HK3.out r14 r15 hr14 hr15 _).mono ?_
  rintro e w16 ⟨rfl, b16⟩
  have d16 : Below w4.heap.size w4 w16 := bl_chain (by (repeat' (first | (with_reducible exact Below.refl _ _) | (with_reducible assumption) | (with_reducible refine Below.drew ?_) | (with_reducible refine below_drewN ?_ _) | (with_reducible refine Below.alloc ?_ ?_ _) | (with_reducible refine Below.setCell ?_ ?_ _) | exact Below.size (show Below w4.heap.size w4 _ by assumption) | (simp; done) | (simp; omega)))) b16
  have c16 : Below w.heap.size w w16 := c4.trans (d16.mono c4.size)
  have KX16 : CellV w16 w3.heap.size 3 x ⟨#[]⟩ 0 := CellV.below (by first | (with_reducible assumption) | (with_reducible exact op_newV _ _ _ _ _) | (with_reducible refine op_allocV ?_ _; assumption) | (with_reducible refine CellV.drew ?_; assumption)) b16
  obtain ⟨-, KX160, KX161, KX162, KX163⟩ := id KX16
  have lKX160 : ∀ o, (w16.alloc o).cell? ⟨w3.heap.size, 0, none⟩ = some (.int .i64 3) := fun o => (op_allocV KX16 o).c0
  have lKX161 : ∀ o, (w16.alloc o).cell? ⟨w3.heap.size, 1, none⟩ = some (.float .f64 x) := fun o => (op_allocV KX16 o).c1
  have lKX162 : ∀ o, (w16.alloc o).cell? ⟨w3.heap.size, 2, none⟩ = some (.string ⟨#[]⟩) := fun o => (op_allocV KX16 o).c2
  have lKX163 : ∀ o, (w16.alloc o).cell? ⟨w3.heap.size, 3, none⟩ = some (.int .i64 0) := fun o => (op_allocV KX16 o).c3
  have KY16 : CellV w16 (w3.heap.size + 1) 3 y ⟨#[]⟩ 0 := CellV.below (by first | (with_reducible assumption) | (with_reducible exact op_newV _ _ _ _ _) | (with_reducible refine op_allocV ?_ _; assumption) | (with_reducible refine CellV.drew ?_; assumption)) b16
  obtain ⟨-, KY160, KY161, KY162, KY163⟩ := id KY16
  have lKY160 : ∀ o, (w16.alloc o).cell? ⟨(w3.heap.size + 1), 0, none⟩ = some (.int .i64 3) := fun o => (op_allocV KY16 o).c0
  have lKY161 : ∀ o, (w16.alloc o).cell? ⟨(w3.heap.size + 1), 1, none⟩ = some (.float .f64 y) := fun o => (op_allocV KY16 o).c1
  have lKY162 : ∀ o, (w16.alloc o).cell? ⟨(w3.heap.size + 1), 2, none⟩ = some (.string ⟨#[]⟩) := fun o => (op_allocV KY16 o).c2
  have lKY163 : ∀ o, (w16.alloc o).cell? ⟨(w3.heap.size + 1), 3, none⟩ = some (.int .i64 0) := fun o => (op_allocV KY16 o).c3
  have KS16 : S5 w16 (w3.heap.size + 1 + 1) := S5.below (by first | (with_reducible assumption) | (with_reducible refine S5.alloc ?_ _; assumption) | (with_reducible refine S5.drew ?_; assumption) | (with_reducible exact S5.new _ _)) b16
  obtain ⟨-, KS160, KS161, KS162, KS163, KS164⟩ := id KS16
  clear b16
  clear hr14 hr15
  clear lKX140 lKX141 lKX142 lKX143 lKY140 lKY141 lKY142 lKY143 lKX150 lKX151 lKX152 lKX153 lKY150 lKY151 lKY152 lKY153 KX140 KX141 KX142 KX143 KY140 KY141 KY142 KY143 KX150 KX151 KX152 KX153 KY150 KY151 KY152 KY153 KS140 KS141 KS142 KS143 KS144 KS150 KS151 KS152 KS153 KS154 lKP150 lKP151 lKP152 lKP153 KP150 KP151 KP152 KP153
  go_wp2_with fail
  rw [rounds_succ]
  go_wp2_with fail
  refine (HX4.out _ (Hid.mk' (hl4.out.below (by (repeat' (first | (with_reducible exact Below.refl _ _) | (with_reducible assumption) | (with_reducible refine Below.drew ?_) | (with_reducible refine below_drewN ?_ _) | (with_reducible refine Below.alloc ?_ ?_ _) | (with_reducible refine Below.setCell ?_ ?_ _) | exact Below.size (show Below w4.heap.size w4 _ by assumption) | (simp; done) | (simp; omega))))))).mono ?_
  rintro e w17 ⟨r17, rfl, hr17, b17⟩
  have d17 : Below w4.heap.size w4 w17 := bl_chain (by (repeat' (first | (with_reducible exact Below.refl _ _) | (with_reducible assumption) | (with_reducible refine Below.drew ?_) | (with_reducible refine below_drewN ?_ _) | (with_reducible refine Below.alloc ?_ ?_ _) | (with_reducible refine Below.setCell ?_ ?_ _) | exact Below.size (show Below w4.heap.size w4 _ by assumption) | (simp; done) | (simp; omega)))) b17
  have c17 : Below w.heap.size w w17 := c4.trans (d17.mono c4.size)
  have KX17 : CellV w17 w3.heap.size 3 x ⟨#[]⟩ 0 := CellV.below (by first | (with_reducible assumption) | (with_reducible exact op_newV _ _ _ _ _) | (with_reducible refine op_allocV ?_ _; assumption) | (with_reducible refine CellV.drew ?_; assumption)) b17
  obtain ⟨-, KX170, KX171, KX172, KX173⟩ := id KX17
  have lKX170 : ∀ o, (w17.alloc o).cell? ⟨w3.heap.size, 0, none⟩ = some (.int .i64 3) := fun o => (op_allocV KX17 o).c0
  have lKX171 : ∀ o, (w17.alloc o).cell? ⟨w3.heap.size, 1, none⟩ = some (.float .f64 x) := fun o => (op_allocV KX17 o).c1
  have lKX172 : ∀ o, (w17.alloc o).cell? ⟨w3.heap.size, 2, none⟩ = some (.string ⟨#[]⟩) := fun o => (op_allocV KX17 o).c2
  have lKX173 : ∀ o, (w17.alloc o).cell? ⟨w3.heap.size, 3, none⟩ = some (.int .i64 0) := fun o => (op_allocV KX17 o).c3
  have KY17 : CellV w17 (w3.heap.size + 1) 3 y ⟨#[]⟩ 0 := CellV.below (by first | (with_reducible assumption) | (with_reducible exact op_newV _ _ _ _ _) | (with_reducible refine op_allocV ?_ _; assumption) | (with_reducible refine CellV.drew ?_; assumption)) b17
  obtain ⟨-, KY170, KY171, KY172, KY173⟩ := id KY17
  have lKY170 : ∀ o, (w17.alloc o).cell? ⟨(w3.heap.size + 1), 0, none⟩ = some (.int .i64 3) := fun o => (op_allocV KY17 o).c0
  have lKY171 : ∀ o, (w17.alloc o).cell? ⟨(w3.heap.size + 1), 1, none⟩ = some (.float .f64 y) := fun o => (op_allocV KY17 o).c1
  have lKY172 : ∀ o, (w17.alloc o).cell? ⟨(w3.heap.size + 1), 2, none⟩ = some (.string ⟨#[]⟩) := fun o => (op_allocV KY17 o).c2
  have lKY173 : ∀ o, (w17.alloc o).cell? ⟨(w3.heap.size + 1), 3, none⟩ = some (.int .i64 0) := fun o => (op_allocV KY17 o).c3
  have KS17 : S5 w17 (w3.heap.size + 1 + 1) := S5.below (by first | (with_reducible assumption) | (with_reducible refine S5.alloc ?_ _; assumption) | (with_reducible refine S5.drew ?_; assumption) | (with_reducible exact S5.new _ _)) b17
  obtain ⟨-, KS170, KS171, KS172, KS173, KS174⟩ := id KS17
  clear b17
  go_wp2_with fail
  refine (HY4.out _ (Hid.mk' (hl4.out.below (by (repeat' (first | (with_reducible exact Below.refl _ _) | (with_reducible assumption) | (with_reducible refine Below.drew ?_) | (with_reducible refine below_drewN ?_ _) | (with_reducible refine Below.alloc ?_ ?_ _) | (with_reducible refine Below.setCell ?_ ?_ _) | exact Below.size (show Below w4.heap.size w4 _ by assumption) | (simp; done) | (simp; omega))))))).mono ?_
  rintro e w18 ⟨r18, rfl, hr18, b18⟩
  have d18 : Below w4.heap.size w4 w18 := bl_chain (by (repeat' (first | (with_reducible exact Below.refl _ _) | (with_reducible assumption) | (with_reducible refine Below.drew ?_) | (with_reducible refine below_drewN ?_ _) | (with_reducible refine Below.alloc ?_ ?_ _) | (with_reducible refine Below.setCell ?_ ?_ _) | exact Below.size (show Below w4.heap.size w4 _ by assumption) | (simp; done) | (simp; omega)))) b18
  have c18 : Below w.heap.size w w18 := c4.trans (d18.mono c4.size)
  have KX18 : CellV w18 w3.heap.size 3 x ⟨#[]⟩ 0 := CellV.below (by first | (with_reducible assumption) | (with_reducible exact op_newV _ _ _ _ _) | (with_reducible refine op_allocV ?_ _; assumption) | (with_reducible refine CellV.drew ?_; assumption)) b18
  obtain ⟨-, KX180, KX181, KX182, KX183⟩ := id KX18
  have lKX180 : ∀ o, (w18.alloc o).cell? ⟨w3.heap.size, 0, none⟩ = some (.int .i64 3) := fun o => (op_allocV KX18 o).c0
  have lKX181 : ∀ o, (w18.alloc o).cell? ⟨w3.heap.size, 1, none⟩ = some (.float .f64 x) := fun o => (op_allocV KX18 o).c1
  have lKX182 : ∀ o, (w18.alloc o).cell? ⟨w3.heap.size, 2, none⟩ = some (.string ⟨#[]⟩) := fun o => (op_allocV KX18 o).c2
  have lKX183 : ∀ o, (w18.alloc o).cell? ⟨w3.heap.size, 3, none⟩ = some (.int .i64 0) := fun o => (op_allocV KX18 o).c3
  have KY18 : CellV w18 (w3.heap.size + 1) 3 y ⟨#[]⟩ 0 := CellV.below (by first | (with_reducible assumption) | (with_reducible exact op_newV _ _ _ _ _) | (with_reducible refine op_allocV ?_ _; assumption) | (with_reducible refine CellV.drew ?_; assumption)) b18
  obtain ⟨-, KY180, KY181, KY182, KY183⟩ := id KY18
  have lKY180 : ∀ o, (w18.alloc o).cell? ⟨(w3.heap.size + 1), 0, none⟩ = some (.int .i64 3) := fun o => (op_allocV KY18 o).c0
  have lKY181 : ∀ o, (w18.alloc o).cell? ⟨(w3.heap.size + 1), 1, none⟩ = some (.float .f64 y) := fun o => (op_allocV KY18 o).c1
  have lKY182 : ∀ o, (w18.alloc o).cell? ⟨(w3.heap.size + 1), 2, none⟩ = some (.string ⟨#[]⟩) := fun o => (op_allocV KY18 o).c2
  have lKY183 : ∀ o, (w18.alloc o).cell? ⟨(w3.heap.size + 1), 3, none⟩ = some (.int .i64 0) := fun o => (op_allocV KY18 o).c3
  have KS18 : S5 w18 (w3.heap.size + 1 + 1) := S5.below (by first | (with_reducible assumption) | (with_reducible refine S5.alloc ?_ _; assumption) | (with_reducible refine S5.drew ?_; assumption) | (with_reducible exact S5.new _ _)) b18
  obtain ⟨-, KS180, KS181, KS182, KS183, KS184⟩ := id KS18
  have KP18 : CellV w18 w17.heap.size 3 r17 ⟨#[]⟩ 0 := CellV.below (by first | (with_reducible assumption) | (with_reducible exact op_newV _ _ _ _ _) | (with_reducible refine op_allocV ?_ _; assumption) | (with_reducible refine CellV.drew ?_; assumption)) b18
  obtain ⟨-, KP180, KP181, KP182, KP183⟩ := id KP18
  have lKP180 : ∀ o, (w18.alloc o).cell? ⟨w17.heap.size, 0, none⟩ = some (.int .i64 3) := fun o => (op_allocV KP18 o).c0
  have lKP181 : ∀ o, (w18.alloc o).cell? ⟨w17.heap.size, 1, none⟩ = some (.float .f64 r17) := fun o => (op_allocV KP18 o).c1
  have lKP182 : ∀ o, (w18.alloc o).cell? ⟨w17.heap.size, 2, none⟩ = some (.string ⟨#[]⟩) := fun o => (op_allocV KP18 o).c2
  have lKP183 : ∀ o, (w18.alloc o).cell? ⟨w17.heap.size, 3, none⟩ = some (.int .i64 0) := fun o => (op_allocV KP18 o).c3
  clear b18
  go_wp2_with fail
  refine (HK4.out r17 r18 hr17 hr18 _).mono ?_
  rintro e w19 ⟨rfl, b19⟩
  have d19 : Below w4.heap.size w4 w19 := bl_chain (by (repeat' (first | (with_reducible exact Below.refl _ _) | (with_reducible assumption) | (with_reducible refine Below.drew ?_) | (with_reducible refine below_drewN ?_ _) | (with_reducible refine Below.alloc ?_ ?_ _) | (with_reducible refine Below.setCell ?_ ?_ _) | exact Below.size (show Below w4.heap.size w4 _ by assumption) | (simp; done) | (simp; omega)))) b19
  have c19 : Below w.heap.size w w19 := c4.trans (d19.mono c4.size)
  have KX19 : CellV w19 w3.heap.size 3 x ⟨#[]⟩ 0 := CellV.below (by first | (with_reducible assumption) | (with_reducible exact op_newV _ _ _ _ _) | (with_reducible refine op_allocV ?_ _; assumption) | (with_reducible refine CellV.drew ?_; assumption)) b19
  obtain ⟨-, KX190, KX191, KX192, KX193⟩ := id KX19
  have lKX190 : ∀ o, (w19.alloc o).cell? ⟨w3.heap.size, 0, none⟩ = some (.int .i64 3) := fun o => (op_allocV KX19 o).c0
  have lKX191 : ∀ o, (w19.alloc o).cell? ⟨w3.heap.size, 1, none⟩ = some (.float .f64 x) := fun o => (op_allocV KX19 o).c1
  have lKX192 : ∀ o, (w19.alloc o).cell? ⟨w3.heap.size, 2, none⟩ = some (.string ⟨#[]⟩) := fun o => (op_allocV KX19 o).c2
  have lKX193 : ∀ o, (w19.alloc o).cell? ⟨w3.heap.size, 3, none⟩ = some (.int .i64 0) := fun o => (op_allocV KX19 o).c3
  have KY19 : CellV w19 (w3.heap.size + 1) 3 y ⟨#[]⟩ 0 := CellV.below (by first | (with_reducible assumption) | (with_reducible exact op_newV _ _ _ _ _) | (with_reducible refine op_allocV ?_ _; assumption) | (with_reducible refine CellV.drew ?_; assumption)) b19
  obtain ⟨-, KY190, KY191, KY192, KY193⟩ := id KY19
  have lKY190 : ∀ o, (w19.alloc o).cell? ⟨(w3.heap.size + 1), 0, none⟩ = some (.int .i64 3) := fun o => (op_allocV KY19 o).c0
  have lKY191 : ∀ o, (w19.alloc o).cell? ⟨(w3.heap.size + 1), 1, none⟩ = some (.float .f64 y) := fun o => (op_allocV KY19 o).c1
  have lKY192 : ∀ o, (w19.alloc o).cell? ⟨(w3.heap.size + 1), 2, none⟩ = some (.string ⟨#[]⟩) := fun o => (op_allocV KY19 o).c2
  have lKY193 : ∀ o, (w19.alloc o).cell? ⟨(w3.heap.size + 1), 3, none⟩ = some (.int .i64 0) := fun o => (op_allocV KY19 o).c3
  have KS19 : S5 w19 (w3.heap.size + 1 + 1) := S5.below (by first | (with_reducible assumption) | (with_reducible refine S5.alloc ?_ _; assumption) | (with_reducible refine S5.drew ?_; assumption) | (with_reducible exact S5.new _ _)) b19
  obtain ⟨-, KS190, KS191, KS192, KS193, KS194⟩ := id KS19
  clear b19
  clear hr17 hr18
  clear lKX170 lKX171 lKX172 lKX173 lKY170 lKY171 lKY172 lKY173 lKX180 lKX181 lKX182 lKX183 lKY180 lKY181 lKY182 lKY183 KX170 KX171 KX172 KX173 KY170 KY171 KY172 KY173 KX180 KX181 KX182 KX183 KY180 KY181 KY182 KY183 KS170 KS171 KS172 KS173 KS174 KS180 KS181 KS182 KS183 KS184 lKP180 lKP181 lKP182 lKP183 KP180 KP181 KP182 KP183
  go_wp2_with fail
  rw [rounds_succ]
  go_wp2_with fail
  refine (HX5.out _ (Hid.mk' (hl4.out.below (by (repeat' (first | (with_reducible exact Below.refl _ _) | (with_reducible assumption) | (with_reducible refine Below.drew ?_) | (with_reducible refine below_drewN ?_ _) | (with_reducible refine Below.alloc ?_ ?_ _) | (with_reducible refine Below.setCell ?_ ?_ _) | exact Below.size (show Below w4.heap.size w4 _ by assumption) | (simp; done) | (simp; omega))))))).mono ?_
  rintro e w20 ⟨r20, rfl, hr20, b20⟩
  have d20 : Below w4.heap.size w4 w20 := bl_chain (by (repeat' (first | (with_reducible exact Below.refl _ _) | (with_reducible assumption) | (with_reducible refine Below.drew ?_) | (with_reducible refine below_drewN ?_ _) | (with_reducible refine Below.alloc ?_ ?_ _) | (with_reducible refine Below.setCell ?_ ?_ _) | exact Below.size (show Below w4.heap.size w4 _ by assumption) | (simp; done) | (simp; omega)))) b20
  have c20 : Below w.heap.size w w20 := c4.trans (d20.mono c4.size)
  have KX20 : CellV w20 w3.heap.size 3 x ⟨#[]⟩ 0 := CellV.below (by first | (with_reducible assumption) | (with_reducible exact op_newV _ _ _ _ _) | (with_reducible refine op_allocV ?_ _; assumption) | (with_reducible refine CellV.drew ?_; assumption)) b20
  obtain ⟨-, KX200, KX201, KX202, KX203⟩ := id KX20
  have lKX200 : ∀ o, (w20.alloc o).cell? ⟨w3.heap.size, 0, none⟩ = some (.int .i64 3) := fun o => (op_allocV KX20 o).c0
  have lKX201 : ∀ o, (w20.alloc o).cell? ⟨w3.heap.size, 1, none⟩ = some (.float .f64 x) := fun o => (op_allocV KX20 o).c1
  have lKX202 : ∀ o, (w20.alloc o).cell? ⟨w3.heap.size, 2, none⟩ = some (.string ⟨#[]⟩) := fun o => (op_allocV KX20 o).c2
  have lKX203 : ∀ o, (w20.alloc o).cell? ⟨w3.heap.size, 3, none⟩ = some (.int .i64 0) := fun o => (op_allocV KX20 o).c3
  have KY20 : CellV w20 (w3.heap.size + 1) 3 y ⟨#[]⟩ 0 := CellV.below (by first | (with_reducible assumption) | (with_reducible exact op_newV _ _ _ _ _) | (with_reducible refine op_allocV ?_ _; assumption) | (with_reducible refine CellV.drew ?_; assumption)) b20
  obtain ⟨-, KY200, KY201, KY202, KY203⟩ := id KY20
  have lKY200 : ∀ o, (w20.alloc o).cell? ⟨(w3.heap.size + 1), 0, none⟩ = some (.int .i64 3) := fun o => (op_allocV KY20 o).c0
  have lKY201 : ∀ o, (w20.alloc o).cell? ⟨(w3.heap.size + 1), 1, none⟩ = some (.float .f64 y) := fun o => (op_allocV KY20 o).c1
  have lKY202 : ∀ o, (w20.alloc o).cell? ⟨(w3.heap.size + 1), 2, none⟩ = some (.string ⟨#[]⟩) := fun o => (op_allocV KY20 o).c2
  have lKY203 : ∀ o, (w20.alloc o).cell? ⟨(w3.heap.size + 1), 3, none⟩ = some (.int .i64 0) := fun o => (op_allocV KY20 o).c3
  clear b20
  go_wp2_with fail
  refine (HU5.out _ (Hid.mk' (hl4.out.below (by (repeat' (first | (with_reducible exact Below.refl _ _) | (with_reducible assumption) | (with_reducible refine Below.drew ?_) | (with_reducible refine below_drewN ?_ _) | (with_reducible refine Below.alloc ?_ ?_ _) | (with_reducible refine Below.setCell ?_ ?_ _) | exact Below.size (show Below w4.heap.size w4 _ by assumption) | (simp; done) | (simp; omega))))))).mono ?_
  rintro e w21 ⟨rfl, b21⟩
  have d21 : Below w4.heap.size w4 w21 := bl_chain (by (repeat' (first | (with_reducible exact Below.refl _ _) | (with_reducible assumption) | (with_reducible refine Below.drew ?_) | (with_reducible refine below_drewN ?_ _) | (with_reducible refine Below.alloc ?_ ?_ _) | (with_reducible refine Below.setCell ?_ ?_ _) | exact Below.size (show Below w4.heap.size w4 _ by assumption) | (simp; done) | (simp; omega)))) b21
  have c21 : Below w.heap.size w w21 := c4.trans (d21.mono c4.size)
  have KX21 : CellV w21 w3.heap.size 3 x ⟨#[]⟩ 0 := CellV.below (by first | (with_reducible assumption) | (with_reducible exact op_newV _ _ _ _ _) | (with_reducible refine op_allocV ?_ _; assumption) | (with_reducible refine CellV.drew ?_; assumption)) b21
  obtain ⟨-, KX210, KX211, KX212, KX213⟩ := id KX21
  have lKX210 : ∀ o, (w21.alloc o).cell? ⟨w3.heap.size, 0, none⟩ = some (.int .i64 3) := fun o => (op_allocV KX21 o).c0
  have lKX211 : ∀ o, (w21.alloc o).cell? ⟨w3.heap.size, 1, none⟩ = some (.float .f64 x) := fun o => (op_allocV KX21 o).c1
  have lKX212 : ∀ o, (w21.alloc o).cell? ⟨w3.heap.size, 2, none⟩ = some (.string ⟨#[]⟩) := fun o => (op_allocV KX21 o).c2
  have lKX213 : ∀ o, (w21.alloc o).cell? ⟨w3.heap.size, 3, none⟩ = some (.int .i64 0) := fun o => (op_allocV KX21 o).c3
  have KY21 : CellV w21 (w3.heap.size + 1) 3 y ⟨#[]⟩ 0 := CellV.below (by first | (with_reducible assumption) | (with_reducible exact op_newV _ _ _ _ _) | (with_reducible refine op_allocV ?_ _; assumption) | (with_reducible refine CellV.drew ?_; assumption)) b21
  obtain ⟨-, KY210, KY211, KY212, KY213⟩ := id KY21
  have lKY210 : ∀ o, (w21.alloc o).cell? ⟨(w3.heap.size + 1), 0, none⟩ = some (.int .i64 3) := fun o => (op_allocV KY21 o).c0
  have lKY211 : ∀ o, (w21.alloc o).cell? ⟨(w3.heap.size + 1), 1, none⟩ = some (.float .f64 y) := fun o => (op_allocV KY21 o).c1
  have lKY212 : ∀ o, (w21.alloc o).cell? ⟨(w3.heap.size + 1), 2, none⟩ = some (.string ⟨#[]⟩) := fun o => (op_allocV KY21 o).c2
  have lKY213 : ∀ o, (w21.alloc o).cell? ⟨(w3.heap.size + 1), 3, none⟩ = some (.int .i64 0) := fun o => (op_allocV KY21 o).c3
  have KP21 : CellV w21 w20.heap.size 3 r20 ⟨#[]⟩ 0 := CellV.below (by first | (with_reducible assumption) | (with_reducible exact op_newV _ _ _ _ _) | (with_reducible refine op_allocV ?_ _; assumption) | (with_reducible refine CellV.drew ?_; assumption)) b21
  obtain ⟨-, KP210, KP211, KP212, KP213⟩ := id KP21
  have lKP210 : ∀ o, (w21.alloc o).cell? ⟨w20.heap.size, 0, none⟩ = some (.int .i64 3) := fun o => (op_allocV KP21 o).c0
  have lKP211 : ∀ o, (w21.alloc o).cell? ⟨w20.heap.size, 1, none⟩ = some (.float .f64 r20) := fun o => (op_allocV KP21 o).c1
  have lKP212 : ∀ o, (w21.alloc o).cell? ⟨w20.heap.size, 2, none⟩ = some (.string ⟨#[]⟩) := fun o => (op_allocV KP21 o).c2
  have lKP213 : ∀ o, (w21.alloc o).cell? ⟨w20.heap.size, 3, none⟩ = some (.int .i64 0) := fun o => (op_allocV KP21 o).c3
  clear b21
  go_wp2_with fail
  refine (HY5.out _ (Hid.mk' (hl4.out.below (by (repeat' (first | (with_reducible exact Below.refl _ _) | (with_reducible assumption) | (with_reducible refine Below.drew ?_) | (with_reducible refine below_drewN ?_ _) | (with_reducible refine Below.alloc ?_ ?_ _) | (with_reducible refine Below.setCell ?_ ?_ _) | exact Below.size (show Below w4.heap.size w4 _ by assumption) | (simp; done) | (simp; omega))))))).mono ?_
  rintro e w22 ⟨r22, rfl, hr22, b22⟩
  have d22 : Below w4.heap.size w4 w22 := bl_chain (by (repeat' (first | (with_reducible exact Below.refl _ _) | (with_reducible assumption) | (with_reducible refine Below.drew ?_) | (with_reducible refine below_drewN ?_ _) | (with_reducible refine Below.alloc ?_ ?_ _) | (with_reducible refine Below.setCell ?_ ?_ _) | exact Below.size (show Below w4.heap.size w4 _ by assumption) | (simp; done) | (simp; omega)))) b22
  have c22 : Below w.heap.size w w22 := c4.trans (d22.mono c4.size)
  have KX22 : CellV w22 w3.heap.size 3 x ⟨#[]⟩ 0 := CellV.below (by first | (with_reducible assumption) | (with_reducible exact op_newV _ _ _ _ _) | (with_reducible refine op_allocV ?_ _; assumption) | (with_reducible refine CellV.drew ?_; assumption)) b22
  obtain ⟨-, KX220, KX221, KX222, KX223⟩ := id KX22
  have lKX220 : ∀ o, (w22.alloc o).cell? ⟨w3.heap.size, 0, none⟩ = some (.int .i64 3) := fun o => (op_allocV KX22 o).c0
  have lKX221 : ∀ o, (w22.alloc o).cell? ⟨w3.heap.size, 1, none⟩ = some (.float .f64 x) := fun o => (op_allocV KX22 o).c1
  have lKX222 : ∀ o, (w22.alloc o).cell? ⟨w3.heap.size, 2, none⟩ = some (.string ⟨#[]⟩) := fun o => (op_allocV KX22 o).c2
  have lKX223 : ∀ o, (w22.alloc o).cell? ⟨w3.heap.size, 3, none⟩ = some (.int .i64 0) := fun o => (op_allocV KX22 o).c3
  have KY22 : CellV w22 (w3.heap.size + 1) 3 y ⟨#[]⟩ 0 := CellV.below (by first | (with_reducible assumption) | (with_reducible exact op_newV _ _ _ _ _) | (with_reducible refine op_allocV ?_ _; assumption) | (with_reducible refine CellV.drew ?_; assumption)) b22
  obtain ⟨-, KY220, KY221, KY222, KY223⟩ := id KY22
  have lKY220 : ∀ o, (w22.alloc o).cell? ⟨(w3.heap.size + 1), 0, none⟩ = some (.int .i64 3) := fun o => (op_allocV KY22 o).c0
  have lKY221 : ∀ o, (w22.alloc o).cell? ⟨(w3.heap.size + 1), 1, none⟩ = some (.float .f64 y) := fun o => (op_allocV KY22 o).c1
  have lKY222 : ∀ o, (w22.alloc o).cell? ⟨(w3.heap.size + 1), 2, none⟩ = some (.string ⟨#[]⟩) := fun o => (op_allocV KY22 o).c2
  have lKY223 : ∀ o, (w22.alloc o).cell? ⟨(w3.heap.size + 1), 3, none⟩ = some (.int .i64 0) := fun o => (op_allocV KY22 o).c3
  have KP22 : CellV w22 w20.heap.size 3 r20 ⟨#[]⟩ 0 := CellV.below (by first | (with_reducible assumption) | (with_reducible exact op_newV _ _ _ _ _) | (with_reducible refine op_allocV ?_ _; assumption) | (with_reducible refine CellV.drew ?_; assumption)) b22
  obtain ⟨-, KP220, KP221, KP222, KP223⟩ := id KP22
  have lKP220 : ∀ o, (w22.alloc o).cell? ⟨w20.heap.size, 0, none⟩ = some (.int .i64 3) := fun o => (op_allocV KP22 o).c0
  have lKP221 : ∀ o, (w22.alloc o).cell? ⟨w20.heap.size, 1, none⟩ = some (.float .f64 r20) := fun o => (op_allocV KP22 o).c1
  have lKP222 : ∀ o, (w22.alloc o).cell? ⟨w20.heap.size, 2, none⟩ = some (.string ⟨#[]⟩) := fun o => (op_allocV KP22 o).c2
  have lKP223 : ∀ o, (w22.alloc o).cell? ⟨w20.heap.size, 3, none⟩ = some (.int .i64 0) := fun o => (op_allocV KP22 o).c3
  have KM22 : CellV w22 w21.heap.size 3 ny ⟨#[]⟩ 0 := CellV.below (by first | (with_reducible assumption) | (with_reducible exact op_newV _ _ _ _ _) | (with_reducible refine op_allocV ?_ _; assumption) | (with_reducible refine CellV.drew ?_; assumption)) b22
  obtain ⟨-, KM220, KM221, KM222, KM223⟩ := id KM22
  have lKM220 : ∀ o, (w22.alloc o).cell? ⟨w21.heap.size, 0, none⟩ = some (.int .i64 3) := fun o => (op_allocV KM22 o).c0
  have lKM221 : ∀ o, (w22.alloc o).cell? ⟨w21.heap.size, 1, none⟩ = some (.float .f64 ny) := fun o => (op_allocV KM22 o).c1
  have lKM222 : ∀ o, (w22.alloc o).cell? ⟨w21.heap.size, 2, none⟩ = some (.string ⟨#[]⟩) := fun o => (op_allocV KM22 o).c2
  have lKM223 : ∀ o, (w22.alloc o).cell? ⟨w21.heap.size, 3, none⟩ = some (.int .i64 0) := fun o => (op_allocV KM22 o).c3
  clear b22
  go_wp2_with fail
  refine (HK5.out r20 r22 hr20 hr22 _).mono ?_
  rintro e w23 ⟨rfl, b23⟩
  have d23 : Below w4.heap.size w4 w23 := bl_chain (by (repeat' (first | (with_reducible exact Below.refl _ _) | (with_reducible assumption) | (with_reducible refine Below.drew ?_) | (with_reducible refine below_drewN ?_ _) | (with_reducible refine Below.alloc ?_ ?_ _) | (with_reducible refine Below.setCell ?_ ?_ _) | exact Below.size (show Below w4.heap.size w4 _ by assumption) | (simp; done) | (simp; omega)))) b23
  have c23 : Below w.heap.size w w23 := c4.trans (d23.mono c4.size)
  clear b23
  go_wp2
  go_ret
  exact ⟨rfl, by (repeat' (first | (with_reducible exact Below.refl _ _) | (with_reducible assumption) | (with_reducible refine Below.drew ?_) | (with_reducible refine below_drewN ?_ _) | (with_reducible refine Below.alloc ?_ ?_ _) | (with_reducible refine Below.setCell ?_ ?_ _) | exact Below.size (show Below w.heap.size w _ by assumption) | (simp; done) | (simp; omega)))⟩
end Go.Proofs.YtbkkkpfoaggejaaGreatDoor
