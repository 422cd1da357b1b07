/- lintellaw18.awake: chapter 18's examples; few. Written by tools/mkcvw.py. -/
import Derived.Test.YtaknclffnoljlaaGreatDoorCvL
namespace Go.Proofs.YtaknclffnoljlaaGreatDoor
set_option linter.unusedVariables false
open Go.RowKit Go.Sort Fl

theorem asc_1 : ofFst (ofS ⟨#[49]⟩) = ⟨#[0, 49]⟩ := by
  have : ofS (Sb [49]) = .ok [0, 49] := by kernel_rfl
  show ofFst (ofS (Sb [49])) = _
  rw [this]; rfl
theorem asc_12 : ofFst (ofS ⟨#[32, 49, 50, 32]⟩) = ⟨#[0, 32, 0, 49, 0, 50, 0, 32]⟩ := by
  have : ofS (Sb [32, 49, 50, 32]) = .ok [0, 32, 0, 49, 0, 50, 0, 32] := by kernel_rfl
  show ofFst (ofS (Sb [32, 49, 50, 32])) = _
  rw [this]; rfl
theorem loose_11 (w : World) (hl : Hid (LaidN w)) : Calls Tryz.prog 22 #[.agg #[.int .i64 4, .float .f64 0, .string ⟨#[0, 49]⟩, .int .i64 0], .agg #[.int .i64 3, .float .f64 4607182418800017408, .string ⟨#[]⟩, .int .i64 0]] w fun e w' => e = .returned (.tuple #[.bool true, .bool true]) ∧ Below w.heap.size w w' := by
  have s1 : ((⟨#[0, 49]⟩ : ByteArray).size : Int) ≤ 140737488351232 := by decide
  have s0 : ((⟨#[]⟩ : ByteArray).size : Int) ≤ 140737488351232 := by decide
  have h11 := Hid.mk' (fun W (hW : Hid (LaidN W)) => loose_x 3 4607182418800017408 ⟨#[]⟩ 0 3 4607182418800017408 ⟨#[]⟩ 0 0 true W (by omega) (by omega) s0 s0 hW (.inl ⟨rfl, rfl, by rw [sameB_self _ _ (.inl rfl)]; decide⟩))
  have hr := Hid.mk' (fun W (hW : Hid (LaidN W)) => read_e1 W hW)
  have h12 := Hid.mk' (fun W (hW : Hid (LaidN W)) => loose_x 3 4607182418800017408 ⟨#[]⟩ 0 4 0 ⟨#[0, 49]⟩ 0 4607182418800017408 true W (by omega) (by omega) s0 s1 hW (.inr (.inl ⟨rfl, rfl, Hid.mk' (fun X hX => asnum_t ⟨#[0, 49]⟩ 4607182418800017408 hr X hX), h11⟩)))
  exact loose_x 4 0 ⟨#[0, 49]⟩ 0 3 4607182418800017408 ⟨#[]⟩ 0 0 true w (by omega) (by omega) s1 s0 hl (.inr (.inr ⟨rfl, rfl, h12⟩))
set_option maxHeartbeats 2000000 in
set_option maxRecDepth 100000 in
theorem awake18 (w0 : World) (hl0 : Hid (LaidN w0)) : Calls Tryz.prog 7 #[] w0 fun e w' => e = .returned (.bool true) ∧ Below w0.heap.size w0 w' := by
  obtain ⟨w, hw⟩ : ∃ w, w0 = w := ⟨_, rfl⟩
  rw [hw] at hl0 ⊢
  clear hw w0
  have hl := hl0
  have c0 : Below w.heap.size w w := Below.refl _ _
  have HA1 := Hid.mk' (fun W => rasciiV_any ⟨#[49]⟩ ⟨#[0, 49]⟩ asc_1 W (by decide))
  have HA2 := Hid.mk' (fun W => rasciiV_any ⟨#[32, 49, 50, 32]⟩ ⟨#[0, 32, 0, 49, 0, 50, 0, 32]⟩ asc_12 W (by decide))
  have HNM := Hid.mk' (fun W => rnum_any 4607182418800017408 W)
  have HLO := Hid.mk' (fun W (hW : Hid (LaidN W)) => loose_11 W hW)
  have hr := Hid.mk' (fun W (hW : Hid (LaidN W)) => read_e2 W hW)
  have HNU := Hid.mk' (fun W (hW : Hid (LaidN W)) => number_t ⟨#[0, 32, 0, 49, 0, 50, 0, 32]⟩ 4622945017495814144 hr W hW)
  have HTR := Hid.mk' (fun W => truthy_one W)
  have HTY := Hid.mk' (fun W => type_text ⟨#[0, 49]⟩ W)
  have HSA := Hid.mk' (fun W => vsame 3 4607182418800017408 ⟨#[]⟩ 0 3 4607182418800017408 ⟨#[]⟩ 0 0 W (by omega) (by omega) (by decide) (by decide))
  rw [show sameV 3 4607182418800017408 ⟨#[]⟩ 0 3 4607182418800017408 ⟨#[]⟩ 0 0 = true by rw [sameV_self _ _ _ _ _ (.inl rfl)]; decide] at HSA
  have HGO := Hid.mk' (fun W => vgood 4 0 ⟨#[0, 49]⟩ 0 W (by omega) (by decide))
  rw [show goodV 4 0 ⟨#[0, 49]⟩ 0 = true by decide +kernel] at HGO
  have q1 : (FloatKind.f64.format.order 4622945017495814144 4622945017495814144 == some Ordering.eq) = true := by decide
  clear hr
  go_enter Tryz.func7, Tryz.ntmps7
  go_wp2_with fail
  refine (HA1.out _).mono ?_
  rintro e w1 ⟨rfl, b1⟩
  have c1 : Below w.heap.size w w1 := bl_chain (by (repeat' (first | (with_reducible exact Below.refl _ _) | (with_reducible assumption) | (with_reducible refine Below.drew ?_) | (with_reducible refine below_drewN ?_ _) | (with_reducible refine Below.alloc ?_ ?_ _) | (with_reducible refine Below.setCell ?_ ?_ _) | (simp; done) | (simp; omega)))) b1
  clear b1
  go_wp2_with fail
  refine (HNM.out _).mono ?_
  rintro e w2 ⟨rfl, b2⟩
  have c2 : Below w.heap.size w w2 := c1.trans ((bl_chain (by (repeat' (first | (with_reducible exact Below.refl _ _) | (with_reducible assumption) | (with_reducible refine Below.drew ?_) | (with_reducible refine below_drewN ?_ _) | (with_reducible refine Below.alloc ?_ ?_ _) | (with_reducible refine Below.setCell ?_ ?_ _) | (simp; done) | (simp; omega)))) b2 : Below w1.heap.size w1 w2).mono c1.size)
  have hl2 : Hid (LaidN w2) := hl.out.below c2
  clear b2
  go_wp2_with fail
  refine (HLO.out _ (Hid.mk' (hl2.out.below (by (repeat' (first | (with_reducible exact Below.refl _ _) | (with_reducible assumption) | (with_reducible refine Below.drew ?_) | (with_reducible refine below_drewN ?_ _) | (with_reducible refine Below.alloc ?_ ?_ _) | (with_reducible refine Below.setCell ?_ ?_ _) | (simp; done) | (simp; omega))))))).mono ?_
  rintro e w3 ⟨rfl, b3⟩
  have d3 : Below w2.heap.size w2 w3 := bl_chain (by (repeat' (first | (with_reducible exact Below.refl _ _) | (with_reducible assumption) | (with_reducible refine Below.drew ?_) | (with_reducible refine below_drewN ?_ _) | (with_reducible refine Below.alloc ?_ ?_ _) | (with_reducible refine Below.setCell ?_ ?_ _) | (simp; done) | (simp; omega)))) b3
  have c3 : Below w.heap.size w w3 := c2.trans (d3.mono c2.size)
  have hl3 : Hid (LaidN w3) := hl.out.below c3
  have Va3 : CellV w3 (w2.heap.size) 4 0 ⟨#[0, 49]⟩ 0 := CellV.below (by first | (with_reducible assumption) | (with_reducible refine CellV.drew ?_; assumption) | (constructor <;> first | (simp; done) | (simp; omega))) b3
  obtain ⟨-, za30, za31, za32, za33⟩ := id Va3
  have Vb3 : CellV w3 (w2.heap.size + 1) 3 4607182418800017408 ⟨#[]⟩ 0 := CellV.below (by first | (with_reducible assumption) | (with_reducible refine CellV.drew ?_; assumption) | (constructor <;> first | (simp; done) | (simp; omega))) b3
  obtain ⟨-, zb30, zb31, zb32, zb33⟩ := id Vb3
  clear b3 d3
  go_wp2_with fail
  refine (HA2.out _).mono ?_
  rintro e w4 ⟨rfl, b4⟩
  have d4 : Below w3.heap.size w3 w4 := bl_chain (by (repeat' (first | (with_reducible exact Below.refl _ _) | (with_reducible assumption) | (with_reducible refine Below.drew ?_) | (with_reducible refine below_drewN ?_ _) | (with_reducible refine Below.alloc ?_ ?_ _) | (with_reducible refine Below.setCell ?_ ?_ _) | (simp; done) | (simp; omega)))) b4
  have c4 : Below w.heap.size w w4 := c3.trans (d4.mono c3.size)
  have hl4 : Hid (LaidN w4) := hl.out.below c4
  have Va4 : CellV w4 (w2.heap.size) 4 0 ⟨#[0, 49]⟩ 0 := CellV.below (by first | (with_reducible assumption) | (with_reducible refine CellV.drew ?_; assumption) | (constructor <;> first | (simp; done) | (simp; omega))) b4
  obtain ⟨-, za40, za41, za42, za43⟩ := id Va4
  have Vb4 : CellV w4 (w2.heap.size + 1) 3 4607182418800017408 ⟨#[]⟩ 0 := CellV.below (by first | (with_reducible assumption) | (with_reducible refine CellV.drew ?_; assumption) | (constructor <;> first | (simp; done) | (simp; omega))) b4
  obtain ⟨-, zb40, zb41, zb42, zb43⟩ := id Vb4
  clear b4 d4
  go_wp2_with fail
  refine (HNU.out _ (Hid.mk' (hl4.out.below (by (repeat' (first | (with_reducible exact Below.refl _ _) | (with_reducible assumption) | (with_reducible refine Below.drew ?_) | (with_reducible refine below_drewN ?_ _) | (with_reducible refine Below.alloc ?_ ?_ _) | (with_reducible refine Below.setCell ?_ ?_ _) | (simp; done) | (simp; omega))))))).mono ?_
  rintro e w5 ⟨rfl, b5⟩
  have d5 : Below w4.heap.size w4 w5 := bl_chain (by (repeat' (first | (with_reducible exact Below.refl _ _) | (with_reducible assumption) | (with_reducible refine Below.drew ?_) | (with_reducible refine below_drewN ?_ _) | (with_reducible refine Below.alloc ?_ ?_ _) | (with_reducible refine Below.setCell ?_ ?_ _) | (simp; done) | (simp; omega)))) b5
  have c5 : Below w.heap.size w w5 := c4.trans (d5.mono c4.size)
  have hl5 : Hid (LaidN w5) := hl.out.below c5
  have Va5 : CellV w5 (w2.heap.size) 4 0 ⟨#[0, 49]⟩ 0 := CellV.below (by first | (with_reducible assumption) | (with_reducible refine CellV.drew ?_; assumption) | (constructor <;> first | (simp; done) | (simp; omega))) b5
  obtain ⟨-, za50, za51, za52, za53⟩ := id Va5
  have Vb5 : CellV w5 (w2.heap.size + 1) 3 4607182418800017408 ⟨#[]⟩ 0 := CellV.below (by first | (with_reducible assumption) | (with_reducible refine CellV.drew ?_; assumption) | (constructor <;> first | (simp; done) | (simp; omega))) b5
  obtain ⟨-, zb50, zb51, zb52, zb53⟩ := id Vb5
  clear b5 d5
  go_wp2_with fail
  refine (HTR.out _).mono ?_
  rintro e w6 ⟨rfl, b6⟩
  have d6 : Below w5.heap.size w5 w6 := bl_chain (by (repeat' (first | (with_reducible exact Below.refl _ _) | (with_reducible assumption) | (with_reducible refine Below.drew ?_) | (with_reducible refine below_drewN ?_ _) | (with_reducible refine Below.alloc ?_ ?_ _) | (with_reducible refine Below.setCell ?_ ?_ _) | (simp; done) | (simp; omega)))) b6
  have c6 : Below w.heap.size w w6 := c5.trans (d6.mono c5.size)
  have hl6 : Hid (LaidN w6) := hl.out.below c6
  have Va6 : CellV w6 (w2.heap.size) 4 0 ⟨#[0, 49]⟩ 0 := CellV.below (by first | (with_reducible assumption) | (with_reducible refine CellV.drew ?_; assumption) | (constructor <;> first | (simp; done) | (simp; omega))) b6
  obtain ⟨-, za60, za61, za62, za63⟩ := id Va6
  have Vb6 : CellV w6 (w2.heap.size + 1) 3 4607182418800017408 ⟨#[]⟩ 0 := CellV.below (by first | (with_reducible assumption) | (with_reducible refine CellV.drew ?_; assumption) | (constructor <;> first | (simp; done) | (simp; omega))) b6
  obtain ⟨-, zb60, zb61, zb62, zb63⟩ := id Vb6
  clear b6 d6
  go_wp2_with fail
  refine (HTY.out _).mono ?_
  rintro e w7 ⟨rfl, b7⟩
  have d7 : Below w6.heap.size w6 w7 := bl_chain (by (repeat' (first | (with_reducible exact Below.refl _ _) | (with_reducible assumption) | (with_reducible refine Below.drew ?_) | (with_reducible refine below_drewN ?_ _) | (with_reducible refine Below.alloc ?_ ?_ _) | (with_reducible refine Below.setCell ?_ ?_ _) | (simp; done) | (simp; omega)))) b7
  have c7 : Below w.heap.size w w7 := c6.trans (d7.mono c6.size)
  have hl7 : Hid (LaidN w7) := hl.out.below c7
  have Va7 : CellV w7 (w2.heap.size) 4 0 ⟨#[0, 49]⟩ 0 := CellV.below (by first | (with_reducible assumption) | (with_reducible refine CellV.drew ?_; assumption) | (constructor <;> first | (simp; done) | (simp; omega))) b7
  obtain ⟨-, za70, za71, za72, za73⟩ := id Va7
  have Vb7 : CellV w7 (w2.heap.size + 1) 3 4607182418800017408 ⟨#[]⟩ 0 := CellV.below (by first | (with_reducible assumption) | (with_reducible refine CellV.drew ?_; assumption) | (constructor <;> first | (simp; done) | (simp; omega))) b7
  obtain ⟨-, zb70, zb71, zb72, zb73⟩ := id Vb7
  clear b7 d7
  go_wp2_with fail
  refine (HSA.out _).mono ?_
  rintro e w8 ⟨rfl, b8⟩
  have d8 : Below w7.heap.size w7 w8 := bl_chain (by (repeat' (first | (with_reducible exact Below.refl _ _) | (with_reducible assumption) | (with_reducible refine Below.drew ?_) | (with_reducible refine below_drewN ?_ _) | (with_reducible refine Below.alloc ?_ ?_ _) | (with_reducible refine Below.setCell ?_ ?_ _) | (simp; done) | (simp; omega)))) b8
  have c8 : Below w.heap.size w w8 := c7.trans (d8.mono c7.size)
  have hl8 : Hid (LaidN w8) := hl.out.below c8
  have Va8 : CellV w8 (w2.heap.size) 4 0 ⟨#[0, 49]⟩ 0 := CellV.below (by first | (with_reducible assumption) | (with_reducible refine CellV.drew ?_; assumption) | (constructor <;> first | (simp; done) | (simp; omega))) b8
  obtain ⟨-, za80, za81, za82, za83⟩ := id Va8
  have Vb8 : CellV w8 (w2.heap.size + 1) 3 4607182418800017408 ⟨#[]⟩ 0 := CellV.below (by first | (with_reducible assumption) | (with_reducible refine CellV.drew ?_; assumption) | (constructor <;> first | (simp; done) | (simp; omega))) b8
  obtain ⟨-, zb80, zb81, zb82, zb83⟩ := id Vb8
  clear b8 d8
  go_wp2_with fail
  refine (HGO.out _).mono ?_
  rintro e w9 ⟨rfl, b9⟩
  have d9 : Below w8.heap.size w8 w9 := bl_chain (by (repeat' (first | (with_reducible exact Below.refl _ _) | (with_reducible assumption) | (with_reducible refine Below.drew ?_) | (with_reducible refine below_drewN ?_ _) | (with_reducible refine Below.alloc ?_ ?_ _) | (with_reducible refine Below.setCell ?_ ?_ _) | (simp; done) | (simp; omega)))) b9
  have c9 : Below w.heap.size w w9 := c8.trans (d9.mono c8.size)
  have hl9 : Hid (LaidN w9) := hl.out.below c9
  have Va9 : CellV w9 (w2.heap.size) 4 0 ⟨#[0, 49]⟩ 0 := CellV.below (by first | (with_reducible assumption) | (with_reducible refine CellV.drew ?_; assumption) | (constructor <;> first | (simp; done) | (simp; omega))) b9
  obtain ⟨-, za90, za91, za92, za93⟩ := id Va9
  have Vb9 : CellV w9 (w2.heap.size + 1) 3 4607182418800017408 ⟨#[]⟩ 0 := CellV.below (by first | (with_reducible assumption) | (with_reducible refine CellV.drew ?_; assumption) | (constructor <;> first | (simp; done) | (simp; omega))) b9
  obtain ⟨-, zb90, zb91, zb92, zb93⟩ := id Vb9
  clear b9 d9
  go_wp2
  go_ret
  exact ⟨rfl, c9⟩
set_option maxHeartbeats 2000000 in
set_option maxRecDepth 100000 in
theorem few18 (k : Int) (x : Nat) (s : ByteArray) (r : Int) (w : World) : Calls Tryz.prog 8 #[.agg #[.int .i64 k, .float .f64 x, .string s, .int .i64 r]] w fun e w' => e = .returned (.bool (decide ((s.size : Int) ≤ 2000))) ∧ Below w.heap.size w w' := by
  go_enter Tryz.func8, Tryz.ntmps8
  go_wp2
  go_ret
  exact ⟨rfl, by (repeat' (first | (with_reducible exact Below.refl _ _) | (with_reducible assumption) | (with_reducible refine Below.drew ?_) | (with_reducible refine below_drewN ?_ _) | (with_reducible refine Below.alloc ?_ ?_ _) | (with_reducible refine Below.setCell ?_ ?_ _) | (simp; done) | (simp; omega)))⟩
end Go.Proofs.YtaknclffnoljlaaGreatDoor
