/- lintellaw19.awake: chapter 19's examples. Written by tools/mkopf.py. -/
import Derived.Test.YtbkkkpfoaggejaaGreatDoorOpE
import Derived.Test.YtbkkkpfoaggejaaGreatDoorCvFb
import Derived.Deep.RegionHeld3
namespace Go.Proofs.YtbkkkpfoaggejaaGreatDoor
set_option linter.unusedVariables false
set_option linter.unusedSimpArgs false
open Go.RowKit Go.Sort Fl

theorem op_asc_1 : ofFst (ofS ⟨#[49]⟩) = ⟨#[0, 49]⟩ := by
  have : ofS (Sb [49]) = .ok [0, 49] := by kernel_rfl
  show ofFst (ofS (Sb [49])) = _
  rw [this]; rfl
theorem op_asc_3 : ofFst (ofS ⟨#[51]⟩) = ⟨#[0, 51]⟩ := by
  have : ofS (Sb [51]) = .ok [0, 51] := by kernel_rfl
  show ofFst (ofS (Sb [51])) = _
  rw [this]; rfl
theorem op_asc_12 : ofFst (ofS ⟨#[49, 50]⟩) = ⟨#[0, 49, 0, 50]⟩ := by
  have : ofS (Sb [49, 50]) = .ok [0, 49, 0, 50] := by kernel_rfl
  show ofFst (ofS (Sb [49, 50])) = _
  rw [this]; rfl
theorem op_newV (w : World) (k : Int) (x : Nat) (s : ByteArray) (r : Int) : CellV (w.alloc (.cells #[.int .i64 k, .float .f64 x, .string s, .int .i64 r] 26)) w.heap.size k x s r := by constructor <;> first | (simp; done) | (simp; omega)
theorem op_allocV {w : World} {b : Nat} {k : Int} {x : Nat} {s : ByteArray} {r : Int} (h : CellV w b k x s r) (o : Obj) : CellV (w.alloc o) b k x s r := h.below ((Below.refl _ _).alloc (Nat.le_refl _) _)
theorem op_two : textV 3 4611686018427387904 ⟨#[]⟩ = ⟨#[0, 50]⟩ := by
  have e : showB 4611686018427387904 = [50] := by kernel_rfl
  unfold textV
  rw [show kd 3 = 3 from rfl, e]
  have : ofS (Sb [50]) = .ok [0, 50] := by kernel_rfl
  show ofFst (ofS (Sb [50])) = _
  rw [this]; rfl
theorem op_plus (w : World) (hl : Hid (Laid w)) : Calls Tryz.prog 7 #[.string ⟨#[43]⟩, .agg #[.int .i64 4, .float .f64 0, .string ⟨#[0, 49]⟩, .int .i64 0], .agg #[.int .i64 3, .float .f64 4611686018427387904, .string ⟨#[]⟩, .int .i64 0]] w fun e w' => ∃ kr xr sr rr, e = .returned (.tuple #[.agg #[.int .i64 kr, .float .f64 xr, .string sr, .int .i64 rr], .int .i64 0]) ∧ (kr = 4 ∧ xr = 0 ∧ sr = ⟨#[0, 49, 0, 50]⟩ ∧ rr = 0) ∧ Below w.heap.size w w' :=
  bin_plus_t 4 0 ⟨#[0, 49]⟩ 0 3 4611686018427387904 ⟨#[]⟩ 0 ⟨#[0, 49]⟩ ⟨#[0, 50]⟩ ⟨#[0, 49, 0, 50]⟩ (by decide) (by decide) (.inl rfl)
    (Hid.mk' (writ_text 0 ⟨#[0, 49]⟩ 0)) (Hid.mk' (op_two ▸ writ_other 3 4611686018427387904 ⟨#[]⟩ 0 (by decide) (by decide) (by decide) (by decide)))
    (Hid.mk' (fun v W h => by
      have q := join_yes [⟨#[0, 49]⟩, ⟨#[0, 50]⟩] (by decide) (by intro s hs; simp only [List.mem_cons, List.not_mem_nil, or_false] at hs; rcases hs with rfl | rfl <;> decide) v W h (by decide)
      have e : joinYes [⟨#[0, 49]⟩, ⟨#[0, 50]⟩] = .returned (.tuple #[.string ⟨#[0, 49, 0, 50]⟩, .int .i64 0]) := by kernel_rfl
      rw [e] at q
      exact q)) w hl
theorem op_minus (w : World) (hl : Hid (Laid w)) : Calls Tryz.prog 7 #[.string ⟨#[45]⟩, .agg #[.int .i64 4, .float .f64 0, .string ⟨#[0, 51]⟩, .int .i64 0], .agg #[.int .i64 3, .float .f64 4607182418800017408, .string ⟨#[]⟩, .int .i64 0]] w fun e w' => ∃ kr xr sr rr, e = .returned (.tuple #[.agg #[.int .i64 kr, .float .f64 xr, .string sr, .int .i64 rr], .int .i64 0]) ∧ (kr = 3 ∧ sr = ⟨#[]⟩ ∧ rr = 0 ∧ FR (FloatKind.f64.format.sub 4613937818241073152 4607182418800017408) xr) ∧ Below w.heap.size w w' :=
  bin_minus_n 4 0 ⟨#[0, 51]⟩ 0 3 4607182418800017408 ⟨#[]⟩ 0 4613937818241073152 4607182418800017408 (by decide) (by decide)
    (Hid.mk' (fun W hW => number_t ⟨#[0, 51]⟩ 4613937818241073152 (Hid.mk' (fun X hX => read_e3 X hX)) W (Hid.mk' hW.out.n))) (Hid.mk' (number_n 4607182418800017408 ⟨#[]⟩ 0)) w hl
theorem op_flip (w : World) (hl : Hid (Laid w)) : Calls Tryz.prog 11 #[.string ⟨#[126]⟩, .agg #[.int .i64 3, .float .f64 0, .string ⟨#[]⟩, .int .i64 0]] w fun e w' => ∃ kr xr sr rr, e = .returned (.tuple #[.agg #[.int .i64 kr, .float .f64 xr, .string sr, .int .i64 rr], .int .i64 0]) ∧ (xr = 13830554455654793216) ∧ Below w.heap.size w w' :=
  un_sign _ 53 (enters_of Tryz.func53 (by kernel_rfl) rfl) 3 0 ⟨#[]⟩ 0 (fun kr xr sr rr => xr = 13830554455654793216) (by decide) (Hid.mk' (fun W hW => flip_zero W hW)) (by decide) w hl
set_option maxHeartbeats 4000000 in
set_option maxRecDepth 100000 in
theorem awake19 (w : World) (hl : Hid (Laid w)) : Calls Tryz.prog 6 #[] w fun e w' => e = .returned (.bool true) ∧ Below w.heap.size w w' := by
  have c0 : Below w.heap.size w w := Below.refl _ _
  have HA1 := Hid.mk' (fun W => rasciiV_any ⟨#[49]⟩ ⟨#[0, 49]⟩ op_asc_1 W (by decide))
  have HA3 := Hid.mk' (fun W => rasciiV_any ⟨#[51]⟩ ⟨#[0, 51]⟩ op_asc_3 W (by decide))
  have HA12 := Hid.mk' (fun W => rasciiV_any ⟨#[49, 50]⟩ ⟨#[0, 49, 0, 50]⟩ op_asc_12 W (by decide))
  have HNM := Hid.mk' (fun f W => rnum_any f W)
  have HPL := Hid.mk' (fun W (hW : Hid (Laid W)) => op_plus W hW)
  have HMI := Hid.mk' (fun W (hW : Hid (Laid W)) => op_minus W hW)
  have HFL := Hid.mk' (fun W (hW : Hid (Laid W)) => op_flip W hW)
  have HHI := Hid.mk' (fun W => hint_plus W)
  have heq : ∀ W, (binOp .eql 26 (.agg #[.int .i64 4, .float .f64 0, .string ⟨#[0, 49, 0, 50]⟩, .int .i64 0]) (.agg #[.int .i64 4, .float .f64 0, .string ⟨#[0, 49, 0, 50]⟩, .int .i64 0])).run Tryz.prog W = .ok (.bool true) W := fun W => by kernel_rfl
  have q1 : (FloatKind.f64.format.order 4611686018427387904 4611686018427387904 == some Ordering.eq) = true := by decide
  have q2 : (FloatKind.f64.format.order 13830554455654793216 13830554455654793216 == some Ordering.eq) = true := by decide
  have q3 : FloatKind.f64.format.sub 4613937818241073152 4607182418800017408 = some 4611686018427387904 := by kernel_rfl
  go_enter Tryz.func6, Tryz.ntmps6
  go_wp2_with fail
  refine (HA1.out _).mono ?_
  rintro e w1 ⟨rfl, b1⟩
  have c1 : Below w.heap.size w w1 := bl_chain (by (repeat' (first | (with_reducible exact Below.refl _ _) | (with_reducible assumption) | (with_reducible refine Below.drew ?_) | (with_reducible refine below_drewN ?_ _) | (with_reducible refine Below.alloc ?_ ?_ _) | (with_reducible refine Below.setCell ?_ ?_ _) | exact Below.size (show Below w.heap.size w _ by assumption) | (simp; done) | (simp; omega)))) b1
  have hl1 : Hid (Laid w1) := Hid.mk' (hl.out.below c1)
  clear b1
  go_wp2_with fail
  refine (HNM.out _ _).mono ?_
  rintro e w2 ⟨rfl, b2⟩
  have c2 : Below w.heap.size w w2 := bl_chain (by (repeat' (first | (with_reducible exact Below.refl _ _) | (with_reducible assumption) | (with_reducible refine Below.drew ?_) | (with_reducible refine below_drewN ?_ _) | (with_reducible refine Below.alloc ?_ ?_ _) | (with_reducible refine Below.setCell ?_ ?_ _) | exact Below.size (show Below w.heap.size w _ by assumption) | (simp; done) | (simp; omega)))) b2
  have hl2 : Hid (Laid w2) := Hid.mk' (hl.out.below c2)
  clear b2
  go_wp2_with fail
  refine (HPL.out _ (Hid.mk' (hl.out.below (by (repeat' (first | (with_reducible exact Below.refl _ _) | (with_reducible assumption) | (with_reducible refine Below.drew ?_) | (with_reducible refine below_drewN ?_ _) | (with_reducible refine Below.alloc ?_ ?_ _) | (with_reducible refine Below.setCell ?_ ?_ _) | exact Below.size (show Below w.heap.size w _ by assumption) | (simp; done) | (simp; omega))))))).mono ?_
  rintro e w3 ⟨kr, xr, sr, rr, rfl, ⟨rfl, rfl, rfl, rfl⟩, b3⟩
  have c3 : Below w.heap.size w w3 := bl_chain (by (repeat' (first | (with_reducible exact Below.refl _ _) | (with_reducible assumption) | (with_reducible refine Below.drew ?_) | (with_reducible refine below_drewN ?_ _) | (with_reducible refine Below.alloc ?_ ?_ _) | (with_reducible refine Below.setCell ?_ ?_ _) | exact Below.size (show Below w.heap.size w _ by assumption) | (simp; done) | (simp; omega)))) b3
  have hl3 : Hid (Laid w3) := Hid.mk' (hl.out.below c3)
  clear b3
  go_wp2_with fail
  refine (HA3.out _).mono ?_
  rintro e w4 ⟨rfl, b4⟩
  have c4 : Below w.heap.size w w4 := bl_chain (by (repeat' (first | (with_reducible exact Below.refl _ _) | (with_reducible assumption) | (with_reducible refine Below.drew ?_) | (with_reducible refine below_drewN ?_ _) | (with_reducible refine Below.alloc ?_ ?_ _) | (with_reducible refine Below.setCell ?_ ?_ _) | exact Below.size (show Below w.heap.size w _ by assumption) | (simp; done) | (simp; omega)))) b4
  have hl4 : Hid (Laid w4) := Hid.mk' (hl.out.below c4)
  have BA4 : CellV w4 w3.heap.size 4 0 ⟨#[0, 49, 0, 50]⟩ 0 := CellV.below (by first | (with_reducible assumption) | (with_reducible exact op_newV _ _ _ _ _) | (with_reducible refine op_allocV ?_ _; assumption) | (with_reducible refine CellV.drew ?_; assumption)) b4
  obtain ⟨-, BA40, BA41, BA42, BA43⟩ := id BA4
  clear b4
  go_wp2_with fail
  refine (HNM.out _ _).mono ?_
  rintro e w5 ⟨rfl, b5⟩
  have c5 : Below w.heap.size w w5 := bl_chain (by (repeat' (first | (with_reducible exact Below.refl _ _) | (with_reducible assumption) | (with_reducible refine Below.drew ?_) | (with_reducible refine below_drewN ?_ _) | (with_reducible refine Below.alloc ?_ ?_ _) | (with_reducible refine Below.setCell ?_ ?_ _) | exact Below.size (show Below w.heap.size w _ by assumption) | (simp; done) | (simp; omega)))) b5
  have hl5 : Hid (Laid w5) := Hid.mk' (hl.out.below c5)
  have BA5 : CellV w5 w3.heap.size 4 0 ⟨#[0, 49, 0, 50]⟩ 0 := CellV.below (by first | (with_reducible assumption) | (with_reducible exact op_newV _ _ _ _ _) | (with_reducible refine op_allocV ?_ _; assumption) | (with_reducible refine CellV.drew ?_; assumption)) b5
  obtain ⟨-, BA50, BA51, BA52, BA53⟩ := id BA5
  clear b5
  go_wp2_with fail
  refine (HMI.out _ (Hid.mk' (hl.out.below (by (repeat' (first | (with_reducible exact Below.refl _ _) | (with_reducible assumption) | (with_reducible refine Below.drew ?_) | (with_reducible refine below_drewN ?_ _) | (with_reducible refine Below.alloc ?_ ?_ _) | (with_reducible refine Below.setCell ?_ ?_ _) | exact Below.size (show Below w.heap.size w _ by assumption) | (simp; done) | (simp; omega))))))).mono ?_
  rintro e w6 ⟨kr, xr, sr, rr, rfl, ⟨rfl, rfl, rfl, hf⟩, b6⟩
  have c6 : Below w.heap.size w w6 := bl_chain (by (repeat' (first | (with_reducible exact Below.refl _ _) | (with_reducible assumption) | (with_reducible refine Below.drew ?_) | (with_reducible refine below_drewN ?_ _) | (with_reducible refine Below.alloc ?_ ?_ _) | (with_reducible refine Below.setCell ?_ ?_ _) | exact Below.size (show Below w.heap.size w _ by assumption) | (simp; done) | (simp; omega)))) b6
  have hl6 : Hid (Laid w6) := Hid.mk' (hl.out.below c6)
  have BA6 : CellV w6 w3.heap.size 4 0 ⟨#[0, 49, 0, 50]⟩ 0 := CellV.below (by first | (with_reducible assumption) | (with_reducible exact op_newV _ _ _ _ _) | (with_reducible refine op_allocV ?_ _; assumption) | (with_reducible refine CellV.drew ?_; assumption)) b6
  obtain ⟨-, BA60, BA61, BA62, BA63⟩ := id BA6
  obtain rfl := hf.1 _ q3
  clear hf
  clear b6
  go_wp2_with fail
  refine (HNM.out _ _).mono ?_
  rintro e w7 ⟨rfl, b7⟩
  have c7 : Below w.heap.size w w7 := bl_chain (by (repeat' (first | (with_reducible exact Below.refl _ _) | (with_reducible assumption) | (with_reducible refine Below.drew ?_) | (with_reducible refine below_drewN ?_ _) | (with_reducible refine Below.alloc ?_ ?_ _) | (with_reducible refine Below.setCell ?_ ?_ _) | exact Below.size (show Below w.heap.size w _ by assumption) | (simp; done) | (simp; omega)))) b7
  have hl7 : Hid (Laid w7) := Hid.mk' (hl.out.below c7)
  have BA7 : CellV w7 w3.heap.size 4 0 ⟨#[0, 49, 0, 50]⟩ 0 := CellV.below (by first | (with_reducible assumption) | (with_reducible exact op_newV _ _ _ _ _) | (with_reducible refine op_allocV ?_ _; assumption) | (with_reducible refine CellV.drew ?_; assumption)) b7
  obtain ⟨-, BA70, BA71, BA72, BA73⟩ := id BA7
  have BB7 : CellV w7 w6.heap.size 3 4611686018427387904 ⟨#[]⟩ 0 := CellV.below (by first | (with_reducible assumption) | (with_reducible exact op_newV _ _ _ _ _) | (with_reducible refine op_allocV ?_ _; assumption) | (with_reducible refine CellV.drew ?_; assumption)) b7
  obtain ⟨-, BB70, BB71, BB72, BB73⟩ := id BB7
  clear b7
  go_wp2_with fail
  refine (HFL.out _ (Hid.mk' (hl.out.below (by (repeat' (first | (with_reducible exact Below.refl _ _) | (with_reducible assumption) | (with_reducible refine Below.drew ?_) | (with_reducible refine below_drewN ?_ _) | (with_reducible refine Below.alloc ?_ ?_ _) | (with_reducible refine Below.setCell ?_ ?_ _) | exact Below.size (show Below w.heap.size w _ by assumption) | (simp; done) | (simp; omega))))))).mono ?_
  rintro e w8 ⟨kc, xr, sc, rc, rfl, rfl, b8⟩
  have c8 : Below w.heap.size w w8 := bl_chain (by (repeat' (first | (with_reducible exact Below.refl _ _) | (with_reducible assumption) | (with_reducible refine Below.drew ?_) | (with_reducible refine below_drewN ?_ _) | (with_reducible refine Below.alloc ?_ ?_ _) | (with_reducible refine Below.setCell ?_ ?_ _) | exact Below.size (show Below w.heap.size w _ by assumption) | (simp; done) | (simp; omega)))) b8
  have hl8 : Hid (Laid w8) := Hid.mk' (hl.out.below c8)
  have BA8 : CellV w8 w3.heap.size 4 0 ⟨#[0, 49, 0, 50]⟩ 0 := CellV.below (by first | (with_reducible assumption) | (with_reducible exact op_newV _ _ _ _ _) | (with_reducible refine op_allocV ?_ _; assumption) | (with_reducible refine CellV.drew ?_; assumption)) b8
  obtain ⟨-, BA80, BA81, BA82, BA83⟩ := id BA8
  have BB8 : CellV w8 w6.heap.size 3 4611686018427387904 ⟨#[]⟩ 0 := CellV.below (by first | (with_reducible assumption) | (with_reducible exact op_newV _ _ _ _ _) | (with_reducible refine op_allocV ?_ _; assumption) | (with_reducible refine CellV.drew ?_; assumption)) b8
  obtain ⟨-, BB80, BB81, BB82, BB83⟩ := id BB8
  clear b8
  go_wp2_with fail
  have BA9 : CellV (w8.alloc (.cells #[.int .i64 kc, .float .f64 13830554455654793216, .string sc, .int .i64 rc] 26)) w3.heap.size 4 0 ⟨#[0, 49, 0, 50]⟩ 0 := op_allocV BA8 _
  have BB9 : CellV (w8.alloc (.cells #[.int .i64 kc, .float .f64 13830554455654793216, .string sc, .int .i64 rc] 26)) w6.heap.size 3 4611686018427387904 ⟨#[]⟩ 0 := op_allocV BB8 _
  have BC9 : CellV (w8.alloc (.cells #[.int .i64 kc, .float .f64 13830554455654793216, .string sc, .int .i64 rc] 26)) w8.heap.size kc 13830554455654793216 sc rc := op_newV _ _ _ _ _
  have c9 : Below w.heap.size w (w8.alloc (.cells #[.int .i64 kc, .float .f64 13830554455654793216, .string sc, .int .i64 rc] 26)) := by (repeat' (first | (with_reducible exact Below.refl _ _) | (with_reducible assumption) | (with_reducible refine Below.drew ?_) | (with_reducible refine below_drewN ?_ _) | (with_reducible refine Below.alloc ?_ ?_ _) | (with_reducible refine Below.setCell ?_ ?_ _) | exact Below.size (show Below w.heap.size w _ by assumption) | (simp; done) | (simp; omega)))
  generalize (w8.alloc (.cells #[.int .i64 kc, .float .f64 13830554455654793216, .string sc, .int .i64 rc] 26)) = w9 at BA9 BB9 BC9 c9 ⊢
  obtain ⟨-, BA90, BA91, BA92, BA93⟩ := id BA9
  obtain ⟨-, BB90, BB91, BB92, BB93⟩ := id BB9
  obtain ⟨-, BC90, BC91, BC92, BC93⟩ := id BC9
  go_region_held3 (fun w' => w'.cell? ⟨w3.heap.size, 0, none⟩ = some (.int .i64 4) ∧ w'.cell? ⟨w3.heap.size, 1, none⟩ = some (.float .f64 0) ∧ w'.cell? ⟨w3.heap.size, 2, none⟩ = some (.string ⟨#[0, 49, 0, 50]⟩) ∧ w'.cell? ⟨w3.heap.size, 3, none⟩ = some (.int .i64 0) ∧ w'.cell? ⟨w6.heap.size, 1, none⟩ = some (.float .f64 4611686018427387904) ∧ w'.cell? ⟨w8.heap.size, 1, none⟩ = some (.float .f64 13830554455654793216)) (go_keep) (first | (go_at_call 13; (with_reducible refine (HA12.out _).mono ?_; rintro e w10 ⟨rfl, b10⟩; have c10 : Below w.heap.size w w10 := bl_chain (by (repeat' (first | (with_reducible exact Below.refl _ _) | (with_reducible assumption) | (with_reducible refine Below.drew ?_) | (with_reducible refine below_drewN ?_ _) | (with_reducible refine Below.alloc ?_ ?_ _) | (with_reducible refine Below.setCell ?_ ?_ _) | exact Below.size (show Below w.heap.size w _ by assumption) | (simp; done) | (simp; omega)))) b10; have BA10 : CellV w10 w3.heap.size 4 0 ⟨#[0, 49, 0, 50]⟩ 0 := CellV.below (by first | (with_reducible assumption) | (with_reducible exact op_newV _ _ _ _ _) | (with_reducible refine op_allocV ?_ _; assumption) | (with_reducible refine CellV.drew ?_; assumption)) b10; obtain ⟨-, BA100, BA101, BA102, BA103⟩ := id BA10; have BB10 : CellV w10 w6.heap.size 3 4611686018427387904 ⟨#[]⟩ 0 := CellV.below (by first | (with_reducible assumption) | (with_reducible exact op_newV _ _ _ _ _) | (with_reducible refine op_allocV ?_ _; assumption) | (with_reducible refine CellV.drew ?_; assumption)) b10; obtain ⟨-, BB100, BB101, BB102, BB103⟩ := id BB10; have BC10 : CellV w10 w8.heap.size kc 13830554455654793216 sc rc := CellV.below (by first | (with_reducible assumption) | (with_reducible exact op_newV _ _ _ _ _) | (with_reducible refine op_allocV ?_ _; assumption) | (with_reducible refine CellV.drew ?_; assumption)) b10; obtain ⟨-, BC100, BC101, BC102, BC103⟩ := id BC10; clear b10)) | (go_at_call 14; (with_reducible refine (HHI.out _).mono ?_; rintro e w11 ⟨rfl, b11⟩; have c11 : Below w.heap.size w w11 := bl_chain (by (repeat' (first | (with_reducible exact Below.refl _ _) | (with_reducible assumption) | (with_reducible refine Below.drew ?_) | (with_reducible refine below_drewN ?_ _) | (with_reducible refine Below.alloc ?_ ?_ _) | (with_reducible refine Below.setCell ?_ ?_ _) | exact Below.size (show Below w.heap.size w _ by assumption) | (simp; done) | (simp; omega)))) b11; have BA11 : CellV w11 w3.heap.size 4 0 ⟨#[0, 49, 0, 50]⟩ 0 := CellV.below (by first | (with_reducible assumption) | (with_reducible exact op_newV _ _ _ _ _) | (with_reducible refine op_allocV ?_ _; assumption) | (with_reducible refine CellV.drew ?_; assumption)) b11; obtain ⟨-, BA110, BA111, BA112, BA113⟩ := id BA11; have BB11 : CellV w11 w6.heap.size 3 4611686018427387904 ⟨#[]⟩ 0 := CellV.below (by first | (with_reducible assumption) | (with_reducible exact op_newV _ _ _ _ _) | (with_reducible refine op_allocV ?_ _; assumption) | (with_reducible refine CellV.drew ?_; assumption)) b11; obtain ⟨-, BB110, BB111, BB112, BB113⟩ := id BB11; have BC11 : CellV w11 w8.heap.size kc 13830554455654793216 sc rc := CellV.below (by first | (with_reducible assumption) | (with_reducible exact op_newV _ _ _ _ _) | (with_reducible refine op_allocV ?_ _; assumption) | (with_reducible refine CellV.drew ?_; assumption)) b11; obtain ⟨-, BC110, BC111, BC112, BC113⟩ := id BC11; clear b11)))
  all_goals go_wp2
  all_goals go_ret
  all_goals exact ⟨rfl, by (repeat' (first | (with_reducible exact Below.refl _ _) | (with_reducible assumption) | (with_reducible refine Below.drew ?_) | (with_reducible refine below_drewN ?_ _) | (with_reducible refine Below.alloc ?_ ?_ _) | (with_reducible refine Below.setCell ?_ ?_ _) | exact Below.size (show Below w.heap.size w _ by assumption) | (simp; done) | (simp; omega)))⟩
end Go.Proofs.YtbkkkpfoaggejaaGreatDoor
