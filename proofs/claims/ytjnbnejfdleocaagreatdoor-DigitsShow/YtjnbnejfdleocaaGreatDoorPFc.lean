/- internal/strconv.ParseFloat at the one text that the chapter's examples come to. -/
import Derived.Test.YtjnbnejfdleocaaGreatDoorNear
import Derived.WalkMore
namespace Go.Proofs.YtjnbnejfdleocaaGreatDoor
set_option linter.unusedVariables false
open Go.RowKit Fl

/-- The text 0.15e4. -/
structure Is15 (s : ByteArray) : Prop where
  sz : (s.size : Int) = 6
  z0 : PlainAid.bt s 0 = 48
  z1 : PlainAid.bt s 1 = 46
  z2 : PlainAid.bt s 2 = 49
  z3 : PlainAid.bt s 3 = 53
  z4 : PlainAid.bt s 4 = 101
  z5 : PlainAid.bt s 5 = 52
set_option maxHeartbeats 4000000 in
set_option maxRecDepth 100000 in
theorem readFloat_c (s : ByteArray) (h : Is15 s) (w : World) : Calls Tryz.prog 195 #[.string s] w fun e w' => e = .returned (.tuple #[.int .u64 15, .int .i64 2, .bool false, .bool false, .bool false, .int .i64 6, .bool true]) ∧ w' = w := by
  obtain ⟨sz, z0, z1, z2, z3, z4, z5⟩ := h
  have hbt := PlainAid.get_bt s
  have l1 : bits .or .u8 46 32 = 46 := by decide
  have l2 : bits .or .u8 101 32 = 101 := by decide
  have l3 : bits .or .u8 49 32 = 49 := by decide
  have l4 : bits .or .u8 53 32 = 53 := by decide
  go_enter Tryz.func195, Tryz.ntmps195
  go_wp2
  go_step3
  go_wp2
  go_step3
  go_wp2
  go_rounds 8
  go_rounds 3
  rw [Exit.noGoto_ret]
  exact bodyPost_ret (v := .tuple #[.int .u64 15, .int .i64 2, .bool false, .bool false, .bool false, .int .i64 6, .bool true]) (by simp [results, Tryz.results195, go_sem]) rfl ⟨rfl, rfl⟩
set_option maxHeartbeats 1000000 in
set_option maxRecDepth 100000 in
theorem special_c (s : ByteArray) (h : Is15 s) (w : World) : Calls Tryz.prog 194 #[.string s] w fun e w' => e = .returned (.tuple #[.float .f64 0, .int .i64 0, .bool false]) ∧ w' = w := by
  obtain ⟨sz, z0, z1, z2, z3, z4, z5⟩ := h
  have hbt := PlainAid.get_bt s
  go_enter Tryz.func194, Tryz.ntmps194
  go_wp2
  go_returns
  exact ⟨rfl, rfl⟩
section
open Go.RowKit Fl

set_option maxHeartbeats 1000000 in
set_option maxRecDepth 100000 in
theorem exact_c (w : World) (hl : Laid w) : Calls Tryz.prog 204 #[.int .u64 15, .int .i64 2, .bool false] w fun e w' => e = .returned (.tuple #[.float .f64 4654311885213007872, .bool true]) ∧ ∃ n, w' = w.drewN n := by
  have c0 := hl.info.1
  obtain ⟨b, o, c, c1, c2⟩ := hl.f64p
  have c3 := c2 2 (by omega)
  rw [show p10L.getD 2 0 = 4636737291354636288 from rfl] at c3
  have f1 : floatOfInt .f64 15 = 4624633867356078080 := by decide
  have g1 : (FloatKind.f64.format.order 4624633867356078080 4831355200913801216 == some Ordering.gt) = false := by decide
  have g2 : (FloatKind.f64.format.order 4624633867356078080 14054727237768577024 == some Ordering.lt) = false := by decide
  have hm : ∀ W, (binOp .mul 22 (.float .f64 4624633867356078080) (.float .f64 4636737291354636288)).run Tryz.prog W = .ok (.float .f64 4654311885213007872) W := fun W => run_mul 22 4624633867356078080 4636737291354636288 4654311885213007872 W (by decide)
  clear hl c2
  go_enter Tryz.func204, Tryz.ntmps204
  go_wp2
  all_goals go_ways
  go_ret2
  exact ⟨rfl, 0, rfl⟩
set_option maxHeartbeats 1000000 in
set_option maxRecDepth 100000 in
theorem atof_c (s : ByteArray) (h : Is15 s) (w : World) (hl : Laid w) : Calls Tryz.prog 186 #[.string s] w fun e w' => e = .returned (.tuple #[.float .f64 4654311885213007872, .int .i64 6, .nilIface]) ∧ ∃ n, w' = w.drewN n := by
  have HS := Hid.mk' (fun W => special_c s h W)
  have HR := Hid.mk' (fun W => readFloat_c s h W)
  have HE := Hid.mk' (exact_c w hl)
  have c0 := hl.opt
  clear h hl
  go_enter Tryz.func186, Tryz.ntmps186
  go_wp2_with (first | (go_at_call 194; refine (HS.out _).mono ?_; rintro e w1 ⟨rfl, hw1⟩; rw [hw1]; clear hw1 w1) | (go_at_call 195; refine (HR.out _).mono ?_; rintro e w1 ⟨rfl, hw1⟩; rw [hw1]; clear hw1 w1) | (go_at_call 189; refine (bool2_u64 _ _).mono ?_; rintro e w1 ⟨rfl, hw1⟩; rw [hw1]; clear hw1 w1))
  refine HE.out.mono ?_
  rintro e w1 ⟨rfl, n1, hw1⟩
  rw [hw1]; clear hw1 w1
  go_wp2
  go_ret3
  exact ⟨rfl, _, rfl⟩
set_option maxHeartbeats 1000000 in
theorem pfix_c (s : ByteArray) (h : Is15 s) (w : World) (hl : Laid w) : Calls Tryz.prog 155 #[.string s, .int .i64 64] w fun e w' => e = .returned (.tuple #[.float .f64 4654311885213007872, .int .i64 6, .nilIface]) ∧ ∃ n, w' = w.drewN n := by
  have HE := Hid.mk' (atof_c s h w hl)
  clear h hl
  go_enter Tryz.func155, Tryz.ntmps155
  go_wp2_with fail
  refine HE.out.mono ?_
  rintro e w1 ⟨rfl, n1, hw1⟩
  rw [hw1]; clear hw1 w1
  go_wp2
  go_ret3
  exact ⟨rfl, _, rfl⟩
set_option maxHeartbeats 1000000 in
theorem pfin_c (s : ByteArray) (h : Is15 s) (w : World) (hl : Laid w) : Calls Tryz.prog 118 #[.string s, .int .i64 64] w fun e w' => e = .returned (.tuple #[.float .f64 4654311885213007872, .nilIface]) ∧ ∃ n, w' = w.drewN n := by
  have HE := Hid.mk' (pfix_c s h w hl)
  have sz := h.sz
  clear h hl
  go_enter Tryz.func118, Tryz.ntmps118
  go_wp2_with fail
  refine HE.out.mono ?_
  rintro e w1 ⟨rfl, n1, hw1⟩
  rw [hw1]; clear hw1 w1
  go_wp2
  go_ret2
  exact ⟨rfl, _, rfl⟩
set_option maxHeartbeats 1000000 in
theorem pf_c (s : ByteArray) (h : Is15 s) (w : World) (hl : Laid w) : Calls Tryz.prog 80 #[.string s, .int .i64 64] w fun e w' => e = .returned (.tuple #[.float .f64 4654311885213007872, .nilIface]) ∧ ∃ n, w' = w.drewN n := by
  have HE := Hid.mk' (pfin_c s h w hl)
  clear h hl
  go_enter Tryz.func80, Tryz.ntmps80
  go_wp2_with fail
  refine HE.out.mono ?_
  rintro e w1 ⟨rfl, n1, hw1⟩
  rw [hw1]; clear hw1 w1
  go_wp2
  go_ret2
  exact ⟨rfl, _, rfl⟩
end
end Go.Proofs.YtjnbnejfdleocaaGreatDoor
