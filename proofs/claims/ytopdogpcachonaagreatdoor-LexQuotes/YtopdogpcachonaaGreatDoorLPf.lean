/- internal/strconv.ParseFloat at the text 0.15e1. -/
import Derived.Test.YtopdogpcachonaaGreatDoorDecP
import Derived.Test.YtopdogpcachonaaGreatDoorLFt
import Derived.WalkMore
import Derived.Handy
namespace Go.Proofs.YtopdogpcachonaaGreatDoor
set_option linter.unusedVariables false
open Go.RowKit Fl

/-- The text 0.15e1. -/
structure Is1 (s : ByteArray) : Prop where
  sz : (s.size : Int) = 6
  z0 : PlainAid.bt s 0 = 48
  z1 : PlainAid.bt s 1 = 46
  z2 : PlainAid.bt s 2 = 49
  z3 : PlainAid.bt s 3 = 53
  z4 : PlainAid.bt s 4 = 101
  z5 : PlainAid.bt s 5 = 49
set_option maxHeartbeats 4000000 in
set_option maxRecDepth 100000 in
theorem readFloat_l (s : ByteArray) (h : Is1 s) (w : World) : Calls Tryz.prog 158 #[.string s] w fun e w' => e = .returned (.tuple #[.int .u64 15, .int .i64 (-1), .bool false, .bool false, .bool false, .int .i64 6, .bool true]) ∧ w' = w := by
  obtain ⟨sz, z0, z1, z2, z3, z4, z5⟩ := h
  have hbt := PlainAid.get_bt s
  have l1 : bits .or .u8 46 32 = 46 := by decide
  have l2 : bits .or .u8 101 32 = 101 := by decide
  have l3 : bits .or .u8 49 32 = 49 := by decide
  have l4 : bits .or .u8 53 32 = 53 := by decide
  go_enter Tryz.func158, Tryz.ntmps158
  go_wp2
  go_step3
  go_wp2
  go_step3
  go_wp2
  go_rounds 8
  go_rounds 3
  rw [Exit.noGoto_ret]
  exact bodyPost_ret (v := .tuple #[.int .u64 15, .int .i64 (-1), .bool false, .bool false, .bool false, .int .i64 6, .bool true]) (by simp [results, Tryz.results158, go_sem]) rfl ⟨rfl, rfl⟩
set_option maxHeartbeats 1000000 in
set_option maxRecDepth 100000 in
theorem special_l (s : ByteArray) (h : Is1 s) (w : World) : Calls Tryz.prog 157 #[.string s] w fun e w' => e = .returned (.tuple #[.float .f64 0, .int .i64 0, .bool false]) ∧ w' = w := by
  obtain ⟨sz, z0, z1, z2, z3, z4, z5⟩ := h
  have hbt := PlainAid.get_bt s
  go_enter Tryz.func157, Tryz.ntmps157
  go_wp2
  go_returns
  exact ⟨rfl, rfl⟩
section
open Go.RowKit Fl

set_option maxHeartbeats 1000000 in
set_option maxRecDepth 100000 in
theorem exact_l (w : World) (hl : LaidN w) : Calls Tryz.prog 168 #[.int .u64 15, .int .i64 (-1), .bool false] w fun e w' => e = .returned (.tuple #[.float .f64 4609434218613702656, .bool true]) ∧ ∃ n, w' = w.drewN n := by
  have c0 := hl.info.1
  obtain ⟨b, o, c, c1, c2⟩ := hl.f64p
  have c3 := c2 1 (by omega)
  rw [show p10L.getD 1 0 = 4621819117588971520 from rfl] at c3
  have f1 : floatOfInt .f64 15 = 4624633867356078080 := by decide
  have hm : ∀ W, (binOp .quo 29 (.float .f64 4624633867356078080) (.float .f64 4621819117588971520)).run Tryz.prog W = .ok (.float .f64 4609434218613702656) W := fun W => lquo 29 4624633867356078080 4621819117588971520 4609434218613702656 W (by decide)
  clear hl c2
  go_enter Tryz.func168, Tryz.ntmps168
  go_wp2
  go_ret2
  exact ⟨rfl, 0, rfl⟩
set_option maxHeartbeats 1000000 in
set_option maxRecDepth 100000 in
theorem atof_l (s : ByteArray) (h : Is1 s) (w : World) (hl : LaidN w) : Calls Tryz.prog 136 #[.string s] w fun e w' => e = .returned (.tuple #[.float .f64 4609434218613702656, .int .i64 6, .nilIface]) ∧ ∃ n, w' = w.drewN n := by
  have HS := Hid.mk' (fun W => special_l s h W)
  have HR := Hid.mk' (fun W => readFloat_l s h W)
  have HE := Hid.mk' (exact_l w hl)
  have c0 := hl.opt
  clear h hl
  go_enter Tryz.func136, Tryz.ntmps136
  go_wp2_with (first | (go_at_call 157; refine (HS.out _).mono ?_; rintro e w1 ⟨rfl, hw1⟩; rw [hw1]; clear hw1 w1) | (go_at_call 158; refine (HR.out _).mono ?_; rintro e w1 ⟨rfl, hw1⟩; rw [hw1]; clear hw1 w1) | (go_at_call 166; refine (lbool2 _ _).mono ?_; rintro e w1 ⟨rfl, hw1⟩; rw [hw1]; clear hw1 w1))
  refine HE.out.mono ?_
  rintro e w1 ⟨rfl, n1, hw1⟩
  rw [hw1]; clear hw1 w1
  go_wp2
  go_ret3
  exact ⟨rfl, _, rfl⟩
set_option maxHeartbeats 1000000 in
theorem pfix_l (s : ByteArray) (h : Is1 s) (w : World) (hl : LaidN w) : Calls Tryz.prog 110 #[.string s, .int .i64 64] w fun e w' => e = .returned (.tuple #[.float .f64 4609434218613702656, .int .i64 6, .nilIface]) ∧ ∃ n, w' = w.drewN n := by
  have HE := Hid.mk' (atof_l s h w hl)
  clear h hl
  go_enter Tryz.func110, Tryz.ntmps110
  go_wp2_with fail
  refine HE.out.mono ?_
  rintro e w1 ⟨rfl, n1, hw1⟩
  rw [hw1]; clear hw1 w1
  go_wp2
  go_ret3
  exact ⟨rfl, _, rfl⟩
set_option maxHeartbeats 1000000 in
theorem pfin_l (s : ByteArray) (h : Is1 s) (w : World) (hl : LaidN w) : Calls Tryz.prog 92 #[.string s, .int .i64 64] w fun e w' => e = .returned (.tuple #[.float .f64 4609434218613702656, .nilIface]) ∧ ∃ n, w' = w.drewN n := by
  have HE := Hid.mk' (pfix_l s h w hl)
  have sz := h.sz
  clear h hl
  go_enter Tryz.func92, Tryz.ntmps92
  go_wp2_with fail
  refine HE.out.mono ?_
  rintro e w1 ⟨rfl, n1, hw1⟩
  rw [hw1]; clear hw1 w1
  go_wp2
  go_ret2
  exact ⟨rfl, _, rfl⟩
set_option maxHeartbeats 1000000 in
theorem pf_l (s : ByteArray) (h : Is1 s) (w : World) (hl : LaidN w) : Calls Tryz.prog 74 #[.string s, .int .i64 64] w fun e w' => e = .returned (.tuple #[.float .f64 4609434218613702656, .nilIface]) ∧ ∃ n, w' = w.drewN n := by
  have HE := Hid.mk' (pfin_l s h w hl)
  clear h hl
  go_enter Tryz.func74, Tryz.ntmps74
  go_wp2_with fail
  refine HE.out.mono ?_
  rintro e w1 ⟨rfl, n1, hw1⟩
  rw [hw1]; clear hw1 w1
  go_wp2
  go_ret2
  exact ⟨rfl, _, rfl⟩
end
end Go.Proofs.YtopdogpcachonaaGreatDoor
