/- internal/strconv.ParseFloat at the texts 0.1e1 and 0.12e2. -/
import Derived.Test.YtbkkkpfoaggejaaGreatDoorDecP
import Derived.Test.YtbkkkpfoaggejaaGreatDoorLFt
import Derived.Test.YtbkkkpfoaggejaaGreatDoorShelf
import Derived.Test.YtbkkkpfoaggejaaGreatDoorTrimP
import Derived.Test.YtbkkkpfoaggejaaGreatDoorText
import Derived.WalkMore
import Derived.Handy
namespace Go.Proofs.YtbkkkpfoaggejaaGreatDoor
set_option linter.unusedVariables false
open Go.RowKit Fl

/-- The text 0.1e1. -/
structure Ise1 (s : ByteArray) : Prop where
  sz : (s.size : Int) = 5
  z0 : PlainAid.bt s 0 = 48
  z1 : PlainAid.bt s 1 = 46
  z2 : PlainAid.bt s 2 = 49
  z3 : PlainAid.bt s 3 = 101
  z4 : PlainAid.bt s 4 = 49
set_option maxHeartbeats 4000000 in
set_option maxRecDepth 100000 in
theorem readFloat_e1 (s : ByteArray) (h : Ise1 s) (w : World) : Calls Tryz.prog 283 #[.string s] w fun e w' => e = .returned (.tuple #[.int .u64 1, .int .i64 0, .bool false, .bool false, .bool false, .int .i64 5, .bool true]) ∧ w' = w := by
  obtain ⟨sz, z0, z1, z2, z3, z4⟩ := h
  have hbt := PlainAid.get_bt s
  have l46 : bits .or .u8 46 32 = 46 := by decide
  have l48 : bits .or .u8 48 32 = 48 := by decide
  have l49 : bits .or .u8 49 32 = 49 := by decide
  have l101 : bits .or .u8 101 32 = 101 := by decide
  go_enter Tryz.func283, Tryz.ntmps283
  go_wp2
  go_step3
  go_wp2
  go_step3
  go_wp2
  go_rounds 8
  go_rounds 3
  rw [Exit.noGoto_ret]
  exact bodyPost_ret (v := .tuple #[.int .u64 1, .int .i64 0, .bool false, .bool false, .bool false, .int .i64 5, .bool true]) (by simp [results, Tryz.results283, go_sem]) rfl ⟨rfl, rfl⟩
set_option maxHeartbeats 4000000 in
set_option maxRecDepth 100000 in
theorem special_e1 (s : ByteArray) (h : Ise1 s) (w : World) : Calls Tryz.prog 282 #[.string s] w fun e w' => e = .returned (.tuple #[.float .f64 0, .int .i64 0, .bool false]) ∧ w' = w := by
  obtain ⟨sz, z0, z1, z2, z3, z4⟩ := h
  have hbt := PlainAid.get_bt s
  go_enter Tryz.func282, Tryz.ntmps282
  go_wp2
  go_returns
  exact ⟨rfl, rfl⟩
set_option maxHeartbeats 4000000 in
set_option maxRecDepth 100000 in
theorem exact_e1 (w : World) (hl : LaidN w) : Calls Tryz.prog 293 #[.int .u64 1, .int .i64 0, .bool false] w fun e w' => e = .returned (.tuple #[.float .f64 4607182418800017408, .bool true]) ∧ ∃ n, w' = w.drewN n := by
  have c0 := hl.info.1
  have f1 : floatOfInt .f64 1 = 4607182418800017408 := by decide
  clear hl
  go_enter Tryz.func293, Tryz.ntmps293
  go_wp2
  go_ret2
  exact ⟨rfl, 0, rfl⟩
set_option maxHeartbeats 4000000 in
set_option maxRecDepth 100000 in
theorem atof_e1 (s : ByteArray) (h : Ise1 s) (w : World) (hl : LaidN w) : Calls Tryz.prog 256 #[.string s] w fun e w' => e = .returned (.tuple #[.float .f64 4607182418800017408, .int .i64 5, .nilIface]) ∧ ∃ n, w' = w.drewN n := by
  have HS := Hid.mk' (fun W => special_e1 s h W)
  have HR := Hid.mk' (fun W => readFloat_e1 s h W)
  have HE := Hid.mk' (exact_e1 w hl)
  have c0 := hl.opt
  clear h hl
  go_enter Tryz.func256, Tryz.ntmps256
  go_wp2_with (first | (go_at_call 282; refine (HS.out _).mono ?_; rintro e w1 ⟨rfl, hw1⟩; rw [hw1]; clear hw1 w1) | (go_at_call 283; refine (HR.out _).mono ?_; rintro e w1 ⟨rfl, hw1⟩; rw [hw1]; clear hw1 w1) | (go_at_call 291; refine (lbool2 _ _).mono ?_; rintro e w1 ⟨rfl, hw1⟩; rw [hw1]; clear hw1 w1))
  refine HE.out.mono ?_
  rintro e w1 ⟨rfl, n1, hw1⟩
  rw [hw1]; clear hw1 w1
  go_wp2
  go_ret3
  exact ⟨rfl, _, rfl⟩
set_option maxHeartbeats 4000000 in
theorem pfix_e1 (s : ByteArray) (h : Ise1 s) (w : World) (hl : LaidN w) : Calls Tryz.prog 231 #[.string s, .int .i64 64] w fun e w' => e = .returned (.tuple #[.float .f64 4607182418800017408, .int .i64 5, .nilIface]) ∧ ∃ n, w' = w.drewN n := by
  have HE := Hid.mk' (atof_e1 s h w hl)
  clear h hl
  go_enter Tryz.func231, Tryz.ntmps231
  go_wp2_with fail
  refine HE.out.mono ?_
  rintro e w1 ⟨rfl, n1, hw1⟩
  rw [hw1]; clear hw1 w1
  go_wp2
  go_ret3
  exact ⟨rfl, _, rfl⟩
set_option maxHeartbeats 4000000 in
theorem pfin_e1 (s : ByteArray) (h : Ise1 s) (w : World) (hl : LaidN w) : Calls Tryz.prog 209 #[.string s, .int .i64 64] w fun e w' => e = .returned (.tuple #[.float .f64 4607182418800017408, .nilIface]) ∧ ∃ n, w' = w.drewN n := by
  have HE := Hid.mk' (pfix_e1 s h w hl)
  have sz := h.sz
  clear h hl
  go_enter Tryz.func209, Tryz.ntmps209
  go_wp2_with fail
  refine HE.out.mono ?_
  rintro e w1 ⟨rfl, n1, hw1⟩
  rw [hw1]; clear hw1 w1
  go_wp2
  go_ret2
  exact ⟨rfl, _, rfl⟩
set_option maxHeartbeats 4000000 in
theorem pf_e1 (s : ByteArray) (h : Ise1 s) (w : World) (hl : LaidN w) : Calls Tryz.prog 177 #[.string s, .int .i64 64] w fun e w' => e = .returned (.tuple #[.float .f64 4607182418800017408, .nilIface]) ∧ ∃ n, w' = w.drewN n := by
  have HE := Hid.mk' (pfin_e1 s h w hl)
  clear h hl
  go_enter Tryz.func177, Tryz.ntmps177
  go_wp2_with fail
  refine HE.out.mono ?_
  rintro e w1 ⟨rfl, n1, hw1⟩
  rw [hw1]; clear hw1 w1
  go_wp2
  go_ret2
  exact ⟨rfl, _, rfl⟩
/-- The text 0.12e2. -/
structure Ise2 (s : ByteArray) : Prop where
  sz : (s.size : Int) = 6
  z0 : PlainAid.bt s 0 = 48
  z1 : PlainAid.bt s 1 = 46
  z2 : PlainAid.bt s 2 = 49
  z3 : PlainAid.bt s 3 = 50
  z4 : PlainAid.bt s 4 = 101
  z5 : PlainAid.bt s 5 = 50
set_option maxHeartbeats 4000000 in
set_option maxRecDepth 100000 in
theorem readFloat_e2 (s : ByteArray) (h : Ise2 s) (w : World) : Calls Tryz.prog 283 #[.string s] w fun e w' => e = .returned (.tuple #[.int .u64 12, .int .i64 0, .bool false, .bool false, .bool false, .int .i64 6, .bool true]) ∧ w' = w := by
  obtain ⟨sz, z0, z1, z2, z3, z4, z5⟩ := h
  have hbt := PlainAid.get_bt s
  have l46 : bits .or .u8 46 32 = 46 := by decide
  have l48 : bits .or .u8 48 32 = 48 := by decide
  have l49 : bits .or .u8 49 32 = 49 := by decide
  have l50 : bits .or .u8 50 32 = 50 := by decide
  have l101 : bits .or .u8 101 32 = 101 := by decide
  go_enter Tryz.func283, Tryz.ntmps283
  go_wp2
  go_step3
  go_wp2
  go_step3
  go_wp2
  go_rounds 8
  go_rounds 3
  rw [Exit.noGoto_ret]
  exact bodyPost_ret (v := .tuple #[.int .u64 12, .int .i64 0, .bool false, .bool false, .bool false, .int .i64 6, .bool true]) (by simp [results, Tryz.results283, go_sem]) rfl ⟨rfl, rfl⟩
set_option maxHeartbeats 4000000 in
set_option maxRecDepth 100000 in
theorem special_e2 (s : ByteArray) (h : Ise2 s) (w : World) : Calls Tryz.prog 282 #[.string s] w fun e w' => e = .returned (.tuple #[.float .f64 0, .int .i64 0, .bool false]) ∧ w' = w := by
  obtain ⟨sz, z0, z1, z2, z3, z4, z5⟩ := h
  have hbt := PlainAid.get_bt s
  go_enter Tryz.func282, Tryz.ntmps282
  go_wp2
  go_returns
  exact ⟨rfl, rfl⟩
set_option maxHeartbeats 4000000 in
set_option maxRecDepth 100000 in
theorem exact_e2 (w : World) (hl : LaidN w) : Calls Tryz.prog 293 #[.int .u64 12, .int .i64 0, .bool false] w fun e w' => e = .returned (.tuple #[.float .f64 4622945017495814144, .bool true]) ∧ ∃ n, w' = w.drewN n := by
  have c0 := hl.info.1
  have f1 : floatOfInt .f64 12 = 4622945017495814144 := by decide
  clear hl
  go_enter Tryz.func293, Tryz.ntmps293
  go_wp2
  go_ret2
  exact ⟨rfl, 0, rfl⟩
set_option maxHeartbeats 4000000 in
set_option maxRecDepth 100000 in
theorem atof_e2 (s : ByteArray) (h : Ise2 s) (w : World) (hl : LaidN w) : Calls Tryz.prog 256 #[.string s] w fun e w' => e = .returned (.tuple #[.float .f64 4622945017495814144, .int .i64 6, .nilIface]) ∧ ∃ n, w' = w.drewN n := by
  have HS := Hid.mk' (fun W => special_e2 s h W)
  have HR := Hid.mk' (fun W => readFloat_e2 s h W)
  have HE := Hid.mk' (exact_e2 w hl)
  have c0 := hl.opt
  clear h hl
  go_enter Tryz.func256, Tryz.ntmps256
  go_wp2_with (first | (go_at_call 282; refine (HS.out _).mono ?_; rintro e w1 ⟨rfl, hw1⟩; rw [hw1]; clear hw1 w1) | (go_at_call 283; refine (HR.out _).mono ?_; rintro e w1 ⟨rfl, hw1⟩; rw [hw1]; clear hw1 w1) | (go_at_call 291; refine (lbool2 _ _).mono ?_; rintro e w1 ⟨rfl, hw1⟩; rw [hw1]; clear hw1 w1))
  refine HE.out.mono ?_
  rintro e w1 ⟨rfl, n1, hw1⟩
  rw [hw1]; clear hw1 w1
  go_wp2
  go_ret3
  exact ⟨rfl, _, rfl⟩
set_option maxHeartbeats 4000000 in
theorem pfix_e2 (s : ByteArray) (h : Ise2 s) (w : World) (hl : LaidN w) : Calls Tryz.prog 231 #[.string s, .int .i64 64] w fun e w' => e = .returned (.tuple #[.float .f64 4622945017495814144, .int .i64 6, .nilIface]) ∧ ∃ n, w' = w.drewN n := by
  have HE := Hid.mk' (atof_e2 s h w hl)
  clear h hl
  go_enter Tryz.func231, Tryz.ntmps231
  go_wp2_with fail
  refine HE.out.mono ?_
  rintro e w1 ⟨rfl, n1, hw1⟩
  rw [hw1]; clear hw1 w1
  go_wp2
  go_ret3
  exact ⟨rfl, _, rfl⟩
set_option maxHeartbeats 4000000 in
theorem pfin_e2 (s : ByteArray) (h : Ise2 s) (w : World) (hl : LaidN w) : Calls Tryz.prog 209 #[.string s, .int .i64 64] w fun e w' => e = .returned (.tuple #[.float .f64 4622945017495814144, .nilIface]) ∧ ∃ n, w' = w.drewN n := by
  have HE := Hid.mk' (pfix_e2 s h w hl)
  have sz := h.sz
  clear h hl
  go_enter Tryz.func209, Tryz.ntmps209
  go_wp2_with fail
  refine HE.out.mono ?_
  rintro e w1 ⟨rfl, n1, hw1⟩
  rw [hw1]; clear hw1 w1
  go_wp2
  go_ret2
  exact ⟨rfl, _, rfl⟩
set_option maxHeartbeats 4000000 in
theorem pf_e2 (s : ByteArray) (h : Ise2 s) (w : World) (hl : LaidN w) : Calls Tryz.prog 177 #[.string s, .int .i64 64] w fun e w' => e = .returned (.tuple #[.float .f64 4622945017495814144, .nilIface]) ∧ ∃ n, w' = w.drewN n := by
  have HE := Hid.mk' (pfin_e2 s h w hl)
  clear h hl
  go_enter Tryz.func177, Tryz.ntmps177
  go_wp2_with fail
  refine HE.out.mono ?_
  rintro e w1 ⟨rfl, n1, hw1⟩
  rw [hw1]; clear hw1 w1
  go_wp2
  go_ret2
  exact ⟨rfl, _, rfl⟩
end Go.Proofs.YtbkkkpfoaggejaaGreatDoor
