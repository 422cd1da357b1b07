/- Package heap: a heap that nobody made. -/
import Derived.Test.YtmgngbhkgmkggaaGreatDoorShB
import Derived.Deep.RegionHeld3
namespace Go.Proofs.YtmgngbhkgmkggaaGreatDoor
set_option linter.unusedVariables false
set_option linter.unusedSimpArgs false
open Go.RowKit

theorem eqH_no (W : World) (a : Addr) : (binOp .eql 25 (.pointer none) (.pointer (some a))).run Tryz.prog W = .ok (.bool false) W := by
  have e : ∀ d, (Op.equalIn (d + 1) 25 (.pointer none) (.pointer (some a))).run Tryz.prog W = .ok false W := fun d => by
    simp [Op.equalIn, run_underlying Tryz.underlying25]
  simp only [binOp]
  simp [Op.equal, Op.maxDepth, e 9999]
theorem eqH_yes (W : World) (a : Addr) : (binOp .eql 25 (.pointer (some a)) (.pointer (some a))).run Tryz.prog W = .ok (.bool true) W := by
  have e : ∀ d, (Op.equalIn (d + 1) 25 (.pointer (some a)) (.pointer (some a))).run Tryz.prog W = .ok true W := fun d => by
    simp [Op.equalIn, run_underlying Tryz.underlying25, Tryz.sizeOf66, run_sameAddr_same]
  simp only [binOp]
  simp [Op.equal, Op.maxDepth, e 9999]
set_option maxHeartbeats 400000 in
set_option maxRecDepth 100000 in
theorem hisMade_no (t : Value) (w : World) (h : Un t w) : Calls Tryz.prog 53 #[t] w fun e w' => e = .returned (.bool false) ∧ w' = w := by
  have he := eqH_no
  rcases h with rfl | ⟨g, rfl, hc⟩
  · go_enter Tryz.func53, Tryz.ntmps53
    go_wp2
    go_ret
    exact ⟨rfl, rfl⟩
  · go_enter Tryz.func53, Tryz.ntmps53
    go_wp2
    go_ret
    exact ⟨rfl, rfl⟩
set_option maxHeartbeats 400000 in
set_option maxRecDepth 100000 in
theorem hhas_no (t : Value) (o : Int) (w : World) (h : Un t w) : Calls Tryz.prog 26 #[t, .int .i64 o] w fun e w' => e = .returned (.bool false) ∧ w' = w := by
  have HM := Hid.mk' (hisMade_no t w h)
  clear h
  go_enter Tryz.func26, Tryz.ntmps26
  go_wp2_with fail
  refine HM.out.mono ?_
  rintro e w1 ⟨rfl, rfl⟩
  go_wp2
  go_ret
  exact ⟨rfl, rfl⟩
set_option maxHeartbeats 400000 in
set_option maxRecDepth 100000 in
theorem hobj_no (t : Value) (o : Int) (w : World) (h : Un t w) : Calls Tryz.prog 48 #[t, .int .i64 o] w fun e w' => e = .returned (.pointer none) ∧ w' = w := by
  have HM := Hid.mk' (hhas_no t o w h)
  clear h
  go_enter Tryz.func48, Tryz.ntmps48
  go_wp2_with fail
  refine HM.out.mono ?_
  rintro e w1 ⟨rfl, rfl⟩
  go_wp2
  go_ret
  exact ⟨rfl, rfl⟩
set_option maxHeartbeats 400000 in
set_option maxRecDepth 100000 in
theorem hmake_no (t : Value) (c p : Int) (w : World) (h : Un t w) : Calls Tryz.prog 24 #[t, .int .i64 c, .int .i64 p] w fun e w' => e = .returned (.tuple #[.int .i64 0, .int .i64 151]) ∧ w' = w := by
  have HM := Hid.mk' (hisMade_no t w h)
  clear h
  go_enter Tryz.func24, Tryz.ntmps24
  go_wp2_with fail
  refine HM.out.mono ?_
  rintro e w1 ⟨rfl, rfl⟩
  go_wp2
  go_ret2
  exact ⟨rfl, rfl⟩
set_option maxHeartbeats 400000 in
set_option maxRecDepth 100000 in
theorem hclass_no (t : Value) (o : Int) (w : World) (h : Un t w) : Calls Tryz.prog 27 #[t, .int .i64 o] w fun e w' => e = .returned (.int .i64 0) ∧ w' = w := by
  have HM := Hid.mk' (hobj_no t o w h)
  clear h
  go_enter Tryz.func27, Tryz.ntmps27
  go_wp2_with fail
  refine HM.out.mono ?_
  rintro e w1 ⟨rfl, rfl⟩
  go_wp2
  go_ret
  exact ⟨rfl, rfl⟩
set_option maxHeartbeats 400000 in
set_option maxRecDepth 100000 in
theorem hproto_no (t : Value) (o : Int) (w : World) (h : Un t w) : Calls Tryz.prog 28 #[t, .int .i64 o] w fun e w' => e = .returned (.int .i64 0) ∧ w' = w := by
  have HM := Hid.mk' (hobj_no t o w h)
  clear h
  go_enter Tryz.func28, Tryz.ntmps28
  go_wp2_with fail
  refine HM.out.mono ?_
  rintro e w1 ⟨rfl, rfl⟩
  go_wp2
  go_ret
  exact ⟨rfl, rfl⟩
set_option maxHeartbeats 400000 in
set_option maxRecDepth 100000 in
theorem hsetProto_no (t : Value) (o p : Int) (w : World) (h : Un t w) : Calls Tryz.prog 29 #[t, .int .i64 o, .int .i64 p] w fun e w' => e = .returned (.int .i64 151) ∧ w' = w := by
  have HM := Hid.mk' (hobj_no t o w h)
  clear h
  go_enter Tryz.func29, Tryz.ntmps29
  go_wp2_with fail
  refine HM.out.mono ?_
  rintro e w1 ⟨rfl, rfl⟩
  go_wp2
  go_ret
  exact ⟨rfl, rfl⟩
set_option maxHeartbeats 400000 in
set_option maxRecDepth 100000 in
theorem hopen_no (t : Value) (o : Int) (w : World) (h : Un t w) : Calls Tryz.prog 30 #[t, .int .i64 o] w fun e w' => e = .returned (.bool false) ∧ w' = w := by
  have HM := Hid.mk' (hobj_no t o w h)
  clear h
  go_enter Tryz.func30, Tryz.ntmps30
  go_wp2_with fail
  refine HM.out.mono ?_
  rintro e w1 ⟨rfl, rfl⟩
  go_wp2
  go_ret
  exact ⟨rfl, rfl⟩
set_option maxHeartbeats 400000 in
set_option maxRecDepth 100000 in
theorem hshut_no (t : Value) (o : Int) (w : World) (h : Un t w) : Calls Tryz.prog 31 #[t, .int .i64 o] w fun e w' => e = .returned (.int .i64 151) ∧ w' = w := by
  have HM := Hid.mk' (hobj_no t o w h)
  clear h
  go_enter Tryz.func31, Tryz.ntmps31
  go_wp2_with fail
  refine HM.out.mono ?_
  rintro e w1 ⟨rfl, rfl⟩
  go_wp2
  go_ret
  exact ⟨rfl, rfl⟩
set_option maxHeartbeats 400000 in
set_option maxRecDepth 100000 in
theorem hkeys_no (t : Value) (o : Int) (w : World) (h : Un t w) : Calls Tryz.prog 20 #[t, .int .i64 o] w fun e w' => e = .returned (.slice none 0 0) ∧ w' = w := by
  have HM := Hid.mk' (hobj_no t o w h)
  clear h
  go_enter Tryz.func20, Tryz.ntmps20
  go_wp2_with fail
  refine HM.out.mono ?_
  rintro e w1 ⟨rfl, rfl⟩
  go_wp2
  go_ret
  exact ⟨rfl, rfl⟩
set_option maxHeartbeats 400000 in
set_option maxRecDepth 100000 in
theorem hforce_no (t : Value) (o : Int) (w : World) (h : Un t w) : Calls Tryz.prog 15 #[t, .int .i64 o] w fun e w' => e = .returned (.int .i64 151) ∧ w' = w := by
  have HM := Hid.mk' (hobj_no t o w h)
  clear h
  go_enter Tryz.func15, Tryz.ntmps15
  go_wp2_with fail
  refine HM.out.mono ?_
  rintro e w1 ⟨rfl, rfl⟩
  go_wp2
  go_ret
  exact ⟨rfl, rfl⟩
set_option maxHeartbeats 400000 in
set_option maxRecDepth 100000 in
theorem hfast_no (t : Value) (o : Int) (w : World) (h : Un t w) : Calls Tryz.prog 23 #[t, .int .i64 o] w fun e w' => e = .returned (.bool false) ∧ w' = w := by
  have HM := Hid.mk' (hobj_no t o w h)
  clear h
  go_enter Tryz.func23, Tryz.ntmps23
  go_wp2_with fail
  refine HM.out.mono ?_
  rintro e w1 ⟨rfl, rfl⟩
  go_wp2
  go_ret
  exact ⟨rfl, rfl⟩
set_option maxHeartbeats 400000 in
set_option maxRecDepth 100000 in
theorem hused_no (t : Value) (w : World) (h : Un t w) : Calls Tryz.prog 21 #[t] w fun e w' => e = .returned (.int .i64 0) ∧ w' = w := by
  have HM := Hid.mk' (hisMade_no t w h)
  clear h
  go_enter Tryz.func21, Tryz.ntmps21
  go_wp2_with fail
  refine HM.out.mono ?_
  rintro e w1 ⟨rfl, rfl⟩
  go_wp2
  go_ret
  exact ⟨rfl, rfl⟩
set_option maxHeartbeats 400000 in
set_option maxRecDepth 100000 in
theorem hlen_no (t : Value) (w : World) (h : Un t w) : Calls Tryz.prog 19 #[t] w fun e w' => e = .returned (.int .i64 0) ∧ w' = w := by
  have HM := Hid.mk' (hisMade_no t w h)
  clear h
  go_enter Tryz.func19, Tryz.ntmps19
  go_wp2_with fail
  refine HM.out.mono ?_
  rintro e w1 ⟨rfl, rfl⟩
  go_wp2
  go_ret
  exact ⟨rfl, rfl⟩
set_option maxHeartbeats 400000 in
set_option maxRecDepth 100000 in
theorem hdrop_no (t : Value) (o : Int) (n : ByteArray) (z : Int) (w : World) (h : Un t w) : Calls Tryz.prog 33 #[t, .int .i64 o, .agg #[.string n, .int .i64 z]] w fun e w' => e = .returned (.bool false) ∧ Below w.heap.size w w' := by
  have b0 : Below w.heap.size w (w.alloc (.cells #[.string n, .int .i64 z] 31)) := (Below.refl _ _).alloc (Nat.le_refl _) _
  have HM := Hid.mk' (hobj_no t o _ (h.below b0))
  have HB := Hid.mk' b0
  clear h b0
  go_enter Tryz.func33, Tryz.ntmps33
  go_wp2_with fail
  refine HM.out.mono ?_
  rintro e w1 ⟨rfl, rfl⟩
  go_wp2
  go_ret
  exact ⟨rfl, HB.out⟩
set_option maxHeartbeats 400000 in
set_option maxRecDepth 100000 in
theorem hput_no (t : Value) (o : Int) (n : ByteArray) (z : Int) (ps : Array Value) (w : World) (h : Un t w) : Calls Tryz.prog 32 #[t, .int .i64 o, .agg #[.string n, .int .i64 z], .agg ps] w fun e w' => e = .returned (.int .i64 151) ∧ Below w.heap.size w w' := by
  have b0 : Below w.heap.size w ((w.alloc (.cells #[.string n, .int .i64 z] 31)).alloc (.cells ps 36)) := ((Below.refl _ _).alloc (Nat.le_refl _) _).alloc (by simp) _
  have HM := Hid.mk' (hobj_no t o _ (h.below b0))
  have HB := Hid.mk' b0
  clear h b0
  go_enter Tryz.func32, Tryz.ntmps32
  go_wp2_with fail
  refine HM.out.mono ?_
  rintro e w1 ⟨rfl, rfl⟩
  go_wp2
  go_ret
  exact ⟨rfl, HB.out⟩
end Go.Proofs.YtmgngbhkgmkggaaGreatDoor
