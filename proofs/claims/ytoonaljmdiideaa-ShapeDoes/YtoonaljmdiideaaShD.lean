/- Package shape: a new cache asked of a tree that nobody made. Package shape: Cached by a new cache, of a tree that nobody made. -/
import Derived.Test.YtoonaljmdiideaaShB
namespace Go.Proofs.Ytoonaljmdiideaa
set_option linter.unusedVariables false
set_option linter.unusedSimpArgs false
open Go.RowKit

set_option maxHeartbeats 400000 in
set_option maxRecDepth 100000 in
theorem len_no (t : Value) (w : World) (h : Un t w) : Calls Try.prog 13 #[t] w fun e w' => e = .returned (.int .i64 0) ∧ w' = w := by
  have HM := Hid.mk' (isMade_no t _ h)
  clear h
  go_enter Try.func13, Try.ntmps13
  go_wp2_with fail
  refine HM.out.mono ?_
  rintro e w1 ⟨rfl, rfl⟩
  go_wp2
  go_ret
  exact ⟨rfl, rfl⟩
set_option maxHeartbeats 400000 in
set_option maxRecDepth 100000 in
theorem flush_no (t : Value) (w : World) (h : Un t w) : Calls Try.prog 16 #[t] w fun e w' => e = .returned (.tuple #[]) ∧ w' = w := by
  have HM := Hid.mk' (isMadeC_no t _ h)
  clear h
  go_enter Try.func16, Try.ntmps16
  go_wp2_with fail
  refine HM.out.mono ?_
  rintro e w1 ⟨rfl, rfl⟩
  go_wp2
  go_end0
  exact ⟨rfl, rfl⟩
set_option maxHeartbeats 400000 in
set_option maxRecDepth 100000 in
theorem asked_no (t : Value) (w : World) (h : Un t w) : Calls Try.prog 20 #[t] w fun e w' => e = .returned (.tuple #[.int .i64 0, .int .i64 0]) ∧ w' = w := by
  have HM := Hid.mk' (isMadeC_no t _ h)
  clear h
  go_enter Try.func20, Try.ntmps20
  go_wp2_with fail
  refine HM.out.mono ?_
  rintro e w1 ⟨rfl, rfl⟩
  go_wp2
  go_ret2
  exact ⟨rfl, rfl⟩
theorem loadP {a : Addr} {p : Option Addr} {w : World} (hc : w.cell? a = some (.pointer p)) : (callFunc 55 #[.pointer (some a)]).run Try.prog w = .ok (.value (.pointer p)) w := by
  have he : Extern.find Try.f55 = some (Extern.Atomic.loadT .ptr) := by kernel_rfl
  rw [run_callFunc_extern Try.func55 (by kernel_rfl) (by kernel_rfl) (by kernel_rfl) he]
  change (Sem.run Try.prog (do Extern.Atomic.read .ptr (← asAddr (.pointer (some a)))) w).andThen _ = _
  simp [Extern.Atomic.read, asAddr, hc, Result.andThen]
theorem storeP {a : Addr} {p : Option Addr} {u : Value} {w : World} (hc : w.cell? a = some u) (hz : w.frozen? a = false) : (callFunc 54 #[.pointer (some a), .pointer p]).run Try.prog w = .ok (.value (.tuple #[])) (w.setCell a (.pointer p)) := by
  have he : Extern.find Try.f54 = some Extern.Atomic.storeT := by kernel_rfl
  rw [run_callFunc_extern Try.func54 (by kernel_rfl) (by kernel_rfl) (by kernel_rfl) he]
  change (Sem.run Try.prog (do
    store (← asAddr (.pointer (some a))) (.pointer p) .atomic
    pure Extern.Atomic.none_) w).andThen _ = _
  simp [asAddr, hc, hz, run_store Try.prog w a (.pointer p) .atomic rfl, Result.andThen, Extern.Atomic.none_]
theorem memSize : (Try.prog.info? 107).map (fun i => decide (i.size = 0)) = some false := by kernel_rfl
theorem convP {a : Addr} {v : Value} {w : World} (h : w.cell? a = some v) : (convert 91 95 (.pointer (some a))).run Try.prog w = .ok (.pointer (some a)) w := by
  obtain ⟨i, hi, h0⟩ := Option.map_eq_some_iff.1 memSize
  have hz : i.size ≠ 0 := by simpa using h0
  obtain ⟨e, n, hsh, hlt, hsp⟩ := World.shape?_of_cell? h
  have hng : ¬ n ≤ a.off := by omega
  simp [convert, Conv.unsafePointer, Conv.seenAt, viewAt, cellsIn, sizeOf, typeInfo, run_underlying Try.underlying91, run_underlying Try.underlying95, hi, hz, hsh, hng, Result.andThen]
theorem addI {a : Addr} {x : Int} {w : World} (hc : w.cell? a = some (.int .i64 x)) (hz : w.frozen? a = false) (h0 : 0 ≤ x) (h1 : x < 9000000000000000000) : (callFunc 56 #[.pointer (some a), .int .i64 1]).run Try.prog w = .ok (.value (.int .i64 (x + 1))) (w.setCell a (.int .i64 (x + 1))) :=
  run_call_add (P := Try.prog) Try.func56 (by kernel_rfl) (by kernel_rfl) (by kernel_rfl) .i64 (by kernel_rfl) (y := 1) (s := x + 1) hc hz (by simp [go_sem]; rw [IntKind.wrap_i64]; omega)

set_option maxHeartbeats 400000 in
theorem ptrLoad_any (a : Addr) (w : World) (hc : w.cell? a = some (.pointer none)) : Calls Try.prog 40 #[.pointer (some a)] w fun e w' => e = .returned (.pointer none) ∧ w' = w := by
  have hl := loadP hc
  have hcv : ∀ W, (convert 95 91 (.pointer none)).run Try.prog W = .ok (.pointer none) W := fun W => by kernel_rfl
  go_enter Try.func40, Try.ntmps40
  go_wp2
  go_ret
  exact ⟨rfl, rfl⟩
set_option maxHeartbeats 400000 in
theorem ptrStore_any (a b : Addr) (u v : Value) (w : World) (hc : w.cell? a = some u) (hz : w.frozen? a = false) (hb : w.cell? b = some v) : Calls Try.prog 39 #[.pointer (some a), .pointer (some b)] w fun e w' => e = .returned (.tuple #[]) ∧ w' = w.setCell a (.pointer (some b)) := by
  have hl := storeP (p := some b) hc hz
  have hcv := convP hb
  go_enter Try.func39, Try.ntmps39
  go_wp2
  go_end0
  exact ⟨rfl, rfl⟩
set_option maxHeartbeats 400000 in
theorem int64Add_any (a : Addr) (x : Int) (w : World) (hc : w.cell? a = some (.int .i64 x)) (hz : w.frozen? a = false) (h0 : 0 ≤ x) (h1 : x < 9000000000000000000) : Calls Try.prog 41 #[.pointer (some a), .int .i64 1] w fun e w' => e = .returned (.int .i64 (x + 1)) ∧ w' = w.setCell a (.int .i64 (x + 1)) := by
  have hl := addI hc hz h0 h1
  go_enter Try.func41, Try.ntmps41
  go_wp2
  go_ret
  exact ⟨rfl, rfl⟩
/-- A cache that remembers nothing, and has counted so far. -/
def Che (cb : Nat) (h m : Int) (w : World) : Prop := w.heap[cb]? = some (.cells #[.pointer (some ⟨cb, 0, none⟩), .pointer none, .int .i64 h, .int .i64 m] 102 (0, 0))
set_option maxHeartbeats 400000 in
theorem newCache_any (w : World) : Calls Try.prog 15 #[] w fun e w' => e = .returned (.pointer (some ⟨w.heap.size, 0, none⟩)) ∧ Che w.heap.size 0 0 w' ∧ Below w.heap.size w w' := by
  go_enter Try.func15, Try.ntmps15
  go_wp2
  go_ret
  refine ⟨rfl, ?_, ?_⟩
  · exact World.alloc_heap_new _ _
  · repeat' (first | exact Below.refl _ _ | refine Below.alloc ?_ (by simp) _ | refine Below.setCell ?_ (by simp) _)

theorem Che.cells {cb : Nat} {h m : Int} {w : World} (hc : Che cb h m w) : w.cell? ⟨cb, 0, none⟩ = some (.pointer (some ⟨cb, 0, none⟩)) ∧ w.cell? ⟨cb, 1, none⟩ = some (.pointer none) ∧ w.cell? ⟨cb, 2, none⟩ = some (.int .i64 h) ∧ w.cell? ⟨cb, 3, none⟩ = some (.int .i64 m) ∧ (∀ j, w.frozen? ⟨cb, j, none⟩ = false) := by
  unfold Che at hc
  refine ⟨?_, ?_, ?_, ?_, fun j => ?_⟩ <;> simp [World.cell?, World.frozen?, hc]
set_option maxHeartbeats 400000 in
theorem isMadeC_yes {cb : Nat} {h m : Int} (w : World) (hc : Che cb h m w) : Calls Try.prog 38 #[.pointer (some ⟨cb, 0, none⟩)] w fun e w' => e = .returned (.bool true) ∧ w' = w := by
  have he := eqC_yes
  obtain ⟨c0, _⟩ := hc.cells
  clear hc
  go_enter Try.func38, Try.ntmps38
  go_wp2
  go_ret
  exact ⟨rfl, rfl⟩
theorem row4_cells {w : World} {b : Nat} {a0 a1 a2 a3 : Value} {t : TypeId} (h : w.heap[b]? = some (.cells #[a0, a1, a2, a3] t (0, 0))) : w.cell? ⟨b, 0, none⟩ = some a0 ∧ w.cell? ⟨b, 1, none⟩ = some a1 ∧ w.cell? ⟨b, 2, none⟩ = some a2 ∧ w.cell? ⟨b, 3, none⟩ = some a3 ∧ (∀ j, w.frozen? ⟨b, j, none⟩ = false) := by
  refine ⟨?_, ?_, ?_, ?_, fun j => ?_⟩ <;> simp [World.cell?, World.frozen?, h]
theorem row8_cells {w : World} {b : Nat} {a0 a1 a2 a3 a4 a5 a6 a7 : Value} {t : TypeId} (h : w.heap[b]? = some (.cells #[a0, a1, a2, a3, a4, a5, a6, a7] t (0, 0))) : w.cell? ⟨b, 0, none⟩ = some a0 ∧ w.cell? ⟨b, 4, none⟩ = some a4 ∧ w.cell? ⟨b, 5, none⟩ = some a5 ∧ w.cell? ⟨b, 6, none⟩ = some a6 ∧ (∀ j, w.frozen? ⟨b, j, none⟩ = false) := by
  refine ⟨?_, ?_, ?_, ?_, fun j => ?_⟩ <;> simp [World.cell?, World.frozen?, h]
theorem set_blk2 {W : World} {rb j : Nat} {c : Array Value} {t : TypeId} {m} {v : Value} (h : W.heap[rb]? = some (.cells c t m)) : (W.setCell ⟨rb, j, none⟩ v).heap[rb]? = some (.cells (c.setIfInBounds j v) t m) := by
  simp only [World.setCell, Array.getElem?_modify, h]
  rw [if_pos trivial]
  rfl
theorem row8_same {w : World} {b : Nat} {a0 a1 a2 a3 a4 a5 a6 a7 : Value} {t : TypeId} (h : w.heap[b]? = some (.cells #[a0, a1, a2, a3, a4, a5, a6, a7] t (0, 0))) : (((w.setCell ⟨b, 4, none⟩ a4).setCell ⟨b, 5, none⟩ a5).setCell ⟨b, 6, none⟩ a6).heap[b]? = some (.cells #[a0, a1, a2, a3, a4, a5, a6, a7] t (0, 0)) := by
  have h1 := set_blk2 (j := 4) (v := a4) h
  have h2 := set_blk2 (j := 5) (v := a5) h1
  have h3 := set_blk2 (j := 6) (v := a6) h2
  simpa using h3
theorem row4_set2 {w : World} {b : Nat} {a0 a1 a2 a3 v u : Value} {t : TypeId} (h : w.heap[b]? = some (.cells #[a0, a1, a2, a3] t (0, 0))) : ((w.setCell ⟨b, 2, none⟩ v).setCell ⟨b, 3, none⟩ u).heap[b]? = some (.cells #[a0, a1, v, u] t (0, 0)) := by
  have h1 := set_blk2 (j := 2) (v := v) h
  have h2 := set_blk2 (j := 3) (v := u) h1
  simpa using h2
set_option maxHeartbeats 4000000 in
set_option maxRecDepth 100000 in
theorem asked_un (p : Option Addr) (s z : Int) (n : ByteArray) (w : World) (h : Un (.pointer p) w) (hn : (n.size : Int) ≤ 140737488351232) :
    Calls Try.prog 42 #[.agg #[.pointer p, .int .i64 s, .string n, .int .i64 z]] w fun e w' => ∃ mb ty, e = .returned (.pointer (some ⟨mb, 0, none⟩)) ∧ w.heap.size ≤ mb ∧ (∃ a0 a1 a2 a3 a7, w'.heap[mb]? = some (.cells #[a0, a1, a2, a3, .int .i64 0, .int .i64 0, .bool false, a7] ty (0, 0))) ∧ Below w.heap.size w w' := by
  have HOW := Hid.mk' (fun W => shown_any n z W hn)
  obtain ⟨q, hq⟩ : ∃ q, evenS n = q := ⟨_, rfl⟩
  rw [hq] at HOW
  have HU : Hid (∀ W, Below w.heap.size w W → Un (.pointer p) W) := Hid.mk' (fun W hW => h.below hW)
  obtain ⟨W1, hW1⟩ : ∃ W1, w.alloc (.cells #[.pointer p, .int .i64 s, .string n, .int .i64 z] 105) = W1 := ⟨_, rfl⟩
  have b1 : Below w.heap.size w W1 := by rw [← hW1]; exact (Below.refl _ _).alloc (Nat.le_refl _) _
  have q1 : W1.heap[w.heap.size]? = some (.cells #[.pointer p, .int .i64 s, .string n, .int .i64 z] 105 (0, 0)) := by rw [← hW1]; exact World.alloc_heap_new _ _
  obtain ⟨b0, hb0⟩ : ∃ b0, w.heap.size = b0 := ⟨_, rfl⟩
  rw [hb0] at q1
  have HS0 := Hid.mk' hb0
  have HB1 := Hid.mk' b1
  have HQ1 := Hid.mk' q1
  have hl1 := (Array.getElem?_eq_some_iff.1 q1).1
  have HL1 := Hid.mk' hl1
  obtain ⟨g0, g1, g2, g3, _⟩ := row4_cells q1
  clear h hn hq b1 q1 hl1
  go_enter Try.func42, Try.ntmps42
  go_wp2_with fail
  refine (HOW.out _).mono ?_
  rintro e w2 ⟨rfl, b2⟩
  have q2 := (b2.block b0 HL1.out).trans HQ1.out
  obtain ⟨c0, c1, c2, c3, cf⟩ := row4_cells q2
  have f2 := cf 2
  have f3 := cf 3
  obtain ⟨W3, hW3⟩ : ∃ W3, (w2.setCell ⟨b0, 2, none⟩ (.string q)).setCell ⟨b0, 3, none⟩ (.int .i64 z) = W3 := ⟨_, rfl⟩
  have q3 : W3.heap[b0]? = some (.cells #[.pointer p, .int .i64 s, .string q, .int .i64 z] 105 (0, 0)) := by rw [← hW3]; exact row4_set2 q2
  have b3 : Below w.heap.size w W3 := by
    rw [← hW3]
    exact ((HB1.out.trans (b2.mono HB1.out.size)).setCell (p := ⟨b0, 2, none⟩) (by show w.heap.size ≤ b0; have := HS0.out; omega) _).setCell (p := ⟨b0, 3, none⟩) (by show w.heap.size ≤ b0; have := HS0.out; omega) _
  have HB3 := Hid.mk' b3
  have HQ3 := Hid.mk' q3
  have HH3 := Hid.mk' hW3
  obtain ⟨e0, e1, e2, e3, ef⟩ := row4_cells q3
  clear b2 q2 cf b3 q3 hW3 ef g0 g1 g2 g3
  go_upto_region 2 with fail
  rw [HH3.out]
  clear c0 c1 c2 c3 f2 f3
  go_cut [3] from 4 (fun v3 wc => ∃ mb ty, v3 = .pointer (some ⟨mb, 0, none⟩) ∧ Hid (w.heap.size < mb ∧ wc.heap[mb]? = some (.cells #[.pointer p, .int .i64 s, .string q, .int .i64 z, .int .i64 0, .int .i64 0, .bool false, .bool false] ty (0, 0)) ∧ Below w.heap.size w wc ∧ wc.heap[b0]? = some (.cells #[.pointer p, .int .i64 s, .string q, .int .i64 z] 105 (0, 0))))
  case first =>
    go_region_with (go_at_call 46; refine (has_no _ _ _ (HU.out _ HB3.out.drew)).mono ?_; rintro e w4 ⟨rfl, rfl⟩)
    all_goals
      go_wp2_with fail
      go_meet
      have hl3 : b0 < W3.heap.size := (Array.getElem?_eq_some_iff.1 HQ3.out).1
      exact ⟨_, _, rfl, Hid.mk' ⟨by have := HS0.out; omega, World.alloc_heap_new _ _, (HB3.out.alloc HB3.out.size _).drew, (Below.heap_alloc _ _ _ hl3).trans HQ3.out⟩⟩
  case rest =>
    obtain ⟨mb, ty, rfl, HM⟩ := hcut
    obtain ⟨i0, i1, i2, i3, _⟩ := row4_cells HM.out.2.2.2
    have HF := Hid.mk' (find_no (.pointer p) s q z wc (HU.out _ HM.out.2.2.1))
    clear e0 e1 e2 e3
    go_wp2_with fail
    refine HF.out.mono ?_
    rintro e w5 ⟨rfl, b5⟩
    have q5 := (b5.block mb (Array.getElem?_eq_some_iff.1 HM.out.2.1).1).trans HM.out.2.1
    obtain ⟨j0, j4, j5, j6, jf⟩ := row8_cells q5
    have k4 := jf 4
    have k5 := jf 5
    have k6 := jf 6
    have HQ5 := Hid.mk' q5
    have HB5 := Hid.mk' (HM.out.2.2.1.trans (b5.mono HM.out.2.2.1.size))
    clear q5 b5 jf i0 i1 i2 i3
    go_wp2
    go_ret
    refine ⟨mb, ty, rfl, Nat.le_of_lt HM.out.1, ⟨_, _, _, _, _, row8_same HQ5.out⟩, ?_⟩
    exact ((HB5.out.setCell (p := ⟨mb, 4, none⟩) (Nat.le_of_lt HM.out.1) _).setCell (p := ⟨mb, 5, none⟩) (Nat.le_of_lt HM.out.1) _).setCell (p := ⟨mb, 6, none⟩) (Nat.le_of_lt HM.out.1) _

end Go.Proofs.Ytoonaljmdiideaa

namespace Go.Proofs.Ytoonaljmdiideaa
set_option linter.unusedVariables false
set_option linter.unusedSimpArgs false
open Go.RowKit

set_option maxHeartbeats 4000000 in
set_option maxRecDepth 100000 in
theorem cached_un (p : Option Addr) (cb : Nat) (s z : Int) (n : ByteArray) (w : World) (h : Un (.pointer p) w) (hp : ∀ g, p = some ⟨g, 0, none⟩ → g < cb) (hc : Che cb 0 0 w) (hn : (n.size : Int) ≤ 140737488351232) :
    Calls Try.prog 17 #[.pointer p, .pointer (some ⟨cb, 0, none⟩), .int .i64 s, .agg #[.string n, .int .i64 z]] w fun e w' => e = .returned (.tuple #[.int .i64 0, .int .i64 0, .bool false]) ∧ Below cb w w' := by
  have hcl := (Array.getElem?_eq_some_iff.1 hc).1
  have HBA := Hid.mk' (fun W => shbare_any n z W hn)
  have HN' := Hid.mk' (bareS_le n z hn)
  obtain ⟨q, hq⟩ : ∃ q, bareS n z = q := ⟨_, rfl⟩
  obtain ⟨y, hy⟩ : ∃ y, bareZ z = y := ⟨_, rfl⟩
  rw [hq, hy] at HBA
  rw [hq] at HN'
  have HU : Hid (∀ W, Below cb w W → Un (.pointer p) W) := Hid.mk' (fun W hW => h.lt hW (fun g e => hp g (by simpa using e)))
  obtain ⟨W1, hW1⟩ : ∃ W1, w.alloc (.cells #[.string n, .int .i64 z] 31) = W1 := ⟨_, rfl⟩
  have b1 : Below w.heap.size w W1 := by rw [← hW1]; exact (Below.refl _ _).alloc (Nat.le_refl _) _
  have q1 : W1.heap[w.heap.size]? = some (.cells #[.string n, .int .i64 z] 31 (0, 0)) := by rw [← hW1]; exact World.alloc_heap_new _ _
  obtain ⟨b0, hb0⟩ : ∃ b0, w.heap.size = b0 := ⟨_, rfl⟩
  rw [hb0] at q1
  have HS0 : Hid (w.heap.size = b0 ∧ cb < b0) := Hid.mk' ⟨hb0, by omega⟩
  have HC1 : Hid (Che cb 0 0 W1) := Hid.mk' ((b1.block cb hcl).trans hc)
  have HB1 : Hid (Below cb w W1) := Hid.mk' (b1.mono (Nat.le_of_lt hcl))
  have HM := Hid.mk' (isMadeC_yes W1 HC1.out)
  obtain ⟨_, _, g0, g1⟩ := pair_facts q1
  clear h hp hc hn hcl hq hy b1 q1
  go_enter Try.func17, Try.ntmps17
  go_wp2_with fail
  refine HM.out.mono ?_
  rintro e w2 ⟨rfl, rfl⟩
  go_wp2_with fail
  refine (HBA.out _).mono ?_
  rintro e w3 ⟨rfl, b3⟩
  have C3 : Che cb 0 0 w3 := (b3.block cb (Array.getElem?_eq_some_iff.1 HC1.out).1).trans HC1.out
  have B3 : Below cb w w3 := HB1.out.trans (b3.mono (Nat.le_of_lt (Array.getElem?_eq_some_iff.1 HC1.out).1))
  obtain ⟨W4, hW4⟩ : ∃ W4, w3.alloc (.cells #[.pointer p, .int .i64 s, .string q, .int .i64 y] 105) = W4 := ⟨_, rfl⟩
  have b4 : Below w3.heap.size w3 W4 := by rw [← hW4]; exact (Below.refl _ _).alloc (Nat.le_refl _) _
  have q4 : W4.heap[w3.heap.size]? = some (.cells #[.pointer p, .int .i64 s, .string q, .int .i64 y] 105 (0, 0)) := by rw [← hW4]; exact World.alloc_heap_new _ _
  have l3 : cb < w3.heap.size := (Array.getElem?_eq_some_iff.1 C3).1
  obtain ⟨b9, hb9⟩ : ∃ b9, w3.heap.size = b9 := ⟨_, rfl⟩
  rw [hb9] at q4
  have HC4 : Hid (Che cb 0 0 W4) := Hid.mk' ((b4.block cb l3).trans C3)
  have HB4 : Hid (Below cb w W4) := Hid.mk' (B3.trans (b4.mono (Nat.le_of_lt l3)))
  have HQ4 := Hid.mk' q4
  have HL4 : Hid (cb < b9) := Hid.mk' (by omega)
  obtain ⟨c0, c1, c2, c3, cf⟩ := HC4.out.cells
  have HP := Hid.mk' (ptrLoad_any ⟨cb, 1, none⟩ W4 c1)
  clear g0 g1 b3 C3 B3 b4 q4 l3 c0 c1 c2 c3 cf
  go_wp2_with fail
  refine HP.out.mono ?_
  rintro e w5 ⟨rfl, rfl⟩
  have HX : Hid (∀ k, Che cb 0 0 (w5.drewN k) ∧ Below cb w (w5.drewN k) ∧ (w5.drewN k).heap[b9]? = some (.cells #[.pointer p, .int .i64 s, .string q, .int .i64 y] 105 (0, 0))) := Hid.mk' (fun k => ⟨HC4.out, below_drewN HB4.out k, HQ4.out⟩)
  go_upto_region 5 with fail
  go_quiet (fail)
  obtain ⟨W5, hW5⟩ : ∃ W5, w5.drewN nq = W5 := ⟨_, rfl⟩
  obtain ⟨C5, B5, Q5⟩ := HX.out nq
  rw [hW5] at C5 B5 Q5
  rw [hW5]
  have HA := Hid.mk' (int64Add_any ⟨cb, 3, none⟩ 0 W5 C5.cells.2.2.2.1 (C5.cells.2.2.2.2 3) (by omega) (by omega))
  obtain ⟨W6, hW6⟩ : ∃ W6, W5.setCell ⟨cb, 3, none⟩ (.int .i64 1) = W6 := ⟨_, rfl⟩
  have lcb : cb < W5.heap.size := (Array.getElem?_eq_some_iff.1 C5).1
  have C6 : Che cb 0 1 W6 := by rw [← hW6]; unfold Che at C5 ⊢; have h1 := set_blk2 (j := 3) (v := .int .i64 1) C5; simpa using h1
  have B6 : Below cb w W6 := by rw [← hW6]; exact B5.setCell (p := ⟨cb, 3, none⟩) (Nat.le_refl _) _
  have Q6 : W6.heap[b9]? = some (.cells #[.pointer p, .int .i64 s, .string q, .int .i64 y] 105 (0, 0)) := by rw [← hW6]; exact (Below.heap_setCell _ _ _ _ (by show b9 ≠ cb; have := HL4.out; omega)).trans Q5
  have HAS := Hid.mk' (asked_un p s y q W6 (HU.out _ B6) HN'.out)
  have HC6 := Hid.mk' C6
  have HB6 := Hid.mk' B6
  have HH6 := Hid.mk' hW6
  obtain ⟨r0, r1, r2, r3, _⟩ := row4_cells Q6
  clear C5 B5 Q5 lcb C6 B6 Q6 hW6 hW5 HX
  go_wp2_with fail
  refine HA.out.mono ?_
  rintro e w6 ⟨rfl, hw6⟩
  rw [show (0 + 1 : Int) = 1 from rfl, HH6.out] at hw6
  subst hw6
  go_wp2_with fail
  refine HAS.out.mono ?_
  rintro e w7 ⟨mb, ty, rfl, hmb, ⟨a0, a1, a2, a3, a7, hrow⟩, b7⟩
  have l6 : cb < w6.heap.size := (Array.getElem?_eq_some_iff.1 HC6.out).1
  have C7 : Che cb 0 1 w7 := (b7.block cb l6).trans HC6.out
  have B7 : Below cb w w7 := HB6.out.trans (b7.mono (Nat.le_of_lt l6))
  obtain ⟨m0, m4, m5, m6, _⟩ := row8_cells hrow
  have HST := Hid.mk' (ptrStore_any ⟨cb, 1, none⟩ ⟨mb, 0, none⟩ _ _ w7 C7.cells.2.1 (C7.cells.2.2.2.2 1) m0)
  obtain ⟨W8, hW8⟩ : ∃ W8, w7.setCell ⟨cb, 1, none⟩ (.pointer (some ⟨mb, 0, none⟩)) = W8 := ⟨_, rfl⟩
  have B8 : Below cb w W8 := by rw [← hW8]; exact B7.setCell (p := ⟨cb, 1, none⟩) (Nat.le_refl _) _
  have R8 : W8.heap[mb]? = some (.cells #[a0, a1, a2, a3, .int .i64 0, .int .i64 0, .bool false, a7] ty (0, 0)) := by rw [← hW8]; exact (Below.heap_setCell _ _ _ _ (by show mb ≠ cb; omega)).trans hrow
  obtain ⟨_, n4, n5, n6, _⟩ := row8_cells R8
  have HB8 := Hid.mk' B8
  have HH8 := Hid.mk' hW8
  clear hmb hrow b7 l6 C7 B7 m0 m4 m5 m6 B8 R8 hW8 r0 r1 r2 r3
  go_wp2_with fail
  refine HST.out.mono ?_
  rintro e w8 ⟨rfl, hw8⟩
  rw [HH8.out] at hw8
  subst hw8
  go_upto_region 9 with fail
  go_quiet (fail)
  go_wp2
  go_ret3
  exact ⟨rfl, below_drewN HB8.out _⟩
end Go.Proofs.Ytoonaljmdiideaa
