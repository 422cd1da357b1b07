/- strconv.FormatFloat(x, 'e', -1, 64). -/
import Derived.Test.YtbkkkpfoaggejaaGreatDoorFtoa
import Derived.Test.YtbkkkpfoaggejaaGreatDoorOf
import Derived.Test.YtbkkkpfoaggejaaGreatDoorLaidN
namespace Go.Proofs.YtbkkkpfoaggejaaGreatDoor
set_option linter.unusedVariables false
open Go.RowKit Fl

/-- What FormatFloat reads of what the program's text has laid. -/
structure LaidF (w : World) : Prop where
  tabP : TabP w
  u64p : Lib.TabIs Tryz.prog w "internal/strconv.uint64pow10" .u64 Lib.pow10Tab
theorem LaidF.below {w w' : World} (h : LaidF w) (hb : Below w.heap.size w w') : LaidF w' :=
  have hc : ∀ b o v, w.cell? ⟨b, o, none⟩ = some v → w'.cell? ⟨b, o, none⟩ = some v := fun b o v hv => (hb.cell (p := ⟨b, o, none⟩) (World.block_lt_of_cell? w _ hv)).trans hv
  ⟨fun i hi => ⟨hc _ _ _ (h.tabP i hi).1, hc _ _ _ (h.tabP i hi).2⟩, Lib.tabBelow_of_tabIs h.u64p _ hb⟩
/-- What lies where the program's text has laid it. -/
structure Laid (w : World) : Prop where
  tabP : TabP w
  u64p : Lib.TabIs Tryz.prog w "internal/strconv.uint64pow10" .u64 Lib.pow10Tab
  maxl : ∃ m, w.cell? ⟨1, 0, none⟩ = some (.int .i64 m)
  lets : ∀ j, j < 6 → w.cell? ⟨2, j, none⟩ = some ([.int .u8 120, .int .i64 16, .int .u8 111, .int .i64 8, .int .u8 98, .int .i64 2].getD j (.int .u8 0))
  opt : w.cell? ⟨3, 0, none⟩ = some (.bool true)
  info : w.cell? ⟨10, 0, none⟩ = some (.int .u64 52) ∧ w.cell? ⟨10, 1, none⟩ = some (.int .u64 11) ∧ w.cell? ⟨10, 2, none⟩ = some (.int .i64 (-1023))
  f64p : ∃ b o c : Nat, w.cell? ⟨15, 0, none⟩ = some (.slice (some ⟨b, o, none⟩) 23 c) ∧ ∀ j, j < 23 → w.cell? ⟨b, o + j, none⟩ = some (.float .f64 (p10L.getD j 0))
theorem Laid.n {w : World} (h : Laid w) : LaidN w := ⟨h.maxl, h.lets, h.opt, h.info, h.f64p⟩
theorem Laid.f {w : World} (h : Laid w) : LaidF w := ⟨h.tabP, h.u64p⟩
theorem Laid.below {w w' : World} (h : Laid w) (hb : Below w.heap.size w w') : Laid w' := by
  have hc : ∀ b o v, w.cell? ⟨b, o, none⟩ = some v → w'.cell? ⟨b, o, none⟩ = some v := fun b o v hv => (hb.cell (p := ⟨b, o, none⟩) (World.block_lt_of_cell? w _ hv)).trans hv
  refine ⟨fun i hi => ⟨hc _ _ _ (h.tabP i hi).1, hc _ _ _ (h.tabP i hi).2⟩, Lib.tabBelow_of_tabIs h.u64p _ hb, ?_, fun j hj => hc _ _ _ (h.lets j hj), hc _ _ _ h.opt, ⟨hc _ _ _ h.info.1, hc _ _ _ h.info.2.1, hc _ _ _ h.info.2.2⟩, ?_⟩
  · obtain ⟨m, hm⟩ := h.maxl
    exact ⟨m, hc _ _ _ hm⟩
  · obtain ⟨b, o, c, h1, h2⟩ := h.f64p
    exact ⟨b, o, c, hc _ _ _ h1, fun j hj => hc _ _ _ (h2 j hj)⟩

set_option maxHeartbeats 1000000 in
set_option maxRecDepth 100000 in
theorem fmtFloat_in (b : Nat) (w : World) (h0 : 0 < b) (h1 : b < 9218868437227405312) (hl : Hid (LaidF w)) :
    Calls Tryz.prog 188 #[.float .f64 b, .int .u8 101, .int .i64 (-1), .int .i64 64] w fun e w' => e = .returned (.string (strN (ffT b))) ∧ Below w.heap.size w w' := by
  have HB := Hid.mk' (u8c_bytes _ (ffT_lt b h0 h1))
  obtain ⟨i0, hi, hz0, hz1, hz2⟩ := info_parts info8
  obtain ⟨w1, hmk, o1, g1⟩ := run_makeSlice_owned (P := Tryz.prog) w w.heap.size 54 5 i0 (.int .u8 0) 1 Tryz.underlying54 hi hz0 hz1 .i64 .i64 24 (by omega) (by rw [hz2]; omega) (by unfold maxLen; omega) (Nat.le_refl _)
  have hmk' : (Instr.makeSlice 54 (.int .i64 0) (.int .i64 (max 3 24))).run Tryz.prog w = .ok (.slice (some ⟨w.heap.size, 0, none⟩) 0 24) w1 := hmk
  have b1 : Below w.heap.size w w1 := (kept_append (v := .slice none 0 0) (World.ownsRow_nil w w.heap.size 5 1) g1 (Nat.le_refl _)).1
  have hl1 := hl.out.below b1
  have HF := Hid.mk' (ftoa_any b w.heap.size _ w1 h0 h1 o1 b1.size hl1.tabP hl1.u64p)
  clear hmk o1 g1 hl1 hl hi hz0 hz1 hz2
  go_enter Tryz.func188, Tryz.ntmps188
  go_wp2_with fail
  refine HF.out.mono ?_
  rintro e w2 ⟨v2, rfl, o2, b2⟩
  rw [HB.out, show (ffT b).length = ((ffT b).map Nat.toUInt8).length by simp] at o2
  have hcv := conv_row o2 9 Tryz.underlying9
  clear o2
  go_wp2
  go_ret
  exact ⟨rfl, b1.trans b2⟩
set_option maxHeartbeats 400000 in
theorem fmtFloat_any (b : Nat) (w : World) (h0 : 0 < b) (h1 : b < 9218868437227405312) (hl : LaidF w) :
    Calls Tryz.prog 162 #[.float .f64 b, .int .u8 101, .int .i64 (-1), .int .i64 64] w fun e w' => e = .returned (.string (strN (ffT b))) ∧ Below w.heap.size w w' := by
  have HF := Hid.mk' (fmtFloat_in b w h0 h1 hl)
  clear hl
  go_enter Tryz.func162, Tryz.ntmps162
  go_wp2_with fail
  refine HF.out.mono ?_
  rintro e w2 ⟨rfl, b2⟩
  go_wp2
  go_ret
  exact ⟨rfl, b2⟩
end Go.Proofs.YtbkkkpfoaggejaaGreatDoor
