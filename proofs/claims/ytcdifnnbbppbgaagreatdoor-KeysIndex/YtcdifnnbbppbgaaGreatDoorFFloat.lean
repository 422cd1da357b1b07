/- strconv.FormatFloat(x, 'e', -1, 64). -/
import Derived.Test.YtcdifnnbbppbgaaGreatDoorFtoa
import Derived.Test.YtcdifnnbbppbgaaGreatDoorOf
namespace Go.Proofs.YtcdifnnbbppbgaaGreatDoor
set_option linter.unusedVariables false
open Go.RowKit Fl

/-- The exact powers of ten. -/
def p10L : List Nat := [4607182418800017408, 4621819117588971520, 4636737291354636288, 4652007308841189376, 4666723172467343360, 4681608360884174848, 4696837146684686336, 4711630319722168320, 4726483295884279808, 4741671816366391296, 4756540486875873280, 4771362005757984768, 4786511204640096256, 4801453603149578240, 4816244402031689728, 4831355200913801216, 4846369599423283200, 4861130398305394688, 4876203697187506176, 4891288408196988160, 4906019910204099648, 4921056587992461136, 4936209963552724370]
/-- What FormatFloat reads of what the program's text has laid. -/
structure LaidF (w : World) : Prop where
  tabP : TabP w
  u64p : Lib.TabIs Tryz.prog w "internal/strconv.uint64pow10" .u64 Lib.pow10Tab
theorem LaidF.below {w w' : World} (h : LaidF w) (hb : Below w.heap.size w w') : LaidF w' :=
  have hc : ∀ b o v, w.cell? ⟨b, o, none⟩ = some v → w'.cell? ⟨b, o, none⟩ = some v := fun b o v hv => (hb.cell (p := ⟨b, o, none⟩) (World.block_lt_of_cell? w _ hv)).trans hv
  ⟨fun i hi => ⟨hc _ _ _ (h.tabP i hi).1, hc _ _ _ (h.tabP i hi).2⟩, Lib.tabBelow_of_tabIs h.u64p _ hb⟩
set_option maxHeartbeats 1000000 in
set_option maxRecDepth 100000 in
theorem fmtFloat_in (b : Nat) (w : World) (h0 : 0 < b) (h1 : b < 9218868437227405312) (hl : Hid (LaidF w)) :
    Calls Tryz.prog 68 #[.float .f64 b, .int .u8 101, .int .i64 (-1), .int .i64 64] w fun e w' => e = .returned (.string (strN (ffT b))) ∧ Below w.heap.size w w' := by
  have HB := Hid.mk' (u8c_bytes _ (ffT_lt b h0 h1))
  obtain ⟨i0, hi, hz0, hz1, hz2⟩ := info_parts info8
  obtain ⟨w1, hmk, o1, g1⟩ := run_makeSlice_owned (P := Tryz.prog) w w.heap.size 66 5 i0 (.int .u8 0) 1 Tryz.underlying66 hi hz0 hz1 .i64 .i64 24 (by omega) (by rw [hz2]; omega) (by unfold maxLen; omega) (Nat.le_refl _)
  have hmk' : (Instr.makeSlice 66 (.int .i64 0) (.int .i64 (max 3 24))).run Tryz.prog w = .ok (.slice (some ⟨w.heap.size, 0, none⟩) 0 24) w1 := hmk
  have b1 : Below w.heap.size w w1 := (kept_append (v := .slice none 0 0) (World.ownsRow_nil w w.heap.size 5 1) g1 (Nat.le_refl _)).1
  have hl1 := hl.out.below b1
  have HF := Hid.mk' (ftoa_any b w.heap.size _ w1 h0 h1 o1 b1.size hl1.tabP hl1.u64p)
  clear hmk o1 g1 hl1 hl hi hz0 hz1 hz2
  go_enter Tryz.func68, Tryz.ntmps68
  go_wp2_with fail
  refine HF.out.mono ?_
  rintro e w2 ⟨v2, rfl, o2, b2⟩
  rw [HB.out, show (ffT b).length = ((ffT b).map Nat.toUInt8).length by simp] at o2
  have hcv := conv_row o2 9 Tryz.underlying9
  clear o2
  go_wp2
  go_ret
  exact ⟨rfl, b1.trans b2⟩
set_option maxHeartbeats 400000 in
theorem fmtFloat_any (b : Nat) (w : World) (h0 : 0 < b) (h1 : b < 9218868437227405312) (hl : LaidF w) :
    Calls Tryz.prog 46 #[.float .f64 b, .int .u8 101, .int .i64 (-1), .int .i64 64] w fun e w' => e = .returned (.string (strN (ffT b))) ∧ Below w.heap.size w w' := by
  have HF := Hid.mk' (fmtFloat_in b w h0 h1 hl)
  clear hl
  go_enter Tryz.func46, Tryz.ntmps46
  go_wp2_with fail
  refine HF.out.mono ?_
  rintro e w2 ⟨rfl, b2⟩
  go_wp2
  go_ret
  exact ⟨rfl, b2⟩
end Go.Proofs.YtcdifnnbbppbgaaGreatDoor
