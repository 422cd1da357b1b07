/- strings.Builder: a text written once into a new one. -/
import Derived.Test.YtopdogpcachonaaGreatDoorLSg2
import Derived.Test.YtopdogpcachonaaGreatDoorPoint
import Derived.Lib.Builder
import Derived.Lib.AppendStr
import Derived.Laws.Externs
namespace Go.Proofs.YtopdogpcachonaaGreatDoor
set_option linter.unusedVariables false
open Go.RowKit Go.Shelf

theorem infoB : (Tryz.prog.info? 39).map (fun i => i.size) = some 2 := by kernel_rfl
theorem liesB : liesAt Tryz.prog Tryz.prog.depth 39 (2 / Tryz.prog.cellsOf 39) 0 39 1 = true := by kernel_rfl
theorem conv_there (b : Nat) (w : World) (hsh : w.shape? b = some (39, 2)) : (convert 36 82 (.pointer (some ⟨b, 0, none⟩))).run Tryz.prog w = .ok (.pointer (some ⟨b, 0, none⟩)) w := by
  obtain ⟨j, hj, hjs⟩ := Option.map_eq_some_iff.1 infoB
  simp [convert, run_underlying Tryz.underlying36, run_underlying Tryz.underlying82, Conv.unsafePointer, Conv.seenAt, viewAt, cellsIn, hsh, sizeOf, typeInfo, hj, hjs]
theorem conv_back (b : Nat) (w : World) (hsh : w.shape? b = some (39, 2)) : (convert 82 36 (.pointer (some ⟨b, 0, none⟩))).run Tryz.prog w = .ok (.pointer (some ⟨b, 0, none⟩)) w := by
  obtain ⟨j, hj, hjs⟩ := Option.map_eq_some_iff.1 infoB
  simp [convert, run_underlying Tryz.underlying36, run_underlying Tryz.underlying82, Conv.unsafePointer, Conv.seenAt, viewAt, hsh, variablesAt, liesB, sizeOf, typeInfo, hj]
theorem noEsc (x : Value) (w : World) : (callFunc 39 #[x]).run Tryz.prog w = .ok (.value x) w := by
  rw [run_callFunc_extern Tryz.func39 (by kernel_rfl) (by kernel_rfl) (by kernel_rfl) (e := Extern.AbiNoEscape.same) (by kernel_rfl)]
  rfl
set_option maxHeartbeats 1000000 in
set_option maxRecDepth 100000 in
theorem copyCheck_new (b : Nat) (w : World) (h0 : w.heap[b]? = some (.cells #[.pointer none, .slice none 0 0] 39 (0, 0))) :
    Calls Tryz.prog 19 #[.pointer (some ⟨b, 0, none⟩)] w fun e w' => e = .returned (.tuple #[]) ∧ w' = w.setCell ⟨b, 0, none⟩ (.pointer (some ⟨b, 0, none⟩)) := by
  have hsh : w.shape? b = some (39, 2) := by simp [World.shape?, h0]
  have c0 : w.cell? ⟨b, 0, none⟩ = some (.pointer none) := by rw [cell_of_row _ b 0 _ _ _ h0]; rfl
  have hf : w.frozen? ⟨b, 0, none⟩ = false := by simp only [World.frozen?, h0]; simp
  have h1 := conv_there b w hsh
  have h2 := conv_back b w hsh
  have h3 := noEsc (.pointer (some ⟨b, 0, none⟩)) w
  clear h0 hsh
  go_enter Tryz.func19, Tryz.ntmps19
  go_wp2
  go_end0
  exact ⟨rfl, rfl⟩
theorem strCells_bytes (s : ByteArray) : Lib.strCells s = Lib.byteCells s.data.toList := by
  first | rfl | (simp [Lib.strCells, Lib.byteCells])
set_option maxHeartbeats 1000000 in
set_option maxRecDepth 100000 in
theorem writeString_new (b : Nat) (s : ByteArray) (w : World) (h0 : w.heap[b]? = some (.cells #[.pointer none, .slice none 0 0] 39 (0, 0))) (hs : (s.size : Int) ≤ 1048576) :
    Calls Tryz.prog 12 #[.pointer (some ⟨b, 0, none⟩), .string s] w fun e w' => (∃ v, e = .returned v) ∧ Lib.IsBuilder 39 5 b b (Lib.byteCells s.data.toList) w' ∧ Below b w w' ∧ KN b w w' := by
  have HC := Hid.mk' (copyCheck_new b w h0)
  have hlt : b < w.heap.size := (Array.getElem?_eq_some_iff.1 h0).1
  obtain ⟨W1, hW1⟩ : ∃ W1, w.setCell ⟨b, 0, none⟩ (.pointer (some ⟨b, 0, none⟩)) = W1 := ⟨_, rfl⟩
  have h1 : W1.heap[b]? = some (.cells #[.pointer (some ⟨b, 0, none⟩), .slice none 0 0] 39 (0, 0)) := by rw [← hW1]; exact (set_block _ h0).trans rfl
  have bW : Below b w W1 := by rw [← hW1]; exact (Below.refl b w).setCell (p := ⟨b, 0, none⟩) (Nat.le_refl b) _
  have kW : KN b w W1 := by rw [← hW1]; exact KN.set b 0 w _
  have c1 : W1.cell? ⟨b, 1, none⟩ = some (.slice none 0 0) := by rw [cell_of_row _ b 1 _ _ _ h1]; rfl
  obtain ⟨i0, hi, hz0, hz1, hz2⟩ := info_parts info8
  rw [hW1] at HC
  have hsz : b ≤ W1.heap.size := by have := bW.size; omega
  clear h0 hW1
  go_enter Tryz.func12, Tryz.ntmps12
  go_wp2_with fail
  refine HC.out.mono ?_
  rintro e w1 ⟨rfl, hw1⟩; rw [hw1]; clear hw1 w1
  go_wp2_with (at_builtin; refine Lib.wpList_append_own_string _ rfl _ _ 37 9 rfl b 5 i0 Tryz.underlying37 Tryz.underlying9 hi hz0 hz1 hz2 _ _ _ rfl (World.ownsRow_nil W1 b 5 1) s rfl (by unfold maxLen; omega) (by omega) hsz ?_)
  intro v' w2 o2 g2 _
  have h2 : w2.heap[b]? = some (.cells #[.pointer (some ⟨b, 0, none⟩), .slice none 0 0] 39 (0, 0)) := (g2.block b (Array.getElem?_eq_some_iff.1 h1).1 (by simp [Value.ownBlock])).trans h1
  have d1 : w2.cell? ⟨b, 1, none⟩ = some (.slice none 0 0) := by rw [cell_of_row _ b 1 _ _ _ h2]; rfl
  have f1 : w2.frozen? ⟨b, 1, none⟩ = false := by simp only [World.frozen?, h2]; simp
  have b2 : Below b W1 w2 := (Below.refl _ _).grown g2 hsz (by simp [Value.ownBlock])
  have hne : v'.ownBlock ≠ some b := fun e => by
    obtain ⟨c', fz, h'⟩ := kind_own o2 b e
    rw [h2] at h'
    cases h'
  have HF : Hid (Lib.IsBuilder 39 5 b b (Lib.byteCells s.data.toList) (w2.setCell ⟨b, 1, none⟩ v') ∧ Below b w (w2.setCell ⟨b, 1, none⟩ v') ∧ KN b w (w2.setCell ⟨b, 1, none⟩ v')) := Hid.mk' (by
    refine ⟨.inr ⟨Nat.le_refl _, v', (set_block _ h2).trans rfl, ?_, hne⟩, (bW.trans b2).setCell (p := ⟨b, 1, none⟩) (Nat.le_refl b) _, (kW.trans ⟨g2.size, fun k o _ ho => (g2.block k (Array.getElem?_eq_some_iff.1 ho).1 (by simp [Value.ownBlock])).trans ho⟩).trans (KN.set b 1 w2 v')⟩
    have o3 := own_set (rb := b) (o := 1) v' o2 hne
    rw [strCells_bytes] at o3
    have hl : s.size = (Lib.byteCells s.data.toList).length := by rw [show (Lib.byteCells s.data.toList).length = s.data.toList.length by simp only [Lib.byteCells, List.length_map]]; rfl
    rw [hl] at o3
    exact o3)
  obtain ⟨x', c', rfl, _⟩ := own_slice' o2
  clear o2 g2 h2 h1 b2 bW hne kW
  go_wp2
  go_ret2
  exact ⟨⟨_, rfl⟩, HF.out⟩
set_option maxHeartbeats 1000000 in
set_option maxRecDepth 100000 in
theorem endAhead_c (R : ByteArray) (eb : Nat) (b0 b1 : Bool) (w : World) (c0 : w.cell? ⟨eb, 0, none⟩ = some (.string ⟨#[96]⟩)) (c1 : w.cell? ⟨eb, 1, none⟩ = some (.string ⟨#[36, 123]⟩)) (h0 : Lib.hasPrefix R.data.toList [96] = b0) (h1 : Lib.hasPrefix R.data.toList [36, 123] = b1) :
    Calls Tryz.prog 103 #[.string R, .slice (some ⟨eb, 0, none⟩) 2 2] w fun e w' => e = .returned (.string (if b0 then ⟨#[96]⟩ else if b1 then ⟨#[36, 123]⟩ else ⟨#[]⟩)) ∧ w' = w := by
  have HP0 := Hid.mk' (fun W => Tryz.strings_HasPrefix R ⟨#[96]⟩ W)
  rw [show (⟨#[96]⟩ : ByteArray).data.toList = [96] from rfl, h0] at HP0
  have HP1 := Hid.mk' (fun W => Tryz.strings_HasPrefix R ⟨#[36, 123]⟩ W)
  rw [show (⟨#[36, 123]⟩ : ByteArray).data.toList = [36, 123] from rfl, h1] at HP1
  clear h0 h1
  go_enter Tryz.func103, Tryz.ntmps103
  go_wp2
  go_loop [9] (fun v => v = .int .i64 0 ∨ (b0 = false ∧ v = .int .i64 1) ∨ (b0 = false ∧ b1 = false ∧ v = .int .i64 2)) (fun v => 2 - (intOf v).toNat)
  case atStart => exact .inl rfl
  case round =>
    rcases hrel with rfl | ⟨rfl, rfl⟩ | ⟨rfl, rfl, rfl⟩
    · cases b0
      · go_wp2_with (go_at_call 55; refine (HP0.out _).mono ?_; rintro e w1 ⟨rfl, hw1⟩; rw [hw1]; clear hw1 w1)
        go_round
        case rel => exact .inr (.inl (by simp))
        case measure => simp [intOf]
      · go_wp2_with (go_at_call 55; refine (HP0.out _).mono ?_; rintro e w1 ⟨rfl, hw1⟩; rw [hw1]; clear hw1 w1)
        go_ret
        exact ⟨rfl, rfl⟩
    · cases b1
      · go_wp2_with (go_at_call 55; refine (HP1.out _).mono ?_; rintro e w1 ⟨rfl, hw1⟩; rw [hw1]; clear hw1 w1)
        go_round
        case rel => exact .inr (.inr (by simp))
        case measure => simp [intOf]
      · go_wp2_with (go_at_call 55; refine (HP1.out _).mono ?_; rintro e w1 ⟨rfl, hw1⟩; rw [hw1]; clear hw1 w1)
        go_ret
        exact ⟨rfl, rfl⟩
    · go_wp2
      go_ret
      exact ⟨rfl, rfl⟩
set_option maxHeartbeats 1000000 in
set_option maxRecDepth 100000 in
theorem partAhead_c (s : ByteArray) (c : Nat) (l : Bool) (w : World) (hc : c < 128) (q1 : ((c : Int) == 92) = false) (q2 : ((c : Int) == 10) = false) (q3 : ((c : Int) == 13) = false) :
    Calls Tryz.prog 104 #[.string s, .int .i32 c, .bool l] w fun e w' => e = .returned (.tuple #[.string ⟨(pb c).toArray⟩, .int .i64 1]) ∧ Below w.heap.size w w' := by
  have HP := Hid.mk' (point_any c (by omega) w)
  have HL := Hid.mk' (fun W => Tryz.utf8_RuneLen (c : Int) W)
  rw [show Lib.runeLen (c : Int) = 1 by unfold Lib.runeLen; first | (rw [if_neg (by omega), if_pos (by omega)]) | (simp; omega)] at HL
  obtain ⟨z, hz⟩ : ∃ z : Int, (c : Int) = z := ⟨_, rfl⟩
  rw [hz] at HP HL q1 q2 q3 ⊢
  clear hz
  go_enter Tryz.func104, Tryz.ntmps104
  go_wp2_with fail
  refine HP.out.mono ?_; rintro e w1 ⟨rfl, b1⟩
  go_wp2_with fail
  refine (HL.out _).mono ?_; rintro e w2 ⟨rfl, hw2⟩; rw [hw2]; clear hw2 w2
  go_wp2
  go_ret2
  exact ⟨rfl, b1⟩
end Go.Proofs.YtopdogpcachonaaGreatDoor
