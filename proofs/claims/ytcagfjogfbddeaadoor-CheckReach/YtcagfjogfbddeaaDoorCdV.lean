/- The document's table of instructions. The document's table of instructions: an entry. -/
import Derived.Test.YtcagfjogfbddeaaDoorCdF
import Derived.PlainAid
namespace Go.Proofs.YtcagfjogfbddeaaDoor
set_option linter.unusedVariables false
set_option linter.unusedSimpArgs false
open Go.RowKit

def tblL : List (List UInt8) := [[76, 111, 97, 100, 32, 114, 110], [67, 111, 110, 115, 116, 32, 114, 107], [77, 111, 118, 101, 32, 114, 114], [84, 104, 105, 115, 32, 114], [67, 97, 108, 108, 101, 101, 32, 114], [71, 108, 111, 98, 97, 108, 32, 114, 115], [84, 114, 121, 32, 114, 115], [65, 115, 115, 105, 103, 110, 32, 115, 114], [67, 101, 108, 108, 32, 114, 114], [80, 101, 101, 107, 32, 114, 114], [80, 111, 107, 101, 32, 114, 114], [85, 112, 32, 114, 117], [85, 112, 83, 101, 116, 32, 117, 114], [65, 115, 107, 32, 114, 115], [70, 105, 120, 101, 100, 32, 115], [67, 108, 111, 115, 117, 114, 101, 32, 114, 102], [74, 117, 109, 112, 32, 116], [73, 102, 32, 114, 116], [78, 111, 116, 32, 114, 116], [83, 97, 109, 101, 32, 114, 110, 116], [79, 98, 106, 101, 99, 116, 32, 114], [65, 114, 114, 97, 121, 32, 114], [76, 105, 115, 116, 32, 114], [80, 117, 115, 104, 32, 114, 114], [83, 112, 114, 101, 97, 100, 32, 114, 114], [80, 117, 116, 32, 114, 114, 114], [71, 101, 116, 116, 101, 114, 32, 114, 114, 114], [83, 101, 116, 116, 101, 114, 32, 114, 114, 114], [71, 101, 116, 32, 114, 114, 114], [83, 101, 116, 32, 114, 114, 114], [68, 101, 108, 101, 116, 101, 32, 114, 114, 114], [75, 101, 121, 32, 114, 114], [67, 97, 108, 108, 32, 114, 114, 114, 114], [78, 101, 119, 32, 114, 114, 114], [82, 101, 116, 117, 114, 110, 32, 114], [84, 104, 114, 111, 119, 32, 114], [75, 101, 121, 115, 32, 114, 114], [78, 101, 120, 116, 32, 114, 114, 116], [73, 116, 101, 114, 32, 114, 114], [83, 116, 101, 112, 32, 114, 114, 116], [67, 108, 111, 115, 101, 32, 114], [81, 117, 105, 101, 116, 32, 114], [84, 101, 120, 116, 32, 114, 114], [68, 111, 110, 101, 32, 114], [80, 108, 117, 115, 32, 114, 114], [77, 105, 110, 117, 115, 32, 114, 114], [70, 108, 105, 112, 32, 114, 114], [66, 97, 110, 103, 32, 114, 114], [84, 121, 112, 101, 32, 114, 114]]
def tblV : Array Value := #[.string ⟨#[76, 111, 97, 100, 32, 114, 110]⟩, .string ⟨#[67, 111, 110, 115, 116, 32, 114, 107]⟩, .string ⟨#[77, 111, 118, 101, 32, 114, 114]⟩, .string ⟨#[84, 104, 105, 115, 32, 114]⟩, .string ⟨#[67, 97, 108, 108, 101, 101, 32, 114]⟩, .string ⟨#[71, 108, 111, 98, 97, 108, 32, 114, 115]⟩, .string ⟨#[84, 114, 121, 32, 114, 115]⟩, .string ⟨#[65, 115, 115, 105, 103, 110, 32, 115, 114]⟩, .string ⟨#[67, 101, 108, 108, 32, 114, 114]⟩, .string ⟨#[80, 101, 101, 107, 32, 114, 114]⟩, .string ⟨#[80, 111, 107, 101, 32, 114, 114]⟩, .string ⟨#[85, 112, 32, 114, 117]⟩, .string ⟨#[85, 112, 83, 101, 116, 32, 117, 114]⟩, .string ⟨#[65, 115, 107, 32, 114, 115]⟩, .string ⟨#[70, 105, 120, 101, 100, 32, 115]⟩, .string ⟨#[67, 108, 111, 115, 117, 114, 101, 32, 114, 102]⟩, .string ⟨#[74, 117, 109, 112, 32, 116]⟩, .string ⟨#[73, 102, 32, 114, 116]⟩, .string ⟨#[78, 111, 116, 32, 114, 116]⟩, .string ⟨#[83, 97, 109, 101, 32, 114, 110, 116]⟩, .string ⟨#[79, 98, 106, 101, 99, 116, 32, 114]⟩, .string ⟨#[65, 114, 114, 97, 121, 32, 114]⟩, .string ⟨#[76, 105, 115, 116, 32, 114]⟩, .string ⟨#[80, 117, 115, 104, 32, 114, 114]⟩, .string ⟨#[83, 112, 114, 101, 97, 100, 32, 114, 114]⟩, .string ⟨#[80, 117, 116, 32, 114, 114, 114]⟩, .string ⟨#[71, 101, 116, 116, 101, 114, 32, 114, 114, 114]⟩, .string ⟨#[83, 101, 116, 116, 101, 114, 32, 114, 114, 114]⟩, .string ⟨#[71, 101, 116, 32, 114, 114, 114]⟩, .string ⟨#[83, 101, 116, 32, 114, 114, 114]⟩, .string ⟨#[68, 101, 108, 101, 116, 101, 32, 114, 114, 114]⟩, .string ⟨#[75, 101, 121, 32, 114, 114]⟩, .string ⟨#[67, 97, 108, 108, 32, 114, 114, 114, 114]⟩, .string ⟨#[78, 101, 119, 32, 114, 114, 114]⟩, .string ⟨#[82, 101, 116, 117, 114, 110, 32, 114]⟩, .string ⟨#[84, 104, 114, 111, 119, 32, 114]⟩, .string ⟨#[75, 101, 121, 115, 32, 114, 114]⟩, .string ⟨#[78, 101, 120, 116, 32, 114, 114, 116]⟩, .string ⟨#[73, 116, 101, 114, 32, 114, 114]⟩, .string ⟨#[83, 116, 101, 112, 32, 114, 114, 116]⟩, .string ⟨#[67, 108, 111, 115, 101, 32, 114]⟩, .string ⟨#[81, 117, 105, 101, 116, 32, 114]⟩, .string ⟨#[84, 101, 120, 116, 32, 114, 114]⟩, .string ⟨#[68, 111, 110, 101, 32, 114]⟩, .string ⟨#[80, 108, 117, 115, 32, 114, 114]⟩, .string ⟨#[77, 105, 110, 117, 115, 32, 114, 114]⟩, .string ⟨#[70, 108, 105, 112, 32, 114, 114]⟩, .string ⟨#[66, 97, 110, 103, 32, 114, 114]⟩, .string ⟨#[84, 121, 112, 101, 32, 114, 114]⟩]
def binV : Array Value := #[.string ⟨#[43]⟩, .string ⟨#[45]⟩, .string ⟨#[42]⟩, .string ⟨#[47]⟩, .string ⟨#[37]⟩, .string ⟨#[42, 42]⟩, .string ⟨#[60, 60]⟩, .string ⟨#[62, 62]⟩, .string ⟨#[62, 62, 62]⟩, .string ⟨#[38]⟩, .string ⟨#[124]⟩, .string ⟨#[94]⟩, .string ⟨#[60]⟩, .string ⟨#[62]⟩, .string ⟨#[60, 61]⟩, .string ⟨#[62, 61]⟩, .string ⟨#[61, 61]⟩, .string ⟨#[33, 61]⟩, .string ⟨#[61, 61, 61]⟩, .string ⟨#[33, 61, 61]⟩, .string ⟨#[105, 110]⟩, .string ⟨#[105, 110, 115, 116, 97, 110, 99, 101, 111, 102]⟩]
theorem tblV_get (op : Nat) (h : op < 49) : tblV[op]? = some (.string (Sb (tblL.getD op []))) := by
  have key : ∀ k : Fin 49, tblV[k.val]? = some (.string (Sb (tblL.getD k.val []))) := by
    intro k
    match k with
    | ⟨0, _⟩ => exact rfl
    | ⟨1, _⟩ => exact rfl
    | ⟨2, _⟩ => exact rfl
    | ⟨3, _⟩ => exact rfl
    | ⟨4, _⟩ => exact rfl
    | ⟨5, _⟩ => exact rfl
    | ⟨6, _⟩ => exact rfl
    | ⟨7, _⟩ => exact rfl
    | ⟨8, _⟩ => exact rfl
    | ⟨9, _⟩ => exact rfl
    | ⟨10, _⟩ => exact rfl
    | ⟨11, _⟩ => exact rfl
    | ⟨12, _⟩ => exact rfl
    | ⟨13, _⟩ => exact rfl
    | ⟨14, _⟩ => exact rfl
    | ⟨15, _⟩ => exact rfl
    | ⟨16, _⟩ => exact rfl
    | ⟨17, _⟩ => exact rfl
    | ⟨18, _⟩ => exact rfl
    | ⟨19, _⟩ => exact rfl
    | ⟨20, _⟩ => exact rfl
    | ⟨21, _⟩ => exact rfl
    | ⟨22, _⟩ => exact rfl
    | ⟨23, _⟩ => exact rfl
    | ⟨24, _⟩ => exact rfl
    | ⟨25, _⟩ => exact rfl
    | ⟨26, _⟩ => exact rfl
    | ⟨27, _⟩ => exact rfl
    | ⟨28, _⟩ => exact rfl
    | ⟨29, _⟩ => exact rfl
    | ⟨30, _⟩ => exact rfl
    | ⟨31, _⟩ => exact rfl
    | ⟨32, _⟩ => exact rfl
    | ⟨33, _⟩ => exact rfl
    | ⟨34, _⟩ => exact rfl
    | ⟨35, _⟩ => exact rfl
    | ⟨36, _⟩ => exact rfl
    | ⟨37, _⟩ => exact rfl
    | ⟨38, _⟩ => exact rfl
    | ⟨39, _⟩ => exact rfl
    | ⟨40, _⟩ => exact rfl
    | ⟨41, _⟩ => exact rfl
    | ⟨42, _⟩ => exact rfl
    | ⟨43, _⟩ => exact rfl
    | ⟨44, _⟩ => exact rfl
    | ⟨45, _⟩ => exact rfl
    | ⟨46, _⟩ => exact rfl
    | ⟨47, _⟩ => exact rfl
    | ⟨48, _⟩ => exact rfl
    | ⟨n + 49, h⟩ => exact absurd h (by omega)
  exact key ⟨op, h⟩
theorem binV_get (op : Nat) (h : op < 22) : ∃ s, binV[op]? = some (.string s) := by
  have key : ∀ k : Fin 22, ∃ s, binV[k.val]? = some (.string s) := by
    intro k
    match k with
    | ⟨0, _⟩ => exact ⟨_, rfl⟩
    | ⟨1, _⟩ => exact ⟨_, rfl⟩
    | ⟨2, _⟩ => exact ⟨_, rfl⟩
    | ⟨3, _⟩ => exact ⟨_, rfl⟩
    | ⟨4, _⟩ => exact ⟨_, rfl⟩
    | ⟨5, _⟩ => exact ⟨_, rfl⟩
    | ⟨6, _⟩ => exact ⟨_, rfl⟩
    | ⟨7, _⟩ => exact ⟨_, rfl⟩
    | ⟨8, _⟩ => exact ⟨_, rfl⟩
    | ⟨9, _⟩ => exact ⟨_, rfl⟩
    | ⟨10, _⟩ => exact ⟨_, rfl⟩
    | ⟨11, _⟩ => exact ⟨_, rfl⟩
    | ⟨12, _⟩ => exact ⟨_, rfl⟩
    | ⟨13, _⟩ => exact ⟨_, rfl⟩
    | ⟨14, _⟩ => exact ⟨_, rfl⟩
    | ⟨15, _⟩ => exact ⟨_, rfl⟩
    | ⟨16, _⟩ => exact ⟨_, rfl⟩
    | ⟨17, _⟩ => exact ⟨_, rfl⟩
    | ⟨18, _⟩ => exact ⟨_, rfl⟩
    | ⟨19, _⟩ => exact ⟨_, rfl⟩
    | ⟨20, _⟩ => exact ⟨_, rfl⟩
    | ⟨21, _⟩ => exact ⟨_, rfl⟩
    | ⟨n + 22, h⟩ => exact absurd h (by omega)
  exact key ⟨op, h⟩
/-- Where a row's blank stands. -/
def blk (op : Nat) : Nat := (tblL.getD op []).findIdx (· == 32)
theorem tbl_ok (op : Nat) (h : op < 49) : blk op < (tblL.getD op []).length ∧ (tblL.getD op []).getD (blk op) 0 = 32 ∧ (∀ j, j < blk op → (tblL.getD op []).getD j 0 ≠ 32) ∧ (tblL.getD op []).drop (blk op + 1) = letsOf op ∧ (tblL.getD op []).length ≤ 30 := by
  have key : ∀ k : Fin 49, blk k.val < (tblL.getD k.val []).length ∧ (tblL.getD k.val []).getD (blk k.val) 0 = 32 ∧ (∀ j, j < blk k.val → (tblL.getD k.val []).getD j 0 ≠ 32) ∧ (tblL.getD k.val []).drop (blk k.val + 1) = letsOf k.val ∧ (tblL.getD k.val []).length ≤ 30 := by decide +kernel
  exact key ⟨op, h⟩
set_option maxHeartbeats 2000000 in
set_option maxRecDepth 100000 in
theorem table_any (w : World) : Calls Tryd.prog 48 #[] w fun e w' => e = .returned (.slice (some ⟨w.heap.size, 0, none⟩) 49 49) ∧ w' = w.alloc (.cells tblV 9) := by
  go_enter Tryd.func48, Tryd.ntmps48
  go_wp2
  go_ret
  exact ⟨rfl, rfl⟩
set_option maxHeartbeats 2000000 in
set_option maxRecDepth 100000 in
theorem binary_any (w : World) : Calls Tryd.prog 49 #[.int .i64 22] w fun e w' => e = .returned (.slice (some ⟨w.heap.size, 0, none⟩) 22 22) ∧ w' = w.alloc (.cells binV 9) := by
  go_enter Tryd.func49, Tryd.ntmps49
  go_wp2
  go_ret
  exact ⟨rfl, rfl⟩
end Go.Proofs.YtcagfjogfbddeaaDoor

namespace Go.Proofs.YtcagfjogfbddeaaDoor
set_option linter.unusedVariables false
set_option linter.unusedSimpArgs false
open Go.RowKit

theorem bt_Sb (T : List UInt8) (j : Nat) (h : j < T.length) : PlainAid.bt (Sb T) j = ((T.getD j 0).toNat : Int) := by
  have hs : j < (Sb T).size := by rw [Sb_size]; exact h
  unfold PlainAid.bt
  rw [dif_pos hs]
  rw [List.getD_eq_getElem?_getD, List.getElem?_eq_getElem h]
  rfl
theorem no_blank {x : UInt8} {z : Int} (h : z = (x.toNat : Int)) (hx : x ≠ 32) : (z == 32) = false := by
  have h3 : x.toNat ≠ 32 := fun q => hx (UInt8.toNat_inj.1 q)
  simp
  omega
theorem meas_int (K j : Nat) (h : j < K) : K - ((j : Int) + 1).toNat < K - ((j : Int)).toNat := by omega
theorem next_w (j n : Nat) (h : j < n) (hn : n ≤ 30) : wrap64 ((j : Int) + 1) = (j : Int) + 1 := by unfold wrap64; omega
theorem next_v (j n : Nat) (h : j < n) (hn : n ≤ 30) : Value.int .i64 (wrap64 ((j : Int) + 1)) = .int .i64 ((j + 1 : Nat) : Int) := by rw [next_w j n h hn]; rfl
theorem next_m (K j n : Nat) (h : j < n) (hn : n ≤ 30) (hk : j < K) : K - (wrap64 ((j : Int) + 1)).toNat < K - j := by rw [next_w j n h hn]; exact meas_int K j hk
set_option maxHeartbeats 4000000 in
set_option maxRecDepth 100000 in
theorem entry_lo (op : Nat) (h49 : op < 49) (w : World) : Calls Tryd.prog 37 #[.int .i64 (op : Int)] w fun e w' => ∃ nm, e = .returned (.tuple #[.string nm, .string (Sb (letsOf op))]) ∧ Below w.heap.size w w' := by
  have HT := Hid.mk' (table_any w)
  have i0 : ¬ (op : Int) < 0 := by omega
  have i1 : ¬ (70 : Int) < (op : Int) := by omega
  obtain ⟨W1, hW1⟩ : ∃ W1, w.alloc (.cells tblV 9) = W1 := ⟨_, rfl⟩
  have hB1 : Below w.heap.size w W1 := by rw [← hW1]; exact lay_below
  have hX1 : W1.heap[w.heap.size]? = some (.cells tblV 9 (0, 0)) := by rw [← hW1]; exact box_new
  rw [hW1] at HT
  have HB1 := Hid.mk' hB1
  obtain ⟨b, hb⟩ : ∃ b, w.heap.size = b := ⟨_, rfl⟩
  rw [hb] at HT hX1
  have c0 := (cell_row _ b op _ _ hX1).trans (tblV_get op h49)
  obtain ⟨k1, k2, k3, k4, k5⟩ := tbl_ok op h49
  have i2 : ¬ (49 : Int) ≤ (op : Int) := by omega
  have i3 : (op : Int) < 49 := by omega
  obtain ⟨K, hK⟩ : ∃ K, blk op = K := ⟨_, rfl⟩
  obtain ⟨T, hT⟩ : ∃ T, tblL.getD op [] = T := ⟨_, rfl⟩
  rw [hK, hT] at k1 k2 k3 k4
  rw [hT] at c0 k5
  have hs : (Sb T).size = T.length := Sb_size T
  have hby := bt_Sb T
  have hbt := PlainAid.get_bt (Sb T)
  have HE : Hid ((Sb T).extract (K + 1) (Sb T).size = Sb (letsOf op)) := Hid.mk' (by
    rw [Sb_extract, hs, List.take_length, k4])
  obtain ⟨s, hs'⟩ : ∃ s, Sb T = s := ⟨_, rfl⟩
  rw [hs'] at c0 hs hby hbt HE
  go_enter Tryd.func37, Tryd.ntmps37
  go_wp2_with fail
  refine HT.out.mono ?_
  rintro e w1 ⟨rfl, hw1⟩
  rw [hw1]
  clear hw1 w1
  have hsz : (s.size : Int) = (T.length : Int) := by omega
  have HKK := Hid.mk' (And.intro k1 (And.intro k2 k3))
  have HK5 := Hid.mk' k5
  have HX1 := Hid.mk' hX1
  have HBY := Hid.mk' hby
  clear k1 k2 k3 k4 k5 hby hs' hs hT hK hX1 hW1
  go_wp2
  go_loop [5] (fun iv => ∃ j : Nat, iv = .int .i64 (j : Int) ∧ j ≤ K) (fun iv => K - (intOf iv).toNat)
  case atStart => exact ⟨0, rfl, by omega⟩
  case round =>
    obtain ⟨j, rfl, hj⟩ := hrel
    have hjl : j < T.length := by have := HKK.out.1; omega
    have h1 := HBY.out j hjl
    have j1 : (j : Int) < (s.size : Int) := by omega
    have j2 : (j : Int) + 1 ≤ (s.size : Int) := by omega
    have j30 : (j : Int) < 30 := by have := HK5.out; omega
    by_cases hjk : j < K
    · obtain ⟨z, hz⟩ : ∃ z : Int, PlainAid.bt s j = z := ⟨_, rfl⟩
      have hz32 : (z == 32) = false := no_blank (hz.symm.trans h1) (HKK.out.2.2 j hjk)
      clear h1
      go_wp2
      go_round
      case rel => exact ⟨j + 1, by go_num, hjk⟩
      case measure =>
        have := meas_int K j hjk
        simpa [intOf] using this
    · obtain rfl : j = K := by omega
      have hz : PlainAid.bt s j = 32 := by rw [h1, HKK.out.2.1]; rfl
      clear h1
      go_wp2_with fail
      go_quiet (fail)
      go_wp2
      go_ret2
      refine ⟨s.extract 0 j, ?_, HB1.out.trans (kept_drewN _ 0 _ _).1⟩
      show Ending.returned (.tuple #[.string (s.extract 0 j), .string (s.extract (j + 1) s.size)]) = _
      rw [HE.out]
set_option maxHeartbeats 4000000 in
set_option maxRecDepth 100000 in
theorem entry_hi (q : Nat) (h22 : q < 22) (w : World) : Calls Tryd.prog 37 #[.int .i64 ((q : Int) + 49)] w fun e w' => ∃ nm, e = .returned (.tuple #[.string nm, .string (Sb (letsOf (q + 49)))]) ∧ Below w.heap.size w w' := by
  have HT := Hid.mk' (table_any w)
  have i0 : ¬ (q : Int) + 49 < 0 := by omega
  have i1 : ¬ (70 : Int) < (q : Int) + 49 := by omega
  obtain ⟨W1, hW1⟩ : ∃ W1, w.alloc (.cells tblV 9) = W1 := ⟨_, rfl⟩
  have hB1 : Below w.heap.size w W1 := by rw [← hW1]; exact lay_below
  have hX1 : W1.heap[w.heap.size]? = some (.cells tblV 9 (0, 0)) := by rw [← hW1]; exact box_new
  rw [hW1] at HT
  have HB1 := Hid.mk' hB1
  obtain ⟨b, hb⟩ : ∃ b, w.heap.size = b := ⟨_, rfl⟩
  rw [hb] at HT hX1
  obtain ⟨nm, hnm⟩ := binV_get q h22
  have HO := Hid.mk' (binary_any W1)
  obtain ⟨W2, hW2⟩ : ∃ W2, W1.alloc (.cells binV 9) = W2 := ⟨_, rfl⟩
  have hB2 : Below W1.heap.size W1 W2 := by rw [← hW2]; exact lay_below
  have hX2 : W2.heap[W1.heap.size]? = some (.cells binV 9 (0, 0)) := by rw [← hW2]; exact box_new
  rw [hW2] at HO
  have HB2 := Hid.mk' (HB1.out.trans (hB2.mono HB1.out.size))
  obtain ⟨b2, hb2⟩ : ∃ b2, W1.heap.size = b2 := ⟨_, rfl⟩
  rw [hb2] at HO hX2
  have c0 := (cell_row _ b2 q _ _ hX2).trans hnm
  have i2 : (49 : Int) ≤ (q : Int) + 49 := by omega
  have i3 : (q : Int) < 22 := by omega
  have i4 : wrap64 ((q : Int) + 49 - 49) = (q : Int) := by unfold wrap64; omega
  have HL : Hid (letsOf (q + 49) = [114, 114, 114]) := Hid.mk' (by
    unfold letsOf
    rw [show min (q + 49) 49 = 49 by omega]
    rfl)
  clear hB2 hX2 hX1 hW1 hW2 hnm
  go_enter Tryd.func37, Tryd.ntmps37
  go_wp2_with fail
  refine HT.out.mono ?_
  rintro e w1 ⟨rfl, hw1⟩
  rw [hw1]
  clear hw1 w1
  go_wp2_with fail
  refine HO.out.mono ?_
  rintro e w1 ⟨rfl, hw1⟩
  rw [hw1]
  clear hw1 w1
  go_wp2
  go_ret2
  refine ⟨nm, ?_, HB2.out⟩
  rw [HL.out]
  rfl
theorem entry_any (op : Nat) (h70 : op ≤ 70) (w : World) : Calls Tryd.prog 37 #[.int .i64 (op : Int)] w fun e w' => ∃ nm, e = .returned (.tuple #[.string nm, .string (Sb (letsOf op))]) ∧ Below w.heap.size w w' := by
  by_cases h49 : op < 49
  · exact entry_lo op h49 w
  · obtain ⟨q, hq⟩ : ∃ q : Nat, op = q + 49 := ⟨op - 49, by omega⟩
    subst hq
    exact entry_hi q (by omega) w
set_option maxHeartbeats 1000000 in
theorem rOperands_any (op : Nat) (h70 : op ≤ 70) (w : World) : Calls Tryd.prog 26 #[.int .i64 (op : Int)] w fun e w' => e = .returned (.string (Sb (letsOf op))) ∧ Below w.heap.size w w' := by
  have HE := Hid.mk' (entry_any op h70 w)
  go_enter Tryd.func26, Tryd.ntmps26
  go_wp2_with fail
  refine HE.out.mono ?_
  rintro e w1 ⟨nm, rfl, hb⟩
  go_wp2
  go_ret
  exact ⟨rfl, hb⟩
end Go.Proofs.YtcagfjogfbddeaaDoor
