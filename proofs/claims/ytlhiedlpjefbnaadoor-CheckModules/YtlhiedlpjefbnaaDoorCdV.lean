/- The document's table of instructions: an entry. -/
import Derived.Test.YtlhiedlpjefbnaaDoorCdU
import Derived.PlainAid
namespace Go.Proofs.YtlhiedlpjefbnaaDoor
set_option linter.unusedVariables false
set_option linter.unusedSimpArgs false
open Go.RowKit

theorem bt_Sb (T : List UInt8) (j : Nat) (h : j < T.length) : PlainAid.bt (Sb T) j = ((T.getD j 0).toNat : Int) := by
  have hs : j < (Sb T).size := by rw [Sb_size]; exact h
  unfold PlainAid.bt
  rw [dif_pos hs]
  rw [List.getD_eq_getElem?_getD, List.getElem?_eq_getElem h]
  rfl
theorem no_blank {x : UInt8} {z : Int} (h : z = (x.toNat : Int)) (hx : x ≠ 32) : (z == 32) = false := by
  have h3 : x.toNat ≠ 32 := fun q => hx (UInt8.toNat_inj.1 q)
  simp
  omega
theorem meas_int (K j : Nat) (h : j < K) : K - ((j : Int) + 1).toNat < K - ((j : Int)).toNat := by omega
theorem next_w (j n : Nat) (h : j < n) (hn : n ≤ 30) : wrap64 ((j : Int) + 1) = (j : Int) + 1 := by unfold wrap64; omega
theorem next_v (j n : Nat) (h : j < n) (hn : n ≤ 30) : Value.int .i64 (wrap64 ((j : Int) + 1)) = .int .i64 ((j + 1 : Nat) : Int) := by rw [next_w j n h hn]; rfl
theorem next_m (K j n : Nat) (h : j < n) (hn : n ≤ 30) (hk : j < K) : K - (wrap64 ((j : Int) + 1)).toNat < K - j := by rw [next_w j n h hn]; exact meas_int K j hk
set_option maxHeartbeats 4000000 in
set_option maxRecDepth 100000 in
theorem entry_lo (op : Nat) (h49 : op < 49) (w : World) : Calls Tryd.prog 52 #[.int .i64 (op : Int)] w fun e w' => ∃ nm, e = .returned (.tuple #[.string nm, .string (Sb (letsOf op))]) ∧ Below w.heap.size w w' := by
  have HT := Hid.mk' (table_any w)
  have i0 : ¬ (op : Int) < 0 := by omega
  have i1 : ¬ (70 : Int) < (op : Int) := by omega
  obtain ⟨W1, hW1⟩ : ∃ W1, w.alloc (.cells tblV 9) = W1 := ⟨_, rfl⟩
  have hB1 : Below w.heap.size w W1 := by rw [← hW1]; exact lay_below
  have hX1 : W1.heap[w.heap.size]? = some (.cells tblV 9 (0, 0)) := by rw [← hW1]; exact box_new
  rw [hW1] at HT
  have HB1 := Hid.mk' hB1
  obtain ⟨b, hb⟩ : ∃ b, w.heap.size = b := ⟨_, rfl⟩
  rw [hb] at HT hX1
  have c0 := (cell_row _ b op _ _ hX1).trans (tblV_get op h49)
  obtain ⟨k1, k2, k3, k4, k5⟩ := tbl_ok op h49
  have i2 : ¬ (49 : Int) ≤ (op : Int) := by omega
  have i3 : (op : Int) < 49 := by omega
  obtain ⟨K, hK⟩ : ∃ K, blk op = K := ⟨_, rfl⟩
  obtain ⟨T, hT⟩ : ∃ T, tblL.getD op [] = T := ⟨_, rfl⟩
  rw [hK, hT] at k1 k2 k3 k4
  rw [hT] at c0 k5
  have hs : (Sb T).size = T.length := Sb_size T
  have hby := bt_Sb T
  have hbt := PlainAid.get_bt (Sb T)
  have HE : Hid ((Sb T).extract (K + 1) (Sb T).size = Sb (letsOf op)) := Hid.mk' (by
    rw [Sb_extract, hs, List.take_length, k4])
  obtain ⟨s, hs'⟩ : ∃ s, Sb T = s := ⟨_, rfl⟩
  rw [hs'] at c0 hs hby hbt HE
  go_enter Tryd.func52, Tryd.ntmps52
  go_wp2_with fail
  refine HT.out.mono ?_
  rintro e w1 ⟨rfl, hw1⟩
  rw [hw1]
  clear hw1 w1
  have hsz : (s.size : Int) = (T.length : Int) := by omega
  have HKK := Hid.mk' (And.intro k1 (And.intro k2 k3))
  have HK5 := Hid.mk' k5
  have HX1 := Hid.mk' hX1
  have HBY := Hid.mk' hby
  clear k1 k2 k3 k4 k5 hby hs' hs hT hK hX1 hW1
  go_wp2
  go_loop [5] (fun iv => ∃ j : Nat, iv = .int .i64 (j : Int) ∧ j ≤ K) (fun iv => K - (intOf iv).toNat)
  case atStart => exact ⟨0, rfl, by omega⟩
  case round =>
    obtain ⟨j, rfl, hj⟩ := hrel
    have hjl : j < T.length := by have := HKK.out.1; omega
    have h1 := HBY.out j hjl
    have j1 : (j : Int) < (s.size : Int) := by omega
    have j2 : (j : Int) + 1 ≤ (s.size : Int) := by omega
    have j30 : (j : Int) < 30 := by have := HK5.out; omega
    by_cases hjk : j < K
    · obtain ⟨z, hz⟩ : ∃ z : Int, PlainAid.bt s j = z := ⟨_, rfl⟩
      have hz32 : (z == 32) = false := no_blank (hz.symm.trans h1) (HKK.out.2.2 j hjk)
      clear h1
      go_wp2
      go_round
      case rel => exact ⟨j + 1, by go_num, hjk⟩
      case measure =>
        have := meas_int K j hjk
        simpa [intOf] using this
    · obtain rfl : j = K := by omega
      have hz : PlainAid.bt s j = 32 := by rw [h1, HKK.out.2.1]; rfl
      clear h1
      go_wp2_with fail
      go_quiet (fail)
      go_wp2
      go_ret2
      refine ⟨s.extract 0 j, ?_, HB1.out.trans (kept_drewN _ 0 _ _).1⟩
      show Ending.returned (.tuple #[.string (s.extract 0 j), .string (s.extract (j + 1) s.size)]) = _
      rw [HE.out]
set_option maxHeartbeats 4000000 in
set_option maxRecDepth 100000 in
theorem entry_hi (q : Nat) (h22 : q < 22) (w : World) : Calls Tryd.prog 52 #[.int .i64 ((q : Int) + 49)] w fun e w' => ∃ nm, e = .returned (.tuple #[.string nm, .string (Sb (letsOf (q + 49)))]) ∧ Below w.heap.size w w' := by
  have HT := Hid.mk' (table_any w)
  have i0 : ¬ (q : Int) + 49 < 0 := by omega
  have i1 : ¬ (70 : Int) < (q : Int) + 49 := by omega
  obtain ⟨W1, hW1⟩ : ∃ W1, w.alloc (.cells tblV 9) = W1 := ⟨_, rfl⟩
  have hB1 : Below w.heap.size w W1 := by rw [← hW1]; exact lay_below
  have hX1 : W1.heap[w.heap.size]? = some (.cells tblV 9 (0, 0)) := by rw [← hW1]; exact box_new
  rw [hW1] at HT
  have HB1 := Hid.mk' hB1
  obtain ⟨b, hb⟩ : ∃ b, w.heap.size = b := ⟨_, rfl⟩
  rw [hb] at HT hX1
  obtain ⟨nm, hnm⟩ := binV_get q h22
  have HO := Hid.mk' (binary_any W1)
  obtain ⟨W2, hW2⟩ : ∃ W2, W1.alloc (.cells binV 9) = W2 := ⟨_, rfl⟩
  have hB2 : Below W1.heap.size W1 W2 := by rw [← hW2]; exact lay_below
  have hX2 : W2.heap[W1.heap.size]? = some (.cells binV 9 (0, 0)) := by rw [← hW2]; exact box_new
  rw [hW2] at HO
  have HB2 := Hid.mk' (HB1.out.trans (hB2.mono HB1.out.size))
  obtain ⟨b2, hb2⟩ : ∃ b2, W1.heap.size = b2 := ⟨_, rfl⟩
  rw [hb2] at HO hX2
  have c0 := (cell_row _ b2 q _ _ hX2).trans hnm
  have i2 : (49 : Int) ≤ (q : Int) + 49 := by omega
  have i3 : (q : Int) < 22 := by omega
  have i4 : wrap64 ((q : Int) + 49 - 49) = (q : Int) := by unfold wrap64; omega
  have HL : Hid (letsOf (q + 49) = [114, 114, 114]) := Hid.mk' (by
    unfold letsOf
    rw [show min (q + 49) 49 = 49 by omega]
    rfl)
  clear hB2 hX2 hX1 hW1 hW2 hnm
  go_enter Tryd.func52, Tryd.ntmps52
  go_wp2_with fail
  refine HT.out.mono ?_
  rintro e w1 ⟨rfl, hw1⟩
  rw [hw1]
  clear hw1 w1
  go_wp2_with fail
  refine HO.out.mono ?_
  rintro e w1 ⟨rfl, hw1⟩
  rw [hw1]
  clear hw1 w1
  go_wp2
  go_ret2
  refine ⟨nm, ?_, HB2.out⟩
  rw [HL.out]
  rfl
theorem entry_any (op : Nat) (h70 : op ≤ 70) (w : World) : Calls Tryd.prog 52 #[.int .i64 (op : Int)] w fun e w' => ∃ nm, e = .returned (.tuple #[.string nm, .string (Sb (letsOf op))]) ∧ Below w.heap.size w w' := by
  by_cases h49 : op < 49
  · exact entry_lo op h49 w
  · obtain ⟨q, hq⟩ : ∃ q : Nat, op = q + 49 := ⟨op - 49, by omega⟩
    subst hq
    exact entry_hi q (by omega) w
set_option maxHeartbeats 1000000 in
theorem rOperands_any (op : Nat) (h70 : op ≤ 70) (w : World) : Calls Tryd.prog 37 #[.int .i64 (op : Int)] w fun e w' => e = .returned (.string (Sb (letsOf op))) ∧ Below w.heap.size w w' := by
  have HE := Hid.mk' (entry_any op h70 w)
  go_enter Tryd.func37, Tryd.ntmps37
  go_wp2_with fail
  refine HE.out.mono ?_
  rintro e w1 ⟨nm, rfl, hb⟩
  go_wp2
  go_ret
  exact ⟨rfl, hb⟩
end Go.Proofs.YtlhiedlpjefbnaaDoor
