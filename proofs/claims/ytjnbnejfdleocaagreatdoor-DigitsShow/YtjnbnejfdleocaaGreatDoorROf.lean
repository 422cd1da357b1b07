/- lintelref01.Of: the document's units of UTF-8. -/
import Derived.Test.YtjnbnejfdleocaaGreatDoorRPoint
import Derived.Test.YtjnbnejfdleocaaGreatDoorPoint
import Derived.Test.YtjnbnejfdleocaaGreatDoorRUnits
import Derived.Lib.RuneCount
namespace Go.Proofs.YtjnbnejfdleocaaGreatDoor
set_option linter.unusedVariables false
open Go.RowKit

theorem by_extract (s : ByteArray) (i k : Nat) (h : i ≤ s.size) : by' (s.extract i s.size) k = by' s (i + k) := by
  unfold by'
  rw [ByteArray.data_extract, Array.toList_extract, List.extract_eq_take_drop]
  have hl : s.data.toList.length = s.size := by simp
  by_cases hk : i + k < s.size
  · rw [List.getD_eq_getElem?_getD, List.getD_eq_getElem?_getD, List.getElem?_take, if_pos (by omega), List.getElem?_drop]
  · rw [List.getD_eq_getElem?_getD, List.getD_eq_getElem?_getD, List.getElem?_eq_none (by rw [List.length_take, List.length_drop]; omega), List.getElem?_eq_none (by omega)]
theorem size_tail (s : ByteArray) (i : Nat) : (s.extract i s.size).size = s.size - i := by simp
theorem rpt_tail (s : ByteArray) (i : Nat) (h : i ≤ s.size) : rpt (s.extract i s.size) 0 = rpt s i := by
  unfold rpt
  rw [size_tail, by_extract _ _ _ h, by_extract _ _ _ h, by_extract _ _ _ h, by_extract _ _ _ h]
  simp

theorem Rd.of_own {w : World} {B : Nat} {v : Value} {us : List Nat} (h : w.ownsRow B 27 1 v us.length (u16c us)) : Rd w v us := by
  rcases h.2 with ⟨rfl, h0⟩ | ⟨g, cap, cur, rfl, hb, hg, _⟩
  · obtain rfl : us = [] := by simpa using h0
    exact .inl ⟨0, rfl, rfl⟩
  · refine .inr ⟨g, 0, cap, rfl, (Array.getElem?_eq_some_iff.1 hg).1, fun j hj => ?_⟩
    rw [Nat.zero_add]
    refine own_cell h ?_
    simp [u16c, hj]
set_option maxHeartbeats 1000000 in
set_option maxRecDepth 100000 in
theorem rof_any (s : ByteArray) (w : World) (hs : (s.size : Int) ≤ 524288) :
    Calls Tryz.prog 31 #[.string s] w fun e w' => e = ofEnd (ofS s) ∧ Below w.heap.size w w' := by
  obtain ⟨i0, hi, hz0, hz1, hz2⟩ := info_parts info16
  go_enter Tryz.func31, Tryz.ntmps31
  go_wp2
  go_loopw [5, 6] (fun v c wr => ∃ (pos fuel : Nat) (us : List Nat), c = .int .i64 pos ∧ wr.ownsRow w.heap.size 27 1 v us.length (u16c us) ∧ Below w.heap.size w wr ∧ Hid (ofFrom s fuel (mkB us) pos = ofS s) ∧ s.size ≤ pos + fuel ∧ us.length ≤ 2 * pos ∧ pos ≤ s.size ∧ Hid (∀ u ∈ us, u < 65536)) (fun _ c _ => s.size - (intOf c).toNat)
  case atStart => exact ⟨0, s.size, [], rfl, World.ownsRow_nil _ _ _ _, Below.refl _ _, Hid.mk' rfl, by omega, by simp, by omega, fun u hu => by cases hu⟩
  case round =>
    obtain ⟨pos, fuel, us, rfl, hown, hbw, HR, hfu, hal, hps, hu⟩ := hrel
    have hBW : w.heap.size ≤ wr.heap.size := hbw.size
    by_cases hp : pos < s.size
    · have hp' : (pos : Int) < (s.size : Int) := by omega
      obtain ⟨f, rfl⟩ : ∃ f, fuel = f + 1 := ⟨fuel - 1, by omega⟩
      have ht : ((s.extract pos s.size).size : Int) ≤ 1048576 := by rw [size_tail]; omega
      have HT := Hid.mk' (fun W => pt_any (s.extract pos s.size) W ht (by rw [size_tail]; omega))
      rw [rpt_tail s pos (by omega)] at HT
      clear ht
      cases hb : bad s pos
      · rw [rpt_good s pos hp hb] at HT
        have hwd := Lib.decode_width_pos s pos hp
        have hd1 := decode_max s pos
        have hfit := decode_fit s pos hp
        have HR2 : Hid (ofFrom s (f + 1) (mkB us) pos = ofFrom s f (mkB us ++ pb (Utf8.decode s pos).1) (pos + (Utf8.decode s pos).2)) := by
          show _ = _
          simp only [ofFrom, if_pos hp, hb]; rfl
        obtain ⟨r, hr⟩ : ∃ r, (Utf8.decode s pos).1 = r := ⟨_, rfl⟩
        obtain ⟨d, hd⟩ : ∃ d, (Utf8.decode s pos).2 = d := ⟨_, rfl⟩
        rw [hr, hd] at HR2 HT
        rw [hr] at hd1
        rw [hd] at hwd hfit
        clear hr hd hb
        have HP := Hid.mk' (fun W => rpoint_any r hd1 W)
        have HL := Hid.mk' (pu_lt r hd1)
        have hd0 : ((d : Int) == 0) = false := by simp; omega
        have hpl := pu_length r
        clear hd1
        go_wp2_with (first | (go_at_call 55; refine (HT.out _).mono ?_; rintro e w1 ⟨rfl, hw1⟩; rw [hw1]; clear hw1 w1) | (go_at_call 56; refine (HP.out _).mono ?_; rintro e w1 ⟨rfl, hw1⟩; rw [hw1]; clear hw1 w1) | (at_builtin; refine wpList_append_own _ rfl _ _ 38 rfl w.heap.size 27 i0 (.int .u16 0) 1 2 Tryz.underlying38 hi hz0 hz1 hz2 rfl (by decide) _ _ _ rfl (hown.alloc _) ⟨wr.heap.size, 0, none⟩ (pu r).length (pu r).length (u16c (pu r)) rfl (by rw [u16c_length, Nat.mul_one]) (cells_new _ _ _) (oneCell_u16c _) (by unfold maxLen; omega) (by omega) (by simp; omega) ?_; intro v1 w1 o1 g1 _))
        have k1 := kept_append hown (grown_of_alloc g1) hBW
        clear g1
        go_wp2
        go_roundw
        case rel =>
          refine ⟨pos + d, f, us ++ pu r, by go_num, ?_, hbw.trans k1.1, ?_, by omega, ?_, hfit, ?_⟩
          · rw [List.length_append, u16c_append]; exact o1
          · show _ = _; rw [mkB_append, ← pb_pu, ← HR2.out, HR.out]
          · rw [List.length_append]; omega
          · intro u h; rcases List.mem_append.1 h with h | h
            · exact hu.out u h
            · exact HL.out u h
        case measure => simp [intOf]; omega
      · rw [rpt_bad s pos hp hb] at HT
        have HR2 : Hid (ofFrom s (f + 1) (mkB us) pos = .error pos) := by
          show _ = _
          simp only [ofFrom, if_pos hp, hb]; rfl
        clear hb
        go_wp2_with (first | (go_at_call 55; refine (HT.out _).mono ?_; rintro e w1 ⟨rfl, hw1⟩; rw [hw1]; clear hw1 w1))
        go_ret3
        rw [← HR.out, HR2.out]
        exact ⟨rfl, hbw⟩
    · have HR2 := Hid.mk' (ofFrom_end s fuel pos (mkB us) hp)
      have HM := Hid.mk' (rmake_any us hu.out (by omega) _ wr (Rd.of_own hown))
      go_wp2_with (go_at_call 25; refine HM.out.mono ?_; rintro e w1 ⟨rfl, b1⟩)
      go_ret3
      rw [← HR.out, HR2.out]
      exact ⟨rfl, hbw.trans (b1.mono hBW)⟩

end Go.Proofs.YtjnbnejfdleocaaGreatDoor
