/- units.Make and lintelref01.Make: a text of units. -/
import Derived.Test.YtbkkkpfoaggejaaGreatDoorBytes
import Derived.Test.YtbkkkpfoaggejaaGreatDoorOf
namespace Go.Proofs.YtbkkkpfoaggejaaGreatDoor
set_option linter.unusedVariables false
open Go.RowKit

/-- A value is a slice whose units are us. -/
def Rd (w : World) (v : Value) (us : List Nat) : Prop :=
  (∃ c, v = .slice none us.length c ∧ us = []) ∨ ∃ g o c, v = .slice (some ⟨g, o, none⟩) us.length c ∧ g < w.heap.size ∧ ∀ (j : Nat) (h : j < us.length), w.cell? ⟨g, o + j, none⟩ = some (.int .u16 us[j])

theorem Rd.below {w w' : World} {v : Value} {us : List Nat} (h : Rd w v us) (hb : Below w.heap.size w w') : Rd w' v us := by
  rcases h with h | ⟨g, o, c, rfl, hg, hc⟩
  · exact .inl h
  · exact .inr ⟨g, o, c, rfl, Nat.lt_of_lt_of_le hg hb.size, fun j hj => (hb.cell (p := ⟨g, o + j, none⟩) hg).trans (hc j hj)⟩

theorem Rd.own {w : World} {B : Nat} {v : Value} {s : ByteArray} (h : w.ownsRow B 110 1 v (s.size / 2) (uc s (s.size / 2))) : Rd w v (uns s) := by
  rcases h.2 with ⟨rfl, h0⟩ | ⟨g, cap, cur, rfl, hb, hg, _⟩
  · refine .inl ⟨0, ?_, ?_⟩
    · rw [uns_length, h0]
    · simp [uns, h0]
  · refine .inr ⟨g, 0, cap, by rw [uns_length], (Array.getElem?_eq_some_iff.1 hg).1, fun j hj => ?_⟩
    rw [Nat.zero_add]
    refine own_cell h ?_
    rw [uns_length] at hj
    rw [uc_get s _ j hj]
    simp [uns]

set_option maxHeartbeats 400000 in
set_option maxRecDepth 100000 in
theorem rmake_any (us : List Nat) (hu : ∀ u ∈ us, u < 65536) (hl : (us.length : Int) ≤ 1048576) (v : Value) (w : World) (hv : Rd w v us) :
    Calls Tryz.prog 78 #[v] w fun e w' => e = .returned (.string ⟨(mkB us).toArray⟩) ∧ Below w.heap.size w w' := by
  obtain ⟨i0, hi, hz0, hz1, hz2⟩ := info_parts info8
  obtain ⟨x, c, rfl⟩ : ∃ x c, v = .slice x us.length c := by
    rcases hv with ⟨c, rfl, _⟩ | ⟨g, o, c, rfl, _⟩
    · exact ⟨_, _, rfl⟩
    · exact ⟨_, _, rfl⟩
  go_enter Tryz.func78, Tryz.ntmps78
  go_wp2
  go_loopw [3, 8] (fun v i wr => ∃ k : Nat, i = .int .i64 k ∧ k ≤ us.length ∧ wr.ownsRow w.heap.size 5 1 v (2 * k) (Lib.byteCells (mkB (us.take k))) ∧ Below w.heap.size w wr) (fun _ i _ => us.length - (intOf i).toNat)
  case atStart => exact ⟨0, rfl, Nat.zero_le _, World.ownsRow_nil _ _ _ _, Below.refl _ _⟩
  case round =>
    obtain ⟨k, rfl, hk, hown, hbw⟩ := hrel
    have hBW : w.heap.size ≤ wr.heap.size := hbw.size
    by_cases hlt : k < us.length
    · rcases hv with ⟨c', e, h0⟩ | ⟨g, o, c', e, hg, hc⟩
      · exact absurd hlt (by simp [h0])
      · obtain ⟨rfl, rfl⟩ : x = some ⟨g, o, none⟩ ∧ c = c' := by simpa using e
        have hcl : wr.cell? ⟨g, o + k, none⟩ = some (.int .u16 us[k]) := (hbw.cell (p := ⟨g, o + k, none⟩) hg).trans (hc k hlt)
        have hub := hu _ (List.getElem_mem hlt)
        have HM : Hid (Lib.byteCells (mkB (us.take (k + 1))) = Lib.byteCells (mkB (us.take k)) ++ [.int .u8 ((us[k] : Int) / 256), .int .u8 ((us[k] : Int) % 256)]) := by
          show _ = _
          rw [mkB_take us k hlt, byteCells_append', byteCells_ub _ hub]
        have hub' : (us[k] : Int) < 65536 := by omega
        obtain ⟨u, hu'⟩ : ∃ u, us[k] = u := ⟨_, rfl⟩
        rw [hu'] at hcl HM hub'
        clear hc e hu hub hu'
        go_wp2_with (at_builtin; refine wpList_append_own _ rfl _ _ 54 rfl w.heap.size 5 i0 (.int .u8 0) 1 1 Tryz.underlying54 hi hz0 hz1 hz2 rfl (by decide) _ _ _ rfl (hown.alloc _) ⟨wr.heap.size, 0, none⟩ 2 2 [.int .u8 ((u : Int) / 256), .int .u8 ((u : Int) % 256)] rfl rfl (cells_new _ _ _) (by intro u hu; simp at hu; rcases hu with rfl | rfl <;> rfl) (by unfold maxLen; omega) (by omega) (by simp; omega) ?_; intro v1 w1 o1 g1 _)
        go_roundw
        case rel => exact ⟨k + 1, by go_num, by omega, by rw [HM.out]; exact o1, hbw.trans (kept_append hown (grown_of_alloc g1) hBW).1⟩
        case measure => simp [intOf]; omega
    · obtain rfl : k = us.length := by omega
      rw [List.take_length] at hown
      have hl2 := mkB_length us
      rw [← hl2] at hown
      have hcv := conv_row hown 22 Tryz.underlying22
      clear hl2
      go_wp2
      go_ret
      exact ⟨rfl, hbw⟩

end Go.Proofs.YtbkkkpfoaggejaaGreatDoor
