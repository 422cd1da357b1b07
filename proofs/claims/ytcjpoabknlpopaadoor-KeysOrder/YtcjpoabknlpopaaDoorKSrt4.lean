/- choosePivotOrdered at uint32. -/
import Derived.Test.YtcjpoabknlpopaaDoorKSrt3
namespace Go.Proofs.YtcjpoabknlpopaaDoor
set_option linter.unusedVariables false
open Go.RowKit Go.Sort

/-- A hint's number. -/
def hintN : Sort.Hint → Nat
  | .unknown => 0
  | .increasing => 1
  | .decreasing => 2
def hintOf (s : Nat) : Sort.Hint := if s = 0 then .increasing else if s = 12 then .decreasing else .unknown

set_option maxHeartbeats 2000000 in
set_option maxRecDepth 100000 in
theorem chooseU (blk off cap a b : Nat) (d : Array Int) (w : World) (hH : Holds eU w blk off d) (hblk : blk < w.heap.size) (hab : a + 8 ≤ b) (hb : b ≤ d.size) (hsz : d.size < 4611686018427387904) :
    Calls Tryd.prog 48 #[.slice (some ⟨blk, off, none⟩) d.size cap, .int .i64 a, .int .i64 b] w fun e w' =>
      e = .returned (.tuple #[.int .i64 (Sort.choosePivot ltInt d a b).1, .int .i64 (hintN (Sort.choosePivot ltInt d a b).2)]) ∧ ∃ q s, w' = BW w q s := by
  obtain ⟨L, hL⟩ : ∃ L, b - a = L := ⟨_, rfl⟩
  have x1 : IntKind.i64.wrap ((b : Int) - (a : Int)) = (L : Int) := by rw [IntKind.wrap_i64]; omega
  have bL : a + L ≤ d.size := by omega
  have b8 : (8 : Int) ≤ (L : Int) := by omega
  have HW0 : Hid (w.alloc (.cells #[.int .i64 0] 3) = BW w 0 0) := Hid.mk' (alloc_eq_grow w _)
  by_cases h50 : 50 ≤ L
  · have z50 : (50 : Int) ≤ (L : Int) := by omega
    have H1 := Hid.mk' (medianAdjU blk off cap (a + L / 4 * 1) d w 0 0 hH hblk (by omega) (by omega) hsz (by omega))
    have m1 := median_lt d (a + L / 4 * 1 - 1) (a + L / 4 * 1) (a + L / 4 * 1 + 1) 0 (by omega) (by omega) (by omega)
    obtain ⟨r1, hr1⟩ : ∃ r, Sort.medianAdjacent ltInt d (a + L / 4 * 1) 0 = r := ⟨_, rfl⟩
    rw [show Sort.median ltInt d (a + L / 4 * 1 - 1) (a + L / 4 * 1) (a + L / 4 * 1 + 1) 0 = r1 from hr1] at m1
    have H2 := Hid.mk' (fun q => medianAdjU blk off cap (a + L / 4 * 2) d w q r1.2 hH hblk (by omega) (by omega) hsz (by omega))
    have m2 := median_lt d (a + L / 4 * 2 - 1) (a + L / 4 * 2) (a + L / 4 * 2 + 1) r1.2 (by omega) (by omega) (by omega)
    obtain ⟨r2, hr2⟩ : ∃ r, Sort.medianAdjacent ltInt d (a + L / 4 * 2) r1.2 = r := ⟨_, rfl⟩
    rw [show Sort.median ltInt d (a + L / 4 * 2 - 1) (a + L / 4 * 2) (a + L / 4 * 2 + 1) r1.2 = r2 from hr2] at m2
    have H3 := Hid.mk' (fun q => medianAdjU blk off cap (a + L / 4 * 3) d w q r2.2 hH hblk (by omega) (by omega) hsz (by omega))
    have m3 := median_lt d (a + L / 4 * 3 - 1) (a + L / 4 * 3) (a + L / 4 * 3 + 1) r2.2 (by omega) (by omega) (by omega)
    obtain ⟨r3, hr3⟩ : ∃ r, Sort.medianAdjacent ltInt d (a + L / 4 * 3) r2.2 = r := ⟨_, rfl⟩
    rw [show Sort.median ltInt d (a + L / 4 * 3 - 1) (a + L / 4 * 3) (a + L / 4 * 3 + 1) r2.2 = r3 from hr3] at m3
    have H4 := Hid.mk' (fun q => medianU blk off cap r1.1 r2.1 r3.1 d w q r3.2 hH hblk m1.1 m2.1 m3.1 hsz (by omega))
    obtain ⟨r4, hr4⟩ : ∃ r, Sort.median ltInt d r1.1 r2.1 r3.1 r3.2 = r := ⟨_, rfl⟩
    have E : Hid (Sort.choosePivot ltInt d a b = (r4.1, hintOf r4.2)) := Hid.mk' (by
      unfold Sort.choosePivot
      simp only [hL, if_pos (show L ≥ 8 by omega), if_pos (show L ≥ 50 from h50), hr1, hr2, hr3, hr4]
      rfl)
    rw [hr1, show ((a + L / 4 * 1 : Nat) : Int) = (a : Int) + (L : Int) / 4 by omega] at H1
    rw [hr2, show ((a + L / 4 * 2 : Nat) : Int) = (a : Int) + (L : Int) / 4 * 2 by omega] at H2
    rw [hr3, show ((a + L / 4 * 3 : Nat) : Int) = (a : Int) + (L : Int) / 4 * 3 by omega] at H3
    rw [hr4] at H4
    clear hr1 hr2 hr3 hr4 m1 m2 m3 hH
    go_enter Tryd.func48, Tryd.ntmps48
    go_wp2_with fail
    rw [HW0.out]
    refine (H1.out).mono ?_
    rintro e w1 ⟨rfl, q1, hw1⟩
    rw [hw1]; clear hw1 w1
    go_wp2_with fail
    refine (H2.out q1).mono ?_
    rintro e w1 ⟨rfl, q2, hw1⟩
    rw [hw1]; clear hw1 w1
    go_wp2_with fail
    refine (H3.out q2).mono ?_
    rintro e w1 ⟨rfl, q3, hw1⟩
    rw [hw1]; clear hw1 w1
    go_wp2_with fail
    refine (H4.out q3).mono ?_
    rintro e w1 ⟨rfl, q4, hw1⟩
    rw [hw1]; clear hw1 w1
    obtain ⟨p4, s4⟩ := r4
    dsimp only at E ⊢
    by_cases s0 : s4 = 0
    · subst s0
      have hc : (BW w q4 0).cell? ⟨w.heap.size, 0, none⟩ = some (.int .i64 0) := BW.cell w q4 0
      go_wp2
      go_ret2
      exact ⟨by rw [E.out]; rfl, q4, 0, rfl⟩
    · by_cases s12 : s4 = 12
      · subst s12
        have hc : (BW w q4 12).cell? ⟨w.heap.size, 0, none⟩ = some (.int .i64 12) := BW.cell w q4 12
        go_wp2
        go_ret2
        exact ⟨by rw [E.out]; rfl, q4, 12, rfl⟩
      · have hc := BW.cell w q4 s4
        have z0 : ((s4 : Int) == 0) = false := by simpa using s0
        have z1 : ((s4 : Int) == 12) = false := by simp; omega
        have HR : Hid (hintN (hintOf s4) = 0) := Hid.mk' (by simp [hintOf, hintN, s0, s12])
        generalize (s4 : Int) = sv at hc z0 z1
        clear s0 s12
        go_wp2
        go_ret2
        exact ⟨by rw [E.out, HR.out]; rfl, q4, s4, rfl⟩
  · have z50 : ¬ (50 : Int) ≤ (L : Int) := by omega
    have H4 := Hid.mk' (medianU blk off cap (a + L / 4 * 1) (a + L / 4 * 2) (a + L / 4 * 3) d w 0 0 hH hblk (by omega) (by omega) (by omega) hsz (by omega))
    obtain ⟨r4, hr4⟩ : ∃ r, Sort.median ltInt d (a + L / 4 * 1) (a + L / 4 * 2) (a + L / 4 * 3) 0 = r := ⟨_, rfl⟩
    have E : Hid (Sort.choosePivot ltInt d a b = (r4.1, hintOf r4.2)) := Hid.mk' (by
      unfold Sort.choosePivot
      simp only [hL, if_pos (show L ≥ 8 by omega), if_neg (show ¬ L ≥ 50 from h50), hr4]
      rfl)
    rw [hr4, show ((a + L / 4 * 1 : Nat) : Int) = (a : Int) + (L : Int) / 4 by omega, show ((a + L / 4 * 2 : Nat) : Int) = (a : Int) + (L : Int) / 4 * 2 by omega, show ((a + L / 4 * 3 : Nat) : Int) = (a : Int) + (L : Int) / 4 * 3 by omega] at H4
    clear hr4 hH
    go_enter Tryd.func48, Tryd.ntmps48
    go_wp2_with fail
    rw [HW0.out]
    refine (H4.out).mono ?_
    rintro e w1 ⟨rfl, q4, hw1⟩
    rw [hw1]; clear hw1 w1
    obtain ⟨p4, s4⟩ := r4
    dsimp only at E ⊢
    by_cases s0 : s4 = 0
    · subst s0
      have hc : (BW w q4 0).cell? ⟨w.heap.size, 0, none⟩ = some (.int .i64 0) := BW.cell w q4 0
      go_wp2
      go_ret2
      exact ⟨by rw [E.out]; rfl, q4, 0, rfl⟩
    · by_cases s12 : s4 = 12
      · subst s12
        have hc : (BW w q4 12).cell? ⟨w.heap.size, 0, none⟩ = some (.int .i64 12) := BW.cell w q4 12
        go_wp2
        go_ret2
        exact ⟨by rw [E.out]; rfl, q4, 12, rfl⟩
      · have hc := BW.cell w q4 s4
        have z0 : ((s4 : Int) == 0) = false := by simpa using s0
        have z1 : ((s4 : Int) == 12) = false := by simp; omega
        have HR : Hid (hintN (hintOf s4) = 0) := Hid.mk' (by simp [hintOf, hintN, s0, s12])
        generalize (s4 : Int) = sv at hc z0 z1
        clear s0 s12
        go_wp2
        go_ret2
        exact ⟨by rw [E.out, HR.out]; rfl, q4, s4, rfl⟩

end Go.Proofs.YtcjpoabknlpopaaDoor
