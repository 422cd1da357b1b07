/- digits.worthTo, digitsAhead: what a digit is worth, and how many stand ahead. -/
import Derived.Test.YtbkkkpfoaggejaaGreatDoorLaidN
import Derived.PlainAid
import Derived.Test.YtbkkkpfoaggejaaGreatDoorFl
import Derived.Test.YtbkkkpfoaggejaaGreatDoorSb
import Derived.Test.YtbkkkpfoaggejaaGreatDoorRDig
namespace Go.Proofs.YtbkkkpfoaggejaaGreatDoor
set_option linter.unusedVariables false
open Go.RowKit Fl

/-- A digit's worth to a base, below 0: none. -/
def worthI (c : Nat) (b : Int) : Int := if (digitN c : Int) < b then (digitN c : Int) else -1
set_option maxHeartbeats 1000000 in
set_option maxRecDepth 100000 in
theorem worth1_any (c g : Nat) (b : Int) (w : World) (hc : c < 256) (hb : 2 ≤ b ∧ b ≤ 36) (hg : w.cell? ⟨g, 0, none⟩ = some (.int .i64 b)) :
    Calls Tryz.prog 197 #[.int .u8 c, .pointer (some ⟨g, 0, none⟩)] w fun e w' => e = .returned (.int .i64 (worthI c b)) ∧ w' = w := by
  obtain ⟨z, hz⟩ : ∃ z : Int, (c : Int) = z := ⟨_, rfl⟩
  have h0 : 0 ≤ z := by omega
  have h1 : z < 256 := by omega
  obtain ⟨r, hr⟩ : ∃ r : Int, worthI c b = r := ⟨_, rfl⟩
  have HR : Hid ((48 ≤ z ∧ z ≤ 57 → r = if z - 48 < b then z - 48 else -1) ∧ (97 ≤ z ∧ z ≤ 122 → r = if z - 97 + 10 < b then z - 97 + 10 else -1) ∧ (65 ≤ z ∧ z ≤ 90 → r = if z - 65 + 10 < b then z - 65 + 10 else -1) ∧ (¬ (48 ≤ z ∧ z ≤ 57) → ¬ (97 ≤ z ∧ z ≤ 122) → ¬ (65 ≤ z ∧ z ≤ 90) → r = -1)) := by
    unfold worthI digitN at hr
    refine ⟨fun h => ?_, fun h => ?_, fun h => ?_, fun a1 a2 a3 => ?_⟩
    · rw [if_pos (show 48 ≤ c ∧ c ≤ 57 by omega), show ((c - 48 : Nat) : Int) = z - 48 by omega] at hr; exact hr.symm
    · rw [if_neg (show ¬ (48 ≤ c ∧ c ≤ 57) by omega), if_pos (show 97 ≤ c ∧ c ≤ 122 by omega), show ((c - 97 + 10 : Nat) : Int) = z - 97 + 10 by omega] at hr; exact hr.symm
    · rw [if_neg (show ¬ (48 ≤ c ∧ c ≤ 57) by omega), if_neg (show ¬ (97 ≤ c ∧ c ≤ 122) by omega), if_pos (show 65 ≤ c ∧ c ≤ 90 by omega), show ((c - 65 + 10 : Nat) : Int) = z - 65 + 10 by omega] at hr; exact hr.symm
    · rw [if_neg (show ¬ (48 ≤ c ∧ c ≤ 57) by omega), if_neg (show ¬ (97 ≤ c ∧ c ≤ 122) by omega), if_neg (show ¬ (65 ≤ c ∧ c ≤ 90) by omega), if_neg (by omega)] at hr; exact hr.symm
  rw [hz, hr]
  clear hz hr
  by_cases a1 : 48 ≤ z ∧ z ≤ 57
  · have HE := Hid.mk' (HR.out.1 a1)
    clear HR
    by_cases q : z - 48 < b
    · rw [if_pos q] at HE
      go_enter Tryz.func197, Tryz.ntmps197
      go_wp2
      all_goals (go_ret; exact ⟨by rw [HE.out]; rfl, rfl⟩)
    · rw [if_neg q] at HE
      go_enter Tryz.func197, Tryz.ntmps197
      go_wp2
      all_goals (go_ret; exact ⟨by rw [HE.out]; rfl, rfl⟩)
  · by_cases a2 : 97 ≤ z ∧ z ≤ 122
    · have HE := Hid.mk' (HR.out.2.1 a2)
      clear HR
      by_cases q : z - 97 + 10 < b
      · rw [if_pos q] at HE
        go_enter Tryz.func197, Tryz.ntmps197
        go_wp2
        all_goals (go_ret; exact ⟨by rw [HE.out]; rfl, rfl⟩)
      · rw [if_neg q] at HE
        go_enter Tryz.func197, Tryz.ntmps197
        go_wp2
        all_goals (go_ret; exact ⟨by rw [HE.out]; rfl, rfl⟩)
    · by_cases a3 : 65 ≤ z ∧ z ≤ 90
      · have HE := Hid.mk' (HR.out.2.2.1 a3)
        clear HR
        by_cases q : z - 65 + 10 < b
        · rw [if_pos q] at HE
          go_enter Tryz.func197, Tryz.ntmps197
          go_wp2
          all_goals (go_ret; exact ⟨by rw [HE.out]; rfl, rfl⟩)
        · rw [if_neg q] at HE
          go_enter Tryz.func197, Tryz.ntmps197
          go_wp2
          all_goals (go_ret; exact ⟨by rw [HE.out]; rfl, rfl⟩)
      · have HE := Hid.mk' (HR.out.2.2.2 a1 a2 a3)
        clear HR
        go_enter Tryz.func197, Tryz.ntmps197
        go_wp2
        all_goals (go_ret; exact ⟨by rw [HE.out]; rfl, rfl⟩)
set_option maxHeartbeats 400000 in
theorem worthTo_any (b : Int) (w : World) :
    Calls Tryz.prog 171 #[.int .i64 b] w fun e w' => e = .returned (.func (.func 197) #[] #[.pointer (some ⟨w.heap.size, 0, none⟩)]) ∧ w' = w.alloc (.cells #[.int .i64 b] 3) := by
  have hmf : ∀ (fn : Fn) (first cap : Array Value) (w : World), (Instr.makeFunc fn first cap).run Tryz.prog w = .ok (.func fn first cap) w := fun _ _ _ _ => rfl
  go_enter Tryz.func171, Tryz.ntmps171
  go_wp2
  go_ret
  exact ⟨rfl, rfl⟩
set_option maxHeartbeats 1000000 in
set_option maxRecDepth 100000 in
theorem digitsAhead_any (s : ByteArray) (b : Int) (w : World) (hs : (s.size : Int) ≤ 1048576) (hb : 2 ≤ b ∧ b ≤ 36) :
    Calls Tryz.prog 154 #[.string s, .int .i64 b] w fun e w' => e = .returned (.int .i64 (runN s 0 b : Nat)) ∧ Below w.heap.size w w' := by
  go_enter Tryz.func154, Tryz.ntmps154
  go_wp2_with (go_at_call 171; refine (worthTo_any _ _).mono ?_; rintro e w3 ⟨rfl, hw3⟩; rw [hw3]; clear hw3 w3)
  go_loop [6] (fun v => ∃ k : Nat, v = .int .i64 k ∧ k ≤ s.size ∧ Hid (∀ j, j < k → (digitN (by' s (0 + j)) : Int) < b)) (fun v => s.size - (intOf v).toNat)
  case atStart => exact ⟨0, rfl, by omega, fun j hj => by omega⟩
  case round =>
    obtain ⟨k, rfl, hk, HE⟩ := hrel
    by_cases hlt : k < s.size
    · have hbg := by_get s k hlt
      have hw0 : ∀ c < 256, Calls Tryz.prog 197 #[.int .u8 (c : Nat), .pointer (some ⟨w.heap.size, 0, none⟩)] (w.alloc (.cells #[.int .i64 b] 3)) fun e w' => e = .returned (.int .i64 (worthI c b)) ∧ w' = w.alloc (.cells #[.int .i64 b] 3) := fun c hc => worth1_any c w.heap.size b _ hc hb (by simp)
      have HD := Hid.mk' (hw0 (s[k].toNat) (UInt8.toNat_lt _))
      rw [← hbg] at HD
      clear hw0
      obtain ⟨r, hr⟩ : ∃ r : Int, worthI (by' s k) b = r := ⟨_, rfl⟩
      rw [hr] at HD
      rw [hbg] at HD
      by_cases hb2 : (digitN (by' s k) : Int) < b
      · have hr0 : 0 ≤ r := by rw [← hr]; unfold worthI; rw [if_pos hb2]; omega
        have HN : Hid (∀ j, j < k + 1 → (digitN (by' s (0 + j)) : Int) < b) := fun j hj => by
          by_cases e : j = k
          · subst e; rw [Nat.zero_add]; exact hb2
          · exact HE.out j (by omega)
        clear hr hbg hb2
        go_wp2_with (go_at_call 197; refine HD.out.mono ?_; rintro e w3 ⟨rfl, hw3⟩; rw [hw3]; clear hw3 w3)
        go_round
        case rel => exact ⟨k + 1, by go_num, by omega, HN⟩
        case measure => simp [intOf]; omega
      · have hr0 : r < 0 := by rw [← hr]; unfold worthI; rw [if_neg hb2]; omega
        have HF : Hid (runN s 0 b = k) := runN_of s 0 k b (by omega) HE.out (fun h => by rw [Nat.zero_add]; exact hb2)
        clear hr hbg hb2
        go_wp2_with (go_at_call 197; refine HD.out.mono ?_; rintro e w3 ⟨rfl, hw3⟩; rw [hw3]; clear hw3 w3)
        go_ret
        exact ⟨by rw [HF.out]; rfl, below_new⟩
    · have HF : Hid (runN s 0 b = k) := runN_of s 0 k b (by omega) HE.out (fun h => absurd h (by omega))
      have hlt' : ¬ (k : Int) < (s.size : Int) := by omega
      go_wp2
      go_ret
      exact ⟨by rw [HF.out]; rfl, below_new⟩
section
open Go.RowKit Fl

theorem bt_by (s : ByteArray) (i : Nat) : PlainAid.bt s i = (by' s i : Int) := by
  unfold PlainAid.bt by'
  rw [List.getD_eq_getElem?_getD]
  split
  · rename_i h
    rw [List.getElem?_eq_getElem (by simpa using h)]
    rfl
  · rename_i h
    rw [List.getElem?_eq_none (by simpa using h)]
    rfl
theorem ix0 (W : World) : (Instr.index 163 (.agg #[.int .u8 120, .int .i64 16, .int .u8 111, .int .i64 8, .int .u8 98, .int .i64 2]) (.int .i64 0)).run Tryz.prog W = .ok (.agg #[.int .u8 120, .int .i64 16]) W := by kernel_rfl
theorem ix1 (W : World) : (Instr.index 163 (.agg #[.int .u8 120, .int .i64 16, .int .u8 111, .int .i64 8, .int .u8 98, .int .i64 2]) (.int .i64 1)).run Tryz.prog W = .ok (.agg #[.int .u8 111, .int .i64 8]) W := by kernel_rfl
theorem ix2 (W : World) : (Instr.index 163 (.agg #[.int .u8 120, .int .i64 16, .int .u8 111, .int .i64 8, .int .u8 98, .int .i64 2]) (.int .i64 2)).run Tryz.prog W = .ok (.agg #[.int .u8 98, .int .i64 2]) W := by kernel_rfl
set_option maxHeartbeats 2000000 in
set_option maxRecDepth 100000 in
theorem letter_any (s : ByteArray) (w : World) (hs : (s.size : Int) ≤ 1048576) (hl : Hid (LaidN w)) :
    Calls Tryz.prog 153 #[.string s] w fun e w' => e = .returned (.int .i64 (prefN s : Nat)) ∧ Below w.heap.size w w' := by
  have hb := PlainAid.get_bt s
  by_cases h2 : s.size < 2
  · have HP : Hid (prefN s = 0) := by show _ = _; unfold prefN; rw [if_pos (.inl h2)]
    have h2' : (s.size : Int) < 2 := by omega
    go_enter Tryz.func153, Tryz.ntmps153
    go_wp2
    go_ret
    exact ⟨by rw [HP.out]; rfl, Below.refl _ _⟩
  · have h2' : 2 ≤ (s.size : Int) := by omega
    have hz0 := bt_by s 0
    have hz1 := bt_by s 1
    by_cases h3 : by' s 0 = 48
    · obtain ⟨z, hz⟩ : ∃ z : Int, PlainAid.bt s 1 = z := ⟨_, rfl⟩
      have hb0 : PlainAid.bt s 0 = 48 := by rw [hz0, h3]; rfl
      have hzz : (by' s 1 : Int) = z := by rw [← hz1, hz]
      have hzr : 0 ≤ z ∧ z ≤ 255 := ⟨hz ▸ PlainAid.bt_nonneg s 1, hz ▸ PlainAid.bt_le s 1⟩
      have HPR : Hid (((z = 120 ∨ z = 88) → prefN s = 16) ∧ ((z = 111 ∨ z = 79) → prefN s = 8) ∧ ((z = 98 ∨ z = 66) → prefN s = 2) ∧ (¬ (z = 120 ∨ z = 88) → ¬ (z = 111 ∨ z = 79) → ¬ (z = 98 ∨ z = 66) → prefN s = 0)) := by
        unfold prefN
        rw [if_neg (by omega)]
        refine ⟨fun h => ?_, fun h => ?_, fun h => ?_, fun a1 a2 a3 => ?_⟩
        · rw [if_pos (by omega)]
        · rw [if_neg (by omega), if_pos (by omega)]
        · rw [if_neg (by omega), if_neg (by omega), if_pos (by omega)]
        · rw [if_neg (by omega), if_neg (by omega), if_neg (by omega)]
      have c0 := hl.out.lets 0 (by omega)
      have c1 := hl.out.lets 1 (by omega)
      have c2 := hl.out.lets 2 (by omega)
      have c3 := hl.out.lets 3 (by omega)
      have c4 := hl.out.lets 4 (by omega)
      have c5 := hl.out.lets 5 (by omega)
      simp only [List.getD_eq_getElem?_getD, List.getElem?_cons_zero, List.getElem?_cons_succ, Option.getD_some] at c0 c1 c2 c3 c4 c5
      clear hz0 hz1 h3 hzz h2
      have x0 := ix0
      have x1 := ix1
      have x2 := ix2
      go_enter Tryz.func153, Tryz.ntmps153
      go_wp2
      clear c0 c1 c2 c3 c4 c5
      go_loopw [14] (fun v wr => ∃ k : Nat, v = .int .i64 k ∧ k ≤ 3 ∧ Below w.heap.size w wr ∧ Hid ((1 ≤ k → ¬ (z = 120 ∨ z = 88)) ∧ (2 ≤ k → ¬ (z = 111 ∨ z = 79)) ∧ (3 ≤ k → ¬ (z = 98 ∨ z = 66)))) (fun v _ => 3 - (intOf v).toNat)
      case atStart => exact ⟨0, rfl, by omega, Below.refl _ _, by omega, by omega, by omega⟩
      case round =>
        obtain ⟨k, rfl, hk, hbw, HE⟩ := hrel
        have HB := Hid.mk' hbw
        clear hbw
        have hcase : k = 0 ∨ k = 1 ∨ k = 2 ∨ k = 3 := by omega
        rcases hcase with rfl | rfl | rfl | rfl
        · by_cases e1 : z = 120
          · have q1 : (z == 120) = true := by rw [beq_iff_eq]; exact e1
            have HP := Hid.mk' (HPR.out.1 (.inl e1))
            clear HPR HE e1
            go_wp2_with fail
            go_region
            go_wp2
            go_ret
            exact ⟨by rw [HP.out]; rfl, below_draws (HB.out.trans (below_new.mono HB.out.size)) 1⟩
          · have q1 : (z == 120) = false := by rw [beq_eq_false_iff_ne]; exact e1
            by_cases e2 : z = 88
            · have q2 : (z == 88) = true := by rw [beq_iff_eq]; exact e2
              have HP := Hid.mk' (HPR.out.1 (.inr e2))
              clear HPR HE e1 e2
              go_wp2_with fail
              go_region
              go_wp2
              go_ret
              exact ⟨by rw [HP.out]; rfl, below_draws (HB.out.trans (below_new.mono HB.out.size)) 1⟩
            · have q2 : (z == 88) = false := by rw [beq_eq_false_iff_ne]; exact e2
              have HN : Hid ((1 ≤ 1 → ¬ (z = 120 ∨ z = 88)) ∧ (2 ≤ 1 → ¬ (z = 111 ∨ z = 79)) ∧ (3 ≤ 1 → ¬ (z = 98 ∨ z = 66))) := by
                have := HE.out
                refine ⟨?_, ?_, ?_⟩ <;> omega
              clear HE e1 e2
              go_wp2_with fail
              go_region
              go_wp2
              go_roundw
              case rel => exact ⟨1, by go_num, by omega, below_draws (HB.out.trans (below_new.mono HB.out.size)) 1, HN⟩
              case measure => simp [intOf]
        · by_cases e1 : z = 111
          · have q1 : (z == 111) = true := by rw [beq_iff_eq]; exact e1
            have HP := Hid.mk' (HPR.out.2.1 (.inl e1))
            clear HPR HE e1
            go_wp2_with fail
            go_region
            go_wp2
            go_ret
            exact ⟨by rw [HP.out]; rfl, below_draws (HB.out.trans (below_new.mono HB.out.size)) 1⟩
          · have q1 : (z == 111) = false := by rw [beq_eq_false_iff_ne]; exact e1
            by_cases e2 : z = 79
            · have q2 : (z == 79) = true := by rw [beq_iff_eq]; exact e2
              have HP := Hid.mk' (HPR.out.2.1 (.inr e2))
              clear HPR HE e1 e2
              go_wp2_with fail
              go_region
              go_wp2
              go_ret
              exact ⟨by rw [HP.out]; rfl, below_draws (HB.out.trans (below_new.mono HB.out.size)) 1⟩
            · have q2 : (z == 79) = false := by rw [beq_eq_false_iff_ne]; exact e2
              have HN : Hid ((1 ≤ 2 → ¬ (z = 120 ∨ z = 88)) ∧ (2 ≤ 2 → ¬ (z = 111 ∨ z = 79)) ∧ (3 ≤ 2 → ¬ (z = 98 ∨ z = 66))) := by
                have := HE.out
                refine ⟨?_, ?_, ?_⟩ <;> omega
              clear HE e1 e2
              go_wp2_with fail
              go_region
              go_wp2
              go_roundw
              case rel => exact ⟨2, by go_num, by omega, below_draws (HB.out.trans (below_new.mono HB.out.size)) 1, HN⟩
              case measure => simp [intOf]
        · by_cases e1 : z = 98
          · have q1 : (z == 98) = true := by rw [beq_iff_eq]; exact e1
            have HP := Hid.mk' (HPR.out.2.2.1 (.inl e1))
            clear HPR HE e1
            go_wp2_with fail
            go_region
            go_wp2
            go_ret
            exact ⟨by rw [HP.out]; rfl, below_draws (HB.out.trans (below_new.mono HB.out.size)) 1⟩
          · have q1 : (z == 98) = false := by rw [beq_eq_false_iff_ne]; exact e1
            by_cases e2 : z = 66
            · have q2 : (z == 66) = true := by rw [beq_iff_eq]; exact e2
              have HP := Hid.mk' (HPR.out.2.2.1 (.inr e2))
              clear HPR HE e1 e2
              go_wp2_with fail
              go_region
              go_wp2
              go_ret
              exact ⟨by rw [HP.out]; rfl, below_draws (HB.out.trans (below_new.mono HB.out.size)) 1⟩
            · have q2 : (z == 66) = false := by rw [beq_eq_false_iff_ne]; exact e2
              have HN : Hid ((1 ≤ 3 → ¬ (z = 120 ∨ z = 88)) ∧ (2 ≤ 3 → ¬ (z = 111 ∨ z = 79)) ∧ (3 ≤ 3 → ¬ (z = 98 ∨ z = 66))) := by
                have := HE.out
                refine ⟨?_, ?_, ?_⟩ <;> omega
              clear HE e1 e2
              go_wp2_with fail
              go_region
              go_wp2
              go_roundw
              case rel => exact ⟨3, by go_num, by omega, below_draws (HB.out.trans (below_new.mono HB.out.size)) 1, HN⟩
              case measure => simp [intOf]
        · have HP : Hid (prefN s = 0) := by
            have := HE.out
            exact HPR.out.2.2.2 (this.1 (by omega)) (this.2.1 (by omega)) (this.2.2 (by omega))
          clear HPR HE
          go_wp2
          go_ret
          exact ⟨by rw [HP.out]; rfl, HB.out⟩
    · have HP : Hid (prefN s = 0) := by show _ = _; unfold prefN; rw [if_pos (.inr h3)]
      have q : (PlainAid.bt s 0 != 48) = true := by rw [bne_iff_ne, hz0]; omega
      clear hz0 hz1
      go_enter Tryz.func153, Tryz.ntmps153
      go_wp2
      go_ret
      exact ⟨by rw [HP.out]; rfl, Below.refl _ _⟩
end
end Go.Proofs.YtbkkkpfoaggejaaGreatDoor
