/- lintelref01.point: the document's code point that bytes begin with. -/
import Derived.Test.YtjnbnejfdleocaaGreatDoorDec
namespace Go.Proofs.YtjnbnejfdleocaaGreatDoor
set_option linter.unusedVariables false
open Go.RowKit

/-- What k bytes behind the first one come to. -/
def accI (t : ByteArray) (r0 : Int) : Nat → Int
  | 0 => r0
  | k + 1 => 64 * accI t r0 k + (by' t (k + 1) : Int) - 128
theorem acc1 (t : ByteArray) (r0 : Int) : accI t r0 1 = 64 * r0 + (by' t 1 : Int) - 128 := rfl
theorem acc2 (t : ByteArray) (r0 : Int) : accI t r0 2 = 64 * (64 * r0 + (by' t 1 : Int) - 128) + (by' t 2 : Int) - 128 := rfl
theorem acc3 (t : ByteArray) (r0 : Int) : accI t r0 3 = 64 * (64 * (64 * r0 + (by' t 1 : Int) - 128) + (by' t 2 : Int) - 128) + (by' t 3 : Int) - 128 := rfl
theorem rpt0 (t : ByteArray) : rpt t 0 = rptN t.size (by' t 0) (by' t 1) (by' t 2) (by' t 3) := by simp [rpt]
/-- The first k bytes behind the first one are of the form that they should have. -/
def Conts (t : ByteArray) (k : Nat) : Prop := ∀ j, 1 ≤ j → j ≤ k → 128 ≤ by' t j ∧ by' t j ≤ 191
theorem Conts.zero (t : ByteArray) : Conts t 0 := fun j h1 h2 => by omega
theorem Conts.succ {t : ByteArray} {k : Nat} (h : Conts t k) (h1 : 128 ≤ by' t (k + 1)) (h2 : by' t (k + 1) ≤ 191) : Conts t (k + 1) := fun j a b => by
  by_cases e : j = k + 1
  · subst e; exact ⟨h1, h2⟩
  · exact h j a (by omega)
theorem accI_bd (t : ByteArray) (r0 : Int) (h0 : 0 ≤ r0) (h1 : r0 ≤ 31) : ∀ k, k ≤ 3 → Conts t k → 0 ≤ accI t r0 k ∧ accI t r0 k ≤ 8388607 := by
  intro k hk hc
  have c1 : 1 ≤ k → 128 ≤ by' t 1 ∧ by' t 1 ≤ 191 := fun h => hc 1 (by omega) (by omega)
  have c2 : 2 ≤ k → 128 ≤ by' t 2 ∧ by' t 2 ≤ 191 := fun h => hc 2 (by omega) (by omega)
  have c3 : 3 ≤ k → 128 ≤ by' t 3 ∧ by' t 3 ≤ 191 := fun h => hc 3 (by omega) (by omega)
  match k, hk with
  | 0, _ => simp only [accI]; omega
  | 1, _ => rw [acc1]; have := c1 (by omega); omega
  | 2, _ => rw [acc2]; have := c1 (by omega); have := c2 (by omega); omega
  | 3, _ => rw [acc3]; have := c1 (by omega); have := c2 (by omega); have := c3 (by omega); omega

theorem ret_pair {k l : IntKind} {a b c d : Int} (h1 : a = c) (h2 : b = d) : Ending.returned (.tuple #[.int k a, .int l b]) = .returned (.tuple #[.int k c, .int l d]) := by rw [h1, h2]

/-- The first byte is none that a code point begins with, or one that stands for itself. -/
theorem rpt_one (t : ByteArray) (h : by' t 0 < 128) : rpt t 0 = (by' t 0, 1) := by rw [rpt0]; unfold rptN; rw [if_pos h]
theorem rpt_none (t : ByteArray) (h0 : 128 ≤ by' t 0) (h : by' t 0 < 194 ∨ 244 < by' t 0) : rpt t 0 = (0, 0) := by rw [rpt0]; unfold rptN; rw [if_neg (by omega), if_neg (by omega), if_neg (by omega), if_neg (by omega)]
theorem rpt2_no (t : ByteArray) (h0 : 194 ≤ by' t 0) (h1 : by' t 0 ≤ 223) (h : ¬ (2 ≤ t.size ∧ Conts t 1)) : rpt t 0 = (0, 0) := by
  rw [rpt0]; unfold rptN
  rw [if_neg (by omega), if_pos (by omega), if_neg]
  rintro ⟨a, b⟩
  exact h ⟨by omega, (Conts.zero t).succ b.1 b.2⟩
theorem rpt2_yes (t : ByteArray) (h0 : 194 ≤ by' t 0) (h1 : by' t 0 ≤ 223) (h2 : 2 ≤ t.size) (h : Conts t 1) : (((rpt t 0).1 : Nat) : Int) = accI t ((by' t 0 : Int) - 192) 1 ∧ (rpt t 0).2 = 2 := by
  have c1 := h 1 (by omega) (by omega)
  have e : rpt t 0 = (64 * (by' t 0 - 192) + by' t 1 - 128, 2) := by rw [rpt0]; unfold rptN; rw [if_neg (by omega), if_pos (by omega), if_pos ⟨by omega, c1⟩]
  rw [e, acc1]; refine ⟨?_, rfl⟩; dsimp only; omega
theorem rpt3_no (t : ByteArray) (h0 : 224 ≤ by' t 0) (h1 : by' t 0 ≤ 239) (h : ¬ (3 ≤ t.size ∧ Conts t 2 ∧ 2048 ≤ accI t ((by' t 0 : Int) - 224) 2 ∧ ¬ (55296 ≤ accI t ((by' t 0 : Int) - 224) 2 ∧ accI t ((by' t 0 : Int) - 224) 2 ≤ 57343))) : rpt t 0 = (0, 0) := by
  rw [rpt0]; unfold rptN
  rw [if_neg (by omega), if_neg (by omega), if_pos (by omega), if_neg]
  rintro ⟨a, b, c, d, f⟩
  refine h ⟨by omega, ((Conts.zero t).succ b.1 b.2).succ c.1 c.2, ?_, ?_⟩
  · rw [acc2]; omega
  · rw [acc2]; omega
theorem rpt3_yes (t : ByteArray) (h0 : 224 ≤ by' t 0) (h1 : by' t 0 ≤ 239) (h2 : 3 ≤ t.size) (h : Conts t 2) (h3 : 2048 ≤ accI t ((by' t 0 : Int) - 224) 2) (h4 : accI t ((by' t 0 : Int) - 224) 2 < 55296 ∨ 57343 < accI t ((by' t 0 : Int) - 224) 2) : (((rpt t 0).1 : Nat) : Int) = accI t ((by' t 0 : Int) - 224) 2 ∧ (rpt t 0).2 = 3 := by
  have c1 := h 1 (by omega) (by omega)
  have c2 := h 2 (by omega) (by omega)
  rw [acc2] at h3 h4
  have e : rpt t 0 = (64 * (64 * (by' t 0 - 224) + by' t 1 - 128) + by' t 2 - 128, 3) := by
    rw [rpt0]; unfold rptN
    rw [if_neg (by omega), if_neg (by omega), if_pos (by omega), if_pos ⟨by omega, c1, c2, by omega, by omega⟩]
  rw [e, acc2]; refine ⟨?_, rfl⟩; dsimp only; omega
theorem rpt4_no (t : ByteArray) (h0 : 240 ≤ by' t 0) (h1 : by' t 0 ≤ 244) (h : ¬ (4 ≤ t.size ∧ Conts t 3 ∧ 65536 ≤ accI t ((by' t 0 : Int) - 240) 3 ∧ accI t ((by' t 0 : Int) - 240) 3 ≤ 1114111)) : rpt t 0 = (0, 0) := by
  rw [rpt0]; unfold rptN
  rw [if_neg (by omega), if_neg (by omega), if_neg (by omega), if_pos (by omega), if_neg]
  rintro ⟨a, b, c, d, f, g⟩
  refine h ⟨by omega, (((Conts.zero t).succ b.1 b.2).succ c.1 c.2).succ d.1 d.2, ?_, ?_⟩
  · rw [acc3]; omega
  · rw [acc3]; omega
theorem rpt4_yes (t : ByteArray) (h0 : 240 ≤ by' t 0) (h1 : by' t 0 ≤ 244) (h2 : 4 ≤ t.size) (h : Conts t 3) (h3 : 65536 ≤ accI t ((by' t 0 : Int) - 240) 3) (h4 : accI t ((by' t 0 : Int) - 240) 3 ≤ 1114111) : (((rpt t 0).1 : Nat) : Int) = accI t ((by' t 0 : Int) - 240) 3 ∧ (rpt t 0).2 = 4 := by
  have c1 := h 1 (by omega) (by omega)
  have c2 := h 2 (by omega) (by omega)
  have c3 := h 3 (by omega) (by omega)
  rw [acc3] at h3 h4
  have e : rpt t 0 = (64 * (64 * (64 * (by' t 0 - 240) + by' t 1 - 128) + by' t 2 - 128) + by' t 3 - 128, 4) := by
    rw [rpt0]; unfold rptN
    rw [if_neg (by omega), if_neg (by omega), if_neg (by omega), if_pos (by omega), if_pos ⟨by omega, c1, c2, c3, by omega, by omega⟩]
  rw [e, acc3]; refine ⟨?_, rfl⟩; dsimp only; omega

set_option maxHeartbeats 2000000 in
set_option maxRecDepth 100000 in
theorem pt_cls2 (t : ByteArray) (w : World) (ht : (t.size : Int) ≤ 1048576) (hp : 0 < t.size) (hb0 : Hid (194 ≤ by' t 0)) (hb1 : Hid (by' t 0 ≤ 223)) :
    Calls Tryz.prog 55 #[.string t] w fun e w' => e = .returned (.tuple #[.int .i32 (rpt t 0).1, .int .i64 (rpt t 0).2]) ∧ w' = w := by
  have hp' : (0 : Int) < (t.size : Int) := by omega
  obtain ⟨z, hz⟩ : ∃ z : Int, (t[0].toNat : Int) = z := ⟨_, rfl⟩
  have HZ : Hid ((by' t 0 : Int) = z) := by show _ = _; rw [by_get t 0 hp]; exact hz
  have l1 : 194 ≤ z := by have := hb0.out; have := HZ.out; omega
  have l2 : z ≤ 223 := by have := hb1.out; have := HZ.out; omega
  by_cases hlt : (t.size : Int) < 2
  · rw [rpt2_no t hb0.out hb1.out (fun h => absurd h.1 (by omega))]
    go_enter Tryz.func55, Tryz.ntmps55
    go_wp2
    go_ret2
    exact ⟨rfl, rfl⟩
  · go_enter Tryz.func55, Tryz.ntmps55
    go_wp2
    go_loop [6, 7] (fun r i => ∃ (k : Nat) (a : Int), i = .int .i64 ((k : Int) + 1) ∧ r = .int .i32 a ∧ k ≤ 1 ∧ Hid (accI t ((by' t 0 : Int) - 192) k = a) ∧ Hid (Conts t k)) (fun _ i => (2 - intOf i).toNat)
    case atStart => exact ⟨0, _, rfl, rfl, Nat.zero_le _, by show _ = _; rw [HZ.out]; rfl, Conts.zero t⟩
    case round =>
      obtain ⟨k, a, rfl, rfl, hk, HA, hcs⟩ := hrel
      have bd := accI_bd t ((by' t 0 : Int) - 192) (by have := HZ.out; omega) (by have := HZ.out; omega) k (by omega) hcs.out
      rw [HA.out] at bd
      obtain ⟨bd1, bd2⟩ := bd
      by_cases hk2 : k < 1
      · have hkI : (k : Int) < 1 := by omega
        have hks : (k : Int) + 1 < (t.size : Int) := by omega
        have hk0 : (0 : Int) ≤ (k : Int) + 1 := by omega
        obtain ⟨y, hy⟩ : ∃ y : Int, (t[k + 1].toNat : Int) = y := ⟨_, rfl⟩
        have HY : Hid ((by' t (k + 1) : Int) = y) := by show _ = _; rw [by_get t (k + 1) (by omega)]; exact hy
        have y0 : 0 ≤ y := by omega
        have y1 : y < 256 := by have := by_lt t (k + 1); have := HY.out; omega
        by_cases c1 : y < 128
        · have HN := Hid.mk' (rpt2_no t hb0.out hb1.out (fun h => absurd (h.2 (k + 1) (by omega) (by omega)) (by have := HY.out; omega)))
          go_wp2
          go_ret2
          rw [HN.out]
          exact ⟨rfl, rfl⟩
        · by_cases c2 : 191 < y
          · have HN := Hid.mk' (rpt2_no t hb0.out hb1.out (fun h => absurd (h.2 (k + 1) (by omega) (by omega)) (by have := HY.out; omega)))
            go_wp2
            go_ret2
            rw [HN.out]
            exact ⟨rfl, rfl⟩
          · have HS := Hid.mk' (hcs.out.succ (by have := HY.out; omega) (by have := HY.out; omega))
            have HB : Hid (accI t ((by' t 0 : Int) - 192) (k + 1) = 64 * a + y - 128) := by show _ = _; simp only [accI]; rw [HA.out, HY.out]
            go_wp2
            go_round
            case rel => exact ⟨k + 1, _, by go_num, rfl, by omega, HB, HS⟩
            case measure => simp [intOf]; omega
      · obtain rfl : k = 1 := by omega
        have HF := Hid.mk' (rpt2_yes t hb0.out hb1.out (by omega) hcs.out)
        clear hcs
        go_wp2
        go_ret2
        exact ⟨ret_pair (by rw [HF.out.1, HA.out]) (by rw [HF.out.2]; rfl), rfl⟩

set_option maxHeartbeats 2000000 in
set_option maxRecDepth 100000 in
theorem pt_cls3 (t : ByteArray) (w : World) (ht : (t.size : Int) ≤ 1048576) (hp : 0 < t.size) (hb0 : Hid (224 ≤ by' t 0)) (hb1 : Hid (by' t 0 ≤ 239)) :
    Calls Tryz.prog 55 #[.string t] w fun e w' => e = .returned (.tuple #[.int .i32 (rpt t 0).1, .int .i64 (rpt t 0).2]) ∧ w' = w := by
  have hp' : (0 : Int) < (t.size : Int) := by omega
  obtain ⟨z, hz⟩ : ∃ z : Int, (t[0].toNat : Int) = z := ⟨_, rfl⟩
  have HZ : Hid ((by' t 0 : Int) = z) := by show _ = _; rw [by_get t 0 hp]; exact hz
  have l1 : 224 ≤ z := by have := hb0.out; have := HZ.out; omega
  have l2 : z ≤ 239 := by have := hb1.out; have := HZ.out; omega
  by_cases hlt : (t.size : Int) < 3
  · rw [rpt3_no t hb0.out hb1.out (fun h => absurd h.1 (by omega))]
    go_enter Tryz.func55, Tryz.ntmps55
    go_wp2
    go_ret2
    exact ⟨rfl, rfl⟩
  · go_enter Tryz.func55, Tryz.ntmps55
    go_wp2
    go_loop [6, 7] (fun r i => ∃ (k : Nat) (a : Int), i = .int .i64 ((k : Int) + 1) ∧ r = .int .i32 a ∧ k ≤ 2 ∧ Hid (accI t ((by' t 0 : Int) - 224) k = a) ∧ Hid (Conts t k)) (fun _ i => (3 - intOf i).toNat)
    case atStart => exact ⟨0, _, rfl, rfl, Nat.zero_le _, by show _ = _; rw [HZ.out]; rfl, Conts.zero t⟩
    case round =>
      obtain ⟨k, a, rfl, rfl, hk, HA, hcs⟩ := hrel
      have bd := accI_bd t ((by' t 0 : Int) - 224) (by have := HZ.out; omega) (by have := HZ.out; omega) k (by omega) hcs.out
      rw [HA.out] at bd
      obtain ⟨bd1, bd2⟩ := bd
      by_cases hk2 : k < 2
      · have hkI : (k : Int) < 2 := by omega
        have hks : (k : Int) + 1 < (t.size : Int) := by omega
        have hk0 : (0 : Int) ≤ (k : Int) + 1 := by omega
        obtain ⟨y, hy⟩ : ∃ y : Int, (t[k + 1].toNat : Int) = y := ⟨_, rfl⟩
        have HY : Hid ((by' t (k + 1) : Int) = y) := by show _ = _; rw [by_get t (k + 1) (by omega)]; exact hy
        have y0 : 0 ≤ y := by omega
        have y1 : y < 256 := by have := by_lt t (k + 1); have := HY.out; omega
        by_cases c1 : y < 128
        · have HN := Hid.mk' (rpt3_no t hb0.out hb1.out (fun h => absurd (h.2.1 (k + 1) (by omega) (by omega)) (by have := HY.out; omega)))
          go_wp2
          go_ret2
          rw [HN.out]
          exact ⟨rfl, rfl⟩
        · by_cases c2 : 191 < y
          · have HN := Hid.mk' (rpt3_no t hb0.out hb1.out (fun h => absurd (h.2.1 (k + 1) (by omega) (by omega)) (by have := HY.out; omega)))
            go_wp2
            go_ret2
            rw [HN.out]
            exact ⟨rfl, rfl⟩
          · have HS := Hid.mk' (hcs.out.succ (by have := HY.out; omega) (by have := HY.out; omega))
            have HB : Hid (accI t ((by' t 0 : Int) - 224) (k + 1) = 64 * a + y - 128) := by show _ = _; simp only [accI]; rw [HA.out, HY.out]
            go_wp2
            go_round
            case rel => exact ⟨k + 1, _, by go_num, rfl, by omega, HB, HS⟩
            case measure => simp [intOf]; omega
      · obtain rfl : k = 2 := by omega
        by_cases f1 : a < 2048
        · have HF := Hid.mk' (rpt3_no t hb0.out hb1.out (by rintro ⟨_, _, h, _⟩; rw [HA.out] at h; omega))
          clear hcs
          go_wp2
          go_ret2
          rw [HF.out]
          exact ⟨rfl, rfl⟩
        · by_cases f2 : 55296 ≤ a
          · by_cases f3 : a ≤ 57343
            · have HF := Hid.mk' (rpt3_no t hb0.out hb1.out (by rintro ⟨_, _, _, h⟩; rw [HA.out] at h; exact h ⟨f2, f3⟩))
              clear hcs
              go_wp2
              go_ret2
              rw [HF.out]
              exact ⟨rfl, rfl⟩
            · have HF := Hid.mk' (rpt3_yes t hb0.out hb1.out (by omega) hcs.out (by rw [HA.out]; omega) (by rw [HA.out]; omega))
              clear hcs
              go_wp2
              go_ret2
              exact ⟨ret_pair (by rw [HF.out.1, HA.out]) (by rw [HF.out.2]; rfl), rfl⟩
          · have HF := Hid.mk' (rpt3_yes t hb0.out hb1.out (by omega) hcs.out (by rw [HA.out]; omega) (by rw [HA.out]; omega))
            clear hcs
            go_wp2
            go_ret2
            exact ⟨ret_pair (by rw [HF.out.1, HA.out]) (by rw [HF.out.2]; rfl), rfl⟩

set_option maxHeartbeats 2000000 in
set_option maxRecDepth 100000 in
theorem pt_cls4 (t : ByteArray) (w : World) (ht : (t.size : Int) ≤ 1048576) (hp : 0 < t.size) (hb0 : Hid (240 ≤ by' t 0)) (hb1 : Hid (by' t 0 ≤ 244)) :
    Calls Tryz.prog 55 #[.string t] w fun e w' => e = .returned (.tuple #[.int .i32 (rpt t 0).1, .int .i64 (rpt t 0).2]) ∧ w' = w := by
  have hp' : (0 : Int) < (t.size : Int) := by omega
  obtain ⟨z, hz⟩ : ∃ z : Int, (t[0].toNat : Int) = z := ⟨_, rfl⟩
  have HZ : Hid ((by' t 0 : Int) = z) := by show _ = _; rw [by_get t 0 hp]; exact hz
  have l1 : 240 ≤ z := by have := hb0.out; have := HZ.out; omega
  have l2 : z ≤ 244 := by have := hb1.out; have := HZ.out; omega
  by_cases hlt : (t.size : Int) < 4
  · rw [rpt4_no t hb0.out hb1.out (fun h => absurd h.1 (by omega))]
    go_enter Tryz.func55, Tryz.ntmps55
    go_wp2
    go_ret2
    exact ⟨rfl, rfl⟩
  · go_enter Tryz.func55, Tryz.ntmps55
    go_wp2
    go_loop [6, 7] (fun r i => ∃ (k : Nat) (a : Int), i = .int .i64 ((k : Int) + 1) ∧ r = .int .i32 a ∧ k ≤ 3 ∧ Hid (accI t ((by' t 0 : Int) - 240) k = a) ∧ Hid (Conts t k)) (fun _ i => (4 - intOf i).toNat)
    case atStart => exact ⟨0, _, rfl, rfl, Nat.zero_le _, by show _ = _; rw [HZ.out]; rfl, Conts.zero t⟩
    case round =>
      obtain ⟨k, a, rfl, rfl, hk, HA, hcs⟩ := hrel
      have bd := accI_bd t ((by' t 0 : Int) - 240) (by have := HZ.out; omega) (by have := HZ.out; omega) k (by omega) hcs.out
      rw [HA.out] at bd
      obtain ⟨bd1, bd2⟩ := bd
      by_cases hk2 : k < 3
      · have hkI : (k : Int) < 3 := by omega
        have hks : (k : Int) + 1 < (t.size : Int) := by omega
        have hk0 : (0 : Int) ≤ (k : Int) + 1 := by omega
        obtain ⟨y, hy⟩ : ∃ y : Int, (t[k + 1].toNat : Int) = y := ⟨_, rfl⟩
        have HY : Hid ((by' t (k + 1) : Int) = y) := by show _ = _; rw [by_get t (k + 1) (by omega)]; exact hy
        have y0 : 0 ≤ y := by omega
        have y1 : y < 256 := by have := by_lt t (k + 1); have := HY.out; omega
        by_cases c1 : y < 128
        · have HN := Hid.mk' (rpt4_no t hb0.out hb1.out (fun h => absurd (h.2.1 (k + 1) (by omega) (by omega)) (by have := HY.out; omega)))
          go_wp2
          go_ret2
          rw [HN.out]
          exact ⟨rfl, rfl⟩
        · by_cases c2 : 191 < y
          · have HN := Hid.mk' (rpt4_no t hb0.out hb1.out (fun h => absurd (h.2.1 (k + 1) (by omega) (by omega)) (by have := HY.out; omega)))
            go_wp2
            go_ret2
            rw [HN.out]
            exact ⟨rfl, rfl⟩
          · have HS := Hid.mk' (hcs.out.succ (by have := HY.out; omega) (by have := HY.out; omega))
            have HB : Hid (accI t ((by' t 0 : Int) - 240) (k + 1) = 64 * a + y - 128) := by show _ = _; simp only [accI]; rw [HA.out, HY.out]
            go_wp2
            go_round
            case rel => exact ⟨k + 1, _, by go_num, rfl, by omega, HB, HS⟩
            case measure => simp [intOf]; omega
      · obtain rfl : k = 3 := by omega
        by_cases f1 : a < 65536
        · have HF := Hid.mk' (rpt4_no t hb0.out hb1.out (by rintro ⟨_, _, h, _⟩; rw [HA.out] at h; omega))
          clear hcs
          go_wp2
          go_ret2
          rw [HF.out]
          exact ⟨rfl, rfl⟩
        · by_cases f2 : 1114111 < a
          · have HF := Hid.mk' (rpt4_no t hb0.out hb1.out (by rintro ⟨_, _, _, h⟩; rw [HA.out] at h; omega))
            clear hcs
            go_wp2
            go_ret2
            rw [HF.out]
            exact ⟨rfl, rfl⟩
          · have HF := Hid.mk' (rpt4_yes t hb0.out hb1.out (by omega) hcs.out (by rw [HA.out]; omega) (by rw [HA.out]; omega))
            clear hcs
            go_wp2
            go_ret2
            exact ⟨ret_pair (by rw [HF.out.1, HA.out]) (by rw [HF.out.2]; rfl), rfl⟩

set_option maxHeartbeats 2000000 in
set_option maxRecDepth 100000 in
theorem pt_any (t : ByteArray) (w : World) (ht : (t.size : Int) ≤ 1048576) (hp : 0 < t.size) :
    Calls Tryz.prog 55 #[.string t] w fun e w' => e = .returned (.tuple #[.int .i32 (rpt t 0).1, .int .i64 (rpt t 0).2]) ∧ w' = w := by
  have hp' : (0 : Int) < (t.size : Int) := by omega
  obtain ⟨z, hz⟩ : ∃ z : Int, (t[0].toNat : Int) = z := ⟨_, rfl⟩
  have HZ : Hid ((by' t 0 : Int) = z) := by show _ = _; rw [by_get t 0 hp]; exact hz
  have z0 : 0 ≤ z := by omega
  have z1 : z < 256 := by have := by_lt t 0; have := HZ.out; omega
  by_cases a0 : z < 128
  · rw [rpt_one t (by have := HZ.out; omega)]
    dsimp only
    rw [HZ.out]
    go_enter Tryz.func55, Tryz.ntmps55
    go_wp2
    go_ret2
    exact ⟨rfl, rfl⟩
  · by_cases a1 : z < 194
    · rw [rpt_none t (by have := HZ.out; omega) (by have := HZ.out; omega)]
      go_enter Tryz.func55, Tryz.ntmps55
      go_wp2
      go_ret2
      exact ⟨rfl, rfl⟩
    · by_cases a2 : z ≤ 223
      · exact pt_cls2 t w ht hp (show _ ≤ _ by have := HZ.out; omega) (show _ ≤ _ by have := HZ.out; omega)
      · by_cases a3 : z ≤ 239
        · exact pt_cls3 t w ht hp (show _ ≤ _ by have := HZ.out; omega) (show _ ≤ _ by have := HZ.out; omega)
        · by_cases a4 : z ≤ 244
          · exact pt_cls4 t w ht hp (show _ ≤ _ by have := HZ.out; omega) (show _ ≤ _ by have := HZ.out; omega)
          · rw [rpt_none t (by have := HZ.out; omega) (by have := HZ.out; omega)]
            go_enter Tryz.func55, Tryz.ntmps55
            go_wp2
            go_ret2
            exact ⟨rfl, rfl⟩

end Go.Proofs.YtjnbnejfdleocaaGreatDoor
