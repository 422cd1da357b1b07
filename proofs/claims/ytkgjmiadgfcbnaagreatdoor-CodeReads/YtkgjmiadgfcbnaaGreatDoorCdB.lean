/- Package code's reader: numbers, flags, texts. -/
import Derived.Test.YtkgjmiadgfcbnaaGreatDoorCdA
import Derived.Test.YtkgjmiadgfcbnaaGreatDoorCdP
namespace Go.Proofs.YtkgjmiadgfcbnaaGreatDoor
set_option linter.unusedVariables false
open Go.RowKit

/-- A method of the reader's: what it reads, or it throws. -/
def Rds {α : Type} (p : List UInt8 → Option (α × List UInt8)) (rb g : Nat) (R : World → α → Value → Prop) (L : List UInt8) (w : World) (e : Ending) (w' : World) : Prop :=
  (∃ x L' v, p L = some (x, L') ∧ e = .returned v ∧ R w' x v ∧ Rc w' rb g L' ∧ Fr rb w w') ∨ (p L = none ∧ e = thrown ∧ Fr rb w w')
abbrev isNum (_ : World) (n : Nat) (v : Value) : Prop := v = .int .i64 (n : Int)
abbrev isFlag (_ : World) (b : Bool) (v : Value) : Prop := v = .bool b
abbrev isText (_ : World) (s : ByteArray) (v : Value) : Prop := v = .string s

theorem andNot7 : ∀ b : UInt8, bits BinOp.andNot IntKind.u8 (b.toNat : Int) 128 = ((b.toNat % 128 : Nat) : Int) := by
  intro b
  have h : ∀ n : Fin 256, bits BinOp.andNot IntKind.u8 ((n.val : Nat) : Int) 128 = ((n.val % 128 : Nat) : Int) := by decide +kernel
  exact h ⟨b.toNat, UInt8.toNat_lt b⟩
set_option maxHeartbeats 4000000 in
set_option maxRecDepth 100000 in
theorem number_any {rb g : Nat} {L : List UInt8} (w : World) (h : Rc w rb g L) :
    Calls Tryz.prog 43 #[.pointer (some ⟨rb, 0, none⟩)] w fun e w' => Rds numP rb g isNum L w e w' := by
  have HL := Hid.mk' h
  clear h
  go_enter Tryz.func43, Tryz.ntmps43
  go_wp2
  go_loopw [3, 6] (fun s iv wr => ∃ (i n : Nat) (R : List UInt8), s = .int .i64 (n : Int) ∧ iv = .int .i64 (i : Int) ∧ i ≤ 9 ∧ Hid (n < 128 ^ i ∧ numP L = numF (9 - i) i n R) ∧ Hid (Rc wr rb g R) ∧ Hid (Fr rb w wr)) (fun s iv wr => 9 - (intOf iv).toNat)
  case atStart => exact ⟨0, 0, L, rfl, rfl, by omega, Hid.mk' ⟨by simp, rfl⟩, HL, Hid.mk' (Fr.refl _ _)⟩
  case round =>
    obtain ⟨i, n, R, rfl, rfl, hi, HN, HR, HF⟩ := hrel
    by_cases h9 : i = 9
    · subst h9
      go_wp2
      refine ⟨rfl, .inr ⟨?_, rfl, HF.out⟩⟩
      rw [HN.out.2]
      rfl
    · have i1 : (i : Int) < 9 := by omega
      have i0 : (0 : Int) ≤ 7 * (i : Int) := by omega
      cases R with
      | nil =>
        have HT := Hid.mk' (take_no 1 wr HR.out (by simp))
        go_wp2_with fail
        refine HT.out.mono ?_
        rintro e w1 ⟨rfl, f1⟩
        go_wp2
        refine ⟨rfl, .inr ⟨?_, rfl, HF.out.trans f1⟩⟩
        rw [HN.out.2, show 9 - i = (8 - i) + 1 by omega]
        rfl
      | cons b r =>
        have HT := Hid.mk' (take_ok 1 1 rfl wr HR.out (by simp))
        have HQ : Hid (numP L = if b.toNat < 128 then (if b.toNat = 0 ∧ i ≠ 0 then none else some (n + b.toNat * 128 ^ i, r)) else numF (9 - (i + 1)) (i + 1) (n + (b.toNat - 128) * 128 ^ i) r) := by
          rw [HN.out.2, show 9 - i = (8 - i) + 1 by omega, numF, show 8 - i = 9 - (i + 1) by omega]
          exact Hid.mk' rfl
        have hor := or_sum64 n (b.toNat % 128) i HN.out.1 (by omega) (by omega)
        have han := andNot7 b
        have hbl := UInt8.toNat_lt b
        obtain ⟨q, hq⟩ : ∃ q : Int, ((b.toNat % 128 : Nat) : Int) = q := ⟨_, rfl⟩
        rw [hq] at hor han
        obtain ⟨N, hN⟩ : ∃ N : Nat, n + b.toNat % 128 * 128 ^ i = N := ⟨_, rfl⟩
        rw [hN] at hor
        have HNN : Hid (n + b.toNat % 128 * 128 ^ i = N) := Hid.mk' hN
        have HNL : Hid (N < 128 ^ (i + 1)) := by
          rw [← hN, Nat.pow_succ]
          have h1 := HN.out.1
          have : b.toNat % 128 * 128 ^ i ≤ 127 * 128 ^ i := Nat.mul_le_mul_right _ (by omega)
          exact Hid.mk' (by omega)
        obtain ⟨zb, hzb⟩ : ∃ zb : Int, (b.toNat : Int) = zb := ⟨_, rfl⟩
        rw [hzb] at han
        have HZ : Hid ((b.toNat : Int) = zb) := Hid.mk' hzb
        have hwq : wrap64 q = q := by rw [← hq]; unfold wrap64; omega
        have hz0 : 0 ≤ zb := by omega
        clear hN hq hbl h9
        go_wp2_with fail
        refine HT.out.mono ?_
        rintro e w1 ⟨o, c, rfl, hb1, hc1, hc2, hR1, f1⟩
        have c0 := hb1 0 (by simp)
        simp only [List.take_succ_cons, List.getElem_cons_zero, Nat.add_zero] at c0
        rw [hzb] at c0
        have HR1 := Hid.mk' hR1
        have HF1 := Hid.mk' (HF.out.trans f1)
        have HH := Hid.mk' hold_ok
        have HO := Hid.mk' hold_no
        clear hR1 f1 hb1 hzb
        by_cases hb : zb < 128
        · by_cases h0 : 0 < zb
          · go_wp2_with (go_at_call 28; refine (HH.out _).mono ?_; rintro e w1 ⟨rfl, hw1⟩; rw [hw1]; clear hw1 w1)
            go_ret
            refine .inl ⟨N, r, _, ?_, rfl, rfl, HR1.out, HF1.out⟩
            have := HZ.out
            have := HNN.out
            rw [HQ.out, if_pos (show b.toNat < 128 by omega), if_neg (show ¬ (b.toNat = 0 ∧ i ≠ 0) by omega)]
            rw [Nat.mod_eq_of_lt (show b.toNat < 128 by omega)] at this
            rw [this]
          · by_cases hi0 : i = 0
            · subst hi0
              obtain rfl : zb = 0 := by omega
              simp only [Nat.mul_zero, Int.pow_zero, Int.mul_one, hwq] at hor
              go_wp2_with (go_at_call 28; refine (HH.out _).mono ?_; rintro e w1 ⟨rfl, hw1⟩; rw [hw1]; clear hw1 w1)
              go_ret
              refine .inl ⟨N, r, _, ?_, rfl, rfl, HR1.out, HF1.out⟩
              have := HZ.out
              have := HNN.out
              rw [HQ.out, if_pos (show b.toNat < 128 by omega), if_neg (show ¬ (b.toNat = 0 ∧ 0 ≠ 0) by omega)]
              rw [Nat.mod_eq_of_lt (show b.toNat < 128 by omega)] at this
              rw [this]
            · have hi1 : ((i : Int) == 0) = false := by simp; omega
              obtain rfl : zb = 0 := by omega
              go_wp2_with (go_at_call 28; refine (HO.out _).mono ?_; rintro e w1 ⟨rfl, hw1⟩; rw [hw1]; clear hw1 w1)
              refine ⟨rfl, .inr ⟨?_, rfl, HF1.out⟩⟩
              have := HZ.out
              rw [HQ.out, if_pos (show b.toNat < 128 by omega), if_pos (show (b.toNat = 0 ∧ i ≠ 0) by omega)]
        · go_wp2
          go_roundw
          case rel =>
            refine ⟨i + 1, N, r, rfl, by go_num, by omega, Hid.mk' ⟨HNL.out, ?_⟩, HR1, HF1⟩
            have := HZ.out
            have h1 := HNN.out
            rw [HQ.out, if_neg (show ¬ b.toNat < 128 by omega)]
            rw [show b.toNat % 128 = b.toNat - 128 by have := UInt8.toNat_lt b; omega] at h1
            rw [h1]
          case measure => simp [intOf]; omega
end Go.Proofs.YtkgjmiadgfcbnaaGreatDoor
