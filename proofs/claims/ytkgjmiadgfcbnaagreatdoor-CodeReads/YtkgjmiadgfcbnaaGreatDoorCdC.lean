/- Package code's reader: flags, texts, bits, constants, tries, captures. -/
import Derived.Test.YtkgjmiadgfcbnaaGreatDoorCdB
namespace Go.Proofs.YtkgjmiadgfcbnaaGreatDoor
set_option linter.unusedVariables false
open Go.RowKit

theorem conv_bs {w : World} {g o c : Nat} {l : List UInt8} (h : Bs w g o l) (d : TypeId) (hd : Tryz.prog.underlying d = some .string) : (convert 22 d (.slice (some ⟨g, o, none⟩) l.length c)).run Tryz.prog w = .ok (.string (Sb l)) w :=
  run_convert_bytes_back w 22 d 5 ⟨g, o, none⟩ c l Tryz.underlying22 Tryz.underlying5 hd (fun j hj => by
    rw [Addr.add_lit]
    exact h j hj)
theorem flag_any {rb g : Nat} {L : List UInt8} (w : World) (h : Rc w rb g L) :
    Calls Tryz.prog 45 #[.pointer (some ⟨rb, 0, none⟩)] w fun e w' => Rds flagP rb g isFlag L w e w' := by
  have HN := Hid.mk' (number_any w h)
  have HH := Hid.mk' hold_ok
  have HO := Hid.mk' hold_no
  clear h
  go_enter Tryz.func45, Tryz.ntmps45
  go_wp2_with fail
  refine HN.out.mono ?_
  rintro e w1 (⟨n, L', v, hp, rfl, rfl, hR, hF⟩ | ⟨hp, rfl, hF⟩)
  · have HR := Hid.mk' hR
    have HF := Hid.mk' hF
    have HP := Hid.mk' hp
    clear hR hF hp
    obtain ⟨z, hz⟩ : ∃ z : Int, (n : Int) = z := ⟨_, rfl⟩
    simp only [hz]
    have HZ := Hid.mk' hz
    clear hz
    by_cases h1 : z ≤ 1
    · go_wp2_with (go_at_call 28; refine (HH.out _).mono ?_; rintro e w1 ⟨rfl, hw1⟩; rw [hw1]; clear hw1 w1)
      go_ret
      refine .inl ⟨decide (n = 1), L', _, ?_, rfl, ?_, HR.out, HF.out⟩
      · unfold flagP
        rw [HP.out]
        show (if n ≤ 1 then _ else _) = _
        rw [if_pos (show n ≤ 1 by have := HZ.out; omega)]
      · show Value.bool _ = Value.bool _
        congr 1
        have := HZ.out
        rw [Bool.eq_iff_iff]
        simp
        omega
    · go_wp2_with (go_at_call 28; refine (HO.out _).mono ?_; rintro e w1 ⟨rfl, hw1⟩; rw [hw1]; clear hw1 w1)
      refine ⟨rfl, .inr ⟨?_, rfl, HF.out⟩⟩
      unfold flagP
      rw [HP.out]
      show (if n ≤ 1 then _ else _) = _
      rw [if_neg (show ¬ n ≤ 1 by have := HZ.out; omega)]
  · go_wp2
    refine ⟨rfl, .inr ⟨?_, rfl, hF⟩⟩
    unfold flagP
    rw [hp]
    rfl
set_option maxHeartbeats 1000000 in
theorem text_any {rb g : Nat} {L : List UInt8} (w : World) (h : Rc w rb g L) :
    Calls Tryz.prog 44 #[.pointer (some ⟨rb, 0, none⟩)] w fun e w' => Rds textP rb g isText L w e w' := by
  have HN := Hid.mk' (number_any w h)
  have HH := Hid.mk' hold_ok
  have HO := Hid.mk' hold_no
  clear h
  go_enter Tryz.func44, Tryz.ntmps44
  go_wp2_with fail
  refine HN.out.mono ?_
  rintro e w1 (⟨n, L', v, hp, rfl, rfl, hR, hF⟩ | ⟨hp, rfl, hF⟩)
  · have hlt := numP_lt hp
    have HF := Hid.mk' hF
    have HP := Hid.mk' hp
    have HX : Hid (textP L = if n % 2 = 0 ∧ n ≤ L'.length then some (Sb (L'.take n), L'.drop n) else none) := Hid.mk' (by
      unfold textP
      rw [HP.out]
      rfl)
    clear hF hp
    obtain ⟨m, hm⟩ : ∃ m : Int, Int.tmod (n : Int) 2 = m := ⟨_, rfl⟩
    have hm2 : Hid (m = ((n % 2 : Nat) : Int)) := Hid.mk' (by rw [← hm]; rfl)
    by_cases h1 : m = 0
    · subst h1
      by_cases h2 : n ≤ L'.length
      · have HT := Hid.mk' (take_ok n n rfl w1 hR h2)
        clear hR
        go_wp2_with (go_at_call 28; refine (HH.out _).mono ?_; rintro e w1 ⟨rfl, hw1⟩; rw [hw1]; clear hw1 w1)
        refine HT.out.mono ?_
        rintro e w2 ⟨o, c, rfl, hb, hc1, hc2, hR2, hF2⟩
        have hcv := conv_bs (c := c) hb 37 Tryz.underlying37
        rw [List.length_take, Nat.min_eq_left h2] at hcv
        have HR2 := Hid.mk' hR2
        have HF2 := Hid.mk' hF2
        clear hb hR2 hF2
        go_wp2
        go_ret
        refine .inl ⟨_, _, _, ?_, rfl, rfl, HR2.out, HF.out.trans HF2.out⟩
        rw [HX.out, if_pos ⟨by have := hm2.out; omega, h2⟩]
      · have HT := Hid.mk' (take_no n w1 hR (by omega))
        clear hR
        go_wp2_with (go_at_call 28; refine (HH.out _).mono ?_; rintro e w1 ⟨rfl, hw1⟩; rw [hw1]; clear hw1 w1)
        refine HT.out.mono ?_
        rintro e w2 ⟨rfl, hF2⟩
        go_wp2
        refine ⟨rfl, .inr ⟨?_, rfl, HF.out.trans hF2⟩⟩
        rw [HX.out, if_neg (fun q => h2 q.2)]
    · have h1' : (m == 0) = false := by simp [h1]
      go_wp2_with (go_at_call 28; refine (HO.out _).mono ?_; rintro e w1 ⟨rfl, hw1⟩; rw [hw1]; clear hw1 w1)
      refine ⟨rfl, .inr ⟨?_, rfl, HF.out⟩⟩
      rw [HX.out, if_neg (fun q => h1 (by rw [hm2.out, q.1]; rfl))]
  · go_wp2
    refine ⟨rfl, .inr ⟨?_, rfl, hF⟩⟩
    unfold textP
    rw [hp]
    rfl
end Go.Proofs.YtkgjmiadgfcbnaaGreatDoor
