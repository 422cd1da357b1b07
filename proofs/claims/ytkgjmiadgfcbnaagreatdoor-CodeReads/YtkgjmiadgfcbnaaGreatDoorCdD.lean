/- Package code's reader: the bits of a number. -/
import Derived.Test.YtkgjmiadgfcbnaaGreatDoorCdC
namespace Go.Proofs.YtkgjmiadgfcbnaaGreatDoor
set_option linter.unusedVariables false
open Go.RowKit

theorem or_byte (u b : Nat) (hu : u < 2 ^ 56) (hb : b < 256) : bits BinOp.or IntKind.u64 (IntKind.u64.wrap ((u : Int) * 256)) (b : Int) = ((u * 256 + b : Nat) : Int) := by
  have w : ∀ n : Int, 0 ≤ n → n < 2 ^ 64 → IntKind.u64.wrap n = n := fun n h0 h1 => by rw [IntKind.wrap_u64]; omega
  rw [w _ (by omega) (by omega)]
  rw [bits_join .u64 64 (by decide) w 8 ((u : Int) * 256) (b : Int) (by omega) (by omega) (by omega) (by omega) (by omega) (by omega)]
  omega
theorem wordP_take (l : List UInt8) (j : Nat) (h : j < l.length) : wordP 0 (l.take (j + 1)) = wordP 0 (l.take j) * 256 + l[j].toNat := by
  rw [List.take_succ_eq_append_getElem h]
  unfold wordP
  rw [List.foldl_append]
  rfl
set_option maxHeartbeats 2000000 in
set_option maxRecDepth 100000 in
theorem bits_any {rb g : Nat} {L : List UInt8} (w : World) (h : Rc w rb g L) :
    Calls Tryz.prog 74 #[.pointer (some ⟨rb, 0, none⟩)] w fun e w' => Rds bitsP rb g (fun _ n v => v = .float .f64 n) L w e w' := by
  have HH := Hid.mk' hold_ok
  have HO := Hid.mk' hold_no
  by_cases h8 : 8 ≤ L.length
  · have HT := Hid.mk' (take_ok 8 8 rfl w h h8)
    clear h
    go_enter Tryz.func74, Tryz.ntmps74
    go_wp2_with fail
    refine HT.out.mono ?_
    rintro e w1 ⟨o, c, rfl, hb, hc1, hc2, hR1, hF1⟩
    have hlen : (L.take 8).length = 8 := by simp; omega
    obtain ⟨l, hl⟩ : ∃ l, L.take 8 = l := ⟨_, rfl⟩
    rw [hl] at hb hlen
    have HL := Hid.mk' hl
    have HB := Hid.mk' hb
    have HR1 := Hid.mk' hR1
    have HF1 := Hid.mk' hF1
    have HLN := Hid.mk' hlen
    clear hl hb hR1 hF1 hlen
    go_wp2
    go_loop [3, 10] (fun s iv => ∃ (j : Nat), s = .int .u64 (wordP 0 (l.take j) : Nat) ∧ iv = .int .i64 (j : Int) ∧ j ≤ 8) (fun s iv => 8 - (intOf iv).toNat)
    case atStart => exact ⟨0, rfl, rfl, by omega⟩
    case round =>
      obtain ⟨j, rfl, rfl, hj⟩ := hrel
      by_cases hlt : j < 8
      · have c0 := HB.out j (by rw [HLN.out]; exact hlt)
        have hw := wordP_lt (l.take j) 0
        rw [List.length_take, Nat.min_eq_left (by rw [HLN.out]; omega)] at hw
        have hp : 256 ^ j ≤ 256 ^ 7 := Nat.pow_le_pow_right (by omega) (by omega)
        have hor := or_byte (wordP 0 (l.take j)) (l[j]'(by rw [HLN.out]; exact hlt)).toNat (by omega) (UInt8.toNat_lt _)
        rw [← wordP_take l j (by rw [HLN.out]; exact hlt)] at hor
        have hbl := UInt8.toNat_lt (l[j]'(by rw [HLN.out]; exact hlt))
        have HNX : Hid (∃ u : Nat, wordP 0 (l.take (j + 1)) = u) := Hid.mk' ⟨_, rfl⟩
        obtain ⟨u, hu⟩ := HNX.out
        rw [hu] at hor
        have HU := Hid.mk' hu
        obtain ⟨u0, hu0⟩ : ∃ u0 : Nat, wordP 0 (l.take j) = u0 := ⟨_, rfl⟩
        rw [hu0] at hor ⊢
        obtain ⟨zb, hzb⟩ : ∃ zb : Int, (((l[j]'(by rw [HLN.out]; exact hlt)).toNat : Nat) : Int) = zb := ⟨_, rfl⟩
        rw [hzb] at hor c0
        have hz0 : 0 ≤ zb := by omega
        have hz1 : zb < 256 := by omega
        have hwz : IntKind.u64.wrap zb = zb := by rw [IntKind.wrap_u64]; omega
        have i1 : (j : Int) < 8 := by omega
        clear hw hp hbl hu hu0 hzb
        go_wp2
        go_round
        case rel => exact ⟨j + 1, by rw [HU.out], by go_num, by omega⟩
        case measure => simp [intOf]; omega
      · obtain rfl : j = 8 := by omega
        have hw := wordP_lt (l.take 8) 0
        rw [List.length_take, Nat.min_eq_left (by rw [HLN.out]; omega)] at hw
        have e8 : l.take 8 = l := by rw [← HLN.out]; exact List.take_length
        rw [e8] at hw ⊢
        have HX : Hid (bitsP L = if Fl.nan (wordP 0 l) ∧ wordP 0 l ≠ 9221120237041090560 then none else some (wordP 0 l, L.drop 8)) := Hid.mk' (by
          unfold bitsP
          rw [if_pos h8, HL.out])
        obtain ⟨u, hu⟩ : ∃ u, wordP 0 l = u := ⟨_, rfl⟩
        rw [hu] at hw HX ⊢
        have hlt' : u < 18446744073709551616 := by simpa using hw
        have HI := Hid.mk' (fun W => isNaN_any u W hlt')
        clear hw hu e8
        by_cases hn : Fl.nan u
        · rw [decide_eq_true hn] at HI
          have HN := Hid.mk' hn
          clear hn
          by_cases hq : u = 9221120237041090560
          · subst hq
            go_wp2_with (first | (go_at_call 92; refine (HI.out _).mono ?_; rintro e w1 ⟨rfl, hw1⟩; rw [hw1]; clear hw1 w1) | (go_at_call 28; refine (HH.out _).mono ?_; rintro e w1 ⟨rfl, hw1⟩; rw [hw1]; clear hw1 w1))
            go_ret
            refine .inl ⟨_, _, _, ?_, rfl, rfl, HR1.out, HF1.out⟩
            rw [HX.out, if_neg (fun q => q.2 rfl)]
          · have hq' : ((u : Int) == 9221120237041090560) = false := by simp; omega
            go_wp2_with (first | (go_at_call 92; refine (HI.out _).mono ?_; rintro e w1 ⟨rfl, hw1⟩; rw [hw1]; clear hw1 w1) | (go_at_call 28; refine (HO.out _).mono ?_; rintro e w1 ⟨rfl, hw1⟩; rw [hw1]; clear hw1 w1))
            refine ⟨rfl, .inr ⟨?_, rfl, HF1.out⟩⟩
            rw [HX.out, if_pos ⟨HN.out, hq⟩]
        · rw [decide_eq_false hn] at HI
          have HN := Hid.mk' hn
          clear hn
          go_wp2_with (first | (go_at_call 92; refine (HI.out _).mono ?_; rintro e w1 ⟨rfl, hw1⟩; rw [hw1]; clear hw1 w1) | (go_at_call 28; refine (HH.out _).mono ?_; rintro e w1 ⟨rfl, hw1⟩; rw [hw1]; clear hw1 w1))
          go_ret
          refine .inl ⟨_, _, _, ?_, rfl, rfl, HR1.out, HF1.out⟩
          rw [HX.out, if_neg (fun q => HN.out q.1)]
  · have HT := Hid.mk' (take_no 8 w h (by omega))
    clear h
    go_enter Tryz.func74, Tryz.ntmps74
    go_wp2_with fail
    refine HT.out.mono ?_
    rintro e w1 ⟨rfl, hF1⟩
    go_wp2
    refine ⟨rfl, .inr ⟨?_, rfl, hF1⟩⟩
    unfold bitsP
    rw [if_neg h8]
end Go.Proofs.YtkgjmiadgfcbnaaGreatDoor
