/- units.Join and lintelref01.Join: texts one behind the other, or too long together. -/
import Derived.Test.YtbkkkpfoaggejaaGreatDoorMake
import Derived.Test.YtbkkkpfoaggejaaGreatDoorRCmp
import Derived.Test.YtbkkkpfoaggejaaGreatDoorROf
import Derived.Test.YtbkkkpfoaggejaaGreatDoorCut
import Derived.Lib.AppendStr
import Derived.ArgAppend
namespace Go.Proofs.YtbkkkpfoaggejaaGreatDoor
set_option linter.unusedVariables false
open Go.RowKit

/-- A value is a slice whose texts are ss. -/
def RdS (w : World) (v : Value) (ss : List ByteArray) : Prop :=
  (∃ a c, v = .slice a 0 c ∧ ss = [] ∧ (a = none → c = 0) ∧ (c : Int) ≤ 9223372036854775807) ∨ ∃ g o c, v = .slice (some ⟨g, o, none⟩) ss.length c ∧ ss.length ≤ c ∧ (c : Int) ≤ 9223372036854775807 ∧ g < w.heap.size ∧ ∀ (j : Nat) (h : j < ss.length), w.cell? ⟨g, o + j, none⟩ = some (.string ss[j])
theorem RdS.below {w w' : World} {v : Value} {ss : List ByteArray} (h : RdS w v ss) (hb : Below w.heap.size w w') : RdS w' v ss := by
  rcases h with h | ⟨g, o, c, rfl, hl, hm, hg, hc⟩
  · exact .inl h
  · exact .inr ⟨g, o, c, rfl, hl, hm, Nat.lt_of_lt_of_le hg hb.size, fun j hj => (hb.cell (p := ⟨g, o + j, none⟩) hg).trans (hc j hj)⟩
theorem RdS.form {w : World} {v : Value} {ss : List ByteArray} (h : RdS w v ss) : ∃ x c, v = .slice x ss.length c := by
  rcases h with ⟨a, c, rfl, rfl, _⟩ | ⟨g, o, c, rfl, _⟩
  · exact ⟨_, _, rfl⟩
  · exact ⟨_, _, rfl⟩

def hsum (ss : List ByteArray) : Nat := (ss.map fun s => s.size / 2).sum
theorem hsum_append (a b : List ByteArray) : hsum (a ++ b) = hsum a + hsum b := by unfold hsum; rw [List.map_append, List.sum_append]
theorem hsum_take (ss : List ByteArray) (k : Nat) (h : k < ss.length) : hsum (ss.take (k + 1)) = hsum (ss.take k) + ss[k].size / 2 := by
  rw [List.take_succ_eq_append_getElem h, hsum_append]
  rfl
theorem hsum_mono (ss : List ByteArray) (k : Nat) : hsum (ss.take k) ≤ hsum ss := by
  have : hsum ss = hsum (ss.take k) + hsum (ss.drop k) := by
    rw [← hsum_append, List.take_append_drop]
  omega
def joinB (ss : List ByteArray) : List UInt8 := ss.flatMap ebs
theorem joinB_take (ss : List ByteArray) (k : Nat) (h : k < ss.length) : joinB (ss.take (k + 1)) = joinB (ss.take k) ++ ebs ss[k] := by
  rw [List.take_succ_eq_append_getElem h]; unfold joinB; rw [List.flatMap_append]; simp only [List.flatMap_cons, List.flatMap_nil, List.append_nil]
theorem joinB_length (ss : List ByteArray) : (joinB ss).length = 2 * hsum ss := by
  induction ss with
  | nil => rfl
  | cons s r ih =>
    have e : joinB (s :: r) = ebs s ++ joinB r := rfl
    have e2 : hsum (s :: r) = s.size / 2 + hsum r := by simp [hsum]
    rw [e, List.length_append, ih, ebs_length, e2]; omega
def joinNo : Ending := .returned (.tuple #[.string ⟨#[]⟩, .int .i64 2])
def joinYes (ss : List ByteArray) : Ending := .returned (.tuple #[.string ⟨(joinB ss).toArray⟩, .int .i64 0])

theorem strCells_even (s : ByteArray) : Lib.strCells (evenS s) = Lib.byteCells (ebs s) := by
  unfold Lib.strCells Lib.byteCells; rw [evenS_bytes]
theorem even_size (s : ByteArray) : (evenS s).size = (ebs s).length := by
  rw [← evenS_bytes]; simp

set_option maxHeartbeats 1000000 in
set_option maxRecDepth 100000 in
theorem join_no (ss : List ByteArray) (hl : ss.length ≤ 1000) (hz : ∀ s ∈ ss, s.size ≤ 4000) (v : Value) (w : World) (hv : RdS w v ss) (hbig : 65536 < hsum ss) :
    Calls Tryz.prog 80 #[v] w fun e w' => e = joinNo ∧ Below w.heap.size w w' := by
  obtain ⟨x, c, rfl⟩ := hv.form
  have HB : Hid (65536 < hsum ss) := hbig
  clear hbig
  go_enter Tryz.func80, Tryz.ntmps80
  go_wp2
  go_loop [4, 12] (fun t i => ∃ (k : Nat) (T : Int), i = .int .i64 k ∧ t = .int .i64 T ∧ k ≤ ss.length ∧ T ≤ 65536 ∧ 0 ≤ T ∧ Hid ((hsum (ss.take k) : Int) = T)) (fun _ i => ss.length - (intOf i).toNat)
  case atStart => exact ⟨0, 0, rfl, rfl, Nat.zero_le _, by omega, by omega, Hid.mk' rfl⟩
  case round =>
    obtain ⟨k, T, rfl, rfl, hk, hT, hT0, HT⟩ := hrel
    by_cases hlt : k < ss.length
    · rcases hv with ⟨a, c', e, h0, _⟩ | ⟨g, o, c', e, hcl, hcm, hg, hc⟩
      · exact absurd hlt (by simp [h0])
      · obtain ⟨rfl, rfl⟩ : x = some ⟨g, o, none⟩ ∧ c = c' := by simpa using e
        have hcell := hc k hlt
        have hsz := hz _ (List.getElem_mem hlt)
        have hm : ss[k].size ≤ maxLen := by unfold maxLen; omega
        have HN := Hid.mk' (hsum_take ss k hlt)
        have HL := Hid.mk' (fun W => len_any ss[k] W hm)
        obtain ⟨s, hs⟩ : ∃ s, ss[k] = s := ⟨_, rfl⟩
        rw [hs] at hcell hsz HN HL
        obtain ⟨d, hd⟩ : ∃ d, s.size / 2 = d := ⟨_, rfl⟩
        rw [hd] at HN HL
        have hd2 : (d : Int) ≤ 2000 := by omega
        clear hs hd hc e hz hsz hm
        by_cases hbig : 65536 < T + (d : Int)
        · go_wp2_with (go_at_call 99; refine (HL.out _).mono ?_; rintro e w1 ⟨rfl, hw1⟩; rw [hw1]; clear hw1 w1)
          go_ret2
          exact ⟨rfl, Below.refl _ _⟩
        · go_wp2_with (go_at_call 99; refine (HL.out _).mono ?_; rintro e w1 ⟨rfl, hw1⟩; rw [hw1]; clear hw1 w1)
          go_round
          case rel => exact ⟨k + 1, T + d, by go_num, rfl, by omega, by omega, by omega, by show _ = _; rw [HN.out, ← HT.out]; omega⟩
          case measure => simp [intOf]; omega
    · exfalso
      have h1 := HT.out
      have h2 := HB.out
      rw [List.take_of_length_le (by omega)] at h1
      omega

set_option maxHeartbeats 2000000 in
set_option maxRecDepth 100000 in
theorem join_yes (ss : List ByteArray) (hl : ss.length ≤ 1000) (hz : ∀ s ∈ ss, s.size ≤ 4000) (v : Value) (w : World) (hv : RdS w v ss) (hbig : hsum ss ≤ 65536) :
    Calls Tryz.prog 80 #[v] w fun e w' => e = joinYes ss ∧ Below w.heap.size w w' := by
  obtain ⟨i0, hi, hz0, hz1, hz2⟩ := info_parts info8
  obtain ⟨x, c, rfl⟩ := hv.form
  have HB : Hid (hsum ss ≤ 65536) := hbig
  clear hbig
  go_enter Tryz.func80, Tryz.ntmps80
  go_wp2
  go_loop [4, 12] (fun t i => ∃ (k : Nat) (T : Int), i = .int .i64 k ∧ t = .int .i64 T ∧ k ≤ ss.length ∧ T ≤ 65536 ∧ 0 ≤ T ∧ Hid ((hsum (ss.take k) : Int) = T)) (fun _ i => ss.length - (intOf i).toNat)
  case atStart => exact ⟨0, 0, rfl, rfl, Nat.zero_le _, by omega, by omega, Hid.mk' rfl⟩
  case round =>
    obtain ⟨k, T, rfl, rfl, hk, hT, hT0, HT⟩ := hrel
    by_cases hlt : k < ss.length
    · rcases hv with ⟨a, c', e, h0, _⟩ | ⟨g, o, c', e, hcl, hcm, hg, hc⟩
      · exact absurd hlt (by simp [h0])
      · obtain ⟨rfl, rfl⟩ : x = some ⟨g, o, none⟩ ∧ c = c' := by simpa using e
        have hcell := hc k hlt
        have hsz := hz _ (List.getElem_mem hlt)
        have hm : ss[k].size ≤ maxLen := by unfold maxLen; omega
        have HN := Hid.mk' (hsum_take ss k hlt)
        have HL := Hid.mk' (fun W => len_any ss[k] W hm)
        have HQ := Hid.mk' (hsum_mono ss (k + 1))
        obtain ⟨s, hs⟩ : ∃ s, ss[k] = s := ⟨_, rfl⟩
        rw [hs] at hcell hsz HN HL
        obtain ⟨d, hd⟩ : ∃ d, s.size / 2 = d := ⟨_, rfl⟩
        rw [hd] at HN HL
        have hd2 : (d : Int) ≤ 2000 := by omega
        have hbig : T + (d : Int) ≤ 65536 := by have := HB.out; have := HQ.out; have := HN.out; have := HT.out; omega
        clear hs hd hc e hz hsz hm
        go_wp2_with (go_at_call 99; refine (HL.out _).mono ?_; rintro e w1 ⟨rfl, hw1⟩; rw [hw1]; clear hw1 w1)
        go_round
        case rel => exact ⟨k + 1, T + d, by go_num, rfl, by omega, by omega, by omega, by show _ = _; rw [HN.out, ← HT.out]; omega⟩
        case measure => simp [intOf]; omega
    · obtain ⟨t, rfl⟩ : ∃ t : Nat, T = t := ⟨T.toNat, by omega⟩
      clear HT
      go_wp2_with (at_make; refine wpList_make_own _ rfl _ _ 54 rfl w.heap.size 5 i0 (.int .u8 0) 1 Tryz.underlying54 hi hz0 hz1 .i64 .i64 _ (2 * t) rfl rfl (by omega) (by rw [hz2]; omega) (by unfold maxLen; omega) (Nat.le_refl _) ?_; intro w0 hown0 hgrow0)
      have hle : w.heap.size ≤ w0.heap.size := hgrow0.size
      have hb0 : Below w.heap.size w w0 := (Below.refl _ _).grown hgrow0 (Nat.le_refl _) (by simp)
      go_loopw [7, 28] (fun v i wr => ∃ k : Nat, i = .int .i64 k ∧ k ≤ ss.length ∧ wr.ownsRow w.heap.size 5 1 v (joinB (ss.take k)).length (Lib.byteCells (joinB (ss.take k))) ∧ Below w.heap.size w wr) (fun _ i _ => ss.length - (intOf i).toNat)
      case atStart => exact ⟨0, rfl, Nat.zero_le _, hown0, hb0⟩
      case round =>
        obtain ⟨q, rfl, hq, hown, hbw⟩ := hrel
        have hBW : w.heap.size ≤ wr.heap.size := hbw.size
        clear hown0 hgrow0 hb0
        by_cases hlt2 : q < ss.length
        · rcases hv with ⟨a, c', e, h0, _⟩ | ⟨g, o, c', e, hcl, hcm, hg, hc⟩
          · exact absurd hlt2 (by simp [h0])
          · obtain ⟨rfl, rfl⟩ : x = some ⟨g, o, none⟩ ∧ c = c' := by simpa using e
            have hcell : wr.cell? ⟨g, o + q, none⟩ = some (.string ss[q]) := (hbw.cell (p := ⟨g, o + q, none⟩) hg).trans (hc q hlt2)
            have hsz := hz _ (List.getElem_mem hlt2)
            have HE := Hid.mk' (fun W => even_any ss[q] W (by omega))
            have HJ := Hid.mk' (joinB_take ss q hlt2)
            have hjl := joinB_length (ss.take q)
            have hjm := hsum_mono ss q
            have hjn : (joinB (ss.take q)).length ≤ 131072 := by have := HB.out; omega
            have hes := even_size ss[q]
            have hel := ebs_length ss[q]
            have hev : (evenS ss[q]).size ≤ 4000 := by omega
            have HC := Hid.mk' (strCells_even ss[q])
            have HS := Hid.mk' hes
            obtain ⟨s, hs⟩ : ∃ s, ss[q] = s := ⟨_, rfl⟩
            rw [hs] at hcell HE HJ hev HC HS
            clear hs hc e hz hsz hes hel hjl hjm
            have i1 : (q : Int) < (ss.length : Int) := by omega
            go_wp2_with (first | (go_at_call 102; refine (HE.out _).mono ?_; rintro e w1 ⟨rfl, hw1⟩; rw [hw1]; clear hw1 w1) | (at_builtin; refine Lib.wpList_append_own_string _ rfl _ _ 54 22 rfl w.heap.size 5 i0 Tryz.underlying54 Tryz.underlying22 hi hz0 hz1 hz2 _ _ _ rfl hown (evenS s) rfl (by unfold maxLen; omega) (by omega) hBW ?_; intro v2 w2 o2 g2 _))
            have k2 := kept_append hown g2 hBW
            clear g2
            go_wp2
            go_roundw
            case rel => exact ⟨q + 1, by go_num, by omega, by rw [HJ.out, List.length_append, byteCells_append', ← HC.out, ← HS.out]; exact o2, hbw.trans k2.1⟩
            case measure => simp [intOf]; omega
        · obtain rfl : q = ss.length := by omega
          rw [List.take_length] at hown
          have hcv := conv_row hown 22 Tryz.underlying22
          go_wp2
          go_ret2
          exact ⟨rfl, hbw⟩

end Go.Proofs.YtbkkkpfoaggejaaGreatDoor
