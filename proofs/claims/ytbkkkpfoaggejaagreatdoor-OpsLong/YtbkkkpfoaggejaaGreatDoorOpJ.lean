/- Package ops: long texts, texts that are too long together, Binary where its method throws. Written by tools/mkopl.py. -/
import Derived.Test.YtbkkkpfoaggejaaGreatDoorOpF
namespace Go.Proofs.YtbkkkpfoaggejaaGreatDoor
set_option linter.unusedVariables false
set_option linter.unusedSimpArgs false
open Go.RowKit Go.Sort Fl

set_option maxHeartbeats 1000000 in
set_option maxRecDepth 100000 in
theorem joinL_no (ss : List ByteArray) (hl : ss.length ≤ 1000) (hz : ∀ s ∈ ss, s.size ≤ 1000000) (v : Value) (w : World) (hv : RdS w v ss) (hbig : 65536 < hsum ss) :
    Calls Tryz.prog 80 #[v] w fun e w' => e = joinNo ∧ Below w.heap.size w w' := by
  obtain ⟨x, c, rfl⟩ := hv.form
  have HB : Hid (65536 < hsum ss) := hbig
  clear hbig
  go_enter Tryz.func80, Tryz.ntmps80
  go_wp2
  go_loop [4, 12] (fun t i => ∃ (k : Nat) (T : Int), i = .int .i64 k ∧ t = .int .i64 T ∧ k ≤ ss.length ∧ T ≤ 65536 ∧ 0 ≤ T ∧ Hid ((hsum (ss.take k) : Int) = T)) (fun _ i => ss.length - (intOf i).toNat)
  case atStart => exact ⟨0, 0, rfl, rfl, Nat.zero_le _, by omega, by omega, Hid.mk' rfl⟩
  case round =>
    obtain ⟨k, T, rfl, rfl, hk, hT, hT0, HT⟩ := hrel
    by_cases hlt : k < ss.length
    · rcases hv with ⟨a, c', e, h0, _⟩ | ⟨g, o, c', e, hcl, hcm, hg, hc⟩
      · exact absurd hlt (by simp [h0])
      · obtain ⟨rfl, rfl⟩ : x = some ⟨g, o, none⟩ ∧ c = c' := by simpa using e
        have hcell := hc k hlt
        have hsz := hz _ (List.getElem_mem hlt)
        have hm : ss[k].size ≤ maxLen := by unfold maxLen; omega
        have HN := Hid.mk' (hsum_take ss k hlt)
        have HL := Hid.mk' (fun W => len_any ss[k] W hm)
        obtain ⟨s, hs⟩ : ∃ s, ss[k] = s := ⟨_, rfl⟩
        rw [hs] at hcell hsz HN HL
        obtain ⟨d, hd⟩ : ∃ d, s.size / 2 = d := ⟨_, rfl⟩
        rw [hd] at HN HL
        have hd2 : (d : Int) ≤ 500000 := by omega
        clear hs hd hc e hz hsz hm
        by_cases hbig : 65536 < T + (d : Int)
        · go_wp2_with (go_at_call 99; refine (HL.out _).mono ?_; rintro e w1 ⟨rfl, hw1⟩; rw [hw1]; clear hw1 w1)
          go_ret2
          exact ⟨rfl, Below.refl _ _⟩
        · go_wp2_with (go_at_call 99; refine (HL.out _).mono ?_; rintro e w1 ⟨rfl, hw1⟩; rw [hw1]; clear hw1 w1)
          go_round
          case rel => exact ⟨k + 1, T + d, by go_num, rfl, by omega, by omega, by omega, by show _ = _; rw [HN.out, ← HT.out]; omega⟩
          case measure => simp [intOf]; omega
    · exfalso
      have h1 := HT.out
      have h2 := HB.out
      rw [List.take_of_length_le (by omega)] at h1
      omega

set_option maxHeartbeats 2000000 in
set_option maxRecDepth 100000 in
theorem joinL_yes (ss : List ByteArray) (hl : ss.length ≤ 1000) (hz : ∀ s ∈ ss, s.size ≤ 1000000) (v : Value) (w : World) (hv : RdS w v ss) (hbig : hsum ss ≤ 65536) :
    Calls Tryz.prog 80 #[v] w fun e w' => e = joinYes ss ∧ Below w.heap.size w w' := by
  obtain ⟨i0, hi, hz0, hz1, hz2⟩ := info_parts info8
  obtain ⟨x, c, rfl⟩ := hv.form
  have HB : Hid (hsum ss ≤ 65536) := hbig
  clear hbig
  go_enter Tryz.func80, Tryz.ntmps80
  go_wp2
  go_loop [4, 12] (fun t i => ∃ (k : Nat) (T : Int), i = .int .i64 k ∧ t = .int .i64 T ∧ k ≤ ss.length ∧ T ≤ 65536 ∧ 0 ≤ T ∧ Hid ((hsum (ss.take k) : Int) = T)) (fun _ i => ss.length - (intOf i).toNat)
  case atStart => exact ⟨0, 0, rfl, rfl, Nat.zero_le _, by omega, by omega, Hid.mk' rfl⟩
  case round =>
    obtain ⟨k, T, rfl, rfl, hk, hT, hT0, HT⟩ := hrel
    by_cases hlt : k < ss.length
    · rcases hv with ⟨a, c', e, h0, _⟩ | ⟨g, o, c', e, hcl, hcm, hg, hc⟩
      · exact absurd hlt (by simp [h0])
      · obtain ⟨rfl, rfl⟩ : x = some ⟨g, o, none⟩ ∧ c = c' := by simpa using e
        have hcell := hc k hlt
        have hsz := hz _ (List.getElem_mem hlt)
        have hm : ss[k].size ≤ maxLen := by unfold maxLen; omega
        have HN := Hid.mk' (hsum_take ss k hlt)
        have HL := Hid.mk' (fun W => len_any ss[k] W hm)
        have HQ := Hid.mk' (hsum_mono ss (k + 1))
        obtain ⟨s, hs⟩ : ∃ s, ss[k] = s := ⟨_, rfl⟩
        rw [hs] at hcell hsz HN HL
        obtain ⟨d, hd⟩ : ∃ d, s.size / 2 = d := ⟨_, rfl⟩
        rw [hd] at HN HL
        have hd2 : (d : Int) ≤ 500000 := by omega
        have hbig : T + (d : Int) ≤ 65536 := by have := HB.out; have := HQ.out; have := HN.out; have := HT.out; omega
        clear hs hd hc e hz hsz hm
        go_wp2_with (go_at_call 99; refine (HL.out _).mono ?_; rintro e w1 ⟨rfl, hw1⟩; rw [hw1]; clear hw1 w1)
        go_round
        case rel => exact ⟨k + 1, T + d, by go_num, rfl, by omega, by omega, by omega, by show _ = _; rw [HN.out, ← HT.out]; omega⟩
        case measure => simp [intOf]; omega
    · obtain ⟨t, rfl⟩ : ∃ t : Nat, T = t := ⟨T.toNat, by omega⟩
      clear HT
      go_wp2_with (at_make; refine wpList_make_own _ rfl _ _ 54 rfl w.heap.size 5 i0 (.int .u8 0) 1 Tryz.underlying54 hi hz0 hz1 .i64 .i64 _ (2 * t) rfl rfl (by omega) (by rw [hz2]; omega) (by unfold maxLen; omega) (Nat.le_refl _) ?_; intro w0 hown0 hgrow0)
      have hle : w.heap.size ≤ w0.heap.size := hgrow0.size
      have hb0 : Below w.heap.size w w0 := (Below.refl _ _).grown hgrow0 (Nat.le_refl _) (by simp)
      go_loopw [7, 28] (fun v i wr => ∃ k : Nat, i = .int .i64 k ∧ k ≤ ss.length ∧ wr.ownsRow w.heap.size 5 1 v (joinB (ss.take k)).length (Lib.byteCells (joinB (ss.take k))) ∧ Below w.heap.size w wr) (fun _ i _ => ss.length - (intOf i).toNat)
      case atStart => exact ⟨0, rfl, Nat.zero_le _, hown0, hb0⟩
      case round =>
        obtain ⟨q, rfl, hq, hown, hbw⟩ := hrel
        have hBW : w.heap.size ≤ wr.heap.size := hbw.size
        clear hown0 hgrow0 hb0
        by_cases hlt2 : q < ss.length
        · rcases hv with ⟨a, c', e, h0, _⟩ | ⟨g, o, c', e, hcl, hcm, hg, hc⟩
          · exact absurd hlt2 (by simp [h0])
          · obtain ⟨rfl, rfl⟩ : x = some ⟨g, o, none⟩ ∧ c = c' := by simpa using e
            have hcell : wr.cell? ⟨g, o + q, none⟩ = some (.string ss[q]) := (hbw.cell (p := ⟨g, o + q, none⟩) hg).trans (hc q hlt2)
            have hsz := hz _ (List.getElem_mem hlt2)
            have HE := Hid.mk' (fun W => even_any ss[q] W (by omega))
            have HJ := Hid.mk' (joinB_take ss q hlt2)
            have hjl := joinB_length (ss.take q)
            have hjm := hsum_mono ss q
            have hjn : (joinB (ss.take q)).length ≤ 131072 := by have := HB.out; omega
            have hes := even_size ss[q]
            have hel := ebs_length ss[q]
            have hev : (evenS ss[q]).size ≤ 1000000 := by omega
            have HC := Hid.mk' (strCells_even ss[q])
            have HS := Hid.mk' hes
            obtain ⟨s, hs⟩ : ∃ s, ss[q] = s := ⟨_, rfl⟩
            rw [hs] at hcell HE HJ hev HC HS
            clear hs hc e hz hsz hes hel hjl hjm
            have i1 : (q : Int) < (ss.length : Int) := by omega
            go_wp2_with (first | (go_at_call 102; refine (HE.out _).mono ?_; rintro e w1 ⟨rfl, hw1⟩; rw [hw1]; clear hw1 w1) | (at_builtin; refine Lib.wpList_append_own_string _ rfl _ _ 54 22 rfl w.heap.size 5 i0 Tryz.underlying54 Tryz.underlying22 hi hz0 hz1 hz2 _ _ _ rfl hown (evenS s) rfl (by unfold maxLen; omega) (by omega) hBW ?_; intro v2 w2 o2 g2 _))
            have k2 := kept_append hown g2 hBW
            clear g2
            go_wp2
            go_roundw
            case rel => exact ⟨q + 1, by go_num, by omega, by rw [HJ.out, List.length_append, byteCells_append', ← HC.out, ← HS.out]; exact o2, hbw.trans k2.1⟩
            case measure => simp [intOf]; omega
        · obtain rfl : q = ss.length := by omega
          rw [List.take_length] at hown
          have hcv := conv_row hown 22 Tryz.underlying22
          go_wp2
          go_ret2
          exact ⟨rfl, hbw⟩

set_option maxHeartbeats 2000000 in
set_option maxRecDepth 100000 in
theorem long_any (u : ByteArray) (k : Nat) (w : World) (hu : u.size = 2) (hk : k ≤ 70000) : Calls Tryz.prog 8 #[.string u, .int .i64 k] w fun e w' => ∃ S : ByteArray, e = .returned (.agg #[.int .i64 4, .float .f64 0, .string S, .int .i64 0]) ∧ S.size = 2 * k ∧ Below w.heap.size w w' := by
  obtain ⟨i0, hi, hz0, hz1, hz2⟩ := info_parts info8
  have HS := Hid.mk' (fun s W => rstr_any s W)
  have hul : u.data.toList.length = 2 := by simpa using hu
  have hcu : Lib.strCells u = Lib.byteCells u.data.toList := rfl
  go_enter Tryz.func8, Tryz.ntmps8
  go_wp2_with (at_make; refine wpList_make_own _ rfl _ _ 54 rfl (w.heap.size + 1) 5 i0 (.int .u8 0) 1 Tryz.underlying54 hi hz0 hz1 .i64 .i64 _ (2 * k) rfl rfl (by omega) (by rw [hz2]; omega) (by unfold maxLen; omega) (by simp) ?_; intro w0 hown0 hgrow0)
  have hb0 : Below (w.heap.size + 1) (w.alloc (.cells #[.int .i64 0, .float .f64 0, .string ⟨#[]⟩, .int .i64 0] 26)) w0 := (Below.refl _ _).grown hgrow0 (by simp) (by simp)
  go_loopw [5, 6] (fun v i wr => ∃ (q : Nat) (L : List UInt8), i = .int .i64 q ∧ q ≤ k ∧ L.length = 2 * q ∧ wr.ownsRow (w.heap.size + 1) 5 1 v L.length (Lib.byteCells L) ∧ Below (w.heap.size + 1) (w.alloc (.cells #[.int .i64 0, .float .f64 0, .string ⟨#[]⟩, .int .i64 0] 26)) wr) (fun _ i _ => k - (intOf i).toNat)
  case atStart => exact ⟨0, [], rfl, Nat.zero_le _, rfl, by have q := hown0; simp only [World.size_alloc] at q; exact q, hb0⟩
  case round =>
    obtain ⟨q, L, rfl, hq, hL, hown, hbw⟩ := hrel
    have hBW : w.heap.size + 1 ≤ wr.heap.size := by have := hbw.size; simp only [World.size_alloc] at this; exact this
    clear hown0 hgrow0 hb0
    by_cases hlt : q < k
    · have i1 : (q : Int) < (k : Int) := by omega
      go_wp2_with (at_builtin; refine Lib.wpList_append_own_string _ rfl _ _ 54 22 rfl (w.heap.size + 1) 5 i0 Tryz.underlying54 Tryz.underlying22 hi hz0 hz1 hz2 _ _ _ rfl hown u rfl (by unfold maxLen; omega) (by omega) hBW ?_; intro v2 w2 o2 g2 _)
      have k2 := kept_append hown g2 hBW
      clear g2
      go_wp2
      go_roundw
      case rel => exact ⟨q + 1, L ++ u.data.toList, by go_num, by omega, by rw [List.length_append, hL, hul]; omega, by rw [List.length_append, byteCells_append', ← hcu, hul]; rw [hu] at o2; exact o2, hbw.trans k2.1⟩
      case measure => simp [intOf]; omega
    · obtain rfl : q = k := by omega
      have hcv := conv_row hown 22 Tryz.underlying22
      have hsz : (⟨L.toArray⟩ : ByteArray).size = 2 * q := by show L.toArray.size = _; simpa using hL
      obtain ⟨S, hS⟩ : ∃ S : ByteArray, (⟨L.toArray⟩ : ByteArray) = S := ⟨_, rfl⟩
      rw [hS] at hcv hsz
      have q00 : wr.cell? ⟨w.heap.size, 0, none⟩ = some (.int .i64 0) := (hbw.cell (p := ⟨w.heap.size, 0, none⟩) (by simp)).trans (by simp)
      have f00 : wr.frozen? ⟨w.heap.size, 0, none⟩ = false := (hbw.frozen (p := ⟨w.heap.size, 0, none⟩) (by simp)).trans (by simp)
      have q01 : wr.cell? ⟨w.heap.size, 1, none⟩ = some (.float .f64 0) := (hbw.cell (p := ⟨w.heap.size, 1, none⟩) (by simp)).trans (by simp)
      have f01 : wr.frozen? ⟨w.heap.size, 1, none⟩ = false := (hbw.frozen (p := ⟨w.heap.size, 1, none⟩) (by simp)).trans (by simp)
      have q02 : wr.cell? ⟨w.heap.size, 2, none⟩ = some (.string ⟨#[]⟩) := (hbw.cell (p := ⟨w.heap.size, 2, none⟩) (by simp)).trans (by simp)
      have f02 : wr.frozen? ⟨w.heap.size, 2, none⟩ = false := (hbw.frozen (p := ⟨w.heap.size, 2, none⟩) (by simp)).trans (by simp)
      have q03 : wr.cell? ⟨w.heap.size, 3, none⟩ = some (.int .i64 0) := (hbw.cell (p := ⟨w.heap.size, 3, none⟩) (by simp)).trans (by simp)
      have f03 : wr.frozen? ⟨w.heap.size, 3, none⟩ = false := (hbw.frozen (p := ⟨w.heap.size, 3, none⟩) (by simp)).trans (by simp)
      have cw : Below w.heap.size w wr := ((Below.refl _ _).alloc (Nat.le_refl _) _).trans (hbw.mono (Nat.le_succ _))
      have lw : w.heap.size < wr.heap.size := by omega
      have HSZ := Hid.mk' hsz
      clear hown hbw hsz hS hL hul hcu
      go_wp2_with fail
      refine (HS.out _ _).mono ?_
      rintro e w5 ⟨rfl, b5⟩
      have q50 : w5.cell? ⟨w.heap.size, 0, none⟩ = some (.int .i64 0) := (b5.cell (p := ⟨w.heap.size, 0, none⟩) lw).trans q00
      have f50 : w5.frozen? ⟨w.heap.size, 0, none⟩ = false := (b5.frozen (p := ⟨w.heap.size, 0, none⟩) lw).trans f00
      have q51 : w5.cell? ⟨w.heap.size, 1, none⟩ = some (.float .f64 0) := (b5.cell (p := ⟨w.heap.size, 1, none⟩) lw).trans q01
      have f51 : w5.frozen? ⟨w.heap.size, 1, none⟩ = false := (b5.frozen (p := ⟨w.heap.size, 1, none⟩) lw).trans f01
      have q52 : w5.cell? ⟨w.heap.size, 2, none⟩ = some (.string ⟨#[]⟩) := (b5.cell (p := ⟨w.heap.size, 2, none⟩) lw).trans q02
      have f52 : w5.frozen? ⟨w.heap.size, 2, none⟩ = false := (b5.frozen (p := ⟨w.heap.size, 2, none⟩) lw).trans f02
      have q53 : w5.cell? ⟨w.heap.size, 3, none⟩ = some (.int .i64 0) := (b5.cell (p := ⟨w.heap.size, 3, none⟩) lw).trans q03
      have f53 : w5.frozen? ⟨w.heap.size, 3, none⟩ = false := (b5.frozen (p := ⟨w.heap.size, 3, none⟩) lw).trans f03
      have c5 : Below w.heap.size w w5 := bl_chain (by (repeat' (first | (with_reducible exact Below.refl _ _) | (with_reducible assumption) | (with_reducible refine Below.drew ?_) | (with_reducible refine below_drewN ?_ _) | (with_reducible refine Below.alloc ?_ ?_ _) | (with_reducible refine Below.setCell ?_ ?_ _) | exact Below.size (show Below w.heap.size w _ by assumption) | (simp; done) | (simp; omega)))) b5
      clear b5
      go_wp2
      (try simp only [Exit.inBlock, Exit.then])
      refine bodyPost_ret (v := .agg #[.int .i64 4, .float .f64 0, .string S, .int .i64 0]) ?_ rfl ⟨S, rfl, HSZ.out, by (repeat' (first | (with_reducible exact Below.refl _ _) | (with_reducible assumption) | (with_reducible refine Below.drew ?_) | (with_reducible refine below_drewN ?_ _) | (with_reducible refine Below.alloc ?_ ?_ _) | (with_reducible refine Below.setCell ?_ ?_ _) | exact Below.size (show Below w.heap.size w _ by assumption) | (simp; done) | (simp; omega)))⟩
      rw [cv_results_cell rfl]
      go_simp
set_option maxHeartbeats 1000000 in
set_option maxRecDepth 100000 in
theorem joined_no (ka : Int) (xa : Nat) (sa : ByteArray) (ra : Int) (kb : Int) (xb : Nat) (sb : ByteArray) (rb : Int) (ta tb t : ByteArray) (HA : Hid (WritIs ka xa sa ra ta)) (HB : Hid (WritIs kb xb sb rb tb)) (HJ : Hid (∀ v W, RdS W v [ta, tb] → Calls Tryz.prog 80 #[v] W fun e w' => e = .returned (.tuple #[.string t, .int .i64 2]) ∧ Below W.heap.size W w')) (w : World) (hl : Hid (Laid w)) :
    Calls Tryz.prog 57 #[.agg #[.int .i64 ka, .float .f64 xa, .string sa, .int .i64 ra, .int .i64 kb, .float .f64 xb, .string sb, .int .i64 rb]] w fun e w' => e = .panicked [{ v := .iface 27 (.int .i64 193), recovered := false }] ∧ Below w.heap.size w w' := by
  have HA := Hid.mk' (fun W (hW : Hid (Laid W)) => HA.out W hW)
  have HB := Hid.mk' (fun W (hW : Hid (Laid W)) => HB.out W hW)
  have HY := Hid.mk' (fun z W => hold_no z W)
  go_enter Tryz.func57, Tryz.ntmps57
  go_wp2_with fail
  have P0 := CellP.new w ka xa sa ra kb xb sb rb
  have c0 : Below w.heap.size w (w.alloc (.cells #[.int .i64 ka, .float .f64 xa, .string sa, .int .i64 ra, .int .i64 kb, .float .f64 xb, .string sb, .int .i64 rb] 40)) := by (repeat' (first | (with_reducible exact Below.refl _ _) | (with_reducible assumption) | (with_reducible refine Below.drew ?_) | (with_reducible refine below_drewN ?_ _) | (with_reducible refine Below.alloc ?_ ?_ _) | (with_reducible refine Below.setCell ?_ ?_ _) | exact Below.size (show Below w.heap.size w _ by assumption) | (simp; done) | (simp; omega)))
  generalize w.alloc (.cells #[.int .i64 ka, .float .f64 xa, .string sa, .int .i64 ra, .int .i64 kb, .float .f64 xb, .string sb, .int .i64 rb] 40) = w0 at P0 c0 ⊢
  obtain ⟨-, p00, p01, p02, p03, p04, p05, p06, p07⟩ := id P0
  go_region_with (first | (go_at_call 81; first | (with_reducible refine (HA.out _ (Hid.mk' (hl.out.below (by (repeat' (first | (with_reducible exact Below.refl _ _) | (with_reducible assumption) | (with_reducible refine Below.drew ?_) | (with_reducible refine below_drewN ?_ _) | (with_reducible refine Below.alloc ?_ ?_ _) | (with_reducible refine Below.setCell ?_ ?_ _) | exact Below.size (show Below w.heap.size w _ by assumption) | (simp; done) | (simp; omega))))))).mono ?_; rintro e w2 ⟨rfl, b2⟩; have c2 : Below w.heap.size w w2 := bl_chain (by (repeat' (first | (with_reducible exact Below.refl _ _) | (with_reducible assumption) | (with_reducible refine Below.drew ?_) | (with_reducible refine below_drewN ?_ _) | (with_reducible refine Below.alloc ?_ ?_ _) | (with_reducible refine Below.setCell ?_ ?_ _) | exact Below.size (show Below w.heap.size w _ by assumption) | (simp; done) | (simp; omega)))) b2; have P2 : CellP w2 (w.heap.size) ka xa sa ra kb xb sb rb := CellP.below (by first | (with_reducible assumption) | (with_reducible refine CellP.drew ?_; assumption) | (with_reducible exact CellP.new _ _ _ _ _ _ _ _ _) | (with_reducible refine CellP.drew (CellP.new _ _ _ _ _ _ _ _ _)) | (constructor <;> first | (simp; done) | (simp; omega))) b2; obtain ⟨-, p20, p21, p22, p23, p24, p25, p26, p27⟩ := id P2; clear b2) | (with_reducible refine (HB.out _ (Hid.mk' (hl.out.below (by (repeat' (first | (with_reducible exact Below.refl _ _) | (with_reducible assumption) | (with_reducible refine Below.drew ?_) | (with_reducible refine below_drewN ?_ _) | (with_reducible refine Below.alloc ?_ ?_ _) | (with_reducible refine Below.setCell ?_ ?_ _) | exact Below.size (show Below w.heap.size w _ by assumption) | (simp; done) | (simp; omega))))))).mono ?_; rintro e w3 ⟨rfl, b3⟩; have c3 : Below w.heap.size w w3 := bl_chain (by (repeat' (first | (with_reducible exact Below.refl _ _) | (with_reducible assumption) | (with_reducible refine Below.drew ?_) | (with_reducible refine below_drewN ?_ _) | (with_reducible refine Below.alloc ?_ ?_ _) | (with_reducible refine Below.setCell ?_ ?_ _) | exact Below.size (show Below w.heap.size w _ by assumption) | (simp; done) | (simp; omega)))) b3; have P3 : CellP w3 (w.heap.size) ka xa sa ra kb xb sb rb := CellP.below (by first | (with_reducible assumption) | (with_reducible refine CellP.drew ?_; assumption) | (with_reducible exact CellP.new _ _ _ _ _ _ _ _ _) | (with_reducible refine CellP.drew (CellP.new _ _ _ _ _ _ _ _ _)) | (constructor <;> first | (simp; done) | (simp; omega))) b3; obtain ⟨-, p30, p31, p32, p33, p34, p35, p36, p37⟩ := id P3; clear b3)) | (go_at_call 80; with_reducible refine (HJ.out _ _ (rds_two _ _ _ _)).mono ?_; rintro e w4 ⟨rfl, b4⟩; have c4 : Below w.heap.size w w4 := bl_chain (by (repeat' (first | (with_reducible exact Below.refl _ _) | (with_reducible assumption) | (with_reducible refine Below.drew ?_) | (with_reducible refine below_drewN ?_ _) | (with_reducible refine Below.alloc ?_ ?_ _) | (with_reducible refine Below.setCell ?_ ?_ _) | exact Below.size (show Below w.heap.size w _ by assumption) | (simp; done) | (simp; omega)))) b4; clear b4))
  all_goals go_wp2_with fail
  all_goals refine (HY.out _ _).mono ?_
  all_goals rintro e w5 ⟨rfl, hw5⟩
  all_goals rw [hw5]; clear hw5 w5
  all_goals go_wp2
  all_goals exact ⟨rfl, rfl, by (repeat' (first | (with_reducible exact Below.refl _ _) | (with_reducible assumption) | (with_reducible refine Below.drew ?_) | (with_reducible refine below_drewN ?_ _) | (with_reducible refine Below.alloc ?_ ?_ _) | (with_reducible refine Below.setCell ?_ ?_ _) | exact Below.size (show Below w.heap.size w _ by assumption) | (simp; done) | (simp; omega)))⟩
set_option maxHeartbeats 1000000 in
set_option maxRecDepth 100000 in
theorem add_no (ka : Int) (xa : Nat) (sa : ByteArray) (ra : Int) (kb : Int) (xb : Nat) (sb : ByteArray) (rb : Int) (ta tb t : ByteArray) (ha : ka ≠ 6) (hb : kb ≠ 6) (h4 : ka = 4) (HA : Hid (WritIs ka xa sa ra ta)) (HB : Hid (WritIs kb xb sb rb tb)) (HJ : Hid (∀ v W, RdS W v [ta, tb] → Calls Tryz.prog 80 #[v] W fun e w' => e = .returned (.tuple #[.string t, .int .i64 2]) ∧ Below W.heap.size W w')) (w : World) (hl : Hid (Laid w)) : Calls Tryz.prog 26 #[.agg #[.int .i64 ka, .float .f64 xa, .string sa, .int .i64 ra, .int .i64 kb, .float .f64 xb, .string sb, .int .i64 rb]] w fun e w' => e = .panicked [{ v := .iface 27 (.int .i64 193), recovered := false }] ∧ Below w.heap.size w w' := by
  have HP := Hid.mk' (fun W => prims_ok ka xa sa ra kb xb sb rb ha hb W)
  have HJO := Hid.mk' (fun W (hW : Hid (Laid W)) => joined_no ka xa sa ra kb xb sb rb ta tb t HA HB HJ W hW)
  clear ha hb HA HB HJ
  · have k1 : (ka == 4) = true := by simpa using h4
    clear h4
    go_enter Tryz.func26, Tryz.ntmps26
    go_wp2_with fail
    with_reducible refine (HP.out _).mono ?_; rintro e w1 ⟨rfl, b1⟩; have c1 : Below w.heap.size w w1 := bl_chain (by (repeat' (first | (with_reducible exact Below.refl _ _) | (with_reducible assumption) | (with_reducible refine Below.drew ?_) | (with_reducible refine below_drewN ?_ _) | (with_reducible refine Below.alloc ?_ ?_ _) | (with_reducible refine Below.setCell ?_ ?_ _) | exact Below.size (show Below w.heap.size w _ by assumption) | (simp; done) | (simp; omega)))) b1; have P1 : CellP w1 (w.heap.size) ka xa sa ra kb xb sb rb := CellP.below (by first | (with_reducible assumption) | (with_reducible refine CellP.drew ?_; assumption) | (with_reducible exact CellP.new _ _ _ _ _ _ _ _ _) | (with_reducible refine CellP.drew (CellP.new _ _ _ _ _ _ _ _ _)) | (constructor <;> first | (simp; done) | (simp; omega))) b1; obtain ⟨-, p10, p11, p12, p13, p14, p15, p16, p17⟩ := id P1; have lt1 : w.heap.size + 1 < w1.heap.size := Nat.lt_of_lt_of_le (by first | assumption | (simp; done) | (simp; omega)) b1.size; have q10 : w1.cell? ⟨w.heap.size + 1, 0, none⟩ = some (.int .i64 0) := (b1.cell (p := ⟨w.heap.size + 1, 0, none⟩) (by simp)).trans (by simp); have f10 : w1.frozen? ⟨w.heap.size + 1, 0, none⟩ = false := (b1.frozen (p := ⟨w.heap.size + 1, 0, none⟩) (by simp)).trans (by simp); have q11 : w1.cell? ⟨w.heap.size + 1, 1, none⟩ = some (.float .f64 0) := (b1.cell (p := ⟨w.heap.size + 1, 1, none⟩) (by simp)).trans (by simp); have f11 : w1.frozen? ⟨w.heap.size + 1, 1, none⟩ = false := (b1.frozen (p := ⟨w.heap.size + 1, 1, none⟩) (by simp)).trans (by simp); have q12 : w1.cell? ⟨w.heap.size + 1, 2, none⟩ = some (.string ⟨#[]⟩) := (b1.cell (p := ⟨w.heap.size + 1, 2, none⟩) (by simp)).trans (by simp); have f12 : w1.frozen? ⟨w.heap.size + 1, 2, none⟩ = false := (b1.frozen (p := ⟨w.heap.size + 1, 2, none⟩) (by simp)).trans (by simp); have q13 : w1.cell? ⟨w.heap.size + 1, 3, none⟩ = some (.int .i64 0) := (b1.cell (p := ⟨w.heap.size + 1, 3, none⟩) (by simp)).trans (by simp); have f13 : w1.frozen? ⟨w.heap.size + 1, 3, none⟩ = false := (b1.frozen (p := ⟨w.heap.size + 1, 3, none⟩) (by simp)).trans (by simp); clear b1
    go_wp2_with fail
    refine (HJO.out _ (Hid.mk' (hl.out.below (by (repeat' (first | (with_reducible exact Below.refl _ _) | (with_reducible assumption) | (with_reducible refine Below.drew ?_) | (with_reducible refine below_drewN ?_ _) | (with_reducible refine Below.alloc ?_ ?_ _) | (with_reducible refine Below.setCell ?_ ?_ _) | exact Below.size (show Below w.heap.size w _ by assumption) | (simp; done) | (simp; omega))))))).mono ?_
    rintro e w2 ⟨rfl, b2⟩
    have c2 : Below w.heap.size w w2 := bl_chain (by (repeat' (first | (with_reducible exact Below.refl _ _) | (with_reducible assumption) | (with_reducible refine Below.drew ?_) | (with_reducible refine below_drewN ?_ _) | (with_reducible refine Below.alloc ?_ ?_ _) | (with_reducible refine Below.setCell ?_ ?_ _) | exact Below.size (show Below w.heap.size w _ by assumption) | (simp; done) | (simp; omega)))) b2
    clear b2
    go_wp2
    exact ⟨rfl, rfl, by (repeat' (first | (with_reducible exact Below.refl _ _) | (with_reducible assumption) | (with_reducible refine Below.drew ?_) | (with_reducible refine below_drewN ?_ _) | (with_reducible refine Below.alloc ?_ ?_ _) | (with_reducible refine Below.setCell ?_ ?_ _) | exact Below.size (show Below w.heap.size w _ by assumption) | (simp; done) | (simp; omega)))⟩
set_option maxHeartbeats 1000000 in
set_option maxRecDepth 100000 in
theorem op_put (w : World) (bo be : Nat) (n1 : bo ≠ be) {u0 u1 u2 u3 u4 : Value} (o0 : w.cell? ⟨bo, 0, none⟩ = some u0) (o1 : w.cell? ⟨bo, 1, none⟩ = some u1) (o2 : w.cell? ⟨bo, 2, none⟩ = some u2) (o3 : w.cell? ⟨bo, 3, none⟩ = some u3) (e0 : w.cell? ⟨be, 0, none⟩ = some u4) (v0 v1 v2 v3 v4 : Value) : ((((((w.setCell ⟨bo, 0, none⟩ v0).setCell ⟨bo, 1, none⟩ v1).setCell ⟨bo, 2, none⟩ v2).setCell ⟨bo, 3, none⟩ v3).setCell ⟨be, 0, none⟩ v4).cell? ⟨bo, 0, none⟩ = some v0 ∧ (((((w.setCell ⟨bo, 0, none⟩ v0).setCell ⟨bo, 1, none⟩ v1).setCell ⟨bo, 2, none⟩ v2).setCell ⟨bo, 3, none⟩ v3).setCell ⟨be, 0, none⟩ v4).cell? ⟨bo, 1, none⟩ = some v1 ∧ (((((w.setCell ⟨bo, 0, none⟩ v0).setCell ⟨bo, 1, none⟩ v1).setCell ⟨bo, 2, none⟩ v2).setCell ⟨bo, 3, none⟩ v3).setCell ⟨be, 0, none⟩ v4).cell? ⟨bo, 2, none⟩ = some v2 ∧ (((((w.setCell ⟨bo, 0, none⟩ v0).setCell ⟨bo, 1, none⟩ v1).setCell ⟨bo, 2, none⟩ v2).setCell ⟨bo, 3, none⟩ v3).setCell ⟨be, 0, none⟩ v4).cell? ⟨bo, 3, none⟩ = some v3 ∧ (((((w.setCell ⟨bo, 0, none⟩ v0).setCell ⟨bo, 1, none⟩ v1).setCell ⟨bo, 2, none⟩ v2).setCell ⟨bo, 3, none⟩ v3).setCell ⟨be, 0, none⟩ v4).cell? ⟨be, 0, none⟩ = some v4) := by
  refine ⟨?_, ?_, ?_, ?_, ?_⟩
  · exact (op_other _ ⟨be, 0, none⟩ ⟨bo, 0, none⟩ v4 (by intro q; injection q with q1; exact n1 q1.symm)).trans ((op_other _ ⟨bo, 3, none⟩ ⟨bo, 0, none⟩ v3 (by intro q; cases q)).trans ((op_other _ ⟨bo, 2, none⟩ ⟨bo, 0, none⟩ v2 (by intro q; cases q)).trans ((op_other _ ⟨bo, 1, none⟩ ⟨bo, 0, none⟩ v1 (by intro q; cases q)).trans (op_same _ ⟨bo, 0, none⟩ v0 _ (o0)))))
  · exact (op_other _ ⟨be, 0, none⟩ ⟨bo, 1, none⟩ v4 (by intro q; injection q with q1; exact n1 q1.symm)).trans ((op_other _ ⟨bo, 3, none⟩ ⟨bo, 1, none⟩ v3 (by intro q; cases q)).trans ((op_other _ ⟨bo, 2, none⟩ ⟨bo, 1, none⟩ v2 (by intro q; cases q)).trans (op_same _ ⟨bo, 1, none⟩ v1 _ ((op_other _ ⟨bo, 0, none⟩ ⟨bo, 1, none⟩ v0 (by intro q; cases q)).trans (o1)))))
  · exact (op_other _ ⟨be, 0, none⟩ ⟨bo, 2, none⟩ v4 (by intro q; injection q with q1; exact n1 q1.symm)).trans ((op_other _ ⟨bo, 3, none⟩ ⟨bo, 2, none⟩ v3 (by intro q; cases q)).trans (op_same _ ⟨bo, 2, none⟩ v2 _ ((op_other _ ⟨bo, 1, none⟩ ⟨bo, 2, none⟩ v1 (by intro q; cases q)).trans ((op_other _ ⟨bo, 0, none⟩ ⟨bo, 2, none⟩ v0 (by intro q; cases q)).trans (o2)))))
  · exact (op_other _ ⟨be, 0, none⟩ ⟨bo, 3, none⟩ v4 (by intro q; injection q with q1; exact n1 q1.symm)).trans (op_same _ ⟨bo, 3, none⟩ v3 _ ((op_other _ ⟨bo, 2, none⟩ ⟨bo, 3, none⟩ v2 (by intro q; cases q)).trans ((op_other _ ⟨bo, 1, none⟩ ⟨bo, 3, none⟩ v1 (by intro q; cases q)).trans ((op_other _ ⟨bo, 0, none⟩ ⟨bo, 3, none⟩ v0 (by intro q; cases q)).trans (o3)))))
  · exact op_same _ ⟨be, 0, none⟩ v4 _ ((op_other _ ⟨bo, 3, none⟩ ⟨be, 0, none⟩ v3 (by intro q; injection q with q1; exact n1 q1)).trans ((op_other _ ⟨bo, 2, none⟩ ⟨be, 0, none⟩ v2 (by intro q; injection q with q1; exact n1 q1)).trans ((op_other _ ⟨bo, 1, none⟩ ⟨be, 0, none⟩ v1 (by intro q; injection q with q1; exact n1 q1)).trans ((op_other _ ⟨bo, 0, none⟩ ⟨be, 0, none⟩ v0 (by intro q; injection q with q1; exact n1 q1)).trans (e0)))))
set_option maxHeartbeats 2000000 in
set_option maxRecDepth 100000 in
theorem op_thrown (bo be : Nat) (z : Int) (w : World) (o0 : w.cell? ⟨bo, 0, none⟩ = some (.int .i64 0)) (o1 : w.cell? ⟨bo, 1, none⟩ = some (.float .f64 0)) (o2 : w.cell? ⟨bo, 2, none⟩ = some (.string ⟨#[]⟩)) (o3 : w.cell? ⟨bo, 3, none⟩ = some (.int .i64 0)) (fo : ∀ i, w.frozen? ⟨bo, i, none⟩ = false) (e0 : w.cell? ⟨be, 0, none⟩ = some (.int .i64 0)) (fe : w.frozen? ⟨be, 0, none⟩ = false) (n1 : bo ≠ be) (lo : bo < w.heap.size) (le : be < w.heap.size) :
    CallsD Tryz.prog 15 #[.pointer (some ⟨bo, 0, none⟩), .pointer (some ⟨be, 0, none⟩)] (.panicking ({ v := .iface 27 (.int .i64 z), recovered := false } :: [])) w fun e u' w' => e = .returned (.tuple #[]) ∧ u' = .panicking ({ v := .iface 27 (.int .i64 z), recovered := true } :: []) ∧ (w'.cell? ⟨bo, 0, none⟩ = some (.int .i64 0) ∧ w'.cell? ⟨bo, 1, none⟩ = some (.float .f64 0) ∧ w'.cell? ⟨bo, 2, none⟩ = some (.string ⟨#[]⟩) ∧ w'.cell? ⟨bo, 3, none⟩ = some (.int .i64 0) ∧ w'.cell? ⟨be, 0, none⟩ = some (.int .i64 z)) ∧ ∀ B X, B ≤ bo → B ≤ be → B ≤ w.heap.size → Below B X w → Below B X w' := by
  have hta : ∀ W, (Instr.typeAssert (.iface 27 (.int .i64 z)) 20 27 false).run Tryz.prog W = .ok (.int .i64 z) W := fun W => by kernel_rfl
  have hst : ∀ (p : Addr) (x : Nat) (md : Mode) (W : World), (store p (.float .f64 x) md).run Tryz.prog W = stored Tryz.prog W p (.float .f64 x) md := fun p x md W => run_store Tryz.prog W p _ md rfl
  have f0 := fo 0
  have f1 := fo 1
  have f2 := fo 2
  have f3 := fo 3
  have n2 : be ≠ bo := Ne.symm n1
  refine callsD_of_wpS Tryz.func15 rfl fun c₀ cs hu => ?_
  apply wpS_seq
  apply wpS_region
  simp [wpOpsS, go_sem, recoverD, hu, Tryz.ntmps15, Exit.thenS]
  apply wpS_seq
  apply wpS_region
  simp [wpOpsS, go_sem, Exit.thenS]
  refine wpS_cond (t := true) (by simp [Act.eval, Array.replicate]) ?_
  simp only [if_true]
  refine wpS_of_wp ?_
  change Code.wp _ _ _ { tmps := #[.pointer (some ⟨bo, 0, none⟩), .pointer (some ⟨be, 0, none⟩), .iface 27 (.int .i64 z), .iface 27 (.int .i64 z), .iface 27 (.int .i64 z), .bool true, undef, undef, undef], defers := [] } _
  go_region
  have hput := op_put w bo be n1 o0 o1 o2 o3 e0 (.int .i64 0) (.float .f64 0) (.string ⟨#[]⟩) (.int .i64 0) (.int .i64 z)
  have hbel : ∀ B X, B ≤ bo → B ≤ be → B ≤ w.heap.size → Below B X w → Below B X (((((w.setCell ⟨bo, 0, none⟩ (.int .i64 0)).setCell ⟨bo, 1, none⟩ (.float .f64 0)).setCell ⟨bo, 2, none⟩ (.string ⟨#[]⟩)).setCell ⟨bo, 3, none⟩ (.int .i64 0)).setCell ⟨be, 0, none⟩ (.int .i64 z)) := fun B X h1 h2 h3 hb => ((((hb.setCell h1 _).setCell h1 _).setCell h1 _).setCell h1 _).setCell h2 _
  generalize (((((w.setCell ⟨bo, 0, none⟩ (.int .i64 0)).setCell ⟨bo, 1, none⟩ (.float .f64 0)).setCell ⟨bo, 2, none⟩ (.string ⟨#[]⟩)).setCell ⟨bo, 3, none⟩ (.int .i64 0)).setCell ⟨be, 0, none⟩ (.int .i64 z)) = Y at hput hbel ⊢
  refine ⟨rfl, _, rfl, .tuple #[], results_none rfl _ _ _, rfl, rfl, ?_, ?_⟩
  · obtain ⟨h0, h1, h2, h3, h4⟩ := hput
    exact ⟨h0, h1, h2, h3, h4⟩
  · intro B X h1 h2 h3 hb
    exact (hbel B X h1 h2 h3 hb).drew
set_option maxHeartbeats 4000000 in
set_option maxRecDepth 100000 in
theorem bin_throws (op : ByteArray) (k : Nat) (HE : ∀ (args : Array Value) (W : World), (callFunc k args).run Tryz.prog W = .ok (.enter k args) W) (ka : Int) (xa : Nat) (sa : ByteArray) (ra : Int) (kb : Int) (xb : Nat) (sb : ByteArray) (rb : Int) (hm : (op.data.toList, k) ∈ sumsTab) (HM : Hid (∀ W, Hid (Laid W) → Calls Tryz.prog k #[.agg #[.int .i64 ka, .float .f64 xa, .string sa, .int .i64 ra, .int .i64 kb, .float .f64 xb, .string sb, .int .i64 rb]] W fun e w' => e = .panicked [{ v := .iface 27 (.int .i64 193), recovered := false }] ∧ Below W.heap.size W w')) (ho : op.size ≤ maxLen) (w : World) (hl : Hid (Laid w)) :
    Calls Tryz.prog 7 #[.string op, .agg #[.int .i64 ka, .float .f64 xa, .string sa, .int .i64 ra], .agg #[.int .i64 kb, .float .f64 xb, .string sb, .int .i64 rb]] w fun e w' => e = .returned (.tuple #[.agg #[.int .i64 0, .float .f64 0, .string ⟨#[]⟩, .int .i64 0], .int .i64 193]) ∧ Below w.heap.size w w' := by
  have hmf : ∀ (fn : Fn) (first cap : Array Value) (w : World), (Instr.makeFunc fn first cap).run Tryz.prog w = .ok (.func fn first cap) w := fun _ _ _ _ => rfl
  have HS := Hid.mk' (fun W => sums_any W)
  have HLO := Hid.mk' (fun W m (h : MSums W m) => h.look op k ho hm)
  clear hm ho
  go_enter_defers Tryz.func7, Tryz.ntmps7
  go_wp2_with fail
  refine (HS.out _).mono ?_
  rintro e w1 ⟨m1, rfl, hm1, hlt1, HM1, b1⟩
  have c1 : Below w.heap.size w w1 := bl_chain (by (repeat' (first | (with_reducible exact Below.refl _ _) | (with_reducible assumption) | (with_reducible refine Below.drew ?_) | (with_reducible refine below_drewN ?_ _) | (with_reducible refine Below.alloc ?_ ?_ _) | (with_reducible refine Below.setCell ?_ ?_ _) | exact Below.size (show Below w.heap.size w _ by assumption) | (simp; done) | (simp; omega)))) b1
  have B1 : BinW w1 w.heap.size ka xa sa ra kb xb sb rb := BinW.below (by first | (with_reducible assumption) | (with_reducible refine BinW.drew ?_; assumption) | exact BinW.new _ w (by simp) _ _ _ _ _ _ _ _) b1; obtain ⟨-, o10, o11, o12, o13, of1, e10, ef1, p10, p11, p12, p13, p14, p15, p16, p17⟩ := id B1
  clear b1
  have HL1 := HLO.out _ _ HM1
  go_wp2_with fail
  refine (HM.out _ (Hid.mk' (hl.out.below (by (repeat' (first | (with_reducible exact Below.refl _ _) | (with_reducible assumption) | (with_reducible refine Below.drew ?_) | (with_reducible refine below_drewN ?_ _) | (with_reducible refine Below.alloc ?_ ?_ _) | (with_reducible refine Below.setCell ?_ ?_ _) | exact Below.size (show Below w.heap.size w _ by assumption) | (simp; done) | (simp; omega))))))).mono ?_
  rintro e w2 ⟨rfl, b2⟩
  have c2 : Below w.heap.size w w2 := bl_chain (by (repeat' (first | (with_reducible exact Below.refl _ _) | (with_reducible assumption) | (with_reducible refine Below.drew ?_) | (with_reducible refine below_drewN ?_ _) | (with_reducible refine Below.alloc ?_ ?_ _) | (with_reducible refine Below.setCell ?_ ?_ _) | exact Below.size (show Below w.heap.size w _ by assumption) | (simp; done) | (simp; omega)))) b2
  have B2 : BinW w2 w.heap.size ka xa sa ra kb xb sb rb := BinW.below (by first | (with_reducible assumption) | (with_reducible refine BinW.drew ?_; assumption) | exact BinW.new _ w (by simp) _ _ _ _ _ _ _ _) b2; obtain ⟨-, o20, o21, o22, o23, of2, e20, ef2, p20, p21, p22, p23, p24, p25, p26, p27⟩ := id B2
  clear b2
  go_wp2
  have l2 : w.heap.size + 4 < w2.heap.size := B2.lt
  refine leaves_cons (f := 15) (args := #[.pointer (some ⟨w.heap.size + 1 + 1, 0, none⟩), .pointer (some ⟨w.heap.size + 1 + 1 + 1, 0, none⟩)]) (by simp) (by simp [go_sem]) ?_
  refine (op_thrown (w.heap.size + 1 + 1) (w.heap.size + 1 + 1 + 1) 193 w2 o20 o21 o22 o23 of2 e20 ef2 (by omega) (by omega) (by omega)).mono ?_
  rintro e u' w9 ⟨rfl, rfl, ⟨y0, y1, y2, y3, y4⟩, hb9⟩
  refine ⟨.tuple #[.agg #[.int .i64 0, .float .f64 0, .string ⟨#[]⟩, .int .i64 0], .int .i64 193], ?_, rfl, hb9 _ _ (by omega) (by omega) (by omega) c2⟩
  simp [results, Tryz.results7, go_sem, y0, y1, y2, y3, y4]
end Go.Proofs.YtbkkkpfoaggejaaGreatDoor
