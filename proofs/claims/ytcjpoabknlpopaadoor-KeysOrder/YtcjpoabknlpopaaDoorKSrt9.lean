/- pdqsortOrdered at uint32: whatever its length, the row is put in order; slices.Sort. -/
import Derived.Test.YtcjpoabknlpopaaDoorKSrt8
namespace Go.Proofs.YtcjpoabknlpopaaDoor
set_option linter.unusedVariables false
open Go.RowKit Go.Sort

/-- A row put in order between two places. -/
def Done (a b : Nat) (d d' : Array Int) : Prop := PermIn a b d d' ∧ SortedIn ltInt a b d'

theorem med_mem (d : Array Int) (a b c s : Nat) : (Sort.median ltInt d a b c s).1 = a ∨ (Sort.median ltInt d a b c s).1 = b ∨ (Sort.median ltInt d a b c s).1 = c := by
  simp only [Sort.median, Sort.order2]
  repeat' split
  all_goals simp
theorem adj_mem (d : Array Int) (a s : Nat) (ha : 0 < a) : a - 1 ≤ (Sort.medianAdjacent ltInt d a s).1 ∧ (Sort.medianAdjacent ltInt d a s).1 ≤ a + 1 := by
  unfold Sort.medianAdjacent
  rcases med_mem d (a - 1) a (a + 1) s with h | h | h <;> rw [h] <;> omega
/-- The pivot of more than twelve stands within. -/
theorem pivot_in (d : Array Int) (a b : Nat) (h : ¬ b - a ≤ 12) : a < (Sort.choosePivot ltInt d a b).1 ∧ (Sort.choosePivot ltInt d a b).1 + 1 < b := by
  unfold Sort.choosePivot
  simp only []
  rw [if_pos (by omega)]
  split
  · rename_i h5
    have m1 := adj_mem d (a + (b - a) / 4 * 1) 0 (by omega)
    have m2 := adj_mem d (a + (b - a) / 4 * 2) (Sort.medianAdjacent ltInt d (a + (b - a) / 4 * 1) 0).2 (by omega)
    have m3 := adj_mem d (a + (b - a) / 4 * 3) (Sort.medianAdjacent ltInt d (a + (b - a) / 4 * 2) (Sort.medianAdjacent ltInt d (a + (b - a) / 4 * 1) 0).2).2 (by omega)
    rcases med_mem d (Sort.medianAdjacent ltInt d (a + (b - a) / 4 * 1) 0).1 (Sort.medianAdjacent ltInt d (a + (b - a) / 4 * 2) (Sort.medianAdjacent ltInt d (a + (b - a) / 4 * 1) 0).2).1 (Sort.medianAdjacent ltInt d (a + (b - a) / 4 * 3) (Sort.medianAdjacent ltInt d (a + (b - a) / 4 * 2) (Sort.medianAdjacent ltInt d (a + (b - a) / 4 * 1) 0).2).2).1 (Sort.medianAdjacent ltInt d (a + (b - a) / 4 * 3) (Sort.medianAdjacent ltInt d (a + (b - a) / 4 * 2) (Sort.medianAdjacent ltInt d (a + (b - a) / 4 * 1) 0).2).2).2 with e | e | e <;> rw [e] <;> omega
  · rcases med_mem d (a + (b - a) / 4 * 1) (a + (b - a) / 4 * 2) (a + (b - a) / 4 * 3) 0 with e | e | e <;> rw [e] <;> omega
theorem hint_cases (h : Sort.Hint) : hintN h = 0 ∨ hintN h = 1 ∨ hintN h = 2 := by cases h <;> simp [hintN]
theorem at_bw {w wr w1 : World} {blk off : Nat} {d d0 : Array Int} (h : At eU w blk off d wr) (h0 : Holds eU w blk off d0) (hs : d.size = d0.size) (hb : blk < w.heap.size) (h1 : ∃ q s, w1 = BW wr q s) : At eU w blk off d w1 := by
  obtain ⟨q, s, rfl⟩ := h1
  exact h.same h0 hs hb ⟨q, _, rfl⟩

set_option maxHeartbeats 8000000 in
set_option maxRecDepth 1000000 in
theorem pdqU : ∀ (N blk off cap a b limit : Nat) (d : Array Int) (w : World), b - a < N → Holds eU w blk off d → blk < w.heap.size → a ≤ b → b ≤ d.size → d.size < 4611686018427387904 → d.size ≤ cap → limit < 4611686018427387904 → Sort.Below ltInt a b d →
    Calls Tryd.prog 31 #[.slice (some ⟨blk, off, none⟩) d.size cap, .int .i64 a, .int .i64 b, .int .i64 limit] w fun e w' => e = .returned (.tuple #[]) ∧ ∃ d', Done a b d d' ∧ At eU w blk off d' w' := by
  intro N
  induction N with
  | zero => intro _ _ _ _ _ _ _ _ h; exact absurd h (Nat.not_lt_zero _)
  | succ N ih =>
    intro blk off cap a b limit d w hN hH hblk hab hb hsz hcap hlimit hBel0
    have IH := Hid.mk' ih
    have HH := Hid.mk' hH
    clear ih
    go_enter Tryd.func31, Tryd.ntmps31
    go_wp2
    go_loopg [1, 2, 3, 8, 9] (b - a) (fun k s1 s2 s3 s8 s9 wr => ∃ (p q lim : Nat) (wb wp : Bool) (dk : Array Int), s1 = .int .i64 p ∧ s2 = .int .i64 q ∧ s3 = .int .i64 lim ∧ s8 = .bool wb ∧ s9 = .bool wp ∧
      p ≤ q ∧ q ≤ d.size ∧ q - p ≤ k ∧ k ≤ b - a ∧ lim ≤ limit ∧ dk.size = d.size ∧ Hid (Sort.Below ltInt p q dk) ∧ Hid (At eU w blk off dk wr) ∧ Hid (∀ R, PermIn p q dk R → SortedIn ltInt p q R → Done a b d R))
    case atStart => exact ⟨a, b, limit, true, true, d, rfl, rfl, rfl, rfl, rfl, hab, hb, Nat.le_refl _, Nat.le_refl _, Nat.le_refl _, rfl, Hid.mk' hBel0, Hid.mk' (At.refl hH), Hid.mk' (fun R h1 h2 => ⟨h1, h2⟩)⟩
    case round =>
      obtain ⟨p, q, lim, wb, wp, dk, rfl, rfl, rfl, rfl, rfl, hpq, hqd, hk, hkN, hlim, hds, HB, HA, HD⟩ := hrel
      clear hH hBel0
      obtain ⟨hHk, hblk'⟩ := HA.out.holds HH.out hds hblk
      have HHk := Hid.mk' hHk
      clear hHk
      by_cases h12 : q - p ≤ 12
      · have z12 : (q : Int) - (p : Int) ≤ 12 := by omega
        have HC := Hid.mk' (insU blk off cap p q dk wr HHk.out hpq (by omega) (by omega))
        rw [hds] at HC
        go_wp2_with (go_at_call 45; refine HC.out.mono ?_; rintro e w1 ⟨rfl, hw1⟩)
        (try simp only [Exit.inBlock, Exit.then]); refine bodyPost_ret (results_none rfl _ _ _) rfl ?_
        have hS := insertionSort_holds swo_ltInt dk p q hpq (by omega)
        exact ⟨rfl, _, HD.out _ hS.1 hS.2, HA.out.step hblk hS.1.1 hw1⟩
      · have z12 : ¬ ((q : Int) - (p : Int) ≤ 12) := by omega
        by_cases hl0 : lim = 0
        · subst hl0
          have HC := Hid.mk' (heapU blk off cap p q dk wr HHk.out (by omega) (by omega) (by omega) (by omega))
          rw [hds] at HC
          go_wp2_with (go_at_call 46; refine HC.out.mono ?_; rintro e w1 ⟨rfl, hw1⟩)
          (try simp only [Exit.inBlock, Exit.then]); refine bodyPost_ret (results_none rfl _ _ _) rfl ?_
          have hS := heapSort_holds swo_ltInt dk p q hpq (by omega)
          exact ⟨rfl, _, HD.out _ hS.1 hS.2, HA.out.step hblk hS.1.1 hw1⟩
        · have zl0 : ¬ ((lim : Int) = 0) := by omega
          go_upto_if 35 with fail
          go_cut [3] from 19 (fun s3 wc => ∃ (l1 : Nat) (d1 : Array Int), s3 = .int .i64 l1 ∧ l1 ≤ lim ∧ Hid (PermIn p q dk d1) ∧ Hid (At eU w blk off d1 wc))
          case first =>
            cases wb
            · have HC := Hid.mk' (breakU blk off cap p q dk wr HHk.out hblk' hpq (by omega) (by omega) (by omega))
              rw [hds] at HC
              go_wp2_with (go_at_call 47; refine HC.out.mono ?_; rintro e w1 ⟨rfl, hw1⟩)
              go_meet
              case rel =>
                have hP := breakPatterns_holds dk p q hpq (by omega)
                exact ⟨lim - 1, _, by congr 1; omega, by omega, Hid.mk' hP, Hid.mk' (HA.out.stepG hblk hP.1 hw1)⟩
            · go_wp2_with fail
              go_meet
              case rel => exact ⟨lim, dk, rfl, Nat.le_refl _, Hid.mk' (permIn_refl _ _ _), HA⟩
          obtain ⟨l1, d1, rfl, hl1, HP1, HA1⟩ := hcut
          have hs1 : d1.size = d.size := HP1.out.1.trans hds
          obtain ⟨hH1, hblk1⟩ := HA1.out.holds HH.out hs1 hblk
          have HC17 := Hid.mk' (chooseU blk off cap p q d1 wc hH1 hblk1 (by omega) (by omega) (by omega))
          rw [hs1] at HC17
          have hpi := pivot_in d1 p q h12
          obtain ⟨c, hc⟩ : ∃ c, Sort.choosePivot ltInt d1 p q = c := ⟨_, rfl⟩
          rw [hc] at HC17 hpi
          obtain ⟨c1, c2⟩ := c
          simp only [] at HC17 hpi
          obtain ⟨hv, hhv⟩ : ∃ hv, hintN c2 = hv := ⟨_, rfl⟩
          rw [hhv] at HC17
          clear hH1 hblk1 hc hhv c2 HHk HA hblk'
          go_upto_if 50 with (go_at_call 48; refine HC17.out.mono ?_; rintro e w2 ⟨rfl, hw2⟩)
          have HA2 := Hid.mk' (at_bw HA1.out HH.out hs1 hblk hw2)
          clear HC17 HA1
          go_cut [11, 12] from 19 (fun s11 s12 wc => ∃ (pv : Nat) (hn : Int) (d2 : Array Int), s11 = .int .i64 pv ∧ s12 = .int .i64 hn ∧ p < pv ∧ pv < q ∧ Hid (PermIn p q dk d2) ∧ Hid (At eU w blk off d2 wc))
          case first =>
            obtain ⟨hH2, hblk2⟩ := HA2.out.holds HH.out hs1 hblk
            have HC18 := Hid.mk' (reverseU blk off cap p q d1 w2 hH2 (by omega) (by omega) (by omega))
            rw [hs1] at HC18
            clear hH2 hblk2 hw2
            by_cases hh : (hv : Int) = 2
            · have zh : ((hv : Int) == 2) = true := by simp [hh]
              go_wp2_with (go_at_call 49; refine HC18.out.mono ?_; rintro e w3 ⟨rfl, hw3⟩)
              go_meet
              case rel =>
                have hR := reverseRange_holds d1 p q hpq (by omega)
                exact ⟨(q - 1) - (c1 - p), 1, _, by congr 1; omega, rfl, by omega, by omega, Hid.mk' (permIn_trans _ _ _ _ _ HP1.out hR), Hid.mk' (HA2.out.step hblk hR.1 hw3)⟩
            · have zh : ((hv : Int) == 2) = false := by simp [hh]
              go_wp2_with fail
              go_meet
              case rel => exact ⟨c1, hv, d1, rfl, rfl, by omega, by omega, HP1, HA2⟩
          obtain ⟨pv, hn, d2, rfl, rfl, hpv1, hpv2, HP2, HA3⟩ := hcut
          clear HP1 HA2 hw2 hpi hs1
          have hs2 : d2.size = d.size := HP2.out.1.trans hds
          go_upto_region 15 with fail
          go_cut [12, 68] from 19 (fun s12 s68 wx => ∃ (cb : Bool) (hn : Int), s12 = .int .i64 hn ∧ s68 = .bool cb ∧ wx = wc)
          case first =>
            cases wb <;> cases wp
            all_goals go_wp2_with fail
            all_goals go_meet
            all_goals exact ⟨_, _, rfl, rfl, rfl⟩
          obtain ⟨cb, hn2, rfl, rfl, hwx⟩ := hcut
          rename World => wx
          have HA4 : Hid (At eU w blk off d2 wx) := Hid.mk' (by rw [hwx]; exact HA3.out)
          clear hwx HA3
          go_upto_if 68 with fail
          go_cut [] from 19 (fun wx => ∃ d3, Hid (PermIn p q dk d3) ∧ Hid (At eU w blk off d3 wx))
          case first =>
            cases cb
            · go_wp2_with fail
              go_meet
              case rel => exact ⟨d2, HP2, HA4⟩
            · obtain ⟨hH4, hblk4⟩ := HA4.out.holds HH.out hs2 hblk
              have HC19 := Hid.mk' (partInsU blk off cap p q d2 wx hH4 (by omega) (by omega) (by omega))
              rw [hs2] at HC19
              have HQ := Hid.mk' (partialInsertionSort_holds swo_ltInt d2 p q (by omega) (by omega) (HB.out.perm (by omega) HP2.out))
              obtain ⟨pi, hpi⟩ : ∃ pi, Sort.partialInsertionSort ltInt d2 p q = pi := ⟨_, rfl⟩
              rw [hpi] at HC19 HQ
              obtain ⟨d3, yes⟩ := pi
              simp only [] at HC19 HQ
              clear hpi hH4 hblk4
              cases yes
              · go_wp2_with (go_at_call 50; refine HC19.out.mono ?_; rintro e w4 ⟨rfl, hw4⟩)
                go_meet
                case rel => exact ⟨d3, Hid.mk' (permIn_trans _ _ _ _ _ HP2.out HQ.out.1), Hid.mk' (HA4.out.step hblk HQ.out.1.1 hw4)⟩
              · go_wp2_with (go_at_call 50; refine HC19.out.mono ?_; rintro e w4 ⟨rfl, hw4⟩)
                (try simp only [Exit.inBlock, Exit.then]); refine bodyPost_ret (results_none rfl _ _ _) rfl ?_
                exact ⟨rfl, d3, HD.out _ (permIn_trans _ _ _ _ _ HP2.out HQ.out.1) (HQ.out.2 (by first | rfl | trivial)), HA4.out.step hblk HQ.out.1.1 hw4⟩
          obtain ⟨d3, HP3, HA5⟩ := hcut
          clear HP2 HA4 hs2
          have hs3 : d3.size = d.size := HP3.out.1.trans hds
          obtain ⟨hH5, hblk5⟩ := HA5.out.holds HH.out hs3 hblk
          obtain ⟨G, hG⟩ : ∃ G : Nat → Int, ∀ t, G t = d3[t]! := ⟨fun t => d3[t]!, fun _ => rfl⟩
          have hcw : ∀ t, t < d.size → wc.cell? ⟨blk, off + t, none⟩ = some (.int .u32 (G t)) := fun t ht => by rw [hG]; exact (hH5 t (by omega)).1
          have hfw : ∀ t, t < d.size → wc.frozen? ⟨blk, off + t, none⟩ = false := fun t ht => (hH5 t (by omega)).2
          have HG := Hid.mk' hG
          clear hG hH5 hblk5
          go_upto_region 17 with fail
          go_cut [87] from 19 (fun s87 wx => ∃ cb : Bool, s87 = .bool cb ∧ Hid (cb = true → 0 < p ∧ ltInt d3[p - 1]! d3[pv]! = false) ∧ Hid (At eU w blk off d3 wx))
          case first =>
            have b1 : (pv : Int) < (d.size : Int) := by omega
            rcases Nat.eq_zero_or_pos p with hp0 | hp0
            · have zp : decide ((p : Int) > 0) = false := decide_eq_false (by omega)
              go_big_quiet (first | (go_at_call 51; refine Calls.quiet_of_same (lessU _ _ _)))
              go_wp2_with fail
              go_meet
              case rel => exact ⟨false, rfl, Hid.mk' (fun h => by cases h), Hid.mk' (HA5.out.ahead nq)⟩
            · have zp : (p : Int) > 0 := by omega
              have b2 : (p : Int) - 1 < (d.size : Int) := by omega
              go_big_quiet (first | (go_at_call 51; refine Calls.quiet_of_same (lessU _ _ _)))
              go_wp2_with fail
              go_meet
              case rel => exact ⟨!ltInt (G (p - 1)) (G pv), rfl, Hid.mk' (fun h => ⟨hp0, by rw [← HG.out, ← HG.out]; simpa using h⟩), Hid.mk' (HA5.out.ahead nq)⟩
          obtain ⟨cb2, rfl, HCB, HA6⟩ := hcut
          clear hcw hfw HG HA5
          obtain ⟨hH6, hblk6⟩ := HA6.out.holds HH.out hs3 hblk
          have HB3 := Hid.mk' (HB.out.perm (by omega) HP3.out)
          cases cb2
          · have HC22 := Hid.mk' (partU blk off cap p q pv d3 wc hH6 hpv1 hpv2 (by omega) (by omega))
            rw [hs3] at HC22
            obtain ⟨y, hy⟩ : ∃ y, Sort.partition ltInt d3 p q pv = y := ⟨_, rfl⟩
            obtain ⟨mid, ap, d4⟩ := y
            rw [hy] at HC22
            simp only [] at HC22
            obtain ⟨r1, r2, r3, r4, r5, r6, r7⟩ := round_part swo_ltInt (partition_holds ltInt) (Nat.le_of_lt hpv1) hpv2 (show q ≤ d3.size by omega) HB3.out hy
            have R4 := Hid.mk' r4
            have R5 := Hid.mk' r5
            have R6 := Hid.mk' r6
            have R7 := Hid.mk' r7
            clear hy r4 r5 r6 r7 hH6 hblk6
            go_upto_if 113 with (go_at_call 53; refine HC22.out.mono ?_; rintro e w7 ⟨rfl, hw7⟩)
            have HA7 := Hid.mk' (HA6.out.step hblk r3 hw7)
            clear hw7 HC22
            obtain ⟨hH7, hblk7⟩ := HA7.out.holds HH.out (r3.trans hs3) hblk
            by_cases h4 : mid - p < q - mid
            · have z4 : (mid : Int) - (p : Int) < (q : Int) - (mid : Int) := by omega
              have HC := Hid.mk' (IH.out blk off cap p mid l1 d4 w7 (by omega) hH7 hblk7 r1 (by omega) (by omega) (by omega) (by omega) R4.out)
              rw [r3, hs3] at HC
              clear hH7 hblk7
              go_wp2_with (go_at_call 31; refine HC.out.mono ?_; rintro e w8 ⟨rfl, d5, hd5, hw8⟩)
              go_roundg (q - (mid + 1))
              case measure => omega
              case rel =>
                have h6 := R6.out d5 hd5.1 hd5.2
                exact ⟨mid + 1, q, l1, _, ap, d5, by go_num, rfl, rfl, rfl, rfl, by omega, by omega, Nat.le_refl _, by omega, by omega, by rw [hd5.1.1, r3, hs3], Hid.mk' h6.1, Hid.mk' (HA7.out.stepG hblk hd5.1.1 hw8), Hid.mk' (fun R hR1 hR2 => by
                  have h7 := h6.2 R hR1 hR2
                  exact HD.out R (permIn_trans _ _ _ _ _ HP3.out h7.1) h7.2)⟩
            · have z4 : ¬ ((mid : Int) - (p : Int) < (q : Int) - (mid : Int)) := by omega
              have HC := Hid.mk' (IH.out blk off cap (mid + 1) q l1 d4 w7 (by omega) hH7 hblk7 (by omega) (by omega) (by omega) (by omega) (by omega) R5.out)
              rw [r3, hs3] at HC
              clear hH7 hblk7
              go_wp2_with (go_at_call 31; refine HC.out.mono ?_; rintro e w8 ⟨rfl, d5, hd5, hw8⟩)
              go_roundg (mid - p)
              case measure => omega
              case rel =>
                have h6 := R7.out d5 hd5.1 hd5.2
                exact ⟨p, mid, l1, _, ap, d5, rfl, rfl, rfl, rfl, rfl, by omega, by omega, Nat.le_refl _, by omega, by omega, by rw [hd5.1.1, r3, hs3], Hid.mk' h6.1, Hid.mk' (HA7.out.stepG hblk hd5.1.1 hw8), Hid.mk' (fun R hR1 hR2 => by
                  have h7 := h6.2 R hR1 hR2
                  exact HD.out R (permIn_trans _ _ _ _ _ HP3.out h7.1) h7.2)⟩
          · have HC21 := Hid.mk' (partEqU blk off cap p q pv d3 wc hH6 hpv1 hpv2 (by omega) (by omega))
            rw [hs3] at HC21
            obtain ⟨y, hy⟩ : ∃ y, Sort.partitionEqual ltInt d3 p q pv = y := ⟨_, rfl⟩
            obtain ⟨mid, d4⟩ := y
            rw [hy] at HC21
            simp only [] at HC21
            obtain ⟨r1, r2, r3, r4, r5⟩ := round_eq swo_ltInt (partitionEqual_holds ltInt) (HCB.out rfl).1 (Nat.le_of_lt hpv1) hpv2 (show q ≤ d3.size by omega) HB3.out (HCB.out rfl).2 hy
            have R4 := Hid.mk' r4
            have R5 := Hid.mk' r5
            clear hy r4 r5 hH6 hblk6
            go_wp2_with (go_at_call 52; refine HC21.out.mono ?_; rintro e w7 ⟨rfl, hw7⟩)
            go_roundg (q - mid)
            case measure => omega
            case rel =>
              exact ⟨mid, q, l1, wb, wp, d4, rfl, rfl, rfl, rfl, rfl, r2, by omega, Nat.le_refl _, by omega, by omega, by rw [r3, hs3], R4, Hid.mk' (HA6.out.step hblk r3 hw7), Hid.mk' (fun R hR1 hR2 => by
                have h7 := R5.out R hR1 hR2
                exact HD.out R (permIn_trans _ _ _ _ _ HP3.out h7.1) h7.2)⟩

theorem done_eq (zs : List Int) (d' : Array Int) (h : Done 0 zs.length zs.toArray d') : d' = (zs.mergeSort fun x y => decide (x ≤ y)).toArray := by
  have hs : zs.toArray.size = zs.length := by simp
  rw [← hs] at h
  have e := sorted_unique_holds swo_ltInt (fun x y h1 h2 => by simp only [ltInt, decide_eq_false_iff_not] at h1 h2; omega) zs.toArray d' h.1 h.2
  have e2 : (fun x y : Int => !ltInt y x) = fun x y => decide (x ≤ y) := by
    funext x y
    show (!decide (y < x)) = decide (x ≤ y)
    by_cases h : x ≤ y
    · have h' : ¬ y < x := by omega
      simp [h, h']
    · have h' : y < x := by omega
      simp [h, h']
  rw [e2] at e
  rw [← e]

set_option maxHeartbeats 1000000 in
set_option maxRecDepth 100000 in
/-- slices.Sort of numbers of 32 bits, whatever their number. -/
theorem sort_all (m : Nat) (hm : m < 4611686018427387904) : SortTo m := by
  intro blk off cap zs w hl hcap hH hblk
  have hd : zs.toArray.size = zs.length := by simp
  have HP := Hid.mk' (fun (limit : Nat) (hli : limit < 4611686018427387904) => pdqU (zs.length + 1) blk off cap 0 zs.length limit zs.toArray w (by omega) hH hblk (by omega) (by omega) (by omega) (by omega) hli (.inl rfl))
  rw [hd] at HP
  have HB := Hid.mk' (fun W => Tryd.bits_Len (zs.length : Int) W (by omega) (by omega))
  obtain ⟨n, hn⟩ : ∃ n, zs.length = n := ⟨_, rfl⟩
  have HE := Hid.mk' (done_eq zs)
  rw [hn] at HP HB HE ⊢
  rw [hn] at hl hcap
  have x1 : IntKind.u64.wrap (n : Int) = n := by rw [IntKind.wrap_u64]; omega
  have hbl : Lib.bitLen ((n : Int).toNat) < 4611686018427387904 := by
    rw [Int.toNat_natCast, bitLen_eq _ (by omega)]
    exact Nat.lt_of_le_of_lt ((bitsLen_le_iff n 62).2 (by omega)) (by omega)
  clear hn hd hH
  go_enter Tryd.func19, Tryd.ntmps19
  go_wp2_with fail
  refine (HB.out _).mono ?_
  rintro e w1 ⟨rfl, hw1⟩
  rw [hw1]; clear hw1 w1
  go_wp2_with fail
  refine (HP.out _ hbl).mono ?_
  rintro e w1 ⟨rfl, d', hD, hS⟩
  go_wp2
  go_end0
  exact ⟨rfl, by rw [← HE.out d' hD]; exact hS⟩

end Go.Proofs.YtcjpoabknlpopaaDoor
