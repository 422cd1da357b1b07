/- Package check: the walker: lay, walked. -/
import Derived.Test.YtcagfjogfbddeaaDoorCrE
import Derived.Deep.DeepCutAuto
namespace Go.Proofs.YtcagfjogfbddeaaDoor
set_option linter.unusedVariables false
set_option linter.unusedSimpArgs false
open Go.RowKit Go.Shelf

theorem wr_id (z : Int) (h0 : 0 ≤ z) (h : z < 1152921504606846976) : wrap64 z = z := by unfold wrap64; omega
theorem tm_nat (x k : Nat) (h : x % 2 = k) : Int.tmod (x : Int) 2 = (k : Int) := by rw [Int.tmod_eq_emod_of_nonneg (by omega)]; omega
theorem td_nat (x k : Nat) (h : x / 2 = k) : Int.tdiv (x : Int) 2 = (k : Int) := by rw [Int.tdiv_eq_ediv_of_nonneg (by omega)]; omega
theorem ly_nums {fr to' n fr1 to1 to3 fr2 to2 : Nat} (h0 : fr < to') (h1 : to' ≤ 2 * fr) (h2 : to' ≤ 2 * n) (hn : n * 40 ≤ 140737488351232) (e1 : fr + fr % 2 = fr1) (e2 : to' = to1 + 1) (e3 : to' - to' % 2 = to3) (e4 : (fr + 1) / 2 = fr2) (e5 : to' / 2 = to2) :
    (fr1 / 2 = fr2 ∧ to3 / 2 = to2) ∧ (fr2 < 1000000000000000 ∧ to2 < 1000000000000000 ∧ fr < 100000000000000 ∧ to1 < 100000000000000) ∧ (to2 ≤ 2 * fr2 ∧ to2 ≤ 2 * n ∧ to2 < to' ∧ to2 ≤ fr ∧ to2 ≤ to1) ∧ (fr % 2 = 1 → fr1 = fr + 1) ∧ (¬ fr % 2 = 1 → fr1 = fr) ∧ (to' % 2 = 1 → to3 = to1) ∧ (¬ to' % 2 = 1 → to3 = to') ∧ (fr % 2 = 1 → to' % 2 = 1 → to1 ≠ fr) ∧ fr < 2 * n ∧ to1 < 2 * n := by
  refine ⟨⟨?_, ?_⟩, ⟨?_, ?_, ?_, ?_⟩, ⟨?_, ?_, ?_, ?_, ?_⟩, ?_, ?_, ?_, ?_, ?_, ?_, ?_⟩ <;> omega
theorem em_one {x : Nat} (h : x % 2 = 1) : ((x : Int) % 2 == 1) = true := by simp; omega
theorem em_not {x : Nat} (h : ¬ x % 2 = 1) : ((x : Int) % 2 == 1) = false := by simp; omega
section
variable {B : Nat} {w : World} {wb br bt bp n : Nat} {vw : Value} {R : Nat → Bool} {Q : List Int} {T : Nat → Int} {V : Nat → Value} {P : Nat → List Int}
set_option maxHeartbeats 4000000 in
set_option maxRecDepth 100000 in
theorem lay_any (h : Wq B w wb br bt bp n vw R Q T V P) (tf tt ta tr : Int) (k : Nat) (hk : ∀ q, q < 2 * n → (P q).length ≤ k) (hkb : k ≤ 4398046511104) (ys : List (Nat × Obj)) (hy : ∀ y ∈ ys, w.heap[y.1]? = some y.2) (hy1 : ∀ y ∈ ys, ∀ c fz, y.2 ≠ .cells c 3 fz) (hy2 : ∀ y ∈ ys, ∀ c fz, y.2 ≠ .cells c 36 fz) : Calls Tryd.prog 25 #[.pointer (some ⟨wb, 0, none⟩), .agg #[.int .i64 tf, .int .i64 tt, .int .i64 ta, .int .i64 tr]] w fun e w' => (∃ v, e = .returned v) ∧ ∃ V' P', Wq B w' wb br bt bp n vw R Q T V' P' ∧ (∀ q, q < 2 * n → P' q = P q ++ (if q ∈ mk (n + clN n tf) (n + clN n tt) then [ta] else [])) ∧ (∀ y ∈ ys, w'.heap[y.1]? = some y.2) ∧ Below B w w' := by
  obtain ⟨i0, hif, hz0, hz1, hz2⟩ := info_parts infoInt
  obtain ⟨W1, hW1⟩ : ∃ W1, w.alloc (.cells #[.int .i64 tf, .int .i64 tt, .int .i64 ta, .int .i64 tr] 59) = W1 := ⟨_, rfl⟩
  have b1 : Below w.heap.size w W1 := by rw [← hW1]; exact lay_below
  have q1 : W1.heap[w.heap.size]? = some (.cells #[.int .i64 tf, .int .i64 tt, .int .i64 ta, .int .i64 tr] 59 (0, 0)) := by rw [← hW1]; exact box_new
  obtain ⟨x0, hx0⟩ : ∃ x, w.heap.size = x := ⟨_, rfl⟩
  rw [hx0] at q1
  have h1 := h.below b1
  obtain ⟨c0, _, _, _⟩ := h1.cells
  have f0 : W1.cell? ⟨x0, 0, none⟩ = some (.int .i64 tf) := (cell_row _ _ 0 _ _ q1).trans rfl
  have f1 : W1.cell? ⟨x0, 1, none⟩ = some (.int .i64 tt) := (cell_row _ _ 1 _ _ q1).trans rfl
  have nb := h.nb
  obtain ⟨F, hF⟩ : ∃ F, n + clN n tf = F := ⟨_, rfl⟩
  obtain ⟨G, hG⟩ : ∃ G, n + clN n tt = G := ⟨_, rfl⟩
  have s1 : wrap64 ((n : Int) + min (max tf 0) (n : Int)) = (F : Int) := by unfold clN at hF; unfold wrap64; omega
  have s2 : wrap64 ((n : Int) + min (max tt 0) (n : Int)) = (G : Int) := by unfold clN at hG; unfold wrap64; omega
  have s1' : (n : Int) + min (max tf 0) (n : Int) = (F : Int) := by unfold clN at hF; omega
  have s2' : (n : Int) + min (max tt 0) (n : Int) = (G : Int) := by unfold clN at hG; omega
  have HFG : Hid (n ≤ F ∧ F ≤ 2 * n ∧ n ≤ G ∧ G ≤ 2 * n) := Hid.mk' (by unfold clN at hF hG; omega)
  have HLY : Hid (∀ W, Below W1.heap.size W1 W → Ly B w W wb br bt bp n x0 #[.int .i64 tf, .int .i64 tt, .int .i64 ta, .int .i64 tr] ys vw R Q T P ta k V P []) := Hid.mk' (fun W hW => ⟨h1.below hW, fun q hq => by simp, hk, (hW.block _ (Array.getElem?_eq_some_iff.1 q1).1).trans q1, fun y hm => ((b1.trans (hW.mono b1.size)).block _ (Array.getElem?_eq_some_iff.1 (hy y hm)).1).trans (hy y hm), hy1, hy2, (b1.mono h.size).trans (hW.mono h1.size)⟩)
  have HH := Hid.mk' h
  have HKB := Hid.mk' hkb
  rw [hF, hG]
  obtain ⟨N2, hN2⟩ : ∃ N2, 2 * n = N2 := ⟨_, rfl⟩
  have HN2 := Hid.mk' hN2
  clear hy hy1 hy2 h h1 b1 q1 hk hkb hF hG hN2
  go_enter Tryd.func25, Tryd.ntmps25
  go_upto_region 2 with fail
  go_cut [5, 6] from 12 (fun v5 v6 wc => v5 = .int .i64 (F : Int) ∧ v6 = .int .i64 (G : Int) ∧ Hid (Below W1.heap.size W1 wc))
  case first =>
    go_region
    all_goals go_wp2_with fail
    all_goals
      go_meet
      exact ⟨by first | rfl | rw [s1] | rw [s1'], by first | rfl | rw [s2] | rw [s2'], Hid.mk' (by first | exact Below.refl _ _ | exact (Below.refl _ _).drew | exact (kept_drewN _ 0 _ _).1)⟩
  case rest =>
    obtain ⟨rfl, rfl, HBC⟩ := hcut
    have HL0 := Hid.mk' (HLY.out wc HBC.out)
    clear c0 f0 f1 nb s1 s2 s1' s2' hW1 HLY
    go_wp2_with fail
    go_loopw [5, 6] (fun v5 v6 wr => ∃ fr to' : Nat, v5 = .int .i64 (fr : Int) ∧ v6 = .int .i64 (to' : Int) ∧ Hid (to' ≤ 2 * fr ∧ to' ≤ 2 * n) ∧ ∃ V' P' D, Hid (Ly B w wr wb br bt bp n x0 #[.int .i64 tf, .int .i64 tt, .int .i64 ta, .int .i64 tr] ys vw R Q T P ta k V' P' D ∧ (∀ q ∈ D, to' ≤ q) ∧ ∀ q, q ∈ mk F G ↔ q ∈ D ∨ q ∈ mk fr to')) (fun v5 v6 wr => (intOf v6).toNat)
    case atStart => exact ⟨F, G, rfl, rfl, Hid.mk' (by have := HFG.out; omega), V, P, [], Hid.mk' ⟨HL0.out, (fun q h => by cases h), (fun q => by simp)⟩⟩
    case round =>
      obtain ⟨fr, to', rfl, rfl, HFT, V', P', D, HLD⟩ := hrel
      by_cases hlt : fr < to'
      · have HLT := Hid.mk' hlt
        have i1 : (fr : Int) < (to' : Int) := by omega
        obtain ⟨fr1, hfr1⟩ : ∃ x, fr + fr % 2 = x := ⟨_, rfl⟩
        obtain ⟨to1, hto1⟩ : ∃ x, to' = x + 1 := ⟨to' - 1, by omega⟩
        obtain ⟨to3, hto3⟩ : ∃ x, to' - to' % 2 = x := ⟨_, rfl⟩
        obtain ⟨fr2, hfr2⟩ : ∃ x, (fr + 1) / 2 = x := ⟨_, rfl⟩
        obtain ⟨to2, hto2⟩ : ∃ x, to' / 2 = x := ⟨_, rfl⟩
        have HNM : Hid (fr + fr % 2 = fr1 ∧ to' = to1 + 1 ∧ to' - to' % 2 = to3 ∧ (fr + 1) / 2 = fr2 ∧ to' / 2 = to2) := Hid.mk' ⟨hfr1, hto1, hto3, hfr2, hto2⟩
        have HNU := Hid.mk' (ly_nums hlt HFT.out.1 HFT.out.2 HH.out.nb hfr1 hto1 hto3 hfr2 hto2)
        clear hlt hfr1 hto1 hto3 hfr2 hto2
        go_upto_if 31 with fail
        go_cut [5, 6] from 26 to 76 (fun v5 v6 wc => v5 = .int .i64 (fr1 : Int) ∧ v6 = .int .i64 (to' : Int) ∧ Hid (∃ V2 P2, Ly B w wc wb br bt bp n x0 #[.int .i64 tf, .int .i64 tt, .int .i64 ta, .int .i64 tr] ys vw R Q T P ta k V2 P2 (D ++ (if fr % 2 = 1 then [fr] else []))))
        case first =>
          by_cases hf : fr % 2 = 1
          · have m1 := em_one hf
            have a1 : wrap64 ((fr : Int) + 1) = (fr1 : Int) := (wr_id _ (by omega) (by have := HNU.out.2.1.2.2.1; clear m1; omega)).trans (by have := HNU.out.2.2.2.1 hf; clear m1; omega)
            have P1 : Hid (fr < 2 * n) := Hid.mk' HNU.out.2.2.2.2.2.2.2.2.1
            have ND1 : Hid (fr ∉ D) := Hid.mk' (fun hh => by have := HLD.out.2.1 _ hh; have := HLT.out; clear m1 a1; omega)
            have j1 : (fr : Int) < (N2 : Int) := by have := P1.out; have := HN2.out; clear m1 a1; omega
            have HL1 := Hid.mk' HLD.out.1
            have HFE := Hid.mk' hf
            clear hf
            have howna := HL1.out.wq.pown fr P1.out
            have cpa := HL1.out.wq.p.cell P1.out
            have c3a := HL1.out.wq.cells.2.2.2
            have caa : wr.cell? ⟨x0, 2, none⟩ = some (.int .i64 ta) := (cell_row _ _ 2 _ _ HL1.out.bx).trans rfl
            have hlena : (P' fr).length ≤ k := by rw [HL1.out.pl fr P1.out, if_neg ND1.out, List.append_nil]; exact HL1.out.k fr P1.out
            obtain ⟨yaa, yca, hva, _⟩ := own_slice' howna
            obtain ⟨La, hLa⟩ : ∃ L, (P' fr).length = L := ⟨_, rfl⟩
            rw [hLa] at howna hva hlena
            rw [hva] at howna cpa
            rw [HN2.out] at c3a
            have HOa := Hid.mk' howna
            have HLBa : Hid (La ≤ 4398046511104) := Hid.mk' (Nat.le_trans hlena HKB.out)
            have lba : bp < wr.heap.size := HL1.out.wq.p.lt
            have lwa : wb < wr.heap.size := (Array.getElem?_eq_some_iff.1 HL1.out.wq.blk).1
            have lxa : x0 < wr.heap.size := (Array.getElem?_eq_some_iff.1 HL1.out.bx).1
            have HBSa : Hid (B ≤ wr.heap.size) := Hid.mk' HL1.out.wq.size
            have HAPPa : Hid (∀ (X w5 : World) (v5 : Value), Below wr.heap.size wr X → w5.ownsRow B 3 1 v5 (La + 1) (zs (P' fr) ++ [.int .i64 ta]) → X.grownBy w5 (Value.slice yaa La yca).ownBlock → (v5.ownBlock = (Value.slice yaa La yca).ownBlock ∨ v5.ownBlock = some X.heap.size) →
                (∃ V2 P2, Ly B w (w5.setCell ⟨bp, fr, none⟩ v5) wb br bt bp n x0 #[.int .i64 tf, .int .i64 tt, .int .i64 ta, .int .i64 tr] ys vw R Q T P ta k V2 P2 (D ++ [fr])) ∧ w5.cell? ⟨bp, fr, none⟩ = some (.slice yaa La yca) ∧ w5.frozen? ⟨bp, fr, none⟩ = false ∧ w5.cell? ⟨wb, 3, none⟩ = some (.slice (some ⟨bp, 0, none⟩) N2 N2)) := Hid.mk' (fun X w5 v5 hX o5 g5 hl5 => by
              have hh := Ly.app HL1.out P1.out ND1.out hX (by rw [hva]; exact g5) (by rw [hLa]; exact o5) (by rw [hva]; exact hl5)
              rw [hva, HN2.out] at hh
              exact hh)
            clear howna hva hLa hlena
            go_upto_region 5 with fail
            have HFX := Hid.mk' (And.intro m1 (And.intro a1 i1))
            clear m1 a1 i1
            go_region_law (refine step_app rfl (.tmp 43) (.tmp 46) 36 rfl B 3 i0 (.int .i64 0) 1 8 Tryd.underlying36 hif hz0 hz1 hz2 rfl (by decide) _ _ _ rfl (own_below HOa.out (((Below.refl wr.heap.size wr).drew).alloc (Nat.le_refl _) _)) _ 1 1 _ rfl (by rfl) (cells_new _ _ _) (by simp [Value.oneCell']) (by have := HLBa.out; unfold maxLen; omega) (by have := HLBa.out; omega) (Nat.le_trans HBSa.out (((Below.refl wr.heap.size wr).drew).alloc (Nat.le_refl _) _).size) ?_; intro v5 w5 o5 g5 hl5; have hh := HAPPa.out _ _ _ (((Below.refl wr.heap.size wr).drew).alloc (Nat.le_refl _) _) o5 g5 hl5; obtain ⟨hl, e5, z5, d5⟩ := hh; have HLan := Hid.mk' hl; obtain ⟨y5, c5, hv5, _⟩ := own_slice' o5; subst hv5; clear hl g5 hl5 o5)
            all_goals
              clear lba lwa lxa cpa c3a caa e5 z5 d5 HAPPa HOa HLBa HBSa
              obtain ⟨m1, a1, i1⟩ := HFX.out
              clear HFX
              go_wp2_with fail
              go_meet
              exact ⟨by first | rfl | rw [a1], rfl, by rw [if_pos HFE.out]; exact HLan⟩
          · have m1 := em_not hf
            have HFE := Hid.mk' hf
            have e1 : fr1 = fr := HNU.out.2.2.2.2.1 hf
            clear hf
            go_wp2_with fail
            go_meet
            exact ⟨by rw [e1], rfl, by rw [if_neg HFE.out, List.append_nil]; exact Hid.mk' ⟨V', P', HLD.out.1⟩⟩
        case rest =>
          obtain ⟨rfl, rfl, HLA⟩ := hcut
          obtain ⟨VA, PA, hLA⟩ := HLA.out
          have HLA' := Hid.mk' hLA
          clear hLA HLA
          go_upto_if 53 with fail
          go_cut [5, 6] from 26 to 76 (fun v5 v6 wc => v5 = .int .i64 (fr1 : Int) ∧ v6 = .int .i64 (to3 : Int) ∧ Hid (∃ V2 P2, Ly B w wc wb br bt bp n x0 #[.int .i64 tf, .int .i64 tt, .int .i64 ta, .int .i64 tr] ys vw R Q T P ta k V2 P2 ((D ++ (if fr % 2 = 1 then [fr] else [])) ++ (if to' % 2 = 1 then [to1] else []))))
          case first =>
            by_cases hf : to' % 2 = 1
            · have m2 := em_one hf
              have a2 : wrap64 ((to' : Int) - 1) = (to1 : Int) := (show wrap64 ((to' : Int) - 1) = wrap64 ((to1 : Nat) : Int) by have := HNM.out.2.1; congr 1; clear m2; omega).trans (wr_id _ (by omega) (by have := HNU.out.2.1.2.2.2; clear m2; omega))
              have P2 : Hid (to1 < 2 * n) := Hid.mk' HNU.out.2.2.2.2.2.2.2.2.2
              have ND2 : Hid (to1 ∉ D ++ (if fr % 2 = 1 then [fr] else [])) := Hid.mk' (fun hh => by
                have hnm := HNM.out.2.1
                rcases List.mem_append.1 hh with hh | hh
                · have := HLD.out.2.1 _ hh; clear m2 a2; omega
                · split at hh
                  · rename_i hg; exact HNU.out.2.2.2.2.2.2.2.1 hg hf (List.mem_singleton.1 hh)
                  · cases hh)
              have j2 : (to1 : Int) < (N2 : Int) := by have := P2.out; have := HN2.out; clear m2 a2; omega
              have HFE := Hid.mk' hf
              have e3 : to3 = to1 := HNU.out.2.2.2.2.2.1 hf
              have HE3 := Hid.mk' e3
              clear hf e3
              obtain ⟨DA, hDA⟩ : ∃ DA, D ++ (if fr % 2 = 1 then [fr] else []) = DA := ⟨_, rfl⟩
              rw [hDA] at HLA' ND2
              have HDA := Hid.mk' hDA
              clear hDA
              have hownb := HLA'.out.wq.pown to1 P2.out
              have cpb := HLA'.out.wq.p.cell P2.out
              have c3b := HLA'.out.wq.cells.2.2.2
              have cab : wc.cell? ⟨x0, 2, none⟩ = some (.int .i64 ta) := (cell_row _ _ 2 _ _ HLA'.out.bx).trans rfl
              have hlenb : (PA to1).length ≤ k := by rw [HLA'.out.pl to1 P2.out, if_neg ND2.out, List.append_nil]; exact HLA'.out.k to1 P2.out
              obtain ⟨yab, ycb, hvb, _⟩ := own_slice' hownb
              obtain ⟨Lb, hLb⟩ : ∃ L, (PA to1).length = L := ⟨_, rfl⟩
              rw [hLb] at hownb hvb hlenb
              rw [hvb] at hownb cpb
              rw [HN2.out] at c3b
              have HOb := Hid.mk' hownb
              have HLBb : Hid (Lb ≤ 4398046511104) := Hid.mk' (Nat.le_trans hlenb HKB.out)
              have lbb : bp < wc.heap.size := HLA'.out.wq.p.lt
              have lwb : wb < wc.heap.size := (Array.getElem?_eq_some_iff.1 HLA'.out.wq.blk).1
              have lxb : x0 < wc.heap.size := (Array.getElem?_eq_some_iff.1 HLA'.out.bx).1
              have HBSb : Hid (B ≤ wc.heap.size) := Hid.mk' HLA'.out.wq.size
              have HAPPb : Hid (∀ (X w5 : World) (v5 : Value), Below wc.heap.size wc X → w5.ownsRow B 3 1 v5 (Lb + 1) (zs (PA to1) ++ [.int .i64 ta]) → X.grownBy w5 (Value.slice yab Lb ycb).ownBlock → (v5.ownBlock = (Value.slice yab Lb ycb).ownBlock ∨ v5.ownBlock = some X.heap.size) →
                  (∃ V2 P2, Ly B w (w5.setCell ⟨bp, to1, none⟩ v5) wb br bt bp n x0 #[.int .i64 tf, .int .i64 tt, .int .i64 ta, .int .i64 tr] ys vw R Q T P ta k V2 P2 (DA ++ [to1])) ∧ w5.cell? ⟨bp, to1, none⟩ = some (.slice yab Lb ycb) ∧ w5.frozen? ⟨bp, to1, none⟩ = false ∧ w5.cell? ⟨wb, 3, none⟩ = some (.slice (some ⟨bp, 0, none⟩) N2 N2)) := Hid.mk' (fun X w5 v5 hX o5 g5 hl5 => by
                have hh := Ly.app HLA'.out P2.out ND2.out hX (by rw [hvb]; exact g5) (by rw [hLb]; exact o5) (by rw [hvb]; exact hl5)
                rw [hvb, HN2.out] at hh
                exact hh)
              clear hownb hvb hLb hlenb
              go_upto_region 9 with fail
              try rw [a2]
              have HFX := Hid.mk' (And.intro m2 (And.intro a2 i1))
              clear m2 a2 i1
              go_region_law (refine step_app rfl (.tmp 67) (.tmp 70) 36 rfl B 3 i0 (.int .i64 0) 1 8 Tryd.underlying36 hif hz0 hz1 hz2 rfl (by decide) _ _ _ rfl (own_below HOb.out (((Below.refl wc.heap.size wc).drew).alloc (Nat.le_refl _) _)) _ 1 1 _ rfl (by rfl) (cells_new _ _ _) (by simp [Value.oneCell']) (by have := HLBb.out; unfold maxLen; omega) (by have := HLBb.out; omega) (Nat.le_trans HBSb.out (((Below.refl wc.heap.size wc).drew).alloc (Nat.le_refl _) _).size) ?_; intro v5 w5 o5 g5 hl5; have hh := HAPPb.out _ _ _ (((Below.refl wc.heap.size wc).drew).alloc (Nat.le_refl _) _) o5 g5 hl5; obtain ⟨hl, e5, z5, d5⟩ := hh; have HLbn := Hid.mk' hl; obtain ⟨y5, c5, hv5, _⟩ := own_slice' o5; subst hv5; clear hl g5 hl5 o5)
              all_goals
                clear lbb lwb lxb cpb c3b cab e5 z5 d5 HAPPb HOb HLBb HBSb
                obtain ⟨m2, a2, i1⟩ := HFX.out
                clear HFX
                go_wp2_with fail
                go_meet
                exact ⟨rfl, by rw [HE3.out], by rw [if_pos HFE.out, HDA.out]; exact HLbn⟩
            · have m2 := em_not hf
              have HFE := Hid.mk' hf
              have e3 : to3 = to' := HNU.out.2.2.2.2.2.2.1 hf
              clear hf
              go_wp2_with fail
              go_meet
              exact ⟨rfl, by rw [e3], by rw [if_neg HFE.out, List.append_nil]; exact Hid.mk' ⟨VA, PA, HLA'.out⟩⟩
          case rest =>
            rename_i wc1 _
            obtain ⟨rfl, rfl, HLB⟩ := hcut
            have t1 : Int.tdiv (fr1 : Int) 2 = (fr2 : Int) := td_nat fr1 fr2 HNU.out.1.1
            have t2 : Int.tdiv (to3 : Int) 2 = (to2 : Int) := td_nat to3 to2 HNU.out.1.2
            have w1 : wrap64 (fr2 : Int) = (fr2 : Int) := wr_id _ (by clear t1 t2; omega) (by have := HNU.out.2.1.1; clear t1 t2; omega)
            have w2 : wrap64 (to2 : Int) = (to2 : Int) := wr_id _ (by clear t1 t2 w1; omega) (by have := HNU.out.2.1.2.1; clear t1 t2 w1; omega)
            have HM2 : Hid (∀ q, q ∈ mk F G ↔ q ∈ ((D ++ (if fr % 2 = 1 then [fr] else [])) ++ (if to' % 2 = 1 then [to1] else [])) ∨ q ∈ mk fr2 to2) := Hid.mk' (fun q => by
              have hnm := HNM.out
              have e : to' - 1 = to1 := by rw [hnm.2.1]; rfl
              rw [HLD.out.2.2 q, mk_step HLT.out, hnm.2.2.2.1, hnm.2.2.2.2, e]
              simp only [List.mem_append, or_assoc])
            have HD2 : Hid (∀ q ∈ ((D ++ (if fr % 2 = 1 then [fr] else [])) ++ (if to' % 2 = 1 then [to1] else [])), to2 ≤ q) := Hid.mk' (fun q hq => by
              have hnu := HNU.out.2.2.1
              rcases List.mem_append.1 hq with hq | hq
              · rcases List.mem_append.1 hq with hq | hq
                · exact Nat.le_trans (Nat.le_of_lt hnu.2.2.1) (HLD.out.2.1 q hq)
                · split at hq
                  · rw [List.mem_singleton.1 hq]; exact hnu.2.2.2.1
                  · cases hq
              · split at hq
                · rw [List.mem_singleton.1 hq]; exact hnu.2.2.2.2
                · cases hq)
            have HB2 : Hid (to2 ≤ 2 * fr2 ∧ to2 ≤ 2 * n) := Hid.mk' ⟨HNU.out.2.2.1.1, HNU.out.2.2.1.2.1⟩
            have HME : Hid (to2 < to') := Hid.mk' HNU.out.2.2.1.2.2.1
            go_wp2_with fail
            rw [w1, w2]
            go_roundw
            case rel =>
              obtain ⟨V3, P3, h3⟩ := HLB.out
              exact ⟨fr2, to2, rfl, rfl, HB2, V3, P3, _, Hid.mk' ⟨h3, HD2.out, HM2.out⟩⟩
            case measure => exact meas_less to2 to' HME.out
      · have i1 : ¬ (fr : Int) < (to' : Int) := by omega
        have HE : Hid (∀ q, q ∈ mk F G ↔ q ∈ D) := Hid.mk' (fun q => by rw [HLD.out.2.2 q, mk_none hlt]; simp)
        clear hlt
        go_wp2
        go_end0
        exact ⟨⟨_, rfl⟩, V', P', HLD.out.1.wq, fun q hq => by rw [HLD.out.1.pl q hq]; simp only [HE.out q], by first | exact HLD.out.1.ky | exact fun a b hab => HLD.out.1.ky (a, b) hab, HLD.out.1.bl⟩
end
end Go.Proofs.YtcagfjogfbddeaaDoor
