/- The document's Decode. -/
import Derived.Test.YtkgjmiadgfcbnaaGreatDoorCdY
import Derived.Test.YtkgjmiadgfcbnaaGreatDoorCdL
import Derived.Deep.Cut
import Derived.Deep.CutRange
namespace Go.Proofs.YtkgjmiadgfcbnaaGreatDoor
set_option linter.unusedVariables false
set_option linter.unusedSimpArgs false
open Go.RowKit Go.Shelf

/-- The rest of a module. -/
def Md (L : List UInt8) (s : Option (List UInt8)) (n : Nat) (fs : List Fun) : Prop :=
  (s = none ∧ modP L = none) ∨ ∃ R, s = some R ∧ modP L = (lst funP n R).bind fun x => if fs ++ x.1 ≠ [] ∧ x.2 = [] then some (fs ++ x.1) else none
theorem Md.step {L R : List UInt8} {s' : Option (List UInt8)} {n : Nat} {fs : List Fun} {f : Fun} (h : Md L (some R) (n + 1) fs) (hA : After funP (some R) f s') : Md L s' n (fs ++ [f]) := by
  rcases h with ⟨h, _⟩ | ⟨R', h, h2⟩
  · cases h
  · cases h
    rw [lst_snoc] at h2
    rcases hA with ⟨L', h1, e⟩ | ⟨h1, e⟩
    · refine .inr ⟨L', e, ?_⟩
      rw [h2, show funP R = some (f, L') from h1]
      simp only [Option.bind_some]
      cases lst funP n L' with
      | none => rfl
      | some y => simp
    · refine .inl ⟨e, ?_⟩
      rw [h2, show funP R = none from h1]
      rfl
/-- The functions that the document's Decode gathers. -/
structure Mg (w : World) (rb g bx bm : Nat) (els : List FV) (v : Value) (s : Option (List UInt8)) (wr : World) : Prop where
  mb : wr.heap[bm]? = some (.cells #[v] 26 (0, 0))
  xb : wr.heap[bx]? = some (.cells #[.slice none 0 0] 26 (0, 0))
  own : wr.ownsRow (bm + 1) 42 9 v els.length (els.flatMap FV.cs)
  rows : ∀ q ∈ els, q.rows wr (bm + 1)
  st : St wr rb g s
  fr : Fr rb w wr
theorem Mg.app {w wr w2 w3 w5 : World} {rb g bx bm : Nat} {els : List FV} {v v' : Value} {s s2 : Option (List UInt8)} (h : Mg w rb g bx bm els v s wr) (hF : Fr rb wr w2) (hS : St w2 rb g s2) (hb : Below w2.heap.size w2 w3) (q : FV) (hq : q.rows w2 (bm + 1)) (hg : w3.grownBy w5 v.ownBlock) (ho : w5.ownsRow (bm + 1) 42 9 v' (els.length + 1) (els.flatMap FV.cs ++ q.cs)) (h1 : rb < bm) (h2 : g < bm) (h3 : bx < bm) (h4 : w.heap.size ≤ bm) (h6 : bx ≠ rb) :
    Mg w rb g bx bm (els ++ [q]) v' s2 (w5.setCell ⟨bm, 0, none⟩ v') ∧ w5.heap[bm]? = some (.cells #[v] 26 (0, 0)) := by
  have hO2 := own_fr h.own hF (by omega)
  have hO3 := own_below hO2 hb
  have nb : ∀ k, k < bm + 1 → v.ownBlock ≠ some k := fun k hk => own_nb h.own hk
  have m2 := hF.same bm _ (by omega) h.mb
  have m3 := (hb.block bm (Array.getElem?_eq_some_iff.1 m2).1).trans m2
  have m5 := (hg.block bm (Array.getElem?_eq_some_iff.1 m3).1 (Ne.symm (nb bm (by omega)))).trans m3
  have y2 := hF.same bx _ h6 h.xb
  have y3 := (hb.block bx (Array.getElem?_eq_some_iff.1 y2).1).trans y2
  have y5 := (hg.block bx (Array.getElem?_eq_some_iff.1 y3).1 (Ne.symm (nb bx (by omega)))).trans y3
  refine ⟨⟨(set_blk _ m5).trans rfl, (Below.heap_setCell _ _ _ _ (show bx ≠ bm by omega)).trans y5, ?_, ?_, ?_, ?_⟩, m5⟩
  · refine own_setNew ?_ (by omega) _
    rw [List.length_append, List.flatMap_append]
    simpa using ho
  · intro p hp
    refine Rows.setNew ?_ (show bm < bm + 1 by omega) _
    rcases List.mem_append.1 hp with h7 | h7
    · exact (((h.rows p h7).fr hF (by omega)).below hb).apart hO3 hg
    · rw [List.mem_singleton.1 h7]
      exact (Rows.below hq hb).apart hO3 hg
  · exact ((hS.below hb).grown hg (nb rb (by omega)) (nb g (by omega))).setNew _ (by omega) (by omega)
  · exact (((h.fr.trans hF).trans (Fr.of_below hb)).grown hg (fun k hk => by
      have := own_ge h.own k hk
      omega)).setNew h4 _
set_option maxHeartbeats 4000000 in
set_option maxRecDepth 100000 in
theorem rdecode_any {a : Option Addr} {c : Nat} {L : List UInt8} (w : World) (h : Bv w a c L) (hL : L.length ≤ 5000) :
    Calls Tryz.prog 6 #[.slice a L.length c] w fun e w' => Dec L w e w' := by
  obtain ⟨W1, hW1⟩ : ∃ W1, w.alloc (.cells #[.slice none 0 0] 26) = W1 := ⟨_, rfl⟩
  have b1 : Below w.heap.size w W1 := by rw [← hW1]; exact lay_below
  have x1 : W1.heap[w.heap.size]? = some (.cells #[.slice none 0 0] 26 (0, 0)) := by rw [← hW1]; exact box_new
  have s1 : W1.heap.size = w.heap.size + 1 := by rw [← hW1]; simp
  have i0 : ¬ (4194304 : Int) < (L.length : Int) := by omega
  have HB1 := Hid.mk' b1
  have HX1 := Hid.mk' x1
  have x10 := (cell_row _ w.heap.size 0 _ _ x1).trans rfl
  have x1f := thaw_row _ _ _ _ x1
  obtain ⟨bx, hbx⟩ : ∃ bx, w.heap.size = bx := ⟨_, rfl⟩
  rw [hbx] at s1 HX1
  simp only [hbx] at x10 x1f
  have HBX := Hid.mk' hbx
  by_cases h4 : 4 ≤ L.length
  · obtain ⟨g, o, rfl, hb, hg⟩ : ∃ g o, a = some ⟨g, o, none⟩ ∧ Bs w g o L ∧ g < w.heap.size := by
      rcases h.bs with q | ⟨g, o, q1, q2, q3⟩
      · rw [q] at h4; simp at h4
      · exact ⟨g, o, q1, q2, q3⟩
    have i4 : ¬ (L.length : Int) < 4 := by omega
    have i5 : (4 : Int) ≤ (L.length : Int) := by omega
    have i6 : (4 : Int) ≤ (c : Int) := by have := h.le; omega
    have hb1 : Bs W1 g o L := hb.fr (Fr.of_below (rb := w.heap.size) b1) (by omega)
    have hcv : (convert 22 9 (.slice (some ⟨g, o, none⟩) 4 c)).run Tryz.prog W1 = .ok (.string (Sb (L.take 4))) W1 := by
      have hb' : Bs W1 g o (L.take 4) := fun j hj => by
        have hj' : j < L.length := by simp at hj; omega
        have := hb1 j hj'
        simp only [List.getElem_take]
        exact this
      have := conv_bs (c := c) hb' 9 Tryz.underlying9
      rw [List.length_take, Nat.min_eq_left h4] at this
      exact this
    have HMP : Hid (modP L = if L.take 4 = magic then (lstP funP (L.drop 4)).bind fun x => if x.1 ≠ [] ∧ x.2 = [] then some x.1 else none else none) := Hid.mk' rfl
    obtain ⟨l4, hl4⟩ : ∃ l4, L.take 4 = l4 := ⟨_, rfl⟩
    rw [hl4] at hcv HMP
    obtain ⟨s4, hs4⟩ : ∃ s4, Sb l4 = s4 := ⟨_, rfl⟩
    rw [hs4] at hcv
    have HS4 := Hid.mk' hs4
    have HQ : Hid ((s4.toList == [76, 78, 84, 49]) = decide (l4 = magic)) := Hid.mk' (by
      rw [ByteArray.toList_eq, ← HS4.out, Sb_list]
      rw [Bool.eq_iff_iff, beq_iff_eq, decide_eq_true_iff]
      exact Iff.rfl)
    have HBS := Hid.mk' hb1
    have HV := Hid.mk' h
    have HGL : Hid (g < bx) := Hid.mk' (by omega)
    clear hs4 hl4 b1 x1 hb hb1 hg h
    by_cases hm : l4 = magic
    · have hq := HQ.out
      rw [decide_eq_true hm] at hq
      have HMQ : Hid (modP L = (lstP funP (L.drop 4)).bind fun x => if x.1 ≠ [] ∧ x.2 = [] then some x.1 else none) := Hid.mk' (by rw [HMP.out, if_pos hm])
      have hS0 : ∀ a' c', (c = 4 ∧ a' = (⟨g, o, none⟩ : Addr) ∧ c' = 0) ∨ (¬ c = 4 ∧ a' = ⟨g, o + 4, none⟩ ∧ c' = c - 4) → ∃ W2, W1.alloc (.cells #[.slice (some a') (L.length - 4) c', .bool true] 50) = W2 ∧ St W2 (bx + 1) g (some (L.drop 4)) ∧ Below W1.heap.size W1 W2 ∧ W2.heap.size = bx + 2 := fun a' c' q => by
        refine ⟨_, rfl, ⟨⟨some a', L.length - 4, c', ?_, fun L' e => ?_⟩, by have := HGL.out; omega, by have := HGL.out; simp; omega⟩, lay_below, by simp; omega⟩
        · have := box_new (w := W1) (c := #[.slice (some a') (L.length - 4) c', .bool true]) (t := 50)
          rw [s1] at this
          exact this
        · cases e
          have hvl := HV.out.le
          have hvc := HV.out.cle
          have hBF := HBS.out.fr (Fr.of_below (rb := W1.heap.size) (lay_below (w := W1) (o := .cells #[.slice (some a') (L.length - 4) c', .bool true] 50))) (by have := HGL.out; omega)
          refine ⟨by simp, ?_⟩
          rcases q with ⟨rfl, rfl, rfl⟩ | ⟨q1, rfl, rfl⟩
          · have e0 : L.drop 4 = [] := by simp; omega
            rw [e0]
            exact ⟨o, rfl, fun j hj => absurd hj (by simp), by simp, by omega⟩
          · exact ⟨o + 4, rfl, hBF.drop 4, by simp; omega, by omega⟩
      have HS0 := Hid.mk' hS0
      clear hS0 HQ HMP hm
      obtain ⟨iF, hiF, hF0, hF1, hF2⟩ := info_parts infoF
      have HCF : Hid (∀ s' W, St W (bx + 1) g s' → Few s' → Calls Tryz.prog 14 #[.pointer (some ⟨bx + 1, 0, none⟩)] W fun e w' => ∃ f a1 n1 c1 a2 n2 c2 a3 n3 c3 a4 n4 c4 s'', e = .returned (.agg #[.string f.name, .int .i64 f.params, .bool f.rest, .bool f.arrow, .int .i64 f.regs, .slice a1 n1 c1, .slice a2 n2 c2, .slice a3 n3 c3, .slice a4 n4 c4]) ∧ Rows w' (W.heap.size + 1) f (.slice a1 n1 c1) (.slice a2 n2 c2) (.slice a3 n3 c3) (.slice a4 n4 c4) ∧ After funP s' f s'' ∧ St w' (bx + 1) g s'' ∧ Fr (bx + 1) W w') := Hid.mk' (fun s' W hR hW => (rfn_any W hR hW).mono (by
        rintro e w' ⟨f, v, s'', rfl, ⟨x, y, z, u, rfl, hr⟩, h1, h2, h3⟩
        obtain ⟨a1, c1, rfl, _⟩ := own_slice' hr.c
        obtain ⟨a2, c2, rfl, _⟩ := own_slice' hr.i
        obtain ⟨a3, c3, rfl, _⟩ := own_slice' hr.t
        obtain ⟨a4, c4, rfl, _⟩ := own_slice' hr.p
        exact ⟨f, a1, _, c1, a2, _, c2, a3, _, c3, a4, _, c4, s'', rfl, hr, h1, h2, h3⟩))
      have HL0 : Hid (Few (some (L.drop 4))) := Hid.mk' (fun R e => by cases e; simp; omega)
      go_enter Tryz.func6, Tryz.ntmps6
      go_upto_region 5 with fail
      go_cut [4] from 7 (fun v4 wc => v4 = .pointer (some ⟨bx + 1, 0, none⟩) ∧ Hid (St wc (bx + 1) g (some (L.drop 4))) ∧ Hid (wc.heap[bx]? = some (.cells #[.slice none 0 0] 26 (0, 0))) ∧ Hid (wc.heap.size = bx + 2) ∧ Hid (Below bx w wc))
      case first =>
        have HFIN : Hid (∀ a' c', (c = 4 ∧ a' = (⟨g, o, none⟩ : Addr) ∧ c' = 0) ∨ (¬ c = 4 ∧ a' = ⟨g, o + 4, none⟩ ∧ c' = c - 4) → Hid (St (W1.alloc (.cells #[.slice (some a') (L.length - 4) c', .bool true] 50)) (bx + 1) g (some (L.drop 4))) ∧ Hid ((W1.alloc (.cells #[.slice (some a') (L.length - 4) c', .bool true] 50)).heap[bx]? = some (.cells #[.slice none 0 0] 26 (0, 0))) ∧ Hid ((W1.alloc (.cells #[.slice (some a') (L.length - 4) c', .bool true] 50)).heap.size = bx + 2) ∧ Hid (Below bx w (W1.alloc (.cells #[.slice (some a') (L.length - 4) c', .bool true] 50)))) := Hid.mk' (fun a' c' q => by
          obtain ⟨W2, e, h1, h2, h3⟩ := HS0.out a' c' q
          rw [e]
          exact ⟨Hid.mk' h1, Hid.mk' ((h2.block bx (by omega)).trans HX1.out), Hid.mk' h3, Hid.mk' ((by rw [← HBX.out]; exact HB1.out : Below bx w W1).trans (h2.mono (by omega)))⟩)
        by_cases hc4 : c = 4
        · subst hc4
          go_wp2
          go_meet
          case rel => exact ⟨rfl, HFIN.out _ _ (.inl ⟨by trivial, rfl, rfl⟩)⟩
        · have hc5 : ¬ (c : Int) = 4 := by omega
          go_wp2
          go_meet
          case rel => exact ⟨rfl, HFIN.out _ _ (.inr ⟨by first | exact hc4 | trivial, rfl, rfl⟩)⟩
      obtain ⟨rfl, HSt, HXb, HSz, HBw⟩ := hcut
      obtain ⟨W3, hW3⟩ : ∃ W3, wc.alloc (.cells #[.slice none 0 0] 26) = W3 := ⟨_, rfl⟩
      have b3 : Below wc.heap.size wc W3 := by rw [← hW3]; exact lay_below
      have x3 : W3.heap[wc.heap.size]? = some (.cells #[.slice none 0 0] 26 (0, 0)) := by rw [← hW3]; exact box_new
      rw [HSz.out] at x3
      have hsz := HSz.out
      have HN7 := Hid.mk' (rnum_any W3 (HSt.out.below b3))
      have HMS : Hid (Mg wc (bx + 1) g bx (bx + 2) [] (.slice none 0 0) (some (L.drop 4)) W3) := Hid.mk' ⟨x3, (b3.block bx (by omega)).trans HXb.out, World.ownsRow_nil _ _ _ _, (fun q hq => by cases hq), HSt.out.below b3, Fr.of_below b3⟩
      have HGL2 := Hid.mk' (show g < bx + 2 by have := HGL.out; omega)
      clear b3 x3 s1 x10 x1f hcv hq i0 i4 i5 i6 HS0 HBS HV HX1
      go_wp2_with fail
      refine HN7.out.mono ?_
      rintro e w7 ⟨n7, v7, s7, rfl, rfl, hA, hS, hF⟩
      have HM7 : Hid (Mg wc (bx + 1) g bx (bx + 2) [] (.slice none 0 0) s7 w7) := Hid.mk' ⟨hF.same _ _ (by omega) HMS.out.mb, hF.same _ _ (by omega) HMS.out.xb, World.ownsRow_nil _ _ _ _, (fun q hq => by cases hq), hS, HMS.out.fr.trans hF⟩
      have HD7 : Hid (Md L s7 n7 []) := Hid.mk' (by
        rcases hA with ⟨L', h1, e⟩ | ⟨h1, e⟩
        · refine .inr ⟨L', e, ?_⟩
          rw [HMQ.out]
          unfold lstP
          rw [show numP (L.drop 4) = some (n7, L') from h1]
          rfl
        · refine .inl ⟨e, ?_⟩
          rw [HMQ.out]
          unfold lstP
          rw [show numP (L.drop 4) = none from h1]
          rfl)
      have HW7 := Hid.mk' (HL0.out.step eats_num hA)
      have HB7 := Hid.mk' (Few.num hA)
      clear hA hS hF hW3
      go_wp2
      go_loopw [6] (fun nv wr => ∃ (n : Nat) (els : List FV) (v : Value) (s' : Option (List UInt8)), nv = .int .i64 (n : Int) ∧ Hid (Mg wc (bx + 1) g bx (bx + 2) els v s' wr) ∧ Hid (Md L s' n (els.map FV.f)) ∧ Hid (∀ R, s' = some R → els.length + R.length ≤ 5000 ∧ n < 9223372036854775808)) (fun nv wr => (intOf nv).toNat)
      case atStart => exact ⟨n7, [], .slice none 0 0, s7, rfl, HM7, HD7, Hid.mk' (fun R e => ⟨by have := HW7.out R e; simpa using this, HB7.out R e⟩)⟩
      case round =>
        obtain ⟨n, els, v, s', rfl, HG, HT, HW⟩ := hrel
        obtain ⟨d1, df⟩ := HG.out.st.flag
        have x0 := (cell_row _ bx 0 _ _ HG.out.xb).trans rfl
        have xf := thaw_row _ _ _ _ HG.out.xb
        have HBB : Hid (Below bx w wr) := Hid.mk' (HBw.out.trans (HG.out.fr.below (by omega) (by omega)))
        cases s' with
        | none =>
          simp only [Option.isSome_none] at d1
          have HNO : Hid (modP L = none) := Hid.mk' (by
            rcases HT.out with h | ⟨R, h, _⟩
            · exact h.2
            · cases h)
          go_wp2
          refine bodyPost_ret (v := .tuple #[.agg #[.slice none 0 0], .int .i64 110]) ?_ rfl (.inr ⟨HNO.out, rfl, ?_⟩)
          · rw [results_cell_tmp rfl]
            go_simp
          · rw [HBX.out]
            exact HBB.out.setCell (p := ⟨bx, 0, none⟩) (Nat.le_refl _) _
        | some R =>
          simp only [Option.isSome_some] at d1
          by_cases hn : n = 0
          · subst hn
            obtain ⟨o9, c9, r0, r1, rf, _, _, _⟩ := HG.out.st.cells
            have HMD : Hid (modP L = if els.map FV.f ≠ [] ∧ R = [] then some (els.map FV.f) else none) := Hid.mk' (by
              rcases HT.out with ⟨h, _⟩ | ⟨R', h, h2⟩
              · cases h
              · cases h
                rw [h2]
                simp [lst])
            have m0 := (cell_row _ (bx + 2) 0 _ _ HG.out.mb).trans rfl
            obtain ⟨av, cv, hv, _⟩ := own_slice' HG.out.own
            subst hv
            have HIF : Hid (isFuns (bx + 3) wr (els.map FV.f) (.slice av els.length cv)) := Hid.mk' ⟨els, rfl, HG.out.own, HG.out.rows⟩
            obtain ⟨ne, hne⟩ : ∃ ne, els.length = ne := ⟨_, rfl⟩
            obtain ⟨nr, hnr⟩ : ∃ nr, R.length = nr := ⟨_, rfl⟩
            rw [hne] at HIF
            simp only [List.getElem?_toArray, List.getElem?_cons_zero, hne] at m0
            rw [hnr] at r0
            have HNE2 := Hid.mk' hne
            have HNR := Hid.mk' hnr
            clear hne hnr
            by_cases hr0 : nr = 0
            · subst hr0
              by_cases he0 : ne = 0
              · subst he0
                have HNO : Hid (modP L = none) := Hid.mk' (by
                  rw [HMD.out, if_neg]
                  intro q
                  apply q.1
                  rw [List.eq_nil_of_length_eq_zero HNE2.out]
                  rfl)
                go_wp2
                refine bodyPost_ret (v := .tuple #[.agg #[.slice none 0 0], .int .i64 110]) ?_ rfl (.inr ⟨HNO.out, rfl, ?_⟩)
                · rw [results_cell_tmp rfl]
                  go_simp
                · rw [HBX.out]
                  exact HBB.out.setCell (p := ⟨bx, 0, none⟩) (Nat.le_refl _) _
              · have he1 : ((ne : Int) == 0) = false := by simp; omega
                have HYES : Hid (modP L = some (els.map FV.f)) := Hid.mk' (by
                  rw [HMD.out, if_pos]
                  refine ⟨fun q => he0 ?_, List.eq_nil_of_length_eq_zero HNR.out⟩
                  rw [← HNE2.out]
                  have := congrArg List.length q
                  simpa using this)
                go_wp2
                refine bodyPost_ret (v := .tuple #[.agg #[.slice av ne cv], .int .i64 0]) ?_ rfl (.inl ⟨els.map FV.f, _, HYES.out, rfl, ?_, ?_⟩)
                · rw [results_cell_tmp rfl]
                  go_simp
                · rw [HBX.out]
                  exact (isFuns.setNew HIF.out (show bx < bx + 3 by omega) _).mono (by omega)
                · rw [HBX.out]
                  exact HBB.out.setCell (p := ⟨bx, 0, none⟩) (Nat.le_refl _) _
            · have hr1 : (0 : Int) < (nr : Int) := by omega
              have HNO : Hid (modP L = none) := Hid.mk' (by
                rw [HMD.out, if_neg]
                intro q
                apply hr0
                rw [← HNR.out, q.2]
                rfl)
              go_wp2
              refine bodyPost_ret (v := .tuple #[.agg #[.slice none 0 0], .int .i64 110]) ?_ rfl (.inr ⟨HNO.out, rfl, ?_⟩)
              · rw [results_cell_tmp rfl]
                go_simp
              · rw [HBX.out]
                exact HBB.out.setCell (p := ⟨bx, 0, none⟩) (Nat.le_refl _) _
          · obtain ⟨m, hm⟩ : ∃ m, n = m + 1 := ⟨n - 1, by omega⟩
            subst hm
            have hn63 : m + 1 < 9223372036854775808 := (HW.out R rfl).2
            have i0 : (0 : Int) < (m : Int) + 1 := by omega
            have hfew := (HW.out R rfl).1
            have HFW : Hid (Few (some R)) := Hid.mk' (fun R' e => by cases e; omega)
            have m0 := (cell_row _ (bx + 2) 0 _ _ HG.out.mb).trans rfl
            obtain ⟨av, cv, hv, _⟩ := own_slice' HG.out.own
            subst hv
            have HSD := Hid.mk' (HG.out.st.below ((Below.refl _ _).drew))
            obtain ⟨nc, hnc⟩ : ∃ nc, els.length = nc := ⟨_, rfl⟩
            have HOW := Hid.mk' HG.out.own
            simp only [List.getElem?_toArray, List.getElem?_cons_zero] at m0
            simp only [hnc] at HG HOW m0 hfew
            have HNC := Hid.mk' hnc
            have hbr : bx + 2 ≠ bx + 1 := by omega
            have HNB := Hid.mk' (own_nb HOW.out (show bx + 2 < bx + 3 by omega))
            have HSZ := Hid.mk' (show bx + 3 ≤ wr.heap.size from (Array.getElem?_eq_some_iff.1 HG.out.mb).1)
            clear hnc hn x0 xf HBB
            go_wp2_with fail
            go_region_law (first
              | (refine stepCall rfl 14 (.tmp 39) 48 rfl (enters_of Tryz.func14 (by kernel_rfl) rfl) _ rfl (HCF.out _ _ HSD.out HFW.out) ?_; rintro e w7 ⟨f, a1, n1, c1, a2, n2, c2, a3, n3, c3, a4, n4, c4, s7, rfl, hR7, hA7, hS7, hF7⟩; refine ⟨_, rfl, ?_⟩; have e5 := (drewFr hF7).cell hbr m0; have l5 : bx + 2 < w7.heap.size := World.block_lt_of_cell? w7 _ e5)
              | (refine step_append_own rfl (.tmp 38) (.tmp 41) 24 rfl (bx + 3) 42 iF (.agg #[.string ⟨#[]⟩, .int .i64 0, .bool false, .bool false, .int .i64 0, .slice none 0 0, .slice none 0 0, .slice none 0 0, .slice none 0 0]) 9 136 Tryz.underlying24 hiF hF0 hF1 hF2 rfl (by decide) _ _ _ rfl (World.ownsRow.alloc (own_fr HOW.out (drewFr hF7) (by omega)) _) _ 1 1 [.string f.name, .int .i64 f.params, .bool f.rest, .bool f.arrow, .int .i64 f.regs, .slice a1 n1 c1, .slice a2 n2 c2, .slice a3 n3 c3, .slice a4 n4 c4] rfl (by rfl) row_cells (by simp [Value.oneCell']) (by unfold maxLen; omega) (by omega) (by simp; have := HSZ.out; have := (drewFr hF7).size; omega) ?_; intro v9 w9 o9 g9; obtain ⟨a9, c9, hv9, _⟩ := own_slice' o9; subst hv9; have Q9 := HG.out.app (drewFr hF7) hS7 lay_below ⟨f, .slice a1 n1 c1, .slice a2 n2 c2, .slice a3 n3 c3, .slice a4 n4 c4⟩ (Rows.mono hR7 (by have := HSZ.out; simp only [World.drew] at *; omega)) g9 (by rw [HNC.out]; exact o9) (by omega) HGL2.out (by omega) (by omega) (by omega); have z9 : w9.cell? ⟨bx + 2, 0, none⟩ = some (.slice av nc cv) := (cell_row _ (bx + 2) 0 _ _ Q9.2).trans rfl; have y9 := thaw_row _ _ _ _ Q9.2))
            all_goals
              have HG9 := Hid.mk' Q9.1
              have HT9 : Hid (Md L s7 m ((els ++ [(⟨f, .slice a1 n1 c1, .slice a2 n2 c2, .slice a3 n3 c3, .slice a4 n4 c4⟩ : FV)]).map FV.f)) := Hid.mk' (by rw [List.map_append]; exact HT.out.step hA7)
              have HW9 := Hid.mk' (after_few (m := m) hA7 eats_fun hfew hn63)
              clear hA7 hS7 hF7 g9 o9 Q9 z9 y9 e5 l5 HSD HOW m0 d1 df hR7
              obtain ⟨Y9, hY9⟩ : ∃ Y, w9.setCell ⟨bx + 2, 0, none⟩ (.slice a9 (nc + 1) c9) = Y := ⟨_, rfl⟩
              rw [hY9] at HG9 ⊢
              clear hY9
              go_wp2_with fail
              refine ⟨⟨m, els ++ [⟨f, .slice a1 n1 c1, .slice a2 n2 c2, .slice a3 n3 c3, .slice a4 n4 c4⟩], .slice a9 (nc + 1) c9, s7, rfl, ?_, ?_, ?_⟩, ?_⟩
              · exact HG9
              · exact HT9
              · rw [List.length_append, List.length_singleton, HNC.out]
                exact HW9
              · exact down_m m
    · have hq := HQ.out
      rw [decide_eq_false hm] at hq
      have HNO : Hid (modP L = none) := Hid.mk' (by rw [HMP.out, if_neg hm])
      clear HQ HMP hm
      go_enter Tryz.func6, Tryz.ntmps6
      go_wp2
      refine bodyPost_ret (v := .tuple #[.agg #[.slice none 0 0], .int .i64 110]) ?_ rfl (.inr ⟨HNO.out, rfl, ?_⟩)
      · rw [results_cell_tmp rfl]
        go_simp
      · rw [HBX.out]
        exact (by rw [← HBX.out]; exact HB1.out : Below bx w W1).setCell (p := ⟨bx, 0, none⟩) (Nat.le_refl _) _
  · have i4 : (L.length : Int) < 4 := by omega
    have HNO : Hid (modP L = none) := Hid.mk' (by
      unfold modP
      rw [if_neg]
      intro q
      have := congrArg List.length q
      simp [magic] at this
      omega)
    clear b1 x1 h
    go_enter Tryz.func6, Tryz.ntmps6
    go_wp2
    refine bodyPost_ret (v := .tuple #[.agg #[.slice none 0 0], .int .i64 110]) ?_ rfl (.inr ⟨HNO.out, rfl, ?_⟩)
    · rw [results_cell_tmp rfl]
      go_simp
    · rw [HBX.out]
      exact (by rw [← HBX.out]; exact HB1.out : Below bx w W1).setCell (p := ⟨bx, 0, none⟩) (Nat.le_refl _) _
end Go.Proofs.YtkgjmiadgfcbnaaGreatDoor
