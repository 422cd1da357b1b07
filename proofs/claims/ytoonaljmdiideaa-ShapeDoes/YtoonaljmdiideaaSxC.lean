/- The two sides' Add and Change beside each other. -/
import Derived.Test.YtoonaljmdiideaaSxB
namespace Go.Proofs.Ytoonaljmdiideaa
set_option linter.unusedVariables false
set_option linter.unusedSimpArgs false
open Go.RowKit Go.Maps Go.ChangeShapes
section
variable {B g rb : Nat} {vL vW : Value} {sv : List Value} {S : List (List SlR)} {W : List WyR} {D : List (Nat × Obj)} {w w' : World}
set_option maxHeartbeats 4000000 in
set_option maxRecDepth 100000 in
/-- What the document's calls are refused alike: a shape that there is not (140), flags that may not be (1). -/
theorem rrefused (i : Int) (s : ByteArray) (z f : Int) (w : World) (h : R1 B rb vL vW sv S W w) (er : Int) (hr : ((i < 0 ∨ (sv.length : Int) ≤ i) ∧ er = 140) ∨ ((0 ≤ i ∧ i < (sv.length : Int)) ∧ (f < 0 ∨ 15 < f) ∧ er = 1)) :
    (Calls Try.prog 12 #[.pointer (some ⟨rb, 0, none⟩), .int .i64 i, .agg #[.string s, .int .i64 z], .int .i64 f] w fun e w' => e = .returned (.tuple #[.int .i64 0, .int .i64 er]) ∧ Below w.heap.size w w') ∧
    (Calls Try.prog 10 #[.pointer (some ⟨rb, 0, none⟩), .int .i64 i, .agg #[.string s, .int .i64 z], .int .i64 f] w fun e w' => e = .returned (.tuple #[.int .i64 0, .int .i64 er]) ∧ Below w.heap.size w w') := by
  have b1 : Below w.heap.size w (w.alloc (.cells #[.string s, .int .i64 z] 31)) := sr_lay
  obtain ⟨c0, _, _, _⟩ := (h.below b1).cells
  obtain ⟨xa, xc, hvL, _⟩ := own_slice' h.l
  rw [hvL] at c0
  obtain ⟨n, hnn⟩ : ∃ n, sv.length = n := ⟨_, rfl⟩
  rw [hnn] at c0 hr
  have HB := Hid.mk' b1
  clear h b1 hvL hnn
  rcases hr with ⟨hi, rfl⟩ | ⟨⟨i0, i1⟩, hf, rfl⟩
  · by_cases h0 : i < 0
    · have e0 : decide (i < 0) = true := decide_eq_true h0
      clear hi h0
      constructor
      · go_enter Try.func12, Try.ntmps12
        go_wp2
        go_ret2
        exact ⟨rfl, HB.out⟩
      · go_enter Try.func10, Try.ntmps10
        go_wp2
        go_ret2
        exact ⟨rfl, HB.out⟩
    · have e0 : decide (i < 0) = false := decide_eq_false h0
      have e1 : decide (i ≥ (n : Int)) = true := decide_eq_true (by omega)
      clear hi h0
      constructor
      · go_enter Try.func12, Try.ntmps12
        go_wp2
        go_ret2
        exact ⟨rfl, HB.out⟩
      · go_enter Try.func10, Try.ntmps10
        go_wp2
        go_ret2
        exact ⟨rfl, HB.out⟩
  · have e0 : decide (i < 0) = false := decide_eq_false (by omega)
    have e1 : decide (i ≥ (n : Int)) = false := decide_eq_false (by omega)
    clear i0 i1
    by_cases h0 : f < 0
    · have e2 : decide (f < 0) = true := decide_eq_true h0
      clear hf h0
      constructor
      · go_enter Try.func12, Try.ntmps12
        go_wp2
        go_ret2
        exact ⟨rfl, HB.out⟩
      · go_enter Try.func10, Try.ntmps10
        go_wp2
        go_ret2
        exact ⟨rfl, HB.out⟩
    · have e2 : decide (f < 0) = false := decide_eq_false h0
      have e3 : decide (f > 15) = true := decide_eq_true (by omega)
      clear hf h0
      constructor
      · go_enter Try.func12, Try.ntmps12
        go_wp2
        go_ret2
        exact ⟨rfl, HB.out⟩
      · go_enter Try.func10, Try.ntmps10
        go_wp2
        go_ret2
        exact ⟨rfl, HB.out⟩
/-- Both sides behind one more shape. -/
theorem two_lay {mn mw : Nat} {vk vs lv : Value} {ks : List Kb} {LS : List Ln} {fs : List (List Int)} {fv : List (Nat × Value)} {ws : List ((Int × Int × Int) × Int)} {Dn Dw : DataW Unit} {x : WyR} {sl : List SlR} {E : List (Nat × Obj)} {W1 w1 w2 : World}
    (hT : T2 (D ++ E) B g mn mw vk vs ks LS fs fv ws.length Dn Dw W1) (hn : NumOk Dn ks) (hw : WayOk Dw ws) (hR : R1 B rb vL vW sv S W W1) (hE : ∀ b ∈ rBs rb vL vW sv, ∃ ob, (b, ob) ∈ E) (hF : ∀ p ∈ D, Fr p.2) (b1 : Below W1.heap.size W1 w1) (hlv : ∀ b, lv.ownBlock = some b → W1.heap.size ≤ b) (hL : LayW B rb vL vW sv S W x lv sl w1 w2) (hS : Sim ks LS fs fv ws (S ++ [sl]) (W ++ [x])) (hlen : sv.length + 1 = fv.length) : Two B g rb (S ++ [sl]) D w2 := by
  obtain ⟨vL', vW', hR', hs, hb, l1, l2⟩ := hL
  have hS2 : Sv (rX rb vL vW) W1 w2 := by
    have := (Sv.below b1).trans hs
    simpa using this
  have hin : ∀ b ∈ rX rb vL vW, b ∈ rBs rb vL vW sv := fun b hb => List.mem_append_left _ hb
  have hD : ∀ p ∈ D, W1.heap[p.1]? = some p.2 ∧ p.1 ∉ rX rb vL vW := fun p hp => by
    have hh := hT.c p (List.mem_append_left _ hp)
    have hf := hF p hp
    refine ⟨hh, fun hr => ?_⟩
    rcases rBs_mem (hin _ hr) with e | e | e | ⟨v, hv, e⟩
    · rw [e, hR.row] at hh
      exact (hf _ _).2.2.2.2 (Option.some.inj hh).symm
    · obtain ⟨c, fz, h1⟩ := sh_kind hR.l _ e
      rw [hh] at h1
      exact (hf _ _).2.2.1 (Option.some.inj h1)
    · obtain ⟨c, fz, h1⟩ := sh_kind hR.m _ e
      rw [hh] at h1
      exact (hf _ _).2.2.2.1 (Option.some.inj h1)
    · obtain ⟨i, hi, rfl⟩ := List.getElem_of_mem hv
      obtain ⟨c, fz, h1⟩ := sh_kind (hR.s i hi) _ e
      rw [hh] at h1
      exact (hf _ _).2.1 (Option.some.inj h1)
  refine ⟨⟨mn, mw, vk, vs, ks, LS, fs, fv, ws, Dn, Dw, vL', vW', sv ++ [lv], W ++ [x], ofB w2 (rBs rb vL' vW' (sv ++ [lv])), hT.turn hS2 (fun b hb => ?_) (fun p hp => ?_), hn, hw, hR', by rw [List.length_append]; exact hlen, hS, fun b hb => ?_⟩, hF⟩
  · obtain ⟨ob, hob⟩ := hE b (hin b hb)
    refine ⟨ob, List.mem_append_right _ hob, fun c fz e => ?_⟩
    have hh := hT.c _ (List.mem_append_right _ hob)
    dsimp only at hh
    rw [e] at hh
    have hb' : b = rb ∨ vL.ownBlock = some b ∨ vW.ownBlock = some b := by
      unfold rX at hb
      simpa using hb
    rcases hb' with rfl | e | e
    · rw [hR.row] at hh; cases hh
    · obtain ⟨c, fz, h1⟩ := sh_kind hR.l _ e; rw [hh] at h1; cases h1
    · obtain ⟨c, fz, h1⟩ := sh_kind hR.m _ e; rw [hh] at h1; cases h1
  · rcases List.mem_append.1 hp with hp | hp
    · exact ⟨hS2.all _ _ (hD p hp).2 (hD p hp).1, .inl ⟨_, List.mem_append_left _ hp⟩⟩
    · obtain ⟨a, b⟩ := ofB_mem.1 hp
      refine ⟨b, ?_⟩
      have old : p.1 ∈ rBs rb vL vW sv → (∃ ob, (p.1, ob) ∈ D ++ E) ∨ W1.heap.size ≤ p.1 := fun h => by
        obtain ⟨ob, hob⟩ := hE _ h
        exact .inl ⟨ob, List.mem_append_right _ hob⟩
      rcases rBs_mem a with e | e | e | ⟨v, hv, e⟩
      · exact old (rBs_in (.inl e))
      · rcases l1 with l1 | ⟨b', l1, hge⟩
        · exact old (rBs_in (.inr (.inl (l1 ▸ e))))
        · rw [l1] at e; cases e; exact .inr (Nat.le_trans b1.size hge)
      · rcases l2 with l2 | ⟨b', l2, hge⟩
        · exact old (rBs_in (.inr (.inr (.inl (l2 ▸ e)))))
        · rw [l2] at e; cases e; exact .inr (Nat.le_trans b1.size hge)
      · rcases List.mem_append.1 hv with hv | hv
        · exact old (rBs_in (.inr (.inr (.inr ⟨v, hv, e⟩))))
        · rw [List.mem_singleton.1 hv] at e
          exact .inr (hlv _ e)
  · obtain ⟨ob, ho⟩ := hR'.blocks b hb
    exact ⟨ob, ofB_mem.2 ⟨hb, ho⟩⟩
/-- What the document's call comes to behind the program's. -/
def Then (B g rb : Nat) (S : List (List SlR)) (D : List (Nat × Obj)) (F : Nat) (i : Int) (s : ByteArray) (z f : Int) (w : World) (e : Ending) (w1 : World) : Prop :=
  ∃ x er : Int, e = .returned (.tuple #[.int .i64 x, .int .i64 er]) ∧ Below B w w1 ∧ (∀ p ∈ D, w1.heap[p.1]? = some p.2) ∧ ∀ W : World, Below w1.heap.size w1 W → Calls Try.prog F #[.pointer (some ⟨rb, 0, none⟩), .int .i64 i, .agg #[.string s, .int .i64 z], .int .i64 f] W fun e2 w2 => e2 = .returned (.tuple #[.int .i64 x, .int .i64 er]) ∧ Below B w1 w2 ∧ ∃ S', (S' = S ∨ ∃ sl, S' = S ++ [sl]) ∧ Two B g rb S' D w2
theorem two_add (i : Int) (s : ByteArray) (z f : Int) (w : World) (h : Two B g rb S D w) (hs : (s.size : Int) ≤ 140737488351232) (hz : (Lit.int .i64 (bareZ z)).wf = true) :
    Calls Try.prog 11 #[.pointer (some ⟨g, 0, none⟩), .int .i64 i, .agg #[.string s, .int .i64 z], .int .i64 f] w fun e w1 => Then B g rb S D 12 i s z f w e w1 := by
  have h0 := h
  have hBw := h.ge.2.2
  obtain ⟨⟨mn, mw, vk, vs, ks, LS, fs, fv, ws, Dn, Dw, vL, vW, sv, W, E, hT, h2, h3, hR, h5, h6, hE⟩, hF⟩ := h
  by_cases hbad : ∃ er : Int, ((i < 0 ∨ (fv.length : Int) ≤ i) ∧ er = 140) ∨ ((0 ≤ i ∧ i < (fv.length : Int)) ∧ (f < 0 ∨ 15 < f) ∧ er = 1)
  · obtain ⟨er, hbad⟩ := hbad
    refine ((t2_refused i s z f w hT er hbad).1).mono ?_
    rintro e w1 ⟨rfl, hb⟩
    have h1 := h0.below hb
    refine ⟨0, er, rfl, hb.mono hBw, h1.c, fun W' hW => ?_⟩
    refine ((rrefused i s z f W' ((hR.below hb).below hW) er (by rw [h5]; exact hbad)).1).mono ?_
    rintro e2 w2 ⟨rfl, hb2⟩
    exact ⟨rfl, (hW.trans (hb2.mono hW.size)).mono h1.ge.2.2, S, .inl rfl, (h1.below hW).below hb2⟩
  · have hi0 : 0 ≤ i ∧ i < (fv.length : Int) := by
      refine ⟨?_, ?_⟩
      · exact Decidable.byContradiction fun hc => hbad ⟨140, .inl ⟨.inl (by omega), rfl⟩⟩
      · exact Decidable.byContradiction fun hc => hbad ⟨140, .inl ⟨.inr (by omega), rfl⟩⟩
    have hf0 : 0 ≤ f ∧ f ≤ 15 := by
      refine ⟨?_, ?_⟩
      · exact Decidable.byContradiction fun hc => hbad ⟨1, .inr ⟨hi0, .inl (by omega), rfl⟩⟩
      · exact Decidable.byContradiction fun hc => hbad ⟨1, .inr ⟨hi0, .inr (by omega), rfl⟩⟩
    obtain ⟨n, rfl⟩ : ∃ n : Nat, i = (n : Int) := ⟨i.toNat, by omega⟩
    obtain ⟨f0, f1⟩ := hf0
    have hn : n < fv.length := by omega
    clear hbad hi0
    obtain ⟨k, ks', hk⟩ := ksW_ex ks (kbOf (s, z))
    have c1 := h6.c1
    have c3 := h6.c3
    have c4 := h6.c4
    have hkl := hk.at.2.2
    obtain ⟨q, hq, e1, ht⟩ := h6.at_ n hn
    obtain ⟨ix, im⟩ := h6.ix ht hk
    have hkw : Kwf (kbOf (s, z)) := ⟨by have := bareS_le s z hs; unfold maxLen; show (bareS s z).size ≤ _; omega, hz⟩
    refine (t2_add n k s z (bareS s z) (bareZ z) rfl rfl f ws w hT h2 h3 hs hz h6.kw hk hn f0 f1 h6.l1 c4 (by omega) (by omega) (by omega)).mono ?_
    rintro e w1 ⟨⟨q', hq', e1', hl, hA⟩, hb⟩
    obtain rfl : q = q' := hT.uniq q q' hq hq' (e1.symm.trans e1')
    have hdoc : (∀ p ∈ D ++ E, w1.heap[p.1]? = some p.2) → R1 B rb vL vW sv S W w1 ∧ ∀ W' : World, Below w1.heap.size w1 W' → Calls Try.prog 12 #[.pointer (some ⟨rb, 0, none⟩), .int .i64 (n : Nat), .agg #[.string s, .int .i64 z], .int .i64 f] W' fun e2 w2 => RAdd B rb vL vW sv S W n (kbOf (s, z)) s z f W' e2 w2 := fun hc => by
      have hR1 := hR.stand (w' := w1) (fun b hb => by
        obtain ⟨ob, hob⟩ := hE b hb
        rw [hT.c _ (List.mem_append_right _ hob), hc _ (List.mem_append_right _ hob)])
      exact ⟨hR1, fun W' hW => radd_in n s z f W' (hR1.below hW) (by omega) (by rw [h6.sl, h5]) h6.so h6.wo hs (by omega) f0 f1⟩
    have hBw1 : B ≤ w1.heap.size := Nat.le_trans hBw hb.size
    have hsame : ∀ (x er : Int), T2 (D ++ E) B g mn mw vk vs ks LS fs fv ws.length Dn Dw w1 → (∀ W' e2 w2, RAdd B rb vL vW sv S W n (kbOf (s, z)) s z f W' e2 w2 → e2 = .returned (.tuple #[.int .i64 x, .int .i64 er]) ∧ Below W'.heap.size W' w2) → Then B g rb S D 12 (n : Int) s z f w (.returned (.tuple #[.int .i64 x, .int .i64 er])) w1 := fun x er hT1 hr => by
      obtain ⟨hR1, hd⟩ := hdoc hT1.c
      have h1 : Two B g rb S D w1 := ⟨⟨mn, mw, vk, vs, ks, LS, fs, fv, ws, Dn, Dw, vL, vW, sv, W, E, hT1, h2, h3, hR1, h5, h6, hE⟩, hF⟩
      refine ⟨x, er, rfl, hb, h1.c, fun W' hW => ?_⟩
      refine (hd W' hW).mono ?_
      intro e2 w2 hr2
      obtain ⟨rfl, hb2⟩ := hr W' e2 w2 hr2
      exact ⟨rfl, (hW.trans (hb2.mono hW.size)).mono hBw1, S, .inl rfl, (h1.below hW).below hb2⟩
    have ht1 : (S.getD n []).length = (fs.getD n []).length := ht.1
    rcases hA with ⟨hin, rfl, hT1⟩ | ⟨hno, hm, rfl, hT1⟩ | ⟨hno, hm, hA⟩
    · refine hsame 0 141 hT1 (fun W' e2 w2 hr => ?_)
      rcases hr with ⟨_, rfl, hb2⟩ | ⟨hno, _⟩
      · exact ⟨rfl, hb2⟩
      · exact absurd rfl (hno _ (im.1 hin))
    · have hnk : kbOf (s, z) ∉ (S.getD n []).map SlR.kb := fun h => hno (im.2 h)
      refine hsame 0 2 hT1 (fun W' e2 w2 hr => ?_)
      rcases hr with ⟨⟨j, hj⟩, _⟩ | ⟨_, ⟨_, rfl, hb2⟩ | ⟨hlt, _⟩⟩
      · rw [ixB_no (k := kbOf (s, z)) (fun x hx e => hnk (by rw [← e]; exact hx))] at hj; omega
      · exact ⟨rfl, hb2⟩
      · omega
    · have hnk : kbOf (s, z) ∉ (S.getD n []).map SlR.kb := fun h => hno (im.2 h)
      have hhas : hasK S n (kbOf (s, z)) = false := hasK_no hnk
      rcases hA with ⟨to', hway, rfl, hT1⟩ | ⟨hnw, hfull, rfl, hT1⟩ | ⟨hnw, hcap, rfl, LS', lbx, vk', vs', Dn', Dw', v, hT1, hG, hn1, hw1⟩
      · have hold : wyF W n false (kbOf (s, z)) f = to' ∧ 0 ≤ to' := by
          rcases hk with ⟨hk1, _⟩ | ⟨hk1, _, _⟩
          · have := h6.wa n k _ f to' hway hk1
            rw [hhas] at this
            exact this
          · have := (h6.wl _ hway).2
            dsimp only at this
            omega
        refine hsame to' 0 hT1 (fun W' e2 w2 hr => ?_)
        rcases hr with ⟨⟨j, hj⟩, _⟩ | ⟨_, ⟨_, _, _⟩ | ⟨_, ⟨_, rfl, hb2⟩ | ⟨hneg, _⟩ | ⟨hneg, _⟩⟩⟩
        · rw [ixB_no (k := kbOf (s, z)) (fun x hx e => hnk (by rw [← e]; exact hx))] at hj; omega
        · omega
        · rw [hold.1]; exact ⟨rfl, hb2⟩
        · omega
        · omega
      · have hnone : wyF W n false (kbOf (s, z)) f = -1 := by
          rcases hk with ⟨hk1, _⟩ | ⟨hk1, hnk2, _⟩
          · have := h6.wn n k _ f hk1 hnw
            rw [hhas] at this
            exact this
          · exact wyF_no (fun x hx hy => hnk2 (by have := (h6.Wl x hx).2; rw [hy.2.2.2] at this; exact this))
        refine hsame 0 2 hT1 (fun W' e2 w2 hr => ?_)
        rcases hr with ⟨⟨j, hj⟩, _⟩ | ⟨_, ⟨_, rfl, hb2⟩ | ⟨_, ⟨hpos, _, _⟩ | ⟨_, _, rfl, hb2⟩ | ⟨_, hlt, _⟩⟩⟩
        · rw [ixB_no (k := kbOf (s, z)) (fun x hx e => hnk (by rw [← e]; exact hx))] at hj; omega
        · exact ⟨rfl, hb2⟩
        · omega
        · exact ⟨rfl, hb2⟩
        · omega
      · have hnone : wyF W n false (kbOf (s, z)) f = -1 := by
          rcases hk with ⟨hk1, _⟩ | ⟨hk1, hnk2, _⟩
          · have := h6.wn n k _ f hk1 hnw
            rw [hhas] at this
            exact this
          · exact wyF_no (fun x hx hy => hnk2 (by have := (h6.Wl x hx).2; rw [hy.2.2.2] at this; exact this))
        obtain ⟨hR1, hd⟩ := hdoc hT1.c
        refine ⟨_, 0, rfl, hb, fun p hp => hT1.c p (List.mem_append_left _ hp), fun W' hW => ?_⟩
        refine (hd W' hW).mono ?_
        intro e2 w2 hr
        rcases hr with ⟨⟨j, hj⟩, _⟩ | ⟨_, ⟨hbig, _⟩ | ⟨_, ⟨hpos, _, _⟩ | ⟨_, hge, _⟩ | ⟨_, hlt, rfl, lv, w3, b3, hlv, hL⟩⟩⟩
        · rw [ixB_no (k := kbOf (s, z)) (fun x hx e => hnk (by rw [← e]; exact hx))] at hj; omega
        · omega
        · omega
        · omega
        · have hSim := h6.add hk hkw n hn f f0 f1 hnw hcap s z rfl hs q hq ht hnk hm lbx v hG
          rw [← h5] at hSim ⊢
          have hlen : (ws ++ [(((n : Int), (k : Int), f), (sv.length : Int))]).length = ws.length + 1 := by simp
          have hT2 := (hT1.below hW)
          refine ⟨rfl, ?_, _, .inr ⟨_, rfl⟩, two_lay (W1 := W') (by rw [hlen]; exact hT2) hn1 (by rw [h5]; exact hw1) (hR1.below hW) hE hF b3 hlv hL hSim (by simp; omega)⟩
          obtain ⟨_, _, _, _, hbL, _⟩ := hL
          exact (hW.mono hBw1).trans ((b3.mono (Nat.le_trans hBw1 hW.size)).trans hbL)
theorem two_chg (i : Int) (s : ByteArray) (z f : Int) (w : World) (h : Two B g rb S D w) (hs : (s.size : Int) ≤ 140737488351232) (hz : (Lit.int .i64 (bareZ z)).wf = true) :
    Calls Try.prog 9 #[.pointer (some ⟨g, 0, none⟩), .int .i64 i, .agg #[.string s, .int .i64 z], .int .i64 f] w fun e w1 => Then B g rb S D 10 i s z f w e w1 := by
  have h0 := h
  have hBw := h.ge.2.2
  obtain ⟨⟨mn, mw, vk, vs, ks, LS, fs, fv, ws, Dn, Dw, vL, vW, sv, W, E, hT, h2, h3, hR, h5, h6, hE⟩, hF⟩ := h
  by_cases hbad : ∃ er : Int, ((i < 0 ∨ (fv.length : Int) ≤ i) ∧ er = 140) ∨ ((0 ≤ i ∧ i < (fv.length : Int)) ∧ (f < 0 ∨ 15 < f) ∧ er = 1)
  · obtain ⟨er, hbad⟩ := hbad
    refine ((t2_refused i s z f w hT er hbad).2).mono ?_
    rintro e w1 ⟨rfl, hb⟩
    have h1 := h0.below hb
    refine ⟨0, er, rfl, hb.mono hBw, h1.c, fun W' hW => ?_⟩
    refine ((rrefused i s z f W' ((hR.below hb).below hW) er (by rw [h5]; exact hbad)).2).mono ?_
    rintro e2 w2 ⟨rfl, hb2⟩
    exact ⟨rfl, (hW.trans (hb2.mono hW.size)).mono h1.ge.2.2, S, .inl rfl, (h1.below hW).below hb2⟩
  · have hi0 : 0 ≤ i ∧ i < (fv.length : Int) := by
      refine ⟨?_, ?_⟩
      · exact Decidable.byContradiction fun hc => hbad ⟨140, .inl ⟨.inl (by omega), rfl⟩⟩
      · exact Decidable.byContradiction fun hc => hbad ⟨140, .inl ⟨.inr (by omega), rfl⟩⟩
    have hf0 : 0 ≤ f ∧ f ≤ 15 := by
      refine ⟨?_, ?_⟩
      · exact Decidable.byContradiction fun hc => hbad ⟨1, .inr ⟨hi0, .inl (by omega), rfl⟩⟩
      · exact Decidable.byContradiction fun hc => hbad ⟨1, .inr ⟨hi0, .inr (by omega), rfl⟩⟩
    obtain ⟨n, rfl⟩ : ∃ n : Nat, i = (n : Int) := ⟨i.toNat, by omega⟩
    obtain ⟨f0, f1⟩ := hf0
    have hn : n < fv.length := by omega
    clear hbad hi0
    obtain ⟨k, ks', hk⟩ := ksW_ex ks (kbOf (s, z))
    have c1 := h6.c1
    have c3 := h6.c3
    have c4 := h6.c4
    have hkl := hk.at.2.2
    obtain ⟨q, hq, e1, ht⟩ := h6.at_ n hn
    obtain ⟨ix, im⟩ := h6.ix ht hk
    have hkw : Kwf (kbOf (s, z)) := ⟨by have := bareS_le s z hs; unfold maxLen; show (bareS s z).size ≤ _; omega, hz⟩
    have hff : ∀ x ∈ fs.getD n [], 0 ≤ x ∧ x ≤ 15 := fun x hx => by
      obtain ⟨j, hj, rfl⟩ := List.getElem_of_mem hx
      obtain ⟨_, _, _, d⟩ := ht.at j _ (List.getElem?_eq_getElem hj)
      exact d
    refine (t2_chg n k s z (bareS s z) (bareZ z) rfl rfl f ws w hT h2 h3 hs hz hk hn hff f0 f1 h6.l1 c4 (by omega) (by omega) (by omega)).mono ?_
    rintro e w1 ⟨⟨q', hq', e1', hl, hA⟩, hb⟩
    obtain rfl : q = q' := hT.uniq q q' hq hq' (e1.symm.trans e1')
    have hdoc : (∀ p ∈ D ++ E, w1.heap[p.1]? = some p.2) → R1 B rb vL vW sv S W w1 ∧ ∀ W' : World, Below w1.heap.size w1 W' → Calls Try.prog 10 #[.pointer (some ⟨rb, 0, none⟩), .int .i64 (n : Nat), .agg #[.string s, .int .i64 z], .int .i64 f] W' fun e2 w2 => RChg B rb vL vW sv S W n (kbOf (s, z)) s z f W' e2 w2 := fun hc => by
      have hR1 := hR.stand (w' := w1) (fun b hb => by
        obtain ⟨ob, hob⟩ := hE b hb
        rw [hT.c _ (List.mem_append_right _ hob), hc _ (List.mem_append_right _ hob)])
      exact ⟨hR1, fun W' hW => rchg_in n s z f W' (hR1.below hW) (by omega) (by rw [h6.sl, h5]) h6.so h6.wo hs (by omega) f0 f1⟩
    have hBw1 : B ≤ w1.heap.size := Nat.le_trans hBw hb.size
    have hsame : ∀ (x er : Int), T2 (D ++ E) B g mn mw vk vs ks LS fs fv ws.length Dn Dw w1 → (∀ W' e2 w2, RChg B rb vL vW sv S W n (kbOf (s, z)) s z f W' e2 w2 → e2 = .returned (.tuple #[.int .i64 x, .int .i64 er]) ∧ Below W'.heap.size W' w2) → Then B g rb S D 10 (n : Int) s z f w (.returned (.tuple #[.int .i64 x, .int .i64 er])) w1 := fun x er hT1 hr => by
      obtain ⟨hR1, hd⟩ := hdoc hT1.c
      have h1 : Two B g rb S D w1 := ⟨⟨mn, mw, vk, vs, ks, LS, fs, fv, ws, Dn, Dw, vL, vW, sv, W, E, hT1, h2, h3, hR1, h5, h6, hE⟩, hF⟩
      refine ⟨x, er, rfl, hb, h1.c, fun W' hW => ?_⟩
      refine (hd W' hW).mono ?_
      intro e2 w2 hr2
      obtain ⟨rfl, hb2⟩ := hr W' e2 w2 hr2
      exact ⟨rfl, (hW.trans (hb2.mono hW.size)).mono hBw1, S, .inl rfl, (h1.below hW).below hb2⟩
    have ht1 : (S.getD n []).length = (fs.getD n []).length := ht.1
    rcases hA with ⟨hno, rfl, hT1⟩ | ⟨j, hj, hjl, hA⟩
    · have hnk : kbOf (s, z) ∉ (S.getD n []).map SlR.kb := fun h => hno (im.2 h)
      refine hsame 0 3 hT1 (fun W' e2 w2 hr => ?_)
      rcases hr with ⟨_, rfl, hb2⟩ | ⟨j, x, hj, _⟩
      · exact ⟨rfl, hb2⟩
      · rw [ixB_no (k := kbOf (s, z)) (fun x hx e => hnk (by rw [← e]; exact hx))] at hj; omega
    · have hjB : ixB ((S.getD n []).map SlR.kb) (kbOf (s, z)) = (j : Int) := by rw [← ix]; exact hj
      have hin : kbOf (s, z) ∈ (S.getD n []).map SlR.kb := by
        rcases ixB_cases ((S.getD n []).map SlR.kb) (kbOf (s, z)) with ⟨e, _⟩ | ⟨j', hj', _, e⟩
        · omega
        · exact List.mem_of_getElem? (by rw [List.getElem?_eq_getElem hj', e])
      have hhas : hasK S n (kbOf (s, z)) = true := hasK_yes hin
      have hk1 : ks[k]? = some (kbOf (s, z)) := by
        rcases hk with ⟨h1, _⟩ | ⟨_, hnk, _⟩
        · exact h1
        · obtain ⟨y, hy, e⟩ := List.mem_map.1 hin
          obtain ⟨a, ha, rfl⟩ := List.getElem_of_mem hy
          obtain ⟨m, _, b, _⟩ := ht.2.2 a _ (List.getElem?_eq_getElem ha)
          rw [e] at b
          exact absurd (List.mem_of_getElem? b) hnk
      have hjl' : j < (S.getD n []).length := by omega
      obtain ⟨x, hx⟩ : ∃ x, (S.getD n [])[j]? = some x := ⟨_, List.getElem?_eq_getElem hjl'⟩
      have hxf : (fs.getD n [])[j]? = some x.f := by
        obtain ⟨_, _, _, c, _⟩ := ht.2.2 j x hx
        exact c
      have same : ∀ (j2 : Nat) (x2 : SlR), ixB ((S.getD n []).map SlR.kb) (kbOf (s, z)) = (j2 : Int) → (S.getD n [])[j2]? = some x2 → j2 = j ∧ x2 = x := fun j2 x2 e2 hx2 => by
        obtain rfl : j2 = j := by omega
        rw [hx] at hx2
        exact ⟨rfl, (Option.some.inj hx2).symm⟩
      have noway : ∀ (P : Prop), (∀ y ∈ (S.getD n []).map SlR.kb, y ≠ kbOf (s, z)) → P := fun P hno => absurd rfl (hno _ hin)
      rcases hA with ⟨hfe, rfl, hT1⟩ | ⟨hfn, hA⟩
      · refine hsame n 0 hT1 (fun W' e2 w2 hr => ?_)
        rcases hr with ⟨hno, _⟩ | ⟨j2, x2, hj2, hx2, hr⟩
        · exact noway _ hno
        · obtain ⟨rfl, rfl⟩ := same j2 x2 hj2 hx2
          rcases hr with ⟨_, rfl, hb2⟩ | ⟨hne, _⟩
          · exact ⟨rfl, hb2⟩
          · rw [hxf] at hfe; exact absurd (Option.some.inj hfe) hne
      · have hxne : x.f ≠ f := fun e => hfn (by rw [hxf, e])
        rcases hA with ⟨to', hway, rfl, hT1⟩ | ⟨hnw, hfull, rfl, hT1⟩ | ⟨hnw, hcap, rfl, vs', Dw', v, hT1, hw1⟩
        · have hold : wyF W n true (kbOf (s, z)) f = to' ∧ 0 ≤ to' := by
            have := h6.wa n k _ f to' hway hk1
            rw [hhas] at this
            exact this
          refine hsame to' 0 hT1 (fun W' e2 w2 hr => ?_)
          rcases hr with ⟨hno, _⟩ | ⟨j2, x2, hj2, hx2, hr⟩
          · exact noway _ hno
          · obtain ⟨rfl, rfl⟩ := same j2 x2 hj2 hx2
            rcases hr with ⟨hfe, _⟩ | ⟨_, ⟨_, rfl, hb2⟩ | ⟨hneg, _⟩ | ⟨hneg, _⟩⟩
            · exact absurd hfe hxne
            · rw [hold.1]; exact ⟨rfl, hb2⟩
            · omega
            · omega
        · have hnone : wyF W n true (kbOf (s, z)) f = -1 := by
            have := h6.wn n k _ f hk1 hnw
            rw [hhas] at this
            exact this
          refine hsame 0 2 hT1 (fun W' e2 w2 hr => ?_)
          rcases hr with ⟨hno, _⟩ | ⟨j2, x2, hj2, hx2, hr⟩
          · exact noway _ hno
          · obtain ⟨rfl, rfl⟩ := same j2 x2 hj2 hx2
            rcases hr with ⟨hfe, _⟩ | ⟨_, ⟨hpos, _⟩ | ⟨_, _, rfl, hb2⟩ | ⟨_, hlt, _⟩⟩
            · exact absurd hfe hxne
            · omega
            · exact ⟨rfl, hb2⟩
            · omega
        · have hnone : wyF W n true (kbOf (s, z)) f = -1 := by
            have := h6.wn n k _ f hk1 hnw
            rw [hhas] at this
            exact this
          obtain ⟨hR1, hd⟩ := hdoc hT1.c
          refine ⟨_, 0, rfl, hb, fun p hp => hT1.c p (List.mem_append_left _ hp), fun W' hW => ?_⟩
          refine (hd W' hW).mono ?_
          intro e2 w2 hr
          rcases hr with ⟨hno, _⟩ | ⟨j2, x2, hj2, hx2, hr⟩
          · exact noway _ hno
          obtain ⟨rfl, rfl⟩ := same j2 x2 hj2 hx2
          rcases hr with ⟨hfe, _⟩ | ⟨_, ⟨hpos, _⟩ | ⟨_, hge, _⟩ | ⟨_, hlt, rfl, lv, w3, b3, hlv, hL⟩⟩
          · exact absurd hfe hxne
          · omega
          · omega
          · have hSim := h6.chg hk hkw n hn f f0 f1 hnw hcap s z rfl hs q hq ht j2 x2 hjB hx v
            rw [← h5] at hSim ⊢
            have hlen : (ws ++ [(((n : Int), (k : Int), f), (sv.length : Int))]).length = ws.length + 1 := by simp
            have hT2 := (hT1.below hW)
            refine ⟨rfl, ?_, _, .inr ⟨_, rfl⟩, two_lay (W1 := W') (by rw [hlen]; exact hT2) h2 (by rw [h5]; exact hw1) (hR1.below hW) hE hF b3 hlv hL hSim (by simp; omega)⟩
            obtain ⟨_, _, _, _, hbL, _⟩ := hL
            exact (hW.mono hBw1).trans ((b3.mono (Nat.le_trans hBw1 hW.size)).trans hbL)
end
end Go.Proofs.Ytoonaljmdiideaa
