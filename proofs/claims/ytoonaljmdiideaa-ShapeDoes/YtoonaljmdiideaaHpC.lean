/- Package shape, for what stands on it: Find a key that is not there; a tree by its keys, its line and its flags alone. -/
import Derived.Test.YtoonaljmdiideaaShP
import Derived.Test.YtoonaljmdiideaaHpA
namespace Go.Proofs.Ytoonaljmdiideaa
set_option linter.unusedVariables false
set_option linter.unusedSimpArgs false
open Go.RowKit Go.Maps Go.ChangeShapes
section
variable {C : List (Nat × Obj)} {B g mn mw lb : Nat} {vk vs vl : Value} {ks : List Kb} {ln : List Int} {fs : List (List Int)} {fv : List (Nat × Value)} {nw : Nat} {Dn Dw : DataW Unit} {w w' : World}
/-- Blocks that are not the tree's may turn. -/
theorem T1.turn {C' : List (Nat × Obj)} {X : List Nat} (h : T1 C B g mn mw lb vk vs vl ks ln fs fv nw Dn Dw w) (hs : Sv X w w') (hX : ∀ b ∈ X, ∃ ob, (b, ob) ∈ C ∧ ∀ c fz, ob ≠ .cells c 5 fz) (hC : ∀ p ∈ C', w'.heap[p.1]? = some p.2 ∧ ((∃ ob, (p.1, ob) ∈ C) ∨ w.heap.size ≤ p.1)) : T1 C' B g mn mw lb vk vs vl ks ln fs fv nw Dn Dw w' := by
  obtain ⟨l1, l2, l3, l4, l5, l6, l7⟩ := h.lts
  refine ⟨h.ge, hs.all _ _ (fun q => ?_) h.row, hs.all _ _ (fun q => ?_) h.lrow, hs.own h.k (fun x hx => ?_), hs.own h.s (fun x hx => ?_), hs.own h.l (fun x hx => ?_), fun i hi => hs.own (h.f i hi) (fun x hx => ?_), hs.map h.n (fun q => ?_), hs.map h.m (fun q => ?_), h.mm, fun p hp => (hC p hp).1, fun p hp => ?_⟩
  · obtain ⟨ob, hb, _⟩ := hX _ q; exact (h.cn _ hb).1 rfl
  · obtain ⟨ob, hb, _⟩ := hX _ q; exact (h.cn _ hb).2.1 rfl
  · obtain ⟨ob, hb, _⟩ := hX _ hx; exact (h.cn _ hb).2.2.2.2.1
  · obtain ⟨ob, hb, _⟩ := hX _ hx; exact (h.cn _ hb).2.2.2.2.2.1
  · obtain ⟨ob, hb, _⟩ := hX _ hx; exact (h.cn _ hb).2.2.2.2.2.2
  · obtain ⟨ob, hb, hob⟩ := hX _ hx; exact sh_ne (h.f i hi) (h.c _ hb) hob
  · obtain ⟨ob, hb, _⟩ := hX _ q; exact (h.cn _ hb).2.2.1 rfl
  · obtain ⟨ob, hb, _⟩ := hX _ q; exact (h.cn _ hb).2.2.2.1 rfl
  · rcases (hC p hp).2 with ⟨ob, hb⟩ | hb
    · exact h.cn (p.1, ob) hb
    · refine ⟨by omega, by omega, by omega, by omega, fun e => ?_, fun e => ?_, fun e => ?_⟩
      · have := l5 _ e.symm; omega
      · have := l6 _ e.symm; omega
      · have := l7 _ e.symm; omega
/-- Blocks that are not the tree's, whatever they hold. -/
def Aside (X : List Nat) (g mn mw lb : Nat) (vk vs vl : Value) (fv : List (Nat × Value)) : Prop := ∀ b ∈ X, b ≠ g ∧ b ≠ lb ∧ b ≠ mn ∧ b ≠ mw ∧ some b ≠ vk.ownBlock ∧ some b ≠ vs.ownBlock ∧ some b ≠ vl.ownBlock ∧ ∀ (i : Nat) (hi : i < fv.length), some b ≠ fv[i].2.ownBlock
theorem T1.aside {X : List Nat} (h : T1 C B g mn mw lb vk vs vl ks ln fs fv nw Dn Dw w) (hX : ∀ b ∈ X, ∃ ob, (b, ob) ∈ C ∧ ∀ c fz, ob ≠ .cells c 5 fz) : Aside X g mn mw lb vk vs vl fv := fun b hb => by
  obtain ⟨ob, hm, hob⟩ := hX b hb
  obtain ⟨c1, c2, c3, c4, c5, c6, c7⟩ := h.cn _ hm
  exact ⟨c1, c2, c3, c4, c5, c6, c7, fun i hi => sh_ne (h.f i hi) (h.c _ hm) hob⟩
theorem T1.keep {X : List Nat} (h : T1 [] B g mn mw lb vk vs vl ks ln fs fv nw Dn Dw w) (hX : Aside X g mn mw lb vk vs vl fv) (hs : Sv X w w') : T1 [] B g mn mw lb vk vs vl ks ln fs fv nw Dn Dw w' := by
  refine ⟨h.ge, hs.all _ _ (fun q => ?_) h.row, hs.all _ _ (fun q => ?_) h.lrow, hs.own h.k (fun x hx => ?_), hs.own h.s (fun x hx => ?_), hs.own h.l (fun x hx => ?_), fun i hi => hs.own (h.f i hi) (fun x hx => ?_), hs.map h.n (fun q => ?_), hs.map h.m (fun q => ?_), h.mm, (fun p hp => by cases hp), (fun p hp => by cases hp)⟩
  · exact (hX _ q).1 rfl
  · exact (hX _ q).2.1 rfl
  · exact (hX _ hx).2.2.2.2.1
  · exact (hX _ hx).2.2.2.2.2.1
  · exact (hX _ hx).2.2.2.2.2.2.1
  · exact (hX _ hx).2.2.2.2.2.2.2 i hi
  · exact (hX _ q).2.2.1 rfl
  · exact (hX _ q).2.2.2.1 rfl
set_option maxHeartbeats 4000000 in
set_option maxRecDepth 100000 in
theorem find_none {ks' : List Kb} (i kk : Nat) (s0 : ByteArray) (z0 : Int) (s : ByteArray) (z : Int) (hbs : bareS s0 z0 = s) (hbz : bareZ z0 = z) (w : World) (h : T1 C B g mn mw lb vk vs vl ks ln fs fv nw Dn Dw w) (hn : NumOk Dn ks) (hs0 : (s0.size : Int) ≤ 140737488351232) (hzf : (Lit.int .i64 z).wf = true) (hk : KsW ks (s, z) kk ks') (hl3 : ks.length < 2000000000) (hi : i < fv.length) (hlb : fv[i].1 = lb) (hm : (fs.getD i []).length ≤ ln.length) (hno : ∀ x ∈ ln.take (fs.getD i []).length, x ≠ (kk : Int)) (hl : ln.length < 90000) :
    Calls Try.prog 22 #[.pointer (some ⟨g, 0, none⟩), .int .i64 (i : Nat), .agg #[.string s0, .int .i64 z0]] w fun e w' => e = .returned (.tuple #[.int .i64 0, .int .i64 0, .bool false]) ∧ Below w.heap.size w w' := by
  have hs : (s.size : Int) ≤ 140737488351232 := by rw [← hbs]; exact bareS_le s0 z0 hs0
  have hsm : Kwf (s, z) := ⟨by unfold maxLen; show s.size ≤ _; omega, hzf⟩
  obtain ⟨m, hmm⟩ : ∃ m, (fs.getD i []).length = m := ⟨_, rfl⟩
  obtain ⟨fa, fc, hfv, _⟩ := own_slice' (h.f i hi)
  rw [hmm] at hm hno hfv
  have HBA := Hid.mk' (fun W => shbare_any s0 z0 W hs0)
  rw [hbs, hbz] at HBA
  have HNU := Hid.mk' (fun (W : World) (hW : T1 C B g mn mw lb vk vs vl ks ln fs fv nw Dn Dw W) => number_any s z kk W hW hn hsm hk (by omega))
  have HPL := Hid.mk' (fun (W : World) (hW : T1 C B g mn mw lb vk vs vl ks ln fs fv nw Dn Dw W) => place_no i (kk : Int) W hW hi m fc fa hm (by omega) hno)
  obtain ⟨W1, hW1⟩ : ∃ W1, w.alloc (.cells #[.string s0, .int .i64 z0] 31) = W1 := ⟨_, rfl⟩
  have b1 : Below w.heap.size w W1 := by rw [← hW1]; exact (Below.refl _ _).alloc (Nat.le_refl _) _
  have q1 : W1.heap[w.heap.size]? = some (.cells #[.string s0, .int .i64 z0] 31 (0, 0)) := by rw [← hW1]; exact World.alloc_heap_new _ _
  obtain ⟨b0, hb0⟩ : ∃ b0, w.heap.size = b0 := ⟨_, rfl⟩
  rw [hb0] at q1
  have h1 := h.below b1
  obtain ⟨c0, c1, c2, c3, c4, cf, l0, lf⟩ := h1.cells
  obtain ⟨gs, sc, hvs, hsc, d0, d1⟩ := h1.sat i hi
  obtain ⟨n, hnn⟩ : ∃ n, fv.length = n := ⟨_, rfl⟩
  rw [hvs, hnn] at c3
  rw [hlb] at d0
  rw [hfv] at d1
  rw [hnn] at hi hsc
  have HHA := Hid.mk' (has_in g (i : Int) _ n sc W1 c0 c3 (by omega) (by omega))
  obtain ⟨W2, hW2⟩ : ∃ W2, W1.alloc (.cells #[.pointer (some ⟨lb, 0, none⟩), .slice fa m fc] 63) = W2 := ⟨_, rfl⟩
  have b2 : Below W1.heap.size W1 W2 := by rw [← hW2]; exact (Below.refl _ _).alloc (Nat.le_refl _) _
  have q2 : W2.heap[W1.heap.size]? = some (.cells #[.pointer (some ⟨lb, 0, none⟩), .slice fa m fc] 63 (0, 0)) := by rw [← hW2]; exact World.alloc_heap_new _ _
  have q12 := (b2.block b0 (Array.getElem?_eq_some_iff.1 q1).1).trans q1
  obtain ⟨cb, hcb⟩ : ∃ cb, W1.heap.size = cb := ⟨_, rfl⟩
  rw [hcb] at q2
  have B2 : Below w.heap.size w W2 := b1.trans (b2.mono b1.size)
  have HT2 := Hid.mk' (h.below B2)
  have HCE : Hid (∀ W, Below W2.heap.size W2 W → W.cell? ⟨b0, 0, none⟩ = some (.string s0) ∧ W.cell? ⟨b0, 1, none⟩ = some (.int .i64 z0) ∧ W.cell? ⟨cb, 0, none⟩ = some (.pointer (some ⟨lb, 0, none⟩)) ∧ W.cell? ⟨cb, 1, none⟩ = some (.slice fa m fc)) := Hid.mk' (fun W hW => by
    obtain ⟨_, _, e0, e1⟩ := pair_facts ((hW.block b0 (Array.getElem?_eq_some_iff.1 q12).1).trans q12)
    obtain ⟨_, _, e2, e3⟩ := pair_facts ((hW.block cb (Array.getElem?_eq_some_iff.1 q2).1).trans q2)
    exact ⟨e0, e1, e2, e3⟩)
  have HB2 := Hid.mk' B2
  have HH2 := Hid.mk' hW2
  have i1 : (i : Int) < (n : Int) := by omega
  clear h h1 hn hs hs0 hzf hbs hbz hk hm hno hsm hl hl3 c1 c2 c4 cf l0 lf b1 q1 b2 q2 q12 B2 hW2 hvs hnn hmm hfv hlb
  go_enter Try.func22, Try.ntmps22
  go_wp2_with fail
  refine HHA.out.mono ?_
  rintro e w2 ⟨rfl, rfl⟩
  go_upto_region 4 with fail
  rw [HH2.out]
  clear c0 c3 d0 d1
  obtain ⟨e0, e1, e2, e3⟩ := HCE.out W2 (Below.refl _ _)
  go_cut [10] from 11 (fun v10 wc => v10 = .int .i64 (-1) ∧ Hid (Below W2.heap.size W2 wc))
  case first =>
    go_region_with (first
      | (go_at_call 25; refine (HBA.out _).mono ?_; rintro e w3 ⟨rfl, b3⟩; have HB3 := Hid.mk' (below_from_drew b3); have HT3 := Hid.mk' (HT2.out.below HB3.out); obtain ⟨r0, r1, r2, r3⟩ := HCE.out w3 HB3.out; clear b3)
      | (go_at_call 24; refine (HNU.out _ HT3.out).mono ?_; rintro e w4 ⟨rfl, b4⟩; have HB4 := Hid.mk' (HB3.out.trans (b4.mono HB3.out.size)); have HT4 := Hid.mk' (HT3.out.below b4); obtain ⟨s0, s1, s2, s3⟩ := HCE.out w4 HB4.out; clear b4)
      | (go_at_call 26; refine (HPL.out _ HT4.out).mono ?_; rintro e w5 ⟨rfl, b5⟩; have HB5 := Hid.mk' (HB4.out.trans (b5.mono HB4.out.size)); clear b5))
    all_goals
      go_wp2_with fail
      go_meet
      exact ⟨rfl, HB5⟩
  case rest =>
    obtain ⟨rfl, HB6⟩ := hcut
    obtain ⟨r0, r1, r2, r3⟩ := HCE.out wc HB6.out
    clear e0 e1 e2 e3
    go_wp2
    go_ret3
    exact ⟨rfl, HB2.out.trans (HB6.out.mono HB2.out.size)⟩
end
theorem al_cell {W : World} {p : Addr} {v : Value} (ob : Obj) (h : W.cell? p = some v) : (W.alloc ob).cell? p = some v := (((Below.refl _ _).alloc (Nat.le_refl _) _).cell (World.block_lt_of_cell? W _ h)).trans h
/-- A tree by what it tells. -/
def TT (B g : Nat) (ks : List Kb) (ln : List Int) (fs : List (List Int)) (ws : List ((Int × Int × Int) × Int)) (C : List (Nat × Obj)) (w : World) : Prop :=
  ∃ mn mw lb vk vs vl fv Dn Dw, T1 C B g mn mw lb vk vs vl ks ln fs fv ws.length Dn Dw w ∧ NumOk Dn ks ∧ WayOk Dw ws ∧ fs.length = fv.length ∧ ∀ p ∈ fv, p.1 = lb
section
variable {C : List (Nat × Obj)} {B g : Nat} {ks : List Kb} {ln : List Int} {fs : List (List Int)} {ws : List ((Int × Int × Int) × Int)} {w w' : World}
theorem TT.below (h : TT B g ks ln fs ws C w) (hb : Below w.heap.size w w') : TT B g ks ln fs ws C w' := by
  obtain ⟨mn, mw, lb, vk, vs, vl, fv, Dn, Dw, h1, h2⟩ := h
  exact ⟨mn, mw, lb, vk, vs, vl, fv, Dn, Dw, h1.below hb, h2⟩
theorem TT.turn {C' : List (Nat × Obj)} {X : List Nat} (h : TT B g ks ln fs ws C w) (hs : Sv X w w') (hX : ∀ b ∈ X, ∃ ob, (b, ob) ∈ C ∧ ∀ c fz, ob ≠ .cells c 5 fz) (hC : ∀ p ∈ C', w'.heap[p.1]? = some p.2 ∧ ((∃ ob, (p.1, ob) ∈ C) ∨ w.heap.size ≤ p.1)) : TT B g ks ln fs ws C' w' := by
  obtain ⟨mn, mw, lb, vk, vs, vl, fv, Dn, Dw, h1, h2⟩ := h
  exact ⟨mn, mw, lb, vk, vs, vl, fv, Dn, Dw, h1.turn hs hX hC, h2⟩
theorem TT.c (h : TT B g ks ln fs ws C w) : ∀ p ∈ C, w.heap[p.1]? = some p.2 := by
  obtain ⟨mn, mw, lb, vk, vs, vl, fv, Dn, Dw, h1, h2⟩ := h
  exact h1.c
theorem TT.ge (h : TT B g ks ln fs ws C w) : B ≤ g ∧ g < w.heap.size := by
  obtain ⟨mn, mw, lb, vk, vs, vl, fv, Dn, Dw, h1, h2⟩ := h
  exact ⟨h1.ge.1, h1.lts.1⟩
/-- Add of a key that is not there, by a new way. -/
theorem tt_add {ks' : List Kb} {ln' : List Int} (i k : Nat) (s : ByteArray) (z : Int) (hbs : bareS s z = s) (hbz : bareZ z = z) (f : Int) (w : World) (h : TT B g ks ln fs ws C w) (hs : (s.size : Int) ≤ 140737488351232) (hzf : (Lit.int .i64 z).wf = true) (hz : ∀ t ∈ ks, Kwf t) (hk : KsW ks (s, z) k ks') (hi : i < fs.length) (hm : (fs.getD i []).length ≤ ln.length) (hm2 : (fs.getD i []).length < 128) (hno : ∀ x ∈ ln.take (fs.getD i []).length, x ≠ (k : Int)) (hc : LnW ln (fs.getD i []).length k ln') (f0 : 0 ≤ f) (f1 : f ≤ 15) (hl : ln.length < 90000) (hl2 : fs.length < 90000) (hl3 : ks.length < 90000) (hl4 : ws.length < 90000) (hkk : k < 90000) (hnw : ∀ p ∈ ws, p.1 ≠ ((i : Int), (k : Int), f)) :
    Calls Try.prog 11 #[.pointer (some ⟨g, 0, none⟩), .int .i64 (i : Nat), .agg #[.string s, .int .i64 z], .int .i64 f] w fun e w' => e = .returned (.tuple #[.int .i64 (fs.length : Nat), .int .i64 0]) ∧ TT B g ks' ln' (fs ++ [fs.getD i [] ++ [f]]) (ws ++ [(((i : Int), (k : Int), f), (fs.length : Int))]) C w' ∧ Below B w w' := by
  obtain ⟨mn, mw, lb, vk, vs, vl, fv, Dn, Dw, h1, h2, h3, h4, h5⟩ := h
  refine (add_any i k s z hbs hbz f ws w h1 h2 h3 hs hzf hz hk (by omega) h5 h4 hm hm2 hno hc f0 f1 hl (by omega) hl3 hl4 hkk).mono ?_
  rintro e w' ⟨hA, hb⟩
  rcases hA with ⟨to', ht, _⟩ | ⟨_, rfl, vk', vs', vl', Dn', Dw', v, k1, k2, k3⟩
  · exact absurd rfl (hnw _ ht)
  · rw [← h4] at k3 ⊢
    refine ⟨rfl, ⟨mn, mw, lb, vk', vs', vl', fv ++ [(lb, v)], Dn', Dw', ?_, k2, k3, by simp only [List.length_append, List.length_cons, List.length_nil]; omega, fun p hp => ?_⟩, hb⟩
    · rw [List.length_append]
      exact k1
    · rcases List.mem_append.1 hp with hp | hp
      · exact h5 p hp
      · rw [List.mem_singleton.1 hp]
theorem tt_none {ks' : List Kb} (i kk : Nat) (s : ByteArray) (z : Int) (hbs : bareS s z = s) (hbz : bareZ z = z) (w : World) (h : TT B g ks ln fs ws C w) (hs : (s.size : Int) ≤ 140737488351232) (hzf : (Lit.int .i64 z).wf = true) (hk : KsW ks (s, z) kk ks') (hl3 : ks.length < 2000000000) (hi : i < fs.length) (hm : (fs.getD i []).length ≤ ln.length) (hno : ∀ x ∈ ln.take (fs.getD i []).length, x ≠ (kk : Int)) (hl : ln.length < 90000) :
    Calls Try.prog 22 #[.pointer (some ⟨g, 0, none⟩), .int .i64 (i : Nat), .agg #[.string s, .int .i64 z]] w fun e w' => e = .returned (.tuple #[.int .i64 0, .int .i64 0, .bool false]) ∧ Below w.heap.size w w' := by
  obtain ⟨mn, mw, lb, vk, vs, vl, fv, Dn, Dw, h1, h2, h3, h4, h5⟩ := h
  exact find_none i kk s z s z hbs hbz w h1 h2 hs hzf hk hl3 (by omega) (h5 _ (List.getElem_mem _)) hm hno hl
theorem tt_yes (i j kk : Nat) (s : ByteArray) (z : Int) (hbs : bareS s z = s) (hbz : bareZ z = z) (f : Int) (w : World) (h : TT B g ks ln fs ws C w) (hs : (s.size : Int) ≤ 140737488351232) (hzf : (Lit.int .i64 z).wf = true) (hk : ks[kk]? = some (s, z)) (hi : i < fs.length) (hm : (fs.getD i []).length ≤ ln.length) (hj : ixI (ln.take (fs.getD i []).length) (kk : Int) = (j : Int)) (hf : (fs.getD i [])[j]? = some f) (f0 : 0 ≤ f) (f1 : f ≤ 15) (hl : ln.length < 90000) :
    Calls Try.prog 22 #[.pointer (some ⟨g, 0, none⟩), .int .i64 (i : Nat), .agg #[.string s, .int .i64 z]] w fun e w' => e = .returned (.tuple #[.int .i64 (j : Int), .int .i64 f, .bool true]) ∧ Below w.heap.size w w' := by
  obtain ⟨mn, mw, lb, vk, vs, vl, fv, Dn, Dw, h1, h2, h3, h4, h5⟩ := h
  exact find_yes i j kk s z s z hbs hbz f w h1 h2 hs hzf hk (by omega) (h5 _ (List.getElem_mem _)) hm hj hf f0 f1 hl
theorem tt_new (w : World) : Calls Try.prog 7 #[] w fun e w' => ∃ g, e = .returned (.pointer (some ⟨g, 0, none⟩)) ∧ TT w.heap.size g [] [] [[]] [] [] w' ∧ Below w.heap.size w w' := by
  refine (shnew_any w).mono ?_
  rintro e w' ⟨g, mn, mw, lb, vs, rfl, h, hb⟩
  exact ⟨g, rfl, ⟨mn, mw, lb, _, vs, _, _, _, _, h, numOk_nil, wayOk_nil, rfl, by simp⟩, hb⟩
set_option maxHeartbeats 1000000 in
set_option maxRecDepth 100000 in
theorem cached_none (i : Int) (s : ByteArray) (z : Int) (r : Array Value) (w : World) (hr : r.size = 3) (hF : ∀ W, Below w.heap.size w W → Calls Try.prog 22 #[.pointer (some ⟨g, 0, none⟩), .int .i64 i, .agg #[.string s, .int .i64 z]] W fun e w' => e = .returned (.tuple r) ∧ Below W.heap.size W w') :
    Calls Try.prog 17 #[.pointer (some ⟨g, 0, none⟩), .pointer none, .int .i64 i, .agg #[.string s, .int .i64 z]] w fun e w' => e = .returned (.tuple r) ∧ Below w.heap.size w w' := by
  obtain ⟨r0, r1, r2, rfl⟩ : ∃ a b c, r = #[a, b, c] := by
    rcases r with ⟨l⟩
    match l, hr with
    | [a, b, c], _ => exact ⟨a, b, c, rfl⟩
  have b0 : Below w.heap.size w (w.alloc (.cells #[.string s, .int .i64 z] 31)) := (Below.refl _ _).alloc (Nat.le_refl _) _
  have HF := Hid.mk' (hF _ b0)
  have HM := Hid.mk' (isMadeC_no (.pointer none) (w.alloc (.cells #[.string s, .int .i64 z] 31)) (.inl rfl))
  have HB := Hid.mk' b0
  clear hF b0
  go_enter Try.func17, Try.ntmps17
  go_wp2_with fail
  refine HM.out.mono ?_
  rintro e w1 ⟨rfl, rfl⟩
  go_wp2_with fail
  refine HF.out.mono ?_
  rintro e w2 ⟨rfl, b2⟩
  go_wp2
  go_ret3
  exact ⟨rfl, HB.out.trans (b2.mono HB.out.size)⟩
end
end Go.Proofs.Ytoonaljmdiideaa
