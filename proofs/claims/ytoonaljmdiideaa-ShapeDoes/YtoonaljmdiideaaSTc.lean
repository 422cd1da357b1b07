/- Package shape: a tree with several lines. Package shape: Add in a tree with several lines. Package shape: a class with one of its flags changed. -/
import Derived.Test.YtoonaljmdiideaaHpC
namespace Go.Proofs.Ytoonaljmdiideaa
set_option linter.unusedVariables false
set_option linter.unusedSimpArgs false
open Go.RowKit Go.Maps Go.ChangeShapes

theorem own_at' {w w' : World} {B : Nat} {e : TypeId} {sz : Nat} {v : Value} {n : Nat} {xs : List Value} (h : w.ownsRow B e sz v n xs) (he : ∀ b, v.ownBlock = some b → w'.heap[b]? = w.heap[b]?) : w'.ownsRow B e sz v n xs := by
  refine ⟨h.1, ?_⟩
  rcases h.2 with hn | ⟨g, cap, cur, rfl, hB, hg, rest⟩
  · exact .inl hn
  · exact .inr ⟨g, cap, cur, rfl, hB, (he g rfl).trans hg, rest⟩
/-- A line: its block, its row, the numbers of its keys. -/
abbrev Ln := Nat × Value × List Int
/-- Lines apart. -/
def LnAp (q r : Ln) : Prop := q.1 ≠ r.1 ∧ ∀ b, q.2.1.ownBlock = some b → r.2.1.ownBlock ≠ some b
theorem LnAp.symm {q r : Ln} (h : LnAp q r) : LnAp r q := ⟨fun e => h.1 e.symm, fun b hb e => h.2 b e hb⟩
/-- What a line's blocks hold. -/
def lnO (w : World) (r : Ln) : List (Nat × Obj) := (r.1, .cells #[r.2.1] 60 (0, 0)) :: (match r.2.1.ownBlock with | some b => (match w.heap[b]? with | some o => [(b, o)] | none => []) | none => [])
/-- A tree with several lines, in memory. -/
structure T2 (C : List (Nat × Obj)) (B g mn mw : Nat) (vk vs : Value) (ks : List Kb) (LS : List Ln) (fs : List (List Int)) (fv : List (Nat × Value)) (nw : Nat) (Dn Dw : DataW Unit) (w : World) : Prop where
  one : ∀ q ∈ LS, T1 C B g mn mw q.1 vk vs q.2.1 ks q.2.2 fs fv nw Dn Dw w
  ap : LS.Pairwise LnAp
  of : ∀ (i : Nat) (h : i < fv.length), ∃ q ∈ LS, fv[i].1 = q.1 ∧ (fs.getD i []).length ≤ q.2.2.length
  fl : fs.length = fv.length
  ne : 0 < fv.length
section
variable {C : List (Nat × Obj)} {B g mn mw : Nat} {vk vs : Value} {ks : List Kb} {LS : List Ln} {fs : List (List Int)} {fv : List (Nat × Value)} {nw : Nat} {Dn Dw : DataW Unit} {w w' : World}
theorem lnO_mem {r : Ln} {p : Nat × Obj} (h : p ∈ lnO w r) : p = (r.1, .cells #[r.2.1] 60 (0, 0)) ∨ (r.2.1.ownBlock = some p.1 ∧ w.heap[p.1]? = some p.2) := by
  unfold lnO at h
  rcases List.mem_cons.1 h with h | h
  · exact .inl h
  · cases hb : r.2.1.ownBlock with
    | none => rw [hb] at h; cases h
    | some b =>
      rw [hb] at h
      dsimp only at h
      cases ho : w.heap[b]? with
      | none => rw [ho] at h; cases h
      | some o =>
        rw [ho] at h
        obtain rfl := List.mem_singleton.1 h
        exact .inr ⟨rfl, ho⟩
theorem lnO_row {r : Ln} {b : Nat} {o : Obj} (hb : r.2.1.ownBlock = some b) (ho : w.heap[b]? = some o) : (b, o) ∈ lnO w r := by
  unfold lnO
  rw [hb]
  dsimp only
  rw [ho]
  simp
/-- One line among the others. -/
theorem T2.focus (h : T2 C B g mn mw vk vs ks LS fs fv nw Dn Dw w) (q : Ln) (R : List Ln) (hq : q ∈ LS) (hR : ∀ r ∈ R, r ∈ LS ∧ LnAp q r) : T1 (C ++ R.flatMap (lnO w)) B g mn mw q.1 vk vs q.2.1 ks q.2.2 fs fv nw Dn Dw w := by
  have hT := h.one q hq
  refine ⟨hT.ge, hT.row, hT.lrow, hT.k, hT.s, hT.l, hT.f, hT.n, hT.m, hT.mm, fun p hp => ?_, fun p hp => ?_⟩
  · rcases List.mem_append.1 hp with hp | hp
    · exact hT.c p hp
    · obtain ⟨r, hr, hp⟩ := List.mem_flatMap.1 hp
      rcases lnO_mem hp with rfl | ⟨_, ho⟩
      · exact (h.one r (hR r hr).1).lrow
      · exact ho
  · rcases List.mem_append.1 hp with hp | hp
    · exact hT.cn p hp
    · obtain ⟨r, hr, hp⟩ := List.mem_flatMap.1 hp
      obtain ⟨hrL, hap⟩ := hR r hr
      have hr1 := h.one r hrL
      rcases lnO_mem hp with rfl | ⟨hb, ho⟩
      · obtain ⟨n1, n2, n3, n4, n5⟩ := hr1.nes
        exact ⟨fun e => n1 e.symm, fun e => hap.1 e.symm, n4, n5, (hr1.rowne hr1.k (by decide) (by decide)).2, (hr1.rowne hr1.s (by decide) (by decide)).2, (hr1.rowne hT.l (by decide) (by decide)).2⟩
      · refine ⟨fun e => (hr1.rowne hr1.l (by decide) (by decide)).1 (by rw [hb, e]), fun e => (hT.rowne hr1.l (by decide) (by decide)).2 (by rw [hb, e]), fun e => (hr1.mapne hr1.l).1 (by rw [hb, e]), fun e => (hr1.mapne hr1.l).2 (by rw [hb, e]), ?_, ?_, fun e => hap.2 p.1 e.symm hb⟩
        · exact sh_apart hr1.l hr1.k (by decide) p.1 hb
        · exact sh_apart hr1.l hr1.s (by decide) p.1 hb
/-- The others behind what was done at one line. -/
theorem T2.other {C' : List (Nat × Obj)} {lb : Nat} {vk' vs' vl' : Value} {ks' : List Kb} {ln' : List Int} {fs' : List (List Int)} {fv' : List (Nat × Value)} {nw' : Nat} {Dn' Dw' : DataW Unit} (h : T2 C B g mn mw vk vs ks LS fs fv nw Dn Dw w) (r : Ln) (hr : r ∈ LS) (hT : T1 C' B g mn mw lb vk' vs' vl' ks' ln' fs' fv' nw' Dn' Dw' w') (hC : ∀ p ∈ C, p ∈ C') (hO : ∀ p ∈ lnO w r, p ∈ C') : T1 C B g mn mw r.1 vk' vs' r.2.1 ks' r.2.2 fs' fv' nw' Dn' Dw' w' := by
  have hr1 := h.one r hr
  refine ⟨⟨hT.ge.1, hT.ge.2.1, hT.ge.2.2.1, hr1.ge.2.2.2⟩, hT.row, hT.c _ (hO _ (List.mem_cons_self ..)), hT.k, hT.s, own_at' hr1.l (fun b hb => ?_), hT.f, hT.n, hT.m, hT.mm, fun p hp => hT.c p (hC p hp), fun p hp => ?_⟩
  · obtain ⟨c, fz, ho⟩ := sh_kind hr1.l b hb
    rw [ho]
    exact hT.c (b, _) (hO _ (lnO_row hb ho))
  · obtain ⟨c1, c2, c3, c4, c5, c6, c7⟩ := hT.cn p (hC p hp)
    obtain ⟨d1, d2, d3, d4, d5, d6, d7⟩ := hr1.cn p hp
    exact ⟨c1, d2, c3, c4, c5, c6, d7⟩
/-- The new line. -/
theorem T1.other {C' : List (Nat × Obj)} {lb lbx b2 : Nat} {vl v2 : Value} {c2 : Array Value} {ln l2 : List Int} (hT : T1 C' B g mn mw lb vk vs vl ks ln fs fv nw Dn Dw w) (hB : B ≤ lbx) (hC : ∀ p ∈ C, p ∈ C' ∧ p.1 ≠ lbx ∧ p.1 ≠ b2) (h1 : (lbx, .cells #[v2] 60 (0, 0)) ∈ C') (h2 : (b2, .cells c2 21 (0, 0)) ∈ C') (hv : v2.ownBlock = some b2) (ho : w.ownsRow B 21 1 v2 l2.length (iC l2)) : T1 C B g mn mw lbx vk vs v2 ks l2 fs fv nw Dn Dw w := by
  refine ⟨⟨hT.ge.1, hT.ge.2.1, hT.ge.2.2.1, hB⟩, hT.row, hT.c _ h1, hT.k, hT.s, ho, hT.f, hT.n, hT.m, hT.mm, fun p hp => hT.c p (hC p hp).1, fun p hp => ?_⟩
  obtain ⟨c1, c2, c3, c4, c5, c6, c7⟩ := hT.cn p (hC p hp).1
  exact ⟨c1, (hC p hp).2.1, c3, c4, c5, c6, fun e => (hC p hp).2.2 (by rw [hv] at e; exact Option.some.inj e)⟩
theorem T2.below (h : T2 C B g mn mw vk vs ks LS fs fv nw Dn Dw w) (hb : Below w.heap.size w w') : T2 C B g mn mw vk vs ks LS fs fv nw Dn Dw w' := ⟨fun q hq => (h.one q hq).below hb, h.ap, h.of, h.fl, h.ne⟩
theorem T2.any (h : T2 C B g mn mw vk vs ks LS fs fv nw Dn Dw w) : ∃ q ∈ LS, T1 C B g mn mw q.1 vk vs q.2.1 ks q.2.2 fs fv nw Dn Dw w := by
  obtain ⟨q, hq, _⟩ := h.of 0 h.ne
  exact ⟨q, hq, h.one q hq⟩
end
end Go.Proofs.Ytoonaljmdiideaa

namespace Go.Proofs.Ytoonaljmdiideaa
set_option linter.unusedVariables false
set_option linter.unusedSimpArgs false
open Go.RowKit Go.Maps Go.ChangeShapes
section
variable {C : List (Nat × Obj)} {B g mn mw : Nat} {vk vs : Value} {ks : List Kb} {LS : List Ln} {fs : List (List Int)} {fv : List (Nat × Value)} {nw : Nat} {Dn Dw : DataW Unit} {w w' : World}
/-- How lines go on by one more shape. -/
def LsG (LS LS' : List Ln) (lbx : Nat) (l2 : List Int) : Prop :=
  (∀ r ∈ LS, ∃ r' ∈ LS', r'.1 = r.1 ∧ r.2.2 <+: r'.2.2) ∧ (∃ r' ∈ LS', r'.1 = lbx ∧ l2 <+: r'.2.2) ∧ ((∀ r ∈ LS, r.2.2.length ≤ 128) → l2.length ≤ 128 → ∀ r' ∈ LS', r'.2.2.length ≤ 128) ∧ (∀ r' ∈ LS', ∀ x ∈ r'.2.2, (∃ r ∈ LS, x ∈ r.2.2) ∨ x ∈ l2)
theorem LsG.of {LS' : List Ln} {lbx : Nat} {l2 : List Int} {v : Value} (h : T2 C B g mn mw vk vs ks LS fs fv nw Dn Dw w) (hG : LsG LS LS' lbx l2) (fl : List Int) (hl : fl.length ≤ l2.length) : ∀ (i : Nat) (hi : i < (fv ++ [(lbx, v)]).length), ∃ q ∈ LS', (fv ++ [(lbx, v)])[i].1 = q.1 ∧ ((fs ++ [fl]).getD i []).length ≤ q.2.2.length := by
  intro i hi
  by_cases hi' : i < fv.length
  · obtain ⟨q, hq, h1, h2⟩ := h.of i hi'
    obtain ⟨q', hq', e1, e2⟩ := hG.1 q hq
    refine ⟨q', hq', by rw [List.getElem_append_left hi', h1, e1], ?_⟩
    rw [List.getD_eq_getElem?_getD, List.getElem?_append_left (by rw [h.fl]; exact hi'), ← List.getD_eq_getElem?_getD]
    exact Nat.le_trans h2 e2.length_le
  · obtain rfl : i = fv.length := by simp at hi; omega
    obtain ⟨q', hq', e1, e2⟩ := hG.2.1
    refine ⟨q', hq', by simp [e1], ?_⟩
    rw [show (fs ++ [fl]).getD fv.length [] = fl by rw [← h.fl]; simp [List.getD_eq_getElem?_getD]]
    exact Nat.le_trans hl e2.length_le
/-- The tree as it was, behind a call at one line. -/
theorem T2.same (L1 L2 : List Ln) (q : Ln) (h : T2 C B g mn mw vk vs ks (L1 ++ q :: L2) fs fv nw Dn Dw w) (hT : T1 (C ++ (L1 ++ L2).flatMap (lnO w)) B g mn mw q.1 vk vs q.2.1 ks q.2.2 fs fv nw Dn Dw w') : T2 C B g mn mw vk vs ks (L1 ++ q :: L2) fs fv nw Dn Dw w' := by
  refine ⟨fun r hr => ?_, h.ap, h.of, h.fl, h.ne⟩
  rcases List.mem_append.1 hr with h1 | h1
  · exact h.other r hr hT (fun p hp => List.mem_append_left _ hp) (fun p hp => List.mem_append_right _ (List.mem_flatMap.2 ⟨r, List.mem_append_left _ h1, hp⟩))
  · rcases List.mem_cons.1 h1 with rfl | h1
    · exact hT.sub (fun p hp => List.mem_append_left _ hp)
    · exact h.other r hr hT (fun p hp => List.mem_append_left _ hp) (fun p hp => List.mem_append_right _ (List.mem_flatMap.2 ⟨r, List.mem_append_right _ h1, hp⟩))
theorem T2.lts (h : T2 C B g mn mw vk vs ks LS fs fv nw Dn Dw w) (r : Ln) (hr : r ∈ LS) : r.1 < w.heap.size ∧ ∀ b, r.2.1.ownBlock = some b → b < w.heap.size := ⟨(h.one r hr).lts.2.1, (h.one r hr).lts.2.2.2.2.2.2⟩
/-- The tree with one more shape, behind a call at one line. -/
theorem T2.more (L1 L2 : List Ln) (q : Ln) {E : List (Nat × Obj)} {lbx m : Nat} {k : Int} {vk' vs' vl' v : Value} {ks' : List Kb} {ln' : List Int} {fl : List Int} {nw' : Nat} {Dn' Dw' : DataW Unit} (h : T2 C B g mn mw vk vs ks (L1 ++ q :: L2) fs fv nw Dn Dw w) (hN : NewL w.heap.size B q.1 q.2.1 q.2.2 m k E lbx vl' ln') (hm : m ≤ q.2.2.length) (hfl : fl.length ≤ m + 1)
    (hT : T1 (E ++ (C ++ (L1 ++ L2).flatMap (lnO w))) B g mn mw q.1 vk' vs' vl' ks' ln' (fs ++ [fl]) (fv ++ [(lbx, v)]) nw' Dn' Dw' w') :
    ∃ LS', T2 C B g mn mw vk' vs' ks' LS' (fs ++ [fl]) (fv ++ [(lbx, v)]) nw' Dn' Dw' w' ∧ LsG (L1 ++ q :: L2) LS' lbx (q.2.2.take m ++ [k]) := by
  have hCm : ∀ p ∈ C, p ∈ E ++ (C ++ (L1 ++ L2).flatMap (lnO w)) := fun p hp => List.mem_append_right _ (List.mem_append_left _ hp)
  have hOm : ∀ r ∈ L1 ++ L2, ∀ p ∈ lnO w r, p ∈ E ++ (C ++ (L1 ++ L2).flatMap (lnO w)) := fun r hr p hp => List.mem_append_right _ (List.mem_append_right _ (List.mem_flatMap.2 ⟨r, hr, hp⟩))
  have hin : ∀ r ∈ L1 ++ L2, r ∈ L1 ++ q :: L2 := fun r hr => by
    rcases List.mem_append.1 hr with h1 | h1
    · exact List.mem_append_left _ h1
    · exact List.mem_append_right _ (List.mem_cons_of_mem _ h1)
  have hoth : ∀ r ∈ L1 ++ L2, T1 C B g mn mw r.1 vk' vs' r.2.1 ks' r.2.2 (fs ++ [fl]) (fv ++ [(lbx, v)]) nw' Dn' Dw' w' := fun r hr => h.other r (hin r hr) hT hCm (hOm r hr)
  have hlen : (q.2.2.take m ++ [k]).length = m + 1 := by simp; omega
  have hap := List.pairwise_append.1 h.ap
  have hap2 := List.pairwise_cons.1 hap.2.1
  rcases hN with ⟨rfl, rfl, hLn⟩ | ⟨rfl, rfl, hm2, hk2, v2, b2, c2, rfl, ⟨hB, hN1, hN2⟩, hv2, hrow⟩
  · have hpre : q.2.2 <+: ln' ∧ (q.2.2.take m ++ [k]) <+: ln' := by
      rcases hLn with ⟨rfl, rfl⟩ | ⟨hk, rfl⟩
      · exact ⟨List.prefix_append _ _, by rw [List.take_length]; exact List.prefix_refl _⟩
      · refine ⟨List.prefix_refl _, ?_⟩
        obtain ⟨hlt, e⟩ := List.getElem?_eq_some_iff.1 hk
        rw [← e, ← List.take_succ_eq_append_getElem hlt]
        exact List.take_prefix _ _
    have hG : LsG (L1 ++ q :: L2) (L1 ++ (q.1, vl', ln') :: L2) q.1 (q.2.2.take m ++ [k]) := by
      refine ⟨fun r hr => ?_, ⟨(q.1, vl', ln'), by simp, rfl, hpre.2⟩, fun h1 h2 r' hr' => ?_, fun r' hr' x hx => ?_⟩
      · rcases List.mem_append.1 hr with h1 | h1
        · exact ⟨r, List.mem_append_left _ h1, rfl, List.prefix_refl _⟩
        · rcases List.mem_cons.1 h1 with rfl | h1
          · exact ⟨(r.1, vl', ln'), by simp, rfl, hpre.1⟩
          · exact ⟨r, List.mem_append_right _ (List.mem_cons_of_mem _ h1), rfl, List.prefix_refl _⟩
      · rcases List.mem_append.1 hr' with h3 | h3
        · exact h1 r' (List.mem_append_left _ h3)
        · rcases List.mem_cons.1 h3 with rfl | h3
          · rcases hLn with ⟨rfl, rfl⟩ | ⟨hk, rfl⟩
            · rw [List.take_length] at h2; exact h2
            · exact h1 q (by simp)
          · exact h1 r' (List.mem_append_right _ (List.mem_cons_of_mem _ h3))
      · rcases List.mem_append.1 hr' with h3 | h3
        · exact .inl ⟨r', List.mem_append_left _ h3, hx⟩
        · rcases List.mem_cons.1 h3 with rfl | h3
          · rcases hLn with ⟨rfl, rfl⟩ | ⟨hk, rfl⟩
            · rcases List.mem_append.1 hx with h4 | h4
              · exact .inl ⟨q, by simp, h4⟩
              · exact .inr (List.mem_append_right _ h4)
            · exact .inl ⟨q, by simp, hx⟩
          · exact .inl ⟨r', List.mem_append_right _ (List.mem_cons_of_mem _ h3), hx⟩
    refine ⟨_, ⟨fun r hr => ?_, ?_, LsG.of h hG fl (by rw [hlen]; exact hfl), by simp [h.fl], by simp⟩, hG⟩
    · rcases List.mem_append.1 hr with h1 | h1
      · exact hoth r (List.mem_append_left _ h1)
      · rcases List.mem_cons.1 h1 with rfl | h1
        · exact hT.sub hCm
        · exact hoth r (List.mem_append_right _ h1)
    · have hq' : ∀ r ∈ L1 ++ L2, LnAp q r → LnAp (q.1, vl', ln') r := fun r hr ha => ⟨ha.1, fun b hb e => by
        obtain ⟨c, fz, ho⟩ := sh_kind (h.one r (hin r hr)).l b e
        exact (hT.cn (b, _) (hOm r hr _ (lnO_row e ho))).2.2.2.2.2.2 hb.symm⟩
      refine List.pairwise_append.2 ⟨hap.1, List.pairwise_cons.2 ⟨fun r hr => hq' r (List.mem_append_right _ hr) (hap2.1 r hr), hap2.2⟩, fun a ha b hb => ?_⟩
      rcases List.mem_cons.1 hb with rfl | hb
      · exact (hq' a (List.mem_append_left _ ha) (hap.2.2 a ha q (List.mem_cons_self ..)).symm).symm
      · exact hap.2.2 a ha b (List.mem_cons_of_mem _ hb)
  · have hG : LsG (L1 ++ q :: L2) ((L1 ++ q :: L2) ++ [(lbx, v2, q.2.2.take m ++ [k])]) lbx (q.2.2.take m ++ [k]) := by
      refine ⟨fun r hr => ⟨r, List.mem_append_left _ hr, rfl, List.prefix_refl _⟩, ⟨(lbx, v2, q.2.2.take m ++ [k]), by simp, rfl, List.prefix_refl _⟩, fun h1 h2 r' hr' => ?_, fun r' hr' x hx => ?_⟩
      · rcases List.mem_append.1 hr' with h3 | h3
        · exact h1 r' h3
        · rw [List.mem_singleton.1 h3]; exact h2
      · rcases List.mem_append.1 hr' with h3 | h3
        · exact .inl ⟨r', h3, hx⟩
        · rw [List.mem_singleton.1 h3] at hx; exact .inr hx
    have hq1 := h.one q (by simp)
    have hnew : T1 C B g mn mw lbx vk' vs' v2 ks' (q.2.2.take m ++ [k]) (fs ++ [fl]) (fv ++ [(lbx, v)]) nw' Dn' Dw' w' := by
      refine hT.other hB (fun p hp => ⟨hCm p hp, ?_, ?_⟩) (List.mem_append_left _ (List.mem_cons_self ..)) (List.mem_append_left _ (List.mem_cons_of_mem _ (List.mem_cons_self ..))) hv2 ?_
      · have := hq1.clt hp; omega
      · have := hq1.clt hp; omega
      · rw [hlen]
        exact hrow w' (hT.c (b2, _) (List.mem_append_left _ (List.mem_cons_of_mem _ (List.mem_cons_self ..))))
    refine ⟨_, ⟨fun r hr => ?_, ?_, LsG.of h hG fl (by rw [hlen]; exact hfl), by simp [h.fl], by simp⟩, hG⟩
    · rcases List.mem_append.1 hr with hr | hr
      · rcases List.mem_append.1 hr with h1 | h1
        · exact hoth r (List.mem_append_left _ h1)
        · rcases List.mem_cons.1 h1 with rfl | h1
          · exact hT.sub hCm
          · exact hoth r (List.mem_append_right _ h1)
      · rw [List.mem_singleton.1 hr]
        exact hnew
    · refine List.pairwise_append.2 ⟨h.ap, by simp, fun a ha b hb => ?_⟩
      rw [List.mem_singleton.1 hb]
      obtain ⟨l1, l2⟩ := h.lts a ha
      exact ⟨by show a.1 ≠ lbx; omega, fun x hx e => by
        have := l2 x hx
        have e' : v2.ownBlock = some x := e
        rw [hv2] at e'
        have := Option.some.inj e'
        omega⟩
/-- What Add comes to in a tree with several lines. -/
def AddT (C : List (Nat × Obj)) (B g mn mw : Nat) (vk vs : Value) (ks ks' : List Kb) (LS : List Ln) (fs : List (List Int)) (fv : List (Nat × Value)) (nw : Nat) (Dn Dw : DataW Unit) (ws : List ((Int × Int × Int) × Int)) (i k : Nat) (f : Int) (ln : List Int) (e : Ending) (w' : World) : Prop :=
  ((k : Int) ∈ ln.take (fs.getD i []).length ∧ e = .returned (.tuple #[.int .i64 0, .int .i64 141]) ∧ T2 C B g mn mw vk vs ks LS fs fv nw Dn Dw w') ∨
  ((k : Int) ∉ ln.take (fs.getD i []).length ∧ 128 ≤ (fs.getD i []).length ∧ e = .returned (.tuple #[.int .i64 0, .int .i64 2]) ∧ T2 C B g mn mw vk vs ks LS fs fv nw Dn Dw w') ∨
  ((k : Int) ∉ ln.take (fs.getD i []).length ∧ (fs.getD i []).length < 128 ∧
    ((∃ to', ((((i : Int), (k : Int), f) : Int × Int × Int), to') ∈ ws ∧ e = .returned (.tuple #[.int .i64 to', .int .i64 0]) ∧ T2 C B g mn mw vk vs ks LS fs fv nw Dn Dw w') ∨
     ((∀ p ∈ ws, p.1 ≠ ((i : Int), (k : Int), f)) ∧ 100000 ≤ fv.length ∧ e = .returned (.tuple #[.int .i64 0, .int .i64 2]) ∧ T2 C B g mn mw vk vs ks LS fs fv nw Dn Dw w') ∨
     ((∀ p ∈ ws, p.1 ≠ ((i : Int), (k : Int), f)) ∧ fv.length < 100000 ∧ e = .returned (.tuple #[.int .i64 (fv.length : Nat), .int .i64 0]) ∧ ∃ LS' lbx vk' vs' Dn' Dw' v, T2 C B g mn mw vk' vs' ks' LS' (fs ++ [fs.getD i [] ++ [f]]) (fv ++ [(lbx, v)]) (nw + 1) Dn' Dw' w' ∧ LsG LS LS' lbx (ln.take (fs.getD i []).length ++ [(k : Int)]) ∧ NumOk Dn' ks' ∧ WayOk Dw' (ws ++ [(((i : Int), (k : Int), f), (fv.length : Int))]))))
theorem t2_add {ks' : List Kb} (i k : Nat) (s0 : ByteArray) (z0 : Int) (s : ByteArray) (z : Int) (hbs : bareS s0 z0 = s) (hbz : bareZ z0 = z) (f : Int) (ws : List ((Int × Int × Int) × Int)) (w : World) (h : T2 C B g mn mw vk vs ks LS fs fv nw Dn Dw w) (hn : NumOk Dn ks) (hw : WayOk Dw ws) (hs0 : (s0.size : Int) ≤ 140737488351232) (hzf : (Lit.int .i64 z).wf = true) (hz : ∀ t ∈ ks, Kwf t) (hk : KsW ks (s, z) k ks') (hi : i < fv.length) (f0 : 0 ≤ f) (f1 : f ≤ 15) (hl : ∀ r ∈ LS, r.2.2.length ≤ 128) (hl2 : fv.length ≤ 100000) (hl3 : ks.length < 100000) (hl4 : nw < 100000) (hkk : k < 100000) :
    Calls Try.prog 11 #[.pointer (some ⟨g, 0, none⟩), .int .i64 (i : Nat), .agg #[.string s0, .int .i64 z0], .int .i64 f] w fun e w' => (∃ q ∈ LS, fv[i].1 = q.1 ∧ (fs.getD i []).length ≤ q.2.2.length ∧ AddT C B g mn mw vk vs ks ks' LS fs fv nw Dn Dw ws i k f q.2.2 e w') ∧ Below B w w' := by
  obtain ⟨q, hq, hq1, hq2⟩ := h.of i hi
  obtain ⟨L1, L2, rfl⟩ := List.append_of_mem hq
  have hap := List.pairwise_append.1 h.ap
  have hap2 := List.pairwise_cons.1 hap.2.1
  have hT := h.focus q (L1 ++ L2) hq (fun r hr => by
    rcases List.mem_append.1 hr with h1 | h1
    · exact ⟨List.mem_append_left _ h1, (hap.2.2 r h1 q (List.mem_cons_self ..)).symm⟩
    · exact ⟨List.mem_append_right _ (List.mem_cons_of_mem _ h1), hap2.1 r h1⟩)
  have hql := hl q hq
  refine (add_all i k s0 z0 s z hbs hbz f ws w hT hn hw hs0 hzf hz hk hi hq1 h.fl hq2 f0 f1 (by omega) hl2 hl3 hl4 hkk).mono ?_
  rintro e w' ⟨hA, hb⟩
  refine ⟨⟨q, hq, hq1, hq2, ?_⟩, hb⟩
  rcases hA with ⟨h1, h2, h3⟩ | ⟨h1, h2, h3, h4⟩ | ⟨h1, h2, hA⟩
  · exact .inl ⟨h1, h2, h.same L1 L2 q h3⟩
  · exact .inr (.inl ⟨h1, h2, h3, h.same L1 L2 q h4⟩)
  · refine .inr (.inr ⟨h1, h2, ?_⟩)
    rcases hA with ⟨to', h3, h4, h5⟩ | ⟨h3, h4, h5, h6⟩ | ⟨h3, h4, h5, lbx, E, vl', ln', vk', vs', Dn', Dw', v, hN, h6, h7, h8⟩
    · exact .inl ⟨to', h3, h4, h.same L1 L2 q h5⟩
    · exact .inr (.inl ⟨h3, h4, h5, h.same L1 L2 q h6⟩)
    · obtain ⟨LS', k1, k2⟩ := h.more L1 L2 q hN hq2 (by simp) h6
      exact .inr (.inr ⟨h3, h4, h5, LS', lbx, vk', vs', Dn', Dw', v, k1, k2, h7, h8⟩)
end
end Go.Proofs.Ytoonaljmdiideaa

namespace Go.Proofs.Ytoonaljmdiideaa
set_option linter.unusedVariables false
set_option linter.unusedSimpArgs false
open Go.RowKit Go.Maps Go.ChangeShapes
/-- One cell of an owned row is written. -/
theorem own_set {w : World} {B : Nat} {e : TypeId} {v u : Value} {n b j : Nat} {xs : List Value} (h : w.ownsRow B e 1 v n xs) (hb : v.ownBlock = some b) (hj : j < n) : (w.setCell ⟨b, j, none⟩ u).ownsRow B e 1 v n (xs.set j u) := by
  refine ⟨by rw [List.length_set]; exact h.1, ?_⟩
  rcases h.2 with ⟨rfl, _⟩ | ⟨g, cap, cur, rfl, hB, hg, h1, h2, h3, h4⟩
  · cases hb
  · simp [Value.ownBlock] at hb
    subst hb
    refine .inr ⟨g, cap, cur.setIfInBounds j u, rfl, hB, set_blk2' hg, h1, h2, by simpa using h3, ?_⟩
    rw [← h4, Array.toList_setIfInBounds, List.take_set]
theorem bC_set (l : List Int) (j : Nat) (f : Int) : bC (l.set j f) = (bC l).set j (.int .u8 f) := by unfold bC; rw [List.map_set]
set_option maxHeartbeats 1000000 in
set_option maxRecDepth 100000 in
theorem clone8 (B : Nat) (v : Value) (l : List Int) (w : World) (h : w.ownsRow B 5 1 v l.length (bC l)) (h1 : 1 ≤ l.length) (h2 : l.length ≤ 1000) :
    Calls Try.prog 49 #[v] w fun e w' => ∃ b c, e = .returned (.slice (some ⟨b, 0, none⟩) l.length c) ∧ w.heap.size ≤ b ∧ w'.ownsRow w.heap.size 5 1 (.slice (some ⟨b, 0, none⟩) l.length c) l.length (bC l) ∧ Below w.heap.size w w' := by
  obtain ⟨a, c, hv, _⟩ := own_slice' h
  subst hv
  obtain ⟨g, rfl⟩ := own_some h (by omega)
  have b1 : Below w.heap.size w (w.alloc (.cells #[] 5)) := (Below.refl _ _).alloc (Nat.le_refl _) _
  have ho : (w.alloc (.cells #[] 5)).ownsRow w.heap.size 5 1 (.slice (some ⟨w.heap.size, 0, none⟩) 0 0) 0 (bC []) := ⟨rfl, .inr ⟨w.heap.size, 0, #[], rfl, Nat.le_refl _, World.alloc_heap_new _ _, Nat.le_refl _, by decide, rfl, rfl⟩⟩
  obtain ⟨v', w', hrun, r1, r2⟩ := app8 ho (own_below h b1) (by omega) (by simp)
  rw [Nat.zero_add, List.nil_append] at r1
  obtain ⟨a', c', hv', _⟩ := own_slice' r1
  subst hv'
  obtain ⟨g', rfl⟩ := own_some r1 (by omega)
  have HR1 := Hid.mk' r1
  have HR2 : Hid (Below w.heap.size w w') := Hid.mk' (b1.trans r2)
  have HG : Hid (w.heap.size ≤ g') := Hid.mk' (r1.lt g' rfl).1
  obtain ⟨n, hn⟩ : ∃ n, l.length = n := ⟨_, rfl⟩
  rw [hn] at hrun HR1 ⊢
  have hq : ∀ W, (binOp .eql 61 (.slice (some ⟨g, 0, none⟩) n c) (.slice none 0 0)).run Try.prog W = .ok (.bool false) W := fun W => Lib.run_eql_slice_nil W _ _ _ _ _ _ _ Try.underlying61
  clear h ho b1 r1 r2 h1 h2 hn
  go_enter Try.func49, Try.ntmps49
  go_wp2_with (at_builtin; refine Lib.wpList_append_run _ rfl _ _ _ _ rfl _ _ rfl rfl _ _ hrun ?_)
  go_ret
  exact ⟨g', c', rfl, HG.out, HR1.out, HR2.out⟩
section
variable {C : List (Nat × Obj)} {B g mn mw lb : Nat} {vk vs vl : Value} {ks : List Kb} {ln : List Int} {fs : List (List Int)} {fv : List (Nat × Value)} {nw : Nat} {Dn Dw : DataW Unit} {w : World}
set_option maxHeartbeats 4000000 in
set_option maxRecDepth 100000 in
theorem changed_any (i j : Nat) (f : Int) (w : World) (h : T1 C B g mn mw lb vk vs vl ks ln fs fv nw Dn Dw w) (hi : i < fv.length) (hj : j < (fs.getD i []).length) (hm : (fs.getD i []).length < 1000) (f0 : 0 ≤ f) (f1 : f ≤ 15) :
    Calls Try.prog 29 #[.agg #[.pointer (some ⟨lb, 0, none⟩), fv[i].2], .int .i64 (j : Nat), .int .i64 f] w fun e w' => ∃ v, e = .returned (.agg #[.pointer (some ⟨lb, 0, none⟩), v]) ∧ T1 C B g mn mw lb vk vs vl ks ln fs fv nw Dn Dw w' ∧ w'.ownsRow B 5 1 v ((fs.getD i []).set j f).length (bC ((fs.getD i []).set j f)) ∧ Below w.heap.size w w' := by
  have hBw : B ≤ w.heap.size := by have := h.ge.1; have := h.lts.1; omega
  have ho := h.f i hi
  obtain ⟨fa, fc, hfv, _⟩ := own_slice' ho
  obtain ⟨fl, hfl⟩ : ∃ fl, fs.getD i [] = fl := ⟨_, rfl⟩
  rw [hfl] at hj hm hfv ho ⊢
  obtain ⟨m, hmm⟩ : ∃ m, fl.length = m := ⟨_, rfl⟩
  rw [hfv] at ho ⊢
  obtain ⟨W2, hW2⟩ : ∃ W2, (w.alloc (.cells #[.pointer (some ⟨lb, 0, none⟩), .slice fa fl.length fc] 63)).alloc (.cells #[.pointer none, .slice none 0 0] 63) = W2 := ⟨_, rfl⟩
  have b2 : Below w.heap.size w W2 := by rw [← hW2]; exact ((Below.refl _ _).alloc (Nat.le_refl _) _).alloc (by simp) _
  obtain ⟨b0, hb0⟩ : ∃ b0, w.heap.size = b0 := ⟨_, rfl⟩
  have q1 : W2.heap[b0]? = some (.cells #[.pointer (some ⟨lb, 0, none⟩), .slice fa fl.length fc] 63 (0, 0)) := by rw [← hW2, ← hb0]; exact sh_old (by simp) (sh_new rfl)
  have q2 : W2.heap[b0 + 1]? = some (.cells #[.pointer none, .slice none 0 0] 63 (0, 0)) := by rw [← hW2, ← hb0]; exact sh_new (by simp)
  have sz2 : W2.heap.size = b0 + 2 := by rw [← hW2, ← hb0]; simp
  have HCL := Hid.mk' (clone8 B (.slice fa fl.length fc) fl W2 (own_below ho b2) (by omega) (by omega))
  obtain ⟨x0, x1, p0, p1⟩ := pair_facts q1
  have HB2 := Hid.mk' b2
  have HQ1 := Hid.mk' q1
  have HQ2 := Hid.mk' q2
  have HT := Hid.mk' h
  have HH2 := Hid.mk' hW2
  have HS0 := Hid.mk' hb0
  have HZ2 := Hid.mk' sz2
  have HBW := Hid.mk' hBw
  have HM := Hid.mk' hmm
  rw [hmm] at HCL p1 hj HH2 ⊢
  have j1 : (j : Int) < (m : Int) := by omega
  have HJ := Hid.mk' hj
  have hw8 : IntKind.u8.wrap f = f := by rw [IntKind.wrap_u8]; omega
  clear h ho hi hm hfl hfv hBw b2 q1 q2 hW2 x0 x1 hmm f0 f1 hj hb0 sz2
  go_enter Try.func29, Try.ntmps29
  go_upto_region 1 with fail
  rw [HH2.out]
  rw [HS0.out]
  go_wp2_with fail
  refine HCL.out.mono ?_
  rintro e w3 ⟨b, c, rfl, hbg, ho3, b3⟩
  have q31 := (b3.block b0 (Array.getElem?_eq_some_iff.1 HQ1.out).1).trans HQ1.out
  have q32 := (b3.block (b0 + 1) (Array.getElem?_eq_some_iff.1 HQ2.out).1).trans HQ2.out
  have hb0 : b ≠ b0 := by have := HZ2.out; omega
  have hb1 : b ≠ b0 + 1 := by have := HZ2.out; omega
  obtain ⟨cc, hk3, hcs⟩ : ∃ cc : Array Value, w3.heap[b]? = some (.cells cc 5 (0, 0)) ∧ m ≤ cc.size := by
    rcases ho3.2 with ⟨e, _⟩ | ⟨g', cap, cur, e, _, hg', h1, _, h3, _⟩
    · cases e
    · simp only [Value.slice.injEq, Option.some.injEq, Addr.mk.injEq, and_true, true_and] at e
      obtain ⟨rfl, rfl⟩ := e
      exact ⟨cur, hg', by omega⟩
  have hcj : ∃ u, w3.cell? ⟨b, j, none⟩ = some u := by
    have hlt : j < cc.size := by have := HJ.out; omega
    exact ⟨cc[j], by simp [World.cell?, hk3, hlt]⟩
  obtain ⟨u, hcu⟩ := hcj
  have hfz : w3.frozen? ⟨b, j, none⟩ = false := by simp [World.frozen?, hk3]
  have hset := own_set (u := .int .u8 f) (j := j) ho3 rfl HJ.out
  rw [← bC_set] at hset
  obtain ⟨W4, hW4⟩ : ∃ W4, w3.setCell ⟨b, j, none⟩ (.int .u8 f) = W4 := ⟨_, rfl⟩
  rw [hW4] at hset
  have s4 : Sv [b] w3 W4 := by rw [← hW4]; exact Sv.set _ _ _ _
  have b4 : Below w.heap.size w W4 := by
    rw [← hW4]
    exact (HB2.out.trans (b3.mono HB2.out.size)).setCell (p := ⟨b, j, none⟩) (by have := HB2.out.size; show w.heap.size ≤ b; omega) _
  have q41 := s4.all _ _ (by simpa using fun e : b0 = b => hb0 e.symm) q31
  have q42 := s4.all _ _ (by simpa using fun e : b0 + 1 = b => hb1 e.symm) q32
  obtain ⟨_, _, y0, y1⟩ := pair_facts q41
  obtain ⟨z0, z1, z2, z3⟩ := pair_facts q42
  have HSET := Hid.mk' hset
  have HB4 := Hid.mk' b4
  have HH4 := Hid.mk' hW4
  have HQ42 := Hid.mk' q42
  clear p0 p1 q31 q32 hk3 hcs ho3 b3 hbg hset s4 b4 q41 q42 hW4 hb0 hb1
  go_upto_region 3 with fail
  rw [HH4.out]
  clear hcu hfz
  go_wp2
  (try simp only [Exit.inBlock, Exit.then])
  refine bodyPost_ret (v := .agg #[.pointer (some ⟨lb, 0, none⟩), .slice (some ⟨b, 0, none⟩) m c]) ?_ rfl ⟨_, rfl, ?_, ?_, ?_⟩
  · rw [sh_results_cell rfl]
    go_simp
  · refine HT.out.below ?_
    exact (HB4.out.setCell (p := ⟨b0 + 1, 0, none⟩) (by rw [HS0.out]; show b0 ≤ b0 + 1; omega) _).setCell (p := ⟨b0 + 1, 1, none⟩) (by rw [HS0.out]; show b0 ≤ b0 + 1; omega) _
  · rw [List.length_set, HM.out]
    refine sh_mono ?_ (Nat.le_trans HBW.out HB2.out.size)
    have s5 : Sv [b0 + 1] W4 ((W4.setCell ⟨b0 + 1, 0, none⟩ (.pointer (some ⟨lb, 0, none⟩))).setCell ⟨b0 + 1, 1, none⟩ (.slice (some ⟨b, 0, none⟩) m c)) := by
      have := (Sv.set W4 (b0 + 1) 0 (.pointer (some ⟨lb, 0, none⟩))).trans (Sv.set (W4.setCell ⟨b0 + 1, 0, none⟩ (.pointer (some ⟨lb, 0, none⟩))) (b0 + 1) 1 (.slice (some ⟨b, 0, none⟩) m c))
      exact ⟨this.size, fun k o hk ho => this.all k o (by simpa using hk) ho⟩
    exact s5.own HSET.out (fun x hx => by rw [List.mem_singleton.1 hx]; exact sh_ne HSET.out HQ42.out (fun c fz q => by cases q))
  · exact (HB4.out.setCell (p := ⟨b0 + 1, 0, none⟩) (by rw [HS0.out]; show b0 ≤ b0 + 1; omega) _).setCell (p := ⟨b0 + 1, 1, none⟩) (by rw [HS0.out]; show b0 ≤ b0 + 1; omega) _
end
end Go.Proofs.Ytoonaljmdiideaa
