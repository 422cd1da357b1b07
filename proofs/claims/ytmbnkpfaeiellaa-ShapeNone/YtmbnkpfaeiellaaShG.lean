/- Package shape: what a tree comes to when its line, its keys, its shapes grow. -/
import Derived.Test.YtmbnkpfaeiellaaShF
namespace Go.Proofs.Ytmbnkpfaeiellaa
set_option linter.unusedVariables false
set_option linter.unusedSimpArgs false
open Go.RowKit Go.Maps Go.ChangeShapes
section
variable {C : List (Nat × Obj)} {B g mn mw lb : Nat} {vk vs vl : Value} {ks : List ByteArray} {ln : List Int} {fs : List (List Int)} {fv : List Value} {nw : Nat} {Dn Dw : DataW Unit} {w w' : World}

theorem ob_new {v' v : Value} {N : Nat} {p : Nat} (hb : v'.ownBlock = v.ownBlock ∨ ∃ b, v'.ownBlock = some b ∧ N ≤ b) (hp : p < N) (hn : some p ≠ v.ownBlock) : some p ≠ v'.ownBlock := by
  rcases hb with e | ⟨b, e, hl⟩
  · rw [e]; exact hn
  · rw [e]; intro q; cases q; omega
theorem set_blk2' {W : World} {rb j : Nat} {c : Array Value} {t : TypeId} {m} {v : Value} (h : W.heap[rb]? = some (.cells c t m)) : (W.setCell ⟨rb, j, none⟩ v).heap[rb]? = some (.cells (c.setIfInBounds j v) t m) := by
  simp only [World.setCell, Array.getElem?_modify, h]
  rw [if_pos trivial]
  rfl
theorem T1.clt (h : T1 C B g mn mw lb vk vs vl ks ln fs fv nw Dn Dw w) {p : Nat × Obj} (hp : p ∈ C) : p.1 < w.heap.size := (Array.getElem?_eq_some_iff.1 (h.c p hp)).1

theorem T1.appL (h : T1 C B g mn mw lb vk vs vl ks ln fs fv nw Dn Dw w) {v' : Value} {k : Int} (hs : Sv (vl.ownBlock.toList ++ [lb]) w w') (hl : w'.ownsRow B 21 1 v' (ln.length + 1) (iC ln ++ [.int .i32 k])) (hr : w'.heap[lb]? = some (.cells #[v'] 81 (0, 0))) (hb : v'.ownBlock = vl.ownBlock ∨ ∃ b, v'.ownBlock = some b ∧ w.heap.size ≤ b) :
    T1 C B g mn mw lb vk vs v' ks (ln ++ [k]) fs fv nw Dn Dw w' := by
  have hX : ∀ x, x ∈ vl.ownBlock.toList ++ [lb] → vl.ownBlock = some x ∨ x = lb := fun x hx => by simpa [eq_comm] using hx
  obtain ⟨n1, n2, n3, n4, n5⟩ := h.nes
  obtain ⟨m1, m2⟩ := h.mapne h.l
  obtain ⟨r1, r2⟩ := h.rowne h.l (by decide) (by decide)
  obtain ⟨k1, k2⟩ := h.rowne h.k (by decide) (by decide)
  obtain ⟨s1, s2⟩ := h.rowne h.s (by decide) (by decide)
  refine ⟨h.ge, hs.all _ _ (fun q => ?_) h.row, hr, hs.own h.k (fun x hx => ?_), hs.own h.s (fun x hx => ?_), by rw [List.length_append, iC_append]; exact hl, fun i hi => hs.own (h.f i hi) (fun x hx => ?_), hs.map h.n (fun q => ?_), hs.map h.m (fun q => ?_), h.mm, fun p hp => hs.all _ _ (fun q => ?_) (h.c p hp), fun p hp => ?_⟩
  · rcases hX _ q with e | e
    · exact r1 e.symm
    · exact n1 e
  · rcases hX _ hx with e | rfl
    · exact sh_apart h.l h.k (by decide) x e
    · exact k2
  · rcases hX _ hx with e | rfl
    · exact sh_apart h.l h.s (by decide) x e
    · exact s2
  · obtain ⟨f1, f2⟩ := h.rowne (h.f i hi) (by decide) (by decide)
    rcases hX _ hx with e | rfl
    · exact sh_apart h.l (h.f i hi) (by decide) x e
    · exact f2
  · rcases hX _ q with e | e
    · exact m1 e.symm
    · exact n4 e.symm
  · rcases hX _ q with e | e
    · exact m2 e.symm
    · exact n5 e.symm
  · obtain ⟨c1, c2, c3, c4, c5, c6, c7⟩ := h.cn p hp
    rcases hX _ q with e | e
    · exact c7 e.symm
    · exact c2 e
  · obtain ⟨c1, c2, c3, c4, c5, c6, c7⟩ := h.cn p hp
    exact ⟨c1, c2, c3, c4, c5, c6, ob_new hb (h.clt hp) c7⟩

theorem T1.appK (h : T1 C B g mn mw lb vk vs vl ks ln fs fv nw Dn Dw w) {v' : Value} {s : ByteArray} {Dn' : DataW Unit} (hs : Sv ([mn] ++ (vk.ownBlock.toList ++ [g])) w w') (hk : w'.ownsRow B 31 2 v' (ks.length + 1) (kC ks ++ [.string s, .int .i64 0])) (hr : w'.heap[g]? = some (.cells #[.pointer (some ⟨g, 0, none⟩), .map (some mn), v', vs, .map (some mw)] 62 (0, 0))) (hn : w'.ownsMap Try.prog 31 (plainElem Try.prog 21) mn (ks.length + 1) Dn') (hb : v'.ownBlock = vk.ownBlock ∨ ∃ b, v'.ownBlock = some b ∧ w.heap.size ≤ b) :
    T1 C B g mn mw lb v' vs vl (ks ++ [s]) ln fs fv nw Dn' Dw w' := by
  have hX : ∀ x, x ∈ [mn] ++ (vk.ownBlock.toList ++ [g]) → x = mn ∨ vk.ownBlock = some x ∨ x = g := fun x hx => by simpa [eq_comm] using hx
  obtain ⟨n1, n2, n3, n4, n5⟩ := h.nes
  obtain ⟨m1, m2⟩ := h.mapne h.k
  obtain ⟨r1, r2⟩ := h.rowne h.k (by decide) (by decide)
  refine ⟨h.ge, hr, hs.all _ _ (fun q => ?_) h.lrow, by rw [List.length_append, kC_append]; exact hk, hs.own h.s (fun x hx => ?_), hs.own h.l (fun x hx => ?_), fun i hi => hs.own (h.f i hi) (fun x hx => ?_), by rw [List.length_append]; exact hn, hs.map h.m (fun q => ?_), h.mm, fun p hp => hs.all _ _ (fun q => ?_) (h.c p hp), fun p hp => ?_⟩
  · rcases hX _ q with e | e | e
    · exact n4 e
    · exact r2 e.symm
    · exact n1 e.symm
  · rcases hX _ hx with rfl | e | rfl
    · exact (h.mapne h.s).1
    · exact sh_apart h.k h.s (by decide) x e
    · exact (h.rowne h.s (by decide) (by decide)).1
  · rcases hX _ hx with rfl | e | rfl
    · exact (h.mapne h.l).1
    · exact sh_apart h.k h.l (by decide) x e
    · exact (h.rowne h.l (by decide) (by decide)).1
  · rcases hX _ hx with rfl | e | rfl
    · exact (h.mapne (h.f i hi)).1
    · exact sh_apart h.k (h.f i hi) (by decide) x e
    · exact (h.rowne (h.f i hi) (by decide) (by decide)).1
  · rcases hX _ q with e | e | e
    · exact h.mm e.symm
    · exact m2 e.symm
    · exact n3 e.symm
  · obtain ⟨c1, c2, c3, c4, c5, c6, c7⟩ := h.cn p hp
    rcases hX _ q with e | e | e
    · exact c3 e
    · exact c5 e.symm
    · exact c1 e
  · obtain ⟨c1, c2, c3, c4, c5, c6, c7⟩ := h.cn p hp
    exact ⟨c1, c2, c3, c4, ob_new hb (h.clt hp) c5, c6, c7⟩

theorem T1.appS (h : T1 C B g mn mw lb vk vs vl ks ln fs fv nw Dn Dw w) {v' x : Value} {l : List Int} {Dw' : DataW Unit} (hfl : fs.length = fv.length) (hs : Sv (vs.ownBlock.toList ++ [g] ++ [mw]) w w') (hv : w'.ownsRow B 84 2 v' (fv.length + 1) (cC lb fv ++ [.pointer (some ⟨lb, 0, none⟩), x])) (hr : w'.heap[g]? = some (.cells #[.pointer (some ⟨g, 0, none⟩), .map (some mn), vk, v', .map (some mw)] 62 (0, 0))) (hm : w'.ownsMap Try.prog 90 (plainElem Try.prog 3) mw (nw + 1) Dw') (hx : w'.ownsRow B 5 1 x l.length (bC l)) (hb : v'.ownBlock = vs.ownBlock ∨ ∃ b, v'.ownBlock = some b ∧ w.heap.size ≤ b) :
    T1 C B g mn mw lb vk v' vl ks ln (fs ++ [l]) (fv ++ [x]) (nw + 1) Dn Dw' w' := by
  have hX : ∀ x, x ∈ vs.ownBlock.toList ++ [g] ++ [mw] → vs.ownBlock = some x ∨ x = g ∨ x = mw := fun x hx => by simpa [eq_comm, or_assoc] using hx
  obtain ⟨n1, n2, n3, n4, n5⟩ := h.nes
  obtain ⟨m1, m2⟩ := h.mapne h.s
  obtain ⟨r1, r2⟩ := h.rowne h.s (by decide) (by decide)
  refine ⟨h.ge, hr, hs.all _ _ (fun q => ?_) h.lrow, hs.own h.k (fun x hx => ?_), by rw [List.length_append, cC_append]; exact hv, hs.own h.l (fun x hx => ?_), fun i hi => ?_, hs.map h.n (fun q => ?_), hm, h.mm, fun p hp => hs.all _ _ (fun q => ?_) (h.c p hp), fun p hp => ?_⟩
  · rcases hX _ q with e | e | e
    · exact r2 e.symm
    · exact n1 e.symm
    · exact n5 e
  · rcases hX _ hx with e | rfl | rfl
    · exact sh_apart h.s h.k (by decide) x e
    · exact (h.rowne h.k (by decide) (by decide)).1
    · exact (h.mapne h.k).2
  · rcases hX _ hx with e | rfl | rfl
    · exact sh_apart h.s h.l (by decide) x e
    · exact (h.rowne h.l (by decide) (by decide)).1
    · exact (h.mapne h.l).2
  · by_cases hi' : i < fv.length
    · have e1 : (fv ++ [x])[i] = fv[i] := List.getElem_append_left hi'
      have e2 : (fs ++ [l]).getD i [] = fs.getD i [] := by
        rw [List.getD_eq_getElem?_getD, List.getD_eq_getElem?_getD, List.getElem?_append_left (by omega)]
      rw [e1, e2]
      refine hs.own (h.f i hi') (fun x hx => ?_)
      rcases hX _ hx with e | rfl | rfl
      · exact sh_apart h.s (h.f i hi') (by decide) x e
      · exact (h.rowne (h.f i hi') (by decide) (by decide)).1
      · exact (h.mapne (h.f i hi')).2
    · have hi2 : i = fv.length := by simp at hi; omega
      subst hi2
      have e1 : (fv ++ [x])[fv.length] = x := by simp
      have e2 : (fs ++ [l]).getD fv.length [] = l := by rw [← hfl]; simp [List.getD_eq_getElem?_getD]
      rw [e1, e2]
      exact hx
  · rcases hX _ q with e | e | e
    · exact m1 e.symm
    · exact n2 e.symm
    · exact h.mm e
  · obtain ⟨c1, c2, c3, c4, c5, c6, c7⟩ := h.cn p hp
    rcases hX _ q with e | e | e
    · exact c6 e.symm
    · exact c1 e
    · exact c4 e
  · obtain ⟨c1, c2, c3, c4, c5, c6, c7⟩ := h.cn p hp
    exact ⟨c1, c2, c3, c4, c5, ob_new hb (h.clt hp) c6, c7⟩
end
end Go.Proofs.Ytmbnkpfaeiellaa
