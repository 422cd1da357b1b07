/- A table and the law's own list of texts, side by side. -/
import Derived.Test.YthomeimnhipilaaDoorKTb2
import Derived.Test.YthomeimnhipilaaDoorKEach
namespace Go.Proofs.YthomeimnhipilaaDoor
set_option linter.unusedVariables false
open Go.RowKit Go.Maps Go.ChangeShapes

theorem own_off {w w' : World} {B : Nat} {e : TypeId} {sz : Nat} {v : Value} {n : Nat} {xs : List Value} (h : w.ownsRow B e sz v n xs) (hk : ∀ g, v.ownBlock = some g → w'.heap[g]? = w.heap[g]?) : w'.ownsRow B e sz v n xs := by
  refine ⟨h.1, ?_⟩
  rcases h.2 with hn | ⟨g, cap, cur, rfl, hB, hgg, rest⟩
  · exact .inl hn
  · exact .inr ⟨g, cap, cur, rfl, hB, (hk g rfl).trans hgg, rest⟩
theorem Tab.off {B g mb : Nat} {vt : Value} {ts : List ByteArray} {D : DataW Unit} {w w' : World} (h : Tab B g mb vt (.slice none 0 0) ts [] D w) (hg : w'.heap[g]? = w.heap[g]?) (hm : w'.heap[mb]? = w.heap[mb]?) (ht : ∀ k, vt.ownBlock = some k → w'.heap[k]? = w.heap[k]?) : Tab B g mb vt (.slice none 0 0) ts [] D w' := by
  refine ⟨h.gB, h.mB, hg.trans h.row, own_off h.t ht, World.ownsRow_nil _ _ _ _, ?_, h.ok, h.ap⟩
  obtain ⟨es, clock, he, rest⟩ := h.m
  exact ⟨es, clock, hm.trans he, rest⟩
theorem box_ne {w : World} {B b n sz : Nat} {e t : TypeId} {v u : Value} {xs : List Value} (h : w.ownsRow B e sz v n xs) (hr : Boxed w b t u) (hne : e ≠ t) : ∀ r, v.ownBlock = some r → b ≠ r := by
  intro r hrr he
  exact row_ne h hr hne r hrr (by rw [he])

/-- The table has the texts kt, the list has the texts kn. -/
structure TabS (B g mb bk : Nat) (vt vk : Value) (D : DataW Unit) (kt kn : List ByteArray) (w : World) : Prop where
  tab : Tab B g mb vt (.slice none 0 0) kt [] D w
  box : Boxed w bk 33 vk
  row : w.ownsRow B 23 1 vk kn.length (sC kn)
  ap : Apart vt vk
  ev : ∀ t ∈ kn, evenS t = t ∧ (t.size : Int) ≤ 140737488351232
theorem TabS.below {B g mb bk : Nat} {vt vk : Value} {D : DataW Unit} {kt kn : List ByteArray} {w w' : World} (h : TabS B g mb bk vt vk D kt kn w) (hb : Below w.heap.size w w') : TabS B g mb bk vt vk D kt kn w' :=
  ⟨h.tab.below hb, (hb.block bk h.box.lt).trans h.box, own_below h.row hb, h.ap, h.ev⟩
theorem TabS.gk {B g mb bk : Nat} {vt vk : Value} {D : DataW Unit} {kt kn : List ByteArray} {w : World} (h : TabS B g mb bk vt vk D kt kn w) : bk ≠ g ∧ bk ≠ mb := by
  constructor
  · intro e
    have h1 := h.box
    rw [e] at h1
    have := h.tab.row.symm.trans h1
    simp at this
  · intro e
    have h1 := h.box
    obtain ⟨es, clock, he, _⟩ := h.tab.m
    rw [e] at h1
    have := he.symm.trans h1
    cases this
theorem TabS.app {B g mb bk : Nat} {vt vk v5 : Value} {D : DataW Unit} {kt kn : List ByteArray} {w W w5 : World} {q : ByteArray} (h : TabS B g mb bk vt vk D kt kn w) (hb : Below w.heap.size w W) (hg : W.grownBy w5 vk.ownBlock)
    (o5 : w5.ownsRow B 23 1 v5 (kn.length + 1) (sC kn ++ [.string q])) (hl : v5.ownBlock = vk.ownBlock ∨ v5.ownBlock = some W.heap.size) (hq : evenS q = q ∧ (q.size : Int) ≤ 140737488351232) : TabS B g mb bk vt v5 D kt (kn ++ [q]) (w5.setCell ⟨bk, 0, none⟩ v5) := by
  have hW := h.below hb
  obtain ⟨n1, n2⟩ := hW.gk
  have kb : ∀ r, vk.ownBlock = some r → bk ≠ r := box_ne hW.row hW.box (by decide)
  have tb : ∀ r, vt.ownBlock = some r → bk ≠ r := box_ne hW.tab.t hW.box (by decide)
  have ng : some g ≠ vk.ownBlock := fun e => row_ne hW.row hW.tab.row (by decide) g e.symm rfl
  have nm : some mb ≠ vk.ownBlock := fun e => own_ne_map hW.row hW.tab.m _ e.symm rfl
  have b5 : Boxed w5 bk 33 vk := hW.box.kept hg (fun e => kb bk e.symm rfl)
  have at5 : ∀ k, k ≠ bk → k < W.heap.size → some k ≠ vk.ownBlock → (w5.setCell ⟨bk, 0, none⟩ v5).heap[k]? = W.heap[k]? := fun k h1 h2 h3 => (Below.heap_setCell _ _ _ _ h1).trans (hg.block k h2 h3)
  refine ⟨hW.tab.off (at5 g n1.symm hW.tab.lt.1 ng) (at5 mb n2.symm hW.tab.lt.2 nm) (fun k hk => at5 k (fun e => tb k hk e.symm) (hW.tab.t.lt k hk).2 (fun e => hW.ap k hk e.symm)), b5.set v5, ?_, apart_new hW.tab.t hW.ap hl (Nat.le_refl _), ?_⟩
  · rw [List.length_append, sC_append]
    exact own_other o5 (grown_set w5 ⟨bk, 0, none⟩ v5) (fun r hr e => by cases e; exact box_ne o5 b5 (by decide) bk hr rfl)
  · intro t ht
    rcases List.mem_append.1 ht with h1 | h1
    · exact h.ev t h1
    · rw [List.mem_singleton.1 h1]; exact hq
theorem TabS.int {B g mb bk : Nat} {vt vt' vk : Value} {D D' : DataW Unit} {kt kt' kn : List ByteArray} {w w' : World} (h : TabS B g mb bk vt vk D kt kn w) (hT : Tab B g mb vt' (.slice none 0 0) kt' [] D' w') (ho : Off w w' g mb vt) (hv : vt'.ownBlock = vt.ownBlock ∨ ∃ r, w.heap.size ≤ r ∧ vt'.ownBlock = some r) : TabS B g mb bk vt' vk D' kt' kn w' := by
  obtain ⟨n1, n2⟩ := h.gk
  have tb : ∀ r, vt.ownBlock = some r → bk ≠ r := box_ne h.tab.t h.box (by decide)
  refine ⟨hT, (ho.block bk h.box.lt n1 n2 (fun e => tb bk e rfl)).trans h.box, own_off h.row (fun r hr => ho.block r (h.row.lt r hr).2 ?_ ?_ ?_), ?_, h.ev⟩
  · intro e; subst e; exact row_ne h.row h.tab.row (by decide) _ hr rfl
  · intro e; subst e; exact own_ne_map h.row h.tab.m _ hr rfl
  · intro e; exact h.ap r e hr
  · intro r hr e
    rcases hv with hv | ⟨r', hle, hv⟩
    · rw [hv] at hr; exact h.ap r hr e
    · rw [hv] at hr
      cases hr
      have := (h.row.lt _ e).2
      omega
theorem TabS.new {B g mb : Nat} {D : DataW Unit} {w : World} (h : Tab B g mb (.slice none 0 0) (.slice none 0 0) [] [] D w) : TabS B g mb w.heap.size (.slice none 0 0) (.slice none 0 0) D [] [] (w.alloc (.cells #[.slice none 0 0] 33)) :=
  ⟨h.below ((Below.refl _ _).alloc (Nat.le_refl _) _), Boxed.new w _ _, World.ownsRow_nil _ _ _ _, apart_nil _, fun t ht => by cases ht⟩

/-- Where a text stands in a list, as the law looks: among the first j. -/
def AtJ (kn : List ByteArray) (q : ByteArray) (j : Nat) (z : Int) : Prop := (z = -1 ∧ ∀ (i : Nat), i < j → kn[i]? ≠ some q) ∨ ∃ i : Nat, i < j ∧ z = i ∧ kn[i]? = some q
theorem AtJ.next {kn : List ByteArray} {q : ByteArray} {j : Nat} {z : Int} (h : AtJ kn q j z) (hj : kn[j]? ≠ some q) : AtJ kn q (j + 1) z := by
  rcases h with ⟨rfl, h⟩ | ⟨i, h1, h2, h3⟩
  · refine .inl ⟨rfl, fun i hi => ?_⟩
    by_cases e : i = j
    · rw [e]; exact hj
    · exact h i (by omega)
  · exact .inr ⟨i, by omega, h2, h3⟩
theorem AtJ.hit {kn : List ByteArray} {q : ByteArray} {j : Nat} (hj : kn[j]? = some q) : AtJ kn q (j + 1) j := .inr ⟨j, by omega, rfl, hj⟩
theorem AtJ.none {kn : List ByteArray} {q : ByteArray} (h : AtJ kn q kn.length (-1)) : q ∉ kn := by
  rcases h with ⟨_, h⟩ | ⟨i, _, h2, _⟩
  · intro hm
    obtain ⟨i, hi, e⟩ := List.getElem_of_mem hm
    exact h i hi (by rw [List.getElem?_eq_getElem hi, e])
  · omega

theorem intern_tabS {B g mb bk : Nat} {vt vk : Value} {D : DataW Unit} {kt kn : List ByteArray} (w : World) (h : TabS B g mb bk vt vk D kt kn w) (s : ByteArray) (N : Nat) (hs : (s.size : Int) ≤ 140737488351232) (hn : (kt.length : Int) * 16 + 16 ≤ 140737488351232)
    (hc : (kt.length = N ∧ kn = kt ++ [evenS s] ∧ evenS s ∉ kt) ∨ (kt = kn ∧ kn[N]? = some (evenS s))) :
    Calls Tryd.prog 17 #[.pointer (some ⟨g, 0, none⟩), .string s] w fun e w' => e = .returned (.int .i64 N) ∧ (∃ vt' D', TabS B g mb bk vt' vk D' kn kn w') ∧ Below B w w' := by
  rcases hc with ⟨rfl, rfl, hno⟩ | ⟨rfl, hi⟩
  · refine (intern_tab s w h.tab hs hno (fun t ht => ?_) hn).mono ?_
    · have := (h.ev t (List.mem_append_left _ ht)).2
      unfold maxLen
      omega
    · rintro e w' ⟨rfl, ⟨vt', D', hT, hv⟩, ho, hb⟩
      exact ⟨rfl, ⟨vt', D', h.int hT ho hv⟩, hb⟩
  · refine (intern_old s N w h.tab hs hi).mono ?_
    rintro e w' ⟨rfl, hb⟩
    exact ⟨rfl, ⟨_, _, h.below hb⟩, hb.mono (Nat.le_trans h.tab.gB (Nat.le_of_lt h.tab.lt.1))⟩

end Go.Proofs.YthomeimnhipilaaDoor
