/- Package shape: Change and Find in a tree with several lines; shapes that there are not. -/
import Derived.Test.YtoonaljmdiideaaSTd
import Derived.Test.YtoonaljmdiideaaShT
namespace Go.Proofs.Ytoonaljmdiideaa
set_option linter.unusedVariables false
set_option linter.unusedSimpArgs false
open Go.RowKit Go.Maps Go.ChangeShapes
section
variable {C : List (Nat × Obj)} {B g mn mw : Nat} {vk vs : Value} {ks : List Kb} {LS : List Ln} {fs : List (List Int)} {fv : List (Nat × Value)} {nw : Nat} {Dn Dw : DataW Unit} {w w' : World}
/-- The tree with one more shape of a line that is as it was. -/
theorem T2.moreC (L1 L2 : List Ln) (q : Ln) {vs' v : Value} {fl : List Int} {nw' : Nat} {Dw' : DataW Unit} (h : T2 C B g mn mw vk vs ks (L1 ++ q :: L2) fs fv nw Dn Dw w) (hfl : fl.length ≤ q.2.2.length) (hT : T1 (C ++ (L1 ++ L2).flatMap (lnO w)) B g mn mw q.1 vk vs' q.2.1 ks q.2.2 (fs ++ [fl]) (fv ++ [(q.1, v)]) nw' Dn Dw' w') :
    T2 C B g mn mw vk vs' ks (L1 ++ q :: L2) (fs ++ [fl]) (fv ++ [(q.1, v)]) nw' Dn Dw' w' := by
  refine ⟨fun r hr => ?_, h.ap, fun i hi => ?_, by simp [h.fl], by simp⟩
  · rcases List.mem_append.1 hr with h1 | h1
    · exact h.other r hr hT (fun p hp => List.mem_append_left _ hp) (fun p hp => List.mem_append_right _ (List.mem_flatMap.2 ⟨r, List.mem_append_left _ h1, hp⟩))
    · rcases List.mem_cons.1 h1 with rfl | h1
      · exact hT.sub (fun p hp => List.mem_append_left _ hp)
      · exact h.other r hr hT (fun p hp => List.mem_append_left _ hp) (fun p hp => List.mem_append_right _ (List.mem_flatMap.2 ⟨r, List.mem_append_right _ h1, hp⟩))
  · by_cases hi' : i < fv.length
    · obtain ⟨r, hr, h1, h2⟩ := h.of i hi'
      refine ⟨r, hr, by rw [List.getElem_append_left hi']; exact h1, ?_⟩
      rw [List.getD_eq_getElem?_getD, List.getElem?_append_left (by rw [h.fl]; exact hi'), ← List.getD_eq_getElem?_getD]
      exact h2
    · obtain rfl : i = fv.length := by simp at hi; omega
      refine ⟨q, by simp, by simp, ?_⟩
      rw [show (fs ++ [fl]).getD fv.length [] = fl by rw [← h.fl]; simp [List.getD_eq_getElem?_getD]]
      exact hfl
/-- What Change comes to in a tree with several lines. -/
def ChgT (C : List (Nat × Obj)) (B g mn mw : Nat) (vk vs : Value) (ks : List Kb) (LS : List Ln) (fs : List (List Int)) (fv : List (Nat × Value)) (nw : Nat) (Dn Dw : DataW Unit) (ws : List ((Int × Int × Int) × Int)) (i k : Nat) (f : Int) (ln : List Int) (lb : Nat) (e : Ending) (w' : World) : Prop :=
  ((k : Int) ∉ ln.take (fs.getD i []).length ∧ e = .returned (.tuple #[.int .i64 0, .int .i64 3]) ∧ T2 C B g mn mw vk vs ks LS fs fv nw Dn Dw w') ∨
  (∃ j : Nat, ixI (ln.take (fs.getD i []).length) (k : Int) = (j : Int) ∧ j < (fs.getD i []).length ∧
    (((fs.getD i [])[j]? = some f ∧ e = .returned (.tuple #[.int .i64 (i : Nat), .int .i64 0]) ∧ T2 C B g mn mw vk vs ks LS fs fv nw Dn Dw w') ∨
     ((fs.getD i [])[j]? ≠ some f ∧
      ((∃ to', ((((i : Int), (k : Int), f) : Int × Int × Int), to') ∈ ws ∧ e = .returned (.tuple #[.int .i64 to', .int .i64 0]) ∧ T2 C B g mn mw vk vs ks LS fs fv nw Dn Dw w') ∨
       ((∀ p ∈ ws, p.1 ≠ ((i : Int), (k : Int), f)) ∧ 100000 ≤ fv.length ∧ e = .returned (.tuple #[.int .i64 0, .int .i64 2]) ∧ T2 C B g mn mw vk vs ks LS fs fv nw Dn Dw w') ∨
       ((∀ p ∈ ws, p.1 ≠ ((i : Int), (k : Int), f)) ∧ fv.length < 100000 ∧ e = .returned (.tuple #[.int .i64 (fv.length : Nat), .int .i64 0]) ∧ ∃ vs' Dw' v, T2 C B g mn mw vk vs' ks LS (fs ++ [(fs.getD i []).set j f]) (fv ++ [(lb, v)]) (nw + 1) Dn Dw' w' ∧ WayOk Dw' (ws ++ [(((i : Int), (k : Int), f), (fv.length : Int))]))))))
/-- A shape's line among the others. -/
theorem T2.at (h : T2 C B g mn mw vk vs ks LS fs fv nw Dn Dw w) (i : Nat) (hi : i < fv.length) : ∃ (q : Ln) (L1 L2 : List Ln), LS = L1 ++ q :: L2 ∧ fv[i].1 = q.1 ∧ (fs.getD i []).length ≤ q.2.2.length ∧ T1 (C ++ (L1 ++ L2).flatMap (lnO w)) B g mn mw q.1 vk vs q.2.1 ks q.2.2 fs fv nw Dn Dw w := by
  obtain ⟨q, hq, hq1, hq2⟩ := h.of i hi
  obtain ⟨L1, L2, rfl⟩ := List.append_of_mem hq
  have hap := List.pairwise_append.1 h.ap
  have hap2 := List.pairwise_cons.1 hap.2.1
  refine ⟨q, L1, L2, rfl, hq1, hq2, h.focus q (L1 ++ L2) hq (fun r hr => ?_)⟩
  rcases List.mem_append.1 hr with h1 | h1
  · exact ⟨List.mem_append_left _ h1, (hap.2.2 r h1 q (List.mem_cons_self ..)).symm⟩
  · exact ⟨List.mem_append_right _ (List.mem_cons_of_mem _ h1), hap2.1 r h1⟩
theorem t2_chg {ks' : List Kb} (i k : Nat) (s0 : ByteArray) (z0 : Int) (s : ByteArray) (z : Int) (hbs : bareS s0 z0 = s) (hbz : bareZ z0 = z) (f : Int) (ws : List ((Int × Int × Int) × Int)) (w : World) (h : T2 C B g mn mw vk vs ks LS fs fv nw Dn Dw w) (hn : NumOk Dn ks) (hw : WayOk Dw ws) (hs0 : (s0.size : Int) ≤ 140737488351232) (hzf : (Lit.int .i64 z).wf = true) (hk : KsW ks (s, z) k ks') (hi : i < fv.length) (hff : ∀ x ∈ fs.getD i [], 0 ≤ x ∧ x ≤ 15) (f0 : 0 ≤ f) (f1 : f ≤ 15) (hl : ∀ r ∈ LS, r.2.2.length ≤ 128) (hl2 : fv.length ≤ 100000) (hl3 : ks.length < 100000) (hl4 : nw < 100000) (hkk : k < 100000) :
    Calls Try.prog 9 #[.pointer (some ⟨g, 0, none⟩), .int .i64 (i : Nat), .agg #[.string s0, .int .i64 z0], .int .i64 f] w fun e w' => (∃ q ∈ LS, fv[i].1 = q.1 ∧ (fs.getD i []).length ≤ q.2.2.length ∧ ChgT C B g mn mw vk vs ks LS fs fv nw Dn Dw ws i k f q.2.2 q.1 e w') ∧ Below B w w' := by
  obtain ⟨q, L1, L2, rfl, hq1, hq2, hT⟩ := h.at i hi
  have hql := hl q (by simp)
  refine (chg_all i k s0 z0 s z hbs hbz f ws w hT hn hw hs0 hzf hk hi hq1 h.fl hq2 (by omega) hff f0 f1 (by omega) hl2 hl3 hl4 hkk).mono ?_
  rintro e w' ⟨hA, hb⟩
  refine ⟨⟨q, by simp, hq1, hq2, ?_⟩, hb⟩
  rcases hA with ⟨h1, h2, h3⟩ | ⟨j, h1, h2, hA⟩
  · exact .inl ⟨h1, h2, h.same L1 L2 q h3⟩
  · refine .inr ⟨j, h1, h2, ?_⟩
    rcases hA with ⟨h3, h4, h5⟩ | ⟨h3, hA⟩
    · exact .inl ⟨h3, h4, h.same L1 L2 q h5⟩
    · refine .inr ⟨h3, ?_⟩
      rcases hA with ⟨to', h4, h5, h6⟩ | ⟨h4, h5, h6, h7⟩ | ⟨h4, h5, h6, vs', Dw', v, h7, h8⟩
      · exact .inl ⟨to', h4, h5, h.same L1 L2 q h6⟩
      · exact .inr (.inl ⟨h4, h5, h6, h.same L1 L2 q h7⟩)
      · exact .inr (.inr ⟨h4, h5, h6, vs', Dw', v, h.moreC L1 L2 q (by rw [List.length_set]; exact hq2) h7, h8⟩)
/-- Find in a shape that there is. -/
theorem t2_find {ks' : List Kb} (i k : Nat) (s0 : ByteArray) (z0 : Int) (s : ByteArray) (z : Int) (hbs : bareS s0 z0 = s) (hbz : bareZ z0 = z) (w : World) (h : T2 C B g mn mw vk vs ks LS fs fv nw Dn Dw w) (hn : NumOk Dn ks) (hs0 : (s0.size : Int) ≤ 140737488351232) (hzf : (Lit.int .i64 z).wf = true) (hk : KsW ks (s, z) k ks') (hi : i < fv.length) (hff : ∀ x ∈ fs.getD i [], 0 ≤ x ∧ x ≤ 15) (hnb : ∀ r ∈ LS, ∀ x ∈ r.2.2, x < (ks.length : Int)) (hl : ∀ r ∈ LS, r.2.2.length ≤ 128) (hl3 : ks.length < 100000) :
    Calls Try.prog 22 #[.pointer (some ⟨g, 0, none⟩), .int .i64 (i : Nat), .agg #[.string s0, .int .i64 z0]] w fun e w' => (∃ q ∈ LS, fv[i].1 = q.1 ∧ (fs.getD i []).length ≤ q.2.2.length ∧
      (((k : Int) ∉ q.2.2.take (fs.getD i []).length ∧ e = .returned (.tuple #[.int .i64 0, .int .i64 0, .bool false])) ∨
       (∃ j f, ixI (q.2.2.take (fs.getD i []).length) (k : Int) = ((j : Nat) : Int) ∧ ks[k]? = some (s, z) ∧ (fs.getD i [])[j]? = some f ∧ e = .returned (.tuple #[.int .i64 (j : Int), .int .i64 f, .bool true])))) ∧ Below w.heap.size w w' := by
  obtain ⟨q, hq, hq1, hq2⟩ := h.of i hi
  have hT := h.one q hq
  have hql := hl q hq
  by_cases hin : (k : Int) ∈ q.2.2.take (fs.getD i []).length
  · obtain ⟨j, hj, hjl⟩ := ixI_lt hin
    have hjm : j < (fs.getD i []).length := by rw [List.length_take] at hjl; omega
    obtain ⟨f, hf⟩ : ∃ f, (fs.getD i [])[j]? = some f := ⟨_, List.getElem?_eq_getElem hjm⟩
    have hfr := hff f (List.mem_of_getElem? hf)
    rcases hk with ⟨hk1, _⟩ | ⟨hk1, hno, _⟩
    · refine (find_yes i j k s0 z0 s z hbs hbz f w hT hn hs0 hzf hk1 hi hq1 hq2 hj hf hfr.1 hfr.2 (by omega)).mono ?_
      rintro e w' ⟨rfl, hb⟩
      exact ⟨⟨q, hq, hq1, hq2, .inr ⟨j, f, hj, hk1, hf, rfl⟩⟩, hb⟩
    · have := hnb q hq _ (List.mem_of_mem_take hin)
      omega
  · refine (find_none i k s0 z0 s z hbs hbz w hT hn hs0 hzf hk (by omega) hi hq1 hq2 (fun x hx e => hin (e ▸ hx)) (by omega)).mono ?_
    rintro e w' ⟨rfl, hb⟩
    exact ⟨⟨q, hq, hq1, hq2, .inl ⟨hin, rfl⟩⟩, hb⟩
set_option maxHeartbeats 400000 in
set_option maxRecDepth 100000 in
theorem has_out (g : Nat) (s : Int) (a : Option Addr) (n c : Nat) (w : World) (h : w.cell? ⟨g, 0, none⟩ = some (.pointer (some ⟨g, 0, none⟩))) (h3 : w.cell? ⟨g, 3, none⟩ = some (.slice a n c)) (hs : s < 0 ∨ (n : Int) ≤ s) : Calls Try.prog 46 #[.pointer (some ⟨g, 0, none⟩), .int .i64 s] w fun e w' => e = .returned (.bool false) ∧ w' = w := by
  have HM := Hid.mk' (isMade_yes g w h)
  by_cases h0 : s < 0
  · have e0 : decide ((0 : Int) ≤ s) = false := decide_eq_false (by omega)
    clear hs h0
    go_enter Try.func46, Try.ntmps46
    go_wp2_with fail
    refine HM.out.mono ?_
    rintro e w1 ⟨rfl, rfl⟩
    go_wp2
    go_ret
    exact ⟨rfl, rfl⟩
  · have e0 : decide ((0 : Int) ≤ s) = true := decide_eq_true (by omega)
    have e1 : decide (s < (n : Int)) = false := decide_eq_false (by omega)
    clear hs h0
    go_enter Try.func46, Try.ntmps46
    go_wp2_with fail
    refine HM.out.mono ?_
    rintro e w1 ⟨rfl, rfl⟩
    go_wp2
    go_ret
    exact ⟨rfl, rfl⟩
set_option maxHeartbeats 400000 in
set_option maxRecDepth 100000 in
theorem refusal_shape (g : Nat) (s fl : Int) (a : Option Addr) (n c : Nat) (w : World) (h : w.cell? ⟨g, 0, none⟩ = some (.pointer (some ⟨g, 0, none⟩))) (h3 : w.cell? ⟨g, 3, none⟩ = some (.slice a n c)) (hs : s < 0 ∨ (n : Int) ≤ s) : Calls Try.prog 23 #[.pointer (some ⟨g, 0, none⟩), .int .i64 s, .int .i64 fl] w fun e w' => e = .returned (.int .i64 140) ∧ w' = w := by
  have HM := Hid.mk' (has_out g s a n c w h h3 hs)
  clear hs
  go_enter Try.func23, Try.ntmps23
  go_wp2_with fail
  refine HM.out.mono ?_
  rintro e w1 ⟨rfl, rfl⟩
  go_wp2
  go_ret
  exact ⟨rfl, rfl⟩
theorem T2.cells (h : T2 C B g mn mw vk vs ks LS fs fv nw Dn Dw w) : w.cell? ⟨g, 0, none⟩ = some (.pointer (some ⟨g, 0, none⟩)) ∧ ∃ a c, w.cell? ⟨g, 3, none⟩ = some (.slice a fv.length c) := by
  obtain ⟨q, _, hT⟩ := h.any
  obtain ⟨c0, _, _, c3, _⟩ := hT.cells
  obtain ⟨a, c, hv, _⟩ := own_slice' hT.s
  rw [hv] at c3
  exact ⟨c0, a, c, c3⟩
set_option maxHeartbeats 1000000 in
set_option maxRecDepth 100000 in
/-- What both are refused alike: a shape that there is not (140), flags that may not be (1). -/
theorem t2_refused (i : Int) (s : ByteArray) (z f : Int) (w : World) (h : T2 C B g mn mw vk vs ks LS fs fv nw Dn Dw w) (er : Int) (hr : ((i < 0 ∨ (fv.length : Int) ≤ i) ∧ er = 140) ∨ ((0 ≤ i ∧ i < (fv.length : Int)) ∧ (f < 0 ∨ 15 < f) ∧ er = 1)) :
    (Calls Try.prog 11 #[.pointer (some ⟨g, 0, none⟩), .int .i64 i, .agg #[.string s, .int .i64 z], .int .i64 f] w fun e w' => e = .returned (.tuple #[.int .i64 0, .int .i64 er]) ∧ Below w.heap.size w w') ∧
    (Calls Try.prog 9 #[.pointer (some ⟨g, 0, none⟩), .int .i64 i, .agg #[.string s, .int .i64 z], .int .i64 f] w fun e w' => e = .returned (.tuple #[.int .i64 0, .int .i64 er]) ∧ Below w.heap.size w w') := by
  have b1 : Below w.heap.size w (w.alloc (.cells #[.string s, .int .i64 z] 31)) := (Below.refl _ _).alloc (Nat.le_refl _) _
  obtain ⟨c0, a, c, c3⟩ := (h.below b1).cells
  have HRF : Hid (Calls Try.prog 23 #[.pointer (some ⟨g, 0, none⟩), .int .i64 i, .int .i64 f] (w.alloc (.cells #[.string s, .int .i64 z] 31)) fun e w' => e = .returned (.int .i64 er) ∧ w' = w.alloc (.cells #[.string s, .int .i64 z] 31)) := Hid.mk' (by
    rcases hr with ⟨h1, rfl⟩ | ⟨h1, h2, rfl⟩
    · exact refusal_shape g i f _ _ _ _ c0 c3 h1
    · exact refusal_range g i f _ _ _ _ c0 c3 h1 h2)
  have HB := Hid.mk' b1
  have he : (er != 0) = true := by
    rcases hr with ⟨_, rfl⟩ | ⟨_, _, rfl⟩ <;> decide
  clear h b1 c0 c3 hr
  constructor
  · go_enter Try.func11, Try.ntmps11
    go_wp2_with fail
    refine HRF.out.mono ?_
    rintro e w2 ⟨rfl, rfl⟩
    go_wp2
    go_ret2
    exact ⟨rfl, HB.out⟩
  · go_enter Try.func9, Try.ntmps9
    go_wp2_with fail
    refine HRF.out.mono ?_
    rintro e w2 ⟨rfl, rfl⟩
    go_wp2
    go_ret2
    exact ⟨rfl, HB.out⟩
set_option maxHeartbeats 1000000 in
set_option maxRecDepth 100000 in
theorem t2_find_out (i : Int) (s : ByteArray) (z : Int) (w : World) (h : T2 C B g mn mw vk vs ks LS fs fv nw Dn Dw w) (hi : i < 0 ∨ (fv.length : Int) ≤ i) :
    Calls Try.prog 22 #[.pointer (some ⟨g, 0, none⟩), .int .i64 i, .agg #[.string s, .int .i64 z]] w fun e w' => e = .returned (.tuple #[.int .i64 0, .int .i64 0, .bool false]) ∧ Below w.heap.size w w' := by
  have b1 : Below w.heap.size w (w.alloc (.cells #[.string s, .int .i64 z] 31)) := (Below.refl _ _).alloc (Nat.le_refl _) _
  obtain ⟨c0, a, c, c3⟩ := (h.below b1).cells
  have HHA := Hid.mk' (has_out g i _ _ _ _ c0 c3 hi)
  have HB := Hid.mk' b1
  clear h b1 c0 c3 hi
  go_enter Try.func22, Try.ntmps22
  go_wp2_with fail
  refine HHA.out.mono ?_
  rintro e w2 ⟨rfl, rfl⟩
  go_wp2
  go_ret3
  exact ⟨rfl, HB.out⟩
end
end Go.Proofs.Ytoonaljmdiideaa
