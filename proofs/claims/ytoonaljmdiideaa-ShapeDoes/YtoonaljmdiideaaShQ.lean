/- The law of layer 14: awake. -/
import Derived.Test.YtoonaljmdiideaaShP
import Derived.Test.YtoonaljmdiideaaRAsc
namespace Go.Proofs.Ytoonaljmdiideaa
set_option linter.unusedVariables false
set_option linter.unusedSimpArgs false
open Go.RowKit Go.Maps Go.ChangeShapes

set_option maxHeartbeats 1000000 in
set_option maxRecDepth 100000 in
theorem rname_any (s : ByteArray) (q : ByteArray) (hq : ofFst (ofS s) = q) (w : World) (hs : (s.size : Int) ≤ 524288) :
    Calls Try.prog 21 #[.string s] w fun e w' => e = .returned (.agg #[.string q, .int .i64 0]) ∧ Below w.heap.size w w' := by
  have HA := Hid.mk' (fun W => rascii_any s W hs)
  rw [hq] at HA
  clear hq
  go_enter Try.func21, Try.ntmps21
  go_wp2_with fail
  refine (HA.out _).mono ?_
  rintro e w1 ⟨rfl, b1⟩
  have c0 := (b1.cell (p := ⟨w.heap.size, 0, none⟩) (by simp)).trans (World.cell?_alloc_new _ _ _ _)
  have c1 := (b1.cell (p := ⟨w.heap.size, 1, none⟩) (by simp)).trans (World.cell?_alloc_new _ _ _ _)
  have f0 := (b1.frozen (p := ⟨w.heap.size, 0, none⟩) (by simp)).trans (World.frozen?_alloc_new _ _ _ _)
  have f1 := (b1.frozen (p := ⟨w.heap.size, 1, none⟩) (by simp)).trans (World.frozen?_alloc_new _ _ _ _)
  simp only [List.getElem?_toArray, List.getElem?_cons_zero, List.getElem?_cons_succ] at c0 c1
  go_wp2
  (try simp only [Exit.inBlock, Exit.then])
  refine bodyPost_ret (v := .agg #[.string q, .int .i64 0]) ?_ rfl ⟨rfl, ?_⟩
  · rw [sh_results_cell rfl]
    go_simp
  · have b0 : Below w.heap.size w (w.alloc (.cells #[.string ⟨#[]⟩, .int .i64 0] 31)) := (Below.refl _ _).alloc (Nat.le_refl _) _
    have b3 := b0.trans (b1.mono b0.size)
    repeat' (first | exact b3 | refine Below.setCell ?_ (by simp) _)
/-- An ASCII text's units are its bytes. -/
theorem shFrom_ascii (l : List UInt8) (h : ∀ c ∈ l, c.toNat < 128) : ∀ (f i : Nat) (acc : List UInt8), l.length ≤ i + f → i ≤ l.length → ofFrom (Sb l) f acc i = .ok (acc ++ mkB ((l.drop i).map (·.toNat)))
  | 0, i, acc, hf, hi => by
    obtain rfl : i = l.length := by omega
    rw [ofFrom, List.drop_length]
    simp [mkB]
  | f + 1, i, acc, hf, hi => by
    by_cases hlt : i < l.length
    · have hs : i < (Sb l).size := by rw [Sb_size]; exact hlt
      obtain ⟨c, hg, hd, hm⟩ : ∃ c, ((Sb l)[i]'hs) = c ∧ l.drop i = c :: l.drop (i + 1) ∧ c ∈ l := ⟨_, rfl, List.drop_eq_getElem_cons hlt, List.getElem_mem hlt⟩
      have hc := h c hm
      have hde : Utf8.decode (Sb l) i = (c.toNat, 1) := by rw [decode_ascii (Sb l) i hs (by rw [hg]; exact hc), hg]
      have hb : bad (Sb l) i = false := by unfold bad; rw [hde]; simp; omega
      rw [ofFrom, if_pos hs, hb, hde, if_neg (by simp), shFrom_ascii l h f (i + 1) _ (by omega) (by omega), pb_low (by show c.toNat < 65536; omega), hd, List.map_cons]
      have : mkB (c.toNat :: (l.drop (i + 1)).map (·.toNat)) = ub c.toNat ++ mkB ((l.drop (i + 1)).map (·.toNat)) := rfl
      rw [this, List.append_assoc]
    · obtain rfl : i = l.length := by omega
      rw [ofFrom_end _ _ _ _ (by rw [Sb_size]; omega), List.drop_length]
      simp [mkB]
theorem shOf_ascii (l : List UInt8) (h : ∀ c ∈ l, c.toNat < 128) : ofS (Sb l) = .ok (mkB (l.map (·.toNat))) := by
  unfold ofS
  rw [shFrom_ascii l h _ 0 [] (by rw [Sb_size]; omega) (by omega)]
  simp

theorem asc (l : List UInt8) (h : ∀ c ∈ l, c.toNat < 128) : ofFst (ofS (Sb l)) = ⟨(mkB (l.map (·.toNat))).toArray⟩ := by rw [shOf_ascii l h]; rfl
theorem asc_b : ofFst (ofS ⟨#[98]⟩) = ⟨#[0, 98]⟩ := (asc [98] (by decide)).trans rfl
theorem asc_a : ofFst (ofS ⟨#[97]⟩) = ⟨#[0, 97]⟩ := (asc [97] (by decide)).trans rfl
def kA : ByteArray := ⟨#[0, 97]⟩
def kB : ByteArray := ⟨#[0, 98]⟩
theorem evA : evenS kA = kA := by decide
theorem evB : evenS kB = kB := by decide
theorem neAB : kB ≠ kA := by decide
theorem bA : bareS kA 0 = kA := by unfold bareS; rw [if_neg (by omega)]; exact evA
theorem bB : bareS kB 0 = kB := by unfold bareS; rw [if_neg (by omega)]; exact evB
theorem kwA : ∀ t ∈ [((kA, 0) : Kb)], Kwf t := fun t ht => by rw [List.mem_singleton.1 ht]; exact ⟨by decide, by decide⟩
theorem ixQ : ixI ([0, 1].take 2) (1 : Int) = (1 : Int) := by decide
section
variable {C : List (Nat × Obj)} {B g mn mw lb : Nat} {vk vs vl : Value} {nw : Nat} {Dn Dw : DataW Unit} {w : World}
theorem add1 (fv : List (Nat × Value)) (hA : ∀ p ∈ fv, p.1 = lb) (hl : fv.length = 1) (w : World) (h : T1 C B g mn mw lb vk vs vl [] [] [[]] fv 0 Dn Dw w) (hn : NumOk Dn []) (hw : WayOk Dw []) :
    Calls Try.prog 11 #[.pointer (some ⟨g, 0, none⟩), .int .i64 0, .agg #[.string kA, .int .i64 0], .int .i64 7] w fun e w' => e = .returned (.tuple #[.int .i64 1, .int .i64 0]) ∧ (∃ vk' vs' vl' Dn' Dw' v, T1 C B g mn mw lb vk' vs' vl' [(kA, 0)] [0] [[], [7]] (fv ++ [(lb, v)]) 1 Dn' Dw' w' ∧ NumOk Dn' [(kA, 0)] ∧ WayOk Dw' [((0, 0, 7), 1)]) ∧ Below B w w' := by
  have := add_any (ks' := [(kA, 0)]) (ln' := [0]) 0 0 kA 0 bA rfl 7 [] w h hn hw (by decide) (by decide) (fun t ht => by cases ht) (.inr ⟨rfl, by simp, rfl⟩) (by omega) hA (by simp; omega) (by simp) (by simp) (by simp) (.inl ⟨rfl, rfl⟩) (by omega) (by omega) (by simp) (by omega) (by simp) (by omega) (by omega)
  refine this.mono ?_
  rintro e w' ⟨hA, hb⟩
  rcases hA with ⟨to', ht, _⟩ | ⟨_, rfl, vk', vs', vl', Dn', Dw', v, k1, k2, k3⟩
  · cases ht
  · refine ⟨by rw [hl]; rfl, ⟨vk', vs', vl', Dn', Dw', v, k1, k2, ?_⟩, hb⟩
    rw [hl] at k3
    exact k3
theorem add2 (fv : List (Nat × Value)) (hA : ∀ p ∈ fv, p.1 = lb) (hl : fv.length = 2) (w : World) (h : T1 C B g mn mw lb vk vs vl [(kA, 0)] [0] [[], [7]] fv 1 Dn Dw w) (hn : NumOk Dn [(kA, 0)]) (hw : WayOk Dw [((0, 0, 7), 1)]) :
    Calls Try.prog 11 #[.pointer (some ⟨g, 0, none⟩), .int .i64 0, .agg #[.string kA, .int .i64 0], .int .i64 7] w fun e w' => e = .returned (.tuple #[.int .i64 1, .int .i64 0]) ∧ T1 C B g mn mw lb vk vs vl [(kA, 0)] [0] [[], [7]] fv 1 Dn Dw w' ∧ Below B w w' := by
  have := add_any (ks' := [(kA, 0)]) (ln' := [0]) 0 0 kA 0 bA rfl 7 _ w h hn hw (by decide) (by decide) kwA (.inl ⟨rfl, rfl⟩) (by omega) hA (by simp; omega) (by simp) (by simp) (by simp) (.inr ⟨rfl, rfl⟩) (by omega) (by omega) (by simp) (by omega) (by simp) (by omega) (by omega)
  refine this.mono ?_
  rintro e w' ⟨hA, hb⟩
  rcases hA with ⟨to', ht, rfl, k1⟩ | ⟨hno, _⟩
  · have e1 : to' = 1 := by simpa using ht
    subst e1
    exact ⟨rfl, k1, hb⟩
  · exact absurd rfl (hno _ (List.mem_singleton_self _))
theorem add3 (fv : List (Nat × Value)) (hA : ∀ p ∈ fv, p.1 = lb) (hl : fv.length = 2) (w : World) (h : T1 C B g mn mw lb vk vs vl [(kA, 0)] [0] [[], [7]] fv 1 Dn Dw w) (hn : NumOk Dn [(kA, 0)]) (hw : WayOk Dw [((0, 0, 7), 1)]) :
    Calls Try.prog 11 #[.pointer (some ⟨g, 0, none⟩), .int .i64 0, .agg #[.string kA, .int .i64 0], .int .i64 1] w fun e w' => e = .returned (.tuple #[.int .i64 2, .int .i64 0]) ∧ (∃ vk' vs' vl' Dn' Dw' v, T1 C B g mn mw lb vk' vs' vl' [(kA, 0)] [0] [[], [7], [1]] (fv ++ [(lb, v)]) 2 Dn' Dw' w' ∧ NumOk Dn' [(kA, 0)] ∧ WayOk Dw' [((0, 0, 7), 1), ((0, 0, 1), 2)]) ∧ Below B w w' := by
  have := add_any (ks' := [(kA, 0)]) (ln' := [0]) 0 0 kA 0 bA rfl 1 _ w h hn hw (by decide) (by decide) kwA (.inl ⟨rfl, rfl⟩) (by omega) hA (by simp; omega) (by simp) (by simp) (by simp) (.inr ⟨rfl, rfl⟩) (by omega) (by omega) (by simp) (by omega) (by simp) (by omega) (by omega)
  refine this.mono ?_
  rintro e w' ⟨hA, hb⟩
  rcases hA with ⟨to', ht, _⟩ | ⟨_, rfl, vk', vs', vl', Dn', Dw', v, k1, k2, k3⟩
  · simp at ht
  · refine ⟨by rw [hl]; rfl, ⟨vk', vs', vl', Dn', Dw', v, k1, k2, ?_⟩, hb⟩
    rw [hl] at k3
    exact k3
theorem add4 (fv : List (Nat × Value)) (hA : ∀ p ∈ fv, p.1 = lb) (hl : fv.length = 3) (w : World) (h : T1 C B g mn mw lb vk vs vl [(kA, 0)] [0] [[], [7], [1]] fv 2 Dn Dw w) (hn : NumOk Dn [(kA, 0)]) (hw : WayOk Dw [((0, 0, 7), 1), ((0, 0, 1), 2)]) :
    Calls Try.prog 11 #[.pointer (some ⟨g, 0, none⟩), .int .i64 1, .agg #[.string kB, .int .i64 0], .int .i64 7] w fun e w' => e = .returned (.tuple #[.int .i64 3, .int .i64 0]) ∧ (∃ vk' vs' vl' Dn' Dw' v, T1 C B g mn mw lb vk' vs' vl' [(kA, 0), (kB, 0)] [0, 1] [[], [7], [1], [7, 7]] (fv ++ [(lb, v)]) 3 Dn' Dw' w' ∧ NumOk Dn' [(kA, 0), (kB, 0)]) ∧ Below B w w' := by
  have := add_any (ks' := [(kA, 0), (kB, 0)]) (ln' := [0, 1]) 1 1 kB 0 bB rfl 7 _ w h hn hw (by decide) (by decide) kwA (.inr ⟨rfl, by simp [neAB], rfl⟩) (by omega) hA (by simp; omega) (by simp) (by simp) (by simp) (.inl ⟨rfl, rfl⟩) (by omega) (by omega) (by simp) (by omega) (by simp) (by omega) (by omega)
  refine this.mono ?_
  rintro e w' ⟨hA, hb⟩
  rcases hA with ⟨to', ht, _⟩ | ⟨_, rfl, vk', vs', vl', Dn', Dw', v, k1, k2, k3⟩
  · simp at ht
  · exact ⟨by rw [hl]; rfl, ⟨vk', vs', vl', Dn', Dw', v, k1, k2⟩, hb⟩
theorem find4 (fv : List (Nat × Value)) (hA : ∀ p ∈ fv, p.1 = lb) (hl : fv.length = 4) (w : World) (h : T1 C B g mn mw lb vk vs vl [(kA, 0), (kB, 0)] [0, 1] [[], [7], [1], [7, 7]] fv 3 Dn Dw w) (hn : NumOk Dn [(kA, 0), (kB, 0)]) :
    Calls Try.prog 22 #[.pointer (some ⟨g, 0, none⟩), .int .i64 3, .agg #[.string kB, .int .i64 0]] w fun e w' => e = .returned (.tuple #[.int .i64 1, .int .i64 7, .bool true]) ∧ Below w.heap.size w w' :=
  find_yes 3 1 1 kB 0 kB 0 bB rfl 7 w h hn (by decide) (by decide) rfl (by omega) (hA _ (List.getElem_mem _)) (by simp) ixQ rfl (by omega) (by omega) (by simp)
end
end Go.Proofs.Ytoonaljmdiideaa
