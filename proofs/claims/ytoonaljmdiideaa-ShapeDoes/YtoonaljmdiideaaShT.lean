/- Package shape: a chain of keys, each added behind the last one: what Add does there. -/
import Derived.Test.YtoonaljmdiideaaHpC
namespace Go.Proofs.Ytoonaljmdiideaa
set_option linter.unusedVariables false
set_option linter.unusedSimpArgs false
open Go.RowKit Go.Maps Go.ChangeShapes
section
variable {C : List (Nat × Obj)} {B g mn mw lb : Nat} {vk vs vl : Value} {ks : List Kb} {ln : List Int} {fs : List (List Int)} {fv : List (Nat × Value)} {nw : Nat} {Dn Dw : DataW Unit} {w : World}
set_option maxHeartbeats 400000 in
set_option maxRecDepth 100000 in
theorem refusal_range (g : Nat) (s fl : Int) (a : Option Addr) (n c : Nat) (w : World) (h : w.cell? ⟨g, 0, none⟩ = some (.pointer (some ⟨g, 0, none⟩))) (h3 : w.cell? ⟨g, 3, none⟩ = some (.slice a n c)) (hs : 0 ≤ s ∧ s < (n : Int)) (hf : fl < 0 ∨ 15 < fl) : Calls Try.prog 23 #[.pointer (some ⟨g, 0, none⟩), .int .i64 s, .int .i64 fl] w fun e w' => e = .returned (.int .i64 1) ∧ w' = w := by
  have HM := Hid.mk' (has_in g s a n c w h h3 hs.1 hs.2)
  clear hs
  by_cases h0 : fl < 0
  · clear hf
    go_enter Try.func23, Try.ntmps23
    go_wp2_with fail
    refine HM.out.mono ?_
    rintro e w1 ⟨rfl, rfl⟩
    go_wp2
    go_ret
    exact ⟨rfl, rfl⟩
  · have h1 : 15 < fl := by omega
    clear hf
    go_enter Try.func23, Try.ntmps23
    go_wp2_with fail
    refine HM.out.mono ?_
    rintro e w1 ⟨rfl, rfl⟩
    go_wp2
    go_ret
    exact ⟨rfl, rfl⟩
set_option maxHeartbeats 1000000 in
set_option maxRecDepth 100000 in
theorem add_range (i : Nat) (s : ByteArray) (z f : Int) (w : World) (h : T1 C B g mn mw lb vk vs vl ks ln fs fv nw Dn Dw w) (hi : i < fv.length) (hf : f < 0 ∨ 15 < f) :
    Calls Try.prog 11 #[.pointer (some ⟨g, 0, none⟩), .int .i64 (i : Nat), .agg #[.string s, .int .i64 z], .int .i64 f] w fun e w' => e = .returned (.tuple #[.int .i64 0, .int .i64 1]) ∧ Below w.heap.size w w' := by
  have b1 : Below w.heap.size w (w.alloc (.cells #[.string s, .int .i64 z] 31)) := (Below.refl _ _).alloc (Nat.le_refl _) _
  have h1 := h.below b1
  obtain ⟨c0, c1, c2, c3, c4, cf, l0, lf⟩ := h1.cells
  obtain ⟨gs, sc, hvs, hsc, d0, d1⟩ := h1.sat i hi
  rw [hvs] at c3
  have HRF := Hid.mk' (refusal_range g (i : Int) f _ fv.length sc _ c0 c3 ⟨by omega, by omega⟩ hf)
  have HB := Hid.mk' b1
  clear h h1 b1 c0 c1 c2 c3 c4 cf l0 lf hvs hsc d0 d1 hi hf
  go_enter Try.func11, Try.ntmps11
  go_wp2_with fail
  refine HRF.out.mono ?_
  rintro e w2 ⟨rfl, rfl⟩
  go_wp2
  go_ret2
  exact ⟨rfl, HB.out⟩
set_option maxHeartbeats 400000 in
set_option maxRecDepth 100000 in
theorem shLen_any (w : World) (h : T1 C B g mn mw lb vk vs vl ks ln fs fv nw Dn Dw w) : Calls Try.prog 13 #[.pointer (some ⟨g, 0, none⟩)] w fun e w' => e = .returned (.int .i64 (fv.length : Nat)) ∧ w' = w := by
  obtain ⟨c0, c1, c2, c3, c4, cf, l0, lf⟩ := h.cells
  obtain ⟨a, c, hv, _⟩ := own_slice' h.s
  rw [hv] at c3
  have HM := Hid.mk' (isMade_yes g w c0)
  clear h c1 c2 c4 cf l0 lf hv
  go_enter Try.func13, Try.ntmps13
  go_wp2_with fail
  refine HM.out.mono ?_
  rintro e w1 ⟨rfl, rfl⟩
  go_wp2
  go_ret
  exact ⟨rfl, rfl⟩
end
/-- An operation, as the law reads it. -/
structure OpR where
  kd : Int
  si : Int
  s : ByteArray
  z : Int
  f : Int
  c : Int
def OpR.cs (o : OpR) : List Value := [.int .i64 o.kd, .int .i64 o.si, .string o.s, .int .i64 o.z, .int .i64 o.f, .int .i64 o.c]
def OpR.kb (o : OpR) : Kb := (bareS o.s o.z, bareZ o.z)
def OpR.ok (o : OpR) : Prop := (o.s.size : Int) ≤ 140737488351232 ∧ (Lit.int .i64 o.z).wf = true
/-- Keys with their flags, one behind the other; one more operation. -/
abbrev Kf := Kb × Int
def noK (K : List Kf) (k : Kb) : Bool := (K.map (·.1)).all (fun x => decide (x ≠ k))
theorem noK_iff {K : List Kf} {k : Kb} : noK K k = true ↔ k ∉ K.map (·.1) := by
  unfold noK
  rw [List.all_eq_true]
  constructor
  · intro h hm
    exact of_decide_eq_true (h k hm) rfl
  · intro h x hx
    exact decide_eq_true (fun e => h (e ▸ hx))
def stp (K : List Kf) (o : OpR) : List Kf := if (0 ≤ o.f ∧ o.f ≤ 15) ∧ noK K o.kb = true ∧ K.length < 128 then K ++ [(o.kb, o.f)] else K
structure Cw (K : List Kf) : Prop where
  all : ∀ x ∈ K, Kwf x.1 ∧ evenS x.1.1 = x.1.1 ∧ (x.1.1.size : Int) ≤ 140737488351232 ∧ 0 ≤ x.2 ∧ x.2 ≤ 15
  nd : (K.map (·.1)).Nodup
  le : K.length ≤ 128
theorem cw_nil : Cw [] := ⟨fun x h => (by cases h), by simp, by simp⟩
theorem kb_wf (o : OpR) (ho : o.ok) : Kwf o.kb ∧ evenS o.kb.1 = o.kb.1 ∧ (o.kb.1.size : Int) ≤ 140737488351232 := by
  have h1 := bareS_le o.s o.z ho.1
  refine ⟨⟨?_, ?_⟩, bare_even _ _, h1⟩
  · show (bareS o.s o.z).size ≤ maxLen
    unfold maxLen; omega
  · show (Lit.int .i64 (bareZ o.z)).wf = true
    unfold bareZ
    split
    · exact ho.2
    · decide
theorem Cw.stp {K : List Kf} (h : Cw K) (o : OpR) (ho : o.ok) : Cw (stp K o) := by
  unfold Go.Proofs.Ytoonaljmdiideaa.stp
  split
  · rename_i hc
    obtain ⟨h1, h2, h3⟩ := kb_wf o ho
    refine ⟨fun x hx => ?_, ?_, ?_⟩
    · rcases List.mem_append.1 hx with hx | hx
      · exact h.all x hx
      · rw [List.mem_singleton.1 hx]
        exact ⟨h1, h2, h3, hc.1.1, hc.1.2⟩
    · rw [List.map_append, List.nodup_append]
      refine ⟨h.nd, by simp, fun a ha b hb => ?_⟩
      simp at hb
      subst hb
      intro e
      subst e
      exact noK_iff.1 hc.2.1 ha
    · rw [List.length_append]
      simp; omega
  · exact h
theorem stp_pre (K : List Kf) (o : OpR) : K <+: stp K o := by
  unfold stp
  split
  · exact List.prefix_append _ _
  · exact List.prefix_refl _
theorem stp_len (K : List Kf) (o : OpR) : (stp K o).length ≤ K.length + 1 := by
  unfold stp
  split <;> simp
def cLn (K : List Kf) : List Int := (List.range K.length).map (fun i : Nat => (i : Int))
def cFs (K : List Kf) : List (List Int) := (List.range (K.length + 1)).map (fun i => (K.map (·.2)).take i)
def cWs (K : List Kf) : List ((Int × Int × Int) × Int) := (List.range K.length).map fun i : Nat => (((i : Int), (i : Int), (K.map (·.2)).getD i 0), (i : Int) + 1)
theorem cLn_len (K : List Kf) : (cLn K).length = K.length := by simp [cLn]
theorem cFs_len (K : List Kf) : (cFs K).length = K.length + 1 := by simp [cFs]
theorem cWs_len (K : List Kf) : (cWs K).length = K.length := by simp [cWs]
theorem cLn_snoc (K : List Kf) (x : Kf) : cLn (K ++ [x]) = cLn K ++ [(K.length : Int)] := by simp [cLn, List.range_succ]
theorem cFs_snoc (K : List Kf) (x : Kf) : cFs (K ++ [x]) = cFs K ++ [K.map (·.2) ++ [x.2]] := by
  unfold cFs
  rw [List.length_append, List.length_cons, List.length_nil, List.range_succ, List.map_append, List.map_append]
  congr 1
  · apply List.map_congr_left
    intro i hi
    rw [List.take_append_of_le_length]
    have := List.mem_range.1 hi
    simp; omega
  · rw [List.map_singleton, List.take_of_length_le (by simp)]
    rfl
theorem cWs_snoc (K : List Kf) (x : Kf) : cWs (K ++ [x]) = cWs K ++ [(((K.length : Int), (K.length : Int), x.2), (K.length : Int) + 1)] := by
  unfold cWs
  rw [List.length_append, List.length_cons, List.length_nil, List.range_succ, List.map_append, List.map_append]
  congr 1
  · apply List.map_congr_left
    intro i hi
    have := List.mem_range.1 hi
    rw [List.getD_eq_getElem?_getD, List.getD_eq_getElem?_getD, List.getElem?_append_left (by simpa using this)]
  · simp [List.getD_eq_getElem?_getD]
theorem cFs_at (K : List Kf) (i : Nat) (h : i ≤ K.length) : (cFs K).getD i [] = (K.map (·.2)).take i := by
  unfold cFs
  rw [List.getD_eq_getElem?_getD, List.getElem?_map, List.getElem?_range (by omega)]
  rfl
theorem cLn_take (K : List Kf) (m : Nat) (h : m ≤ K.length) (k : Nat) : (k : Int) ∈ (cLn K).take m ↔ k < m := by
  unfold cLn
  rw [← List.map_take, List.take_range, Nat.min_eq_left h, List.mem_map]
  constructor
  · rintro ⟨a, ha, e⟩
    have := List.mem_range.1 ha
    omega
  · intro hk
    exact ⟨k, List.mem_range.2 hk, rfl⟩
theorem cWs_mem (K : List Kf) (a b f t : Int) (h : ((a, b, f), t) ∈ cWs K) : ∃ i : Nat, i < K.length ∧ a = i ∧ b = i ∧ f = (K.map (·.2)).getD i 0 ∧ t = i + 1 := by
  unfold cWs at h
  obtain ⟨i, hi, e⟩ := List.mem_map.1 h
  simp only [Prod.mk.injEq] at e
  exact ⟨i, List.mem_range.1 hi, e.1.1.symm, e.1.2.1.symm, e.1.2.2.symm, e.2.symm⟩
theorem cWs_at (K : List Kf) (i : Nat) (x : Kf) (h : K[i]? = some x) : ((((i : Int), (i : Int), x.2) : Int × Int × Int), (i : Int) + 1) ∈ cWs K := by
  unfold cWs
  refine List.mem_map.2 ⟨i, List.mem_range.2 (List.getElem?_eq_some_iff.1 h).1, ?_⟩
  rw [List.getD_eq_getElem?_getD, List.getElem?_map, h]
  rfl
/-- A tree that is one chain of keys. -/
def TC (B g : Nat) (K : List Kf) (C : List (Nat × Obj)) (w : World) : Prop := TT B g (K.map (·.1)) (cLn K) (cFs K) (cWs K) C w
/-- The number that a key has. -/
def kNo (K : List Kf) (k : Kb) : Nat := (K.map (·.1)).findIdx (fun x => decide (x = k))
theorem kNo_lt (K K' : List Kf) (hp : K <+: K') (k : Kb) : kNo K' k < K.length ↔ k ∈ K.map (·.1) := by
  obtain ⟨R, rfl⟩ := hp
  unfold kNo
  rw [List.map_append, List.findIdx_append]
  have hx : ((K.map (·.1)).findIdx (fun x => decide (x = k)) < (K.map (·.1)).length) ↔ k ∈ K.map (·.1) := by
    rw [List.findIdx_lt_length]
    constructor
    · rintro ⟨x, hx, e⟩
      have e' : x = k := by simpa using e
      exact e' ▸ hx
    · intro h
      exact ⟨k, h, by simp⟩
  constructor
  · intro h
    split at h
    · rename_i h1; exact hx.1 h1
    · rw [List.length_map] at h; omega
  · intro h
    rw [if_pos (hx.2 h)]
    have := hx.2 h
    simpa using this
theorem kNo_no (K : List Kf) (k : Kb) (h : k ∉ K.map (·.1)) : kNo K k = K.length := by
  have h1 : ¬ kNo K k < K.length := fun q => h ((kNo_lt K K (List.prefix_refl _) k).1 q)
  have h2 : kNo K k ≤ (K.map (·.1)).length := List.findIdx_le_length
  simp at h2
  omega
theorem kNo_ksw (K : List Kf) (k : Kb) : KsW (K.map (·.1)) k (kNo K k) (if noK K k = true then K.map (·.1) ++ [k] else K.map (·.1)) := by
  by_cases h : k ∈ K.map (·.1)
  · rw [if_neg (fun q => noK_iff.1 q h)]
    refine .inl ⟨?_, rfl⟩
    have hl : kNo K k < (K.map (·.1)).length := by have := (kNo_lt K K (List.prefix_refl _) k).2 h; simpa using this
    rw [List.getElem?_eq_getElem hl]
    have := List.findIdx_getElem (p := fun x : Kb => decide (x = k)) (xs := K.map (fun x : Kf => x.1)) (w := hl)
    exact congrArg some (of_decide_eq_true this)
  · rw [if_pos (noK_iff.2 h)]
    exact .inr ⟨by rw [kNo_no K k h]; simp, h, rfl⟩
theorem kNo_le (K : List Kf) (k : Kb) : kNo K k ≤ K.length := by
  have h2 : kNo K k ≤ (K.map (·.1)).length := List.findIdx_le_length
  simpa using h2
theorem stp_yes {K : List Kf} {o : OpR} (hf : 0 ≤ o.f ∧ o.f ≤ 15) (hn : o.kb ∉ K.map (·.1)) (hl : K.length < 128) : stp K o = K ++ [(o.kb, o.f)] := by
  unfold stp; rw [if_pos ⟨hf, noK_iff.2 hn, hl⟩]
theorem stp_no {K : List Kf} {o : OpR} (h : ¬ ((0 ≤ o.f ∧ o.f ≤ 15) ∧ o.kb ∉ K.map (·.1) ∧ K.length < 128)) : stp K o = K := by
  unfold stp; rw [if_neg (fun q => h ⟨q.1, noK_iff.1 q.2.1, q.2.2⟩)]
theorem pre_len {α : Type} {K K' : List α} (h : K <+: K') (he : K.length = K'.length) : K = K' := h.eq_of_length he
/-- What one Add comes to, at the place K of the chain K'. -/
theorem add_turn {B g : Nat} {C : List (Nat × Obj)} (K K' K'' : List Kf) (o : OpR) (w : World) (h : TC B g K' C w) (hcw : Cw K') (ho : o.ok) (hK : K <+: K') (hcase : (K' = K ∧ K'' = stp K o) ∨ (stp K o <+: K' ∧ K'' = K')) :
    Calls Try.prog 11 #[.pointer (some ⟨g, 0, none⟩), .int .i64 (K.length : Nat), .agg #[.string o.s, .int .i64 o.z], .int .i64 o.f] w fun e w' => ∃ x er : Int, e = .returned (.tuple #[.int .i64 x, .int .i64 er]) ∧ (if er = 0 then x else (K.length : Int)) = ((stp K o).length : Int) ∧ TC B g K'' C w' ∧ Below B w w' := by
  obtain ⟨mn, mw, lb, vk, vs, vl, fv, Dn, Dw, h1, h2, h3, h4, h5⟩ := h
  have hB : B ≤ w.heap.size := by have := h1.ge.1; have := h1.lts.1; omega
  have hKl := hK.length_le
  have hle := hcw.le
  rw [cFs_len] at h4
  by_cases hf : 0 ≤ o.f ∧ o.f ≤ 15
  · have hks := kNo_ksw K' o.kb
    have hkl := kNo_le K' o.kb
    have hlt := kNo_lt K K' hK o.kb
    have hfs : ((cFs K').getD K.length []).length = K.length := by rw [cFs_at K' _ hKl, List.length_take]; simp; omega
    obtain ⟨hw1, hw2, hw3⟩ := kb_wf o ho
    have hway : stp K o <+: K' → o.kb ∉ K.map (·.1) → K.length < 128 → kNo K' o.kb = K.length ∧ ((((K.length : Int), (kNo K' o.kb : Int), o.f) : Int × Int × Int), (K.length : Int) + 1) ∈ cWs K' := fun hp hn hl => by
      rw [stp_yes hf hn hl] at hp
      have hat : K'[K.length]? = some (o.kb, o.f) := by
        obtain ⟨R, rfl⟩ := hp
        simp
      have hno : kNo K' o.kb = K.length := by
        have e1 := (kNo_lt (K ++ [(o.kb, o.f)]) K' hp o.kb).2 (by simp)
        have e2 : ¬ kNo K' o.kb < K.length := fun q => hn (hlt.1 q)
        simp at e1; omega
      exact ⟨hno, by rw [hno]; exact cWs_at K' K.length _ hat⟩
    refine (add_all K.length (kNo K' o.kb) o.s o.z o.kb.1 o.kb.2 rfl rfl o.f (cWs K') w h1 h2 h3 ho.1 hw1.2 (fun t ht => by
      obtain ⟨x, hx, rfl⟩ := List.mem_map.1 ht
      exact (hcw.all x hx).1) hks (by omega) (h5 _ (List.getElem_mem _)) (by rw [cFs_len]; exact h4) (by rw [hfs, cLn_len]; exact hKl) hf.1 hf.2 (by rw [cLn_len]; omega) (by omega) (by simp; omega) (by rw [cWs_len]; omega) (by omega)).mono ?_
    · rintro e w' ⟨hA, hb⟩
      unfold AddG AddW at hA
      rw [hfs] at hA
      simp only [cLn_take K' _ hKl, hlt] at hA
      rcases hA with ⟨hin, rfl, hT⟩ | ⟨hn, h128, rfl, hT⟩ | ⟨hn, h128, hA⟩
      · have e1 : stp K o = K := stp_no (fun q => q.2.1 hin)
        refine ⟨0, 141, rfl, by rw [e1]; simp, ?_, hb⟩
        have e2 : K'' = K' := by
          rcases hcase with ⟨rfl, rfl⟩ | ⟨_, rfl⟩
          · exact e1
          · rfl
        rw [e2]
        exact ⟨mn, mw, lb, vk, vs, vl, fv, Dn, Dw, hT, h2, h3, by rw [cFs_len]; exact h4, h5⟩
      · have e1 : stp K o = K := stp_no (fun q => by omega)
        refine ⟨0, 2, rfl, by rw [e1]; simp, ?_, hb⟩
        have e2 : K'' = K' := by
          rcases hcase with ⟨rfl, rfl⟩ | ⟨_, rfl⟩
          · exact e1
          · rfl
        rw [e2]
        exact ⟨mn, mw, lb, vk, vs, vl, fv, Dn, Dw, hT, h2, h3, by rw [cFs_len]; exact h4, h5⟩
      · have e1 := stp_yes hf hn h128
        rcases hA with ⟨to', hto, rfl, hT⟩ | ⟨_, hfull, _⟩ | ⟨hno, _, rfl, lbx, E, vl', ln', vk', vs', Dn', Dw', v, hN, k1, k2, k3⟩
        · obtain ⟨i, hi, i1, i2, i3, i4⟩ := cWs_mem _ _ _ _ _ hto
          have e2 : K'' = K' := by
            rcases hcase with ⟨rfl, rfl⟩ | ⟨_, rfl⟩
            · omega
            · rfl
          refine ⟨to', 0, rfl, ?_, ?_, hb⟩
          · rw [if_pos rfl, e1, List.length_append, i4]
            simp; omega
          · rw [e2]
            exact ⟨mn, mw, lb, vk, vs, vl, fv, Dn, Dw, hT, h2, h3, by rw [cFs_len]; exact h4, h5⟩
        · omega
        · rcases hcase with ⟨rfl, rfl⟩ | ⟨hp, _⟩
          · have hno2 : kNo K' o.kb = K'.length := by
              have : ¬ kNo K' o.kb < K'.length := fun q => hn (hlt.1 q)
              omega
            obtain ⟨rfl, rfl, rfl⟩ := LnW_new (ln' := cLn K' ++ [(kNo K' o.kb : Int)]) (.inl ⟨by rw [cLn_len], rfl⟩) hN
            refine ⟨(fv.length : Nat), 0, rfl, ?_, ?_, hb⟩
            · rw [if_pos rfl, e1, List.length_append, ← h4]
              simp
            · rw [e1]
              rw [if_pos (noK_iff.2 hn)] at k1 k2
              rw [hno2] at k1 k3
              rw [cFs_at K' _ (Nat.le_refl _), List.take_of_length_le (by simp)] at k1
              refine ⟨mn, mw, lbx, vk', vs', vl', fv ++ [(lbx, v)], Dn', Dw', ?_, ?_, ?_, ?_, fun p hp => ?_⟩
              · rw [List.map_append, cLn_snoc, cFs_snoc, cWs_len, List.length_append]
                rw [cWs_len] at k1
                exact k1
              · rw [List.map_append]; exact k2
              · rw [cWs_snoc]
                rw [← h4] at k3
                exact k3
              · rw [cFs_len, List.length_append, List.length_append]
                simp; omega
              · rcases List.mem_append.1 hp with hp | hp
                · exact h5 p hp
                · rw [List.mem_singleton.1 hp]
          · exact absurd rfl (hno _ (hway hp hn h128).2)
  · have e1 : stp K o = K := stp_no (fun q => hf q.1)
    refine (add_range K.length o.s o.z o.f w h1 (by omega) (by omega)).mono ?_
    rintro e w' ⟨rfl, hb⟩
    refine ⟨0, 1, rfl, by rw [e1]; simp, ?_, hb.mono hB⟩
    have e2 : K'' = K' := by
      rcases hcase with ⟨rfl, rfl⟩ | ⟨_, rfl⟩
      · exact e1
      · rfl
    rw [e2]
    exact ⟨mn, mw, lb, vk, vs, vl, fv, Dn, Dw, h1.below hb, h2, h3, by rw [cFs_len]; exact h4, h5⟩
end Go.Proofs.Ytoonaljmdiideaa
