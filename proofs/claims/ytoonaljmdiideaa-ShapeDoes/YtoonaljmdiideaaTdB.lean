/- ShapeDoes: what told asks, of both sides in one memory. -/
import Derived.Test.YtoonaljmdiideaaTdA
namespace Go.Proofs.Ytoonaljmdiideaa
set_option linter.unusedVariables false
set_option linter.unusedSimpArgs false
open Go.RowKit Go.Shelf Go.Maps Go.ChangeShapes
/-- A range over a function whose body leaves at once. -/
theorem range_brk {α : Type} {P : Program} {n : Nat} {g : Operand} {ps : Array Tmp} {assign body : Code} {Q : Exit → Act → World → Prop} {a : Act} {w : World} (h1 : 1 ≤ n)
    {gf : Nat} {lb : Array Value} (hg : a.eval g = .func (.func gf) #[] lb) (eg : ∀ args w, (callFunc gf args).run P w = .ok (.enter gf args) w)
    {encs : α → Array Value} {S Sp : List α → Prop} {Ok : List α → Prop} {w0 : World} (hseq : SeqX (n - 1) P gf lb encs [] S Sp Ok w0) (hb0 : Below w0.heap.size w0 w) (hps : ∀ x, (encs x).size = ps.size)
    (id N0 : Nat) (wz : World) (hz : Below N0 wz w) (hN : N0 ≤ w.heap.size)
    (hround : ∀ (l : Nat) (x : α) (W : World), Sv [] w W → Below N0 wz W → assign.wpIn (Fence.wide.inRound l) (n - 1 - 1) P (Exit.then (fun a' W' => Below W.heap.size W W' ∧ ∀ Wb, Sv [] w Wb → Below N0 wz Wb → (∀ (k : Nat) (o : Obj), W'.heap[k]? = some o → o.isCells = true → Wb.heap[k]? = some o) → Wb.heap.size = W'.heap.size → body.wpIn (Fence.wide.inRound l) (n - 1 - 1) P (postX [] w.heap.size (fun pre W => pre = [] ∧ Sv [] w W ∧ Below N0 wz W) (fun c pre W => c = .exit id ∧ Sv [] w W ∧ Below N0 wz W) ([] ++ [x]) Wb) a' Wb) (fun _ _ _ => False))
      { tmps := (ps.zip (encs x)).foldl (fun t (p, v) => t.setIfInBounds p v) a.tmps, defers := [] } W)
    (hx : ∀ a W, Q .normal a W → (Code.exit id).wpIn Fence.wide n P Q a W)
    (hrest : ∀ (D : Nat) (W : World), w.heap.size ≤ D → Sv [] w W → Below N0 wz W → W.heap[D]? = some (.deferred (some [])) → Q .normal { a with defers := { target := .collected D, args := #[] } :: a.defers } W) :
    (Code.rangeFunc g ps assign body).wpIn Fence.wide n P Q a w := by
  have grown : ∀ {A B : World} {row : Option Nat}, (Sv [] w A ∧ Below N0 wz A) → A.grownBy B row → (∀ r, row = some r → w.heap.size ≤ r ∧ ∃ o : Obj, A.heap[r]? = some o ∧ o.isCells = false) → Sv [] w B ∧ Below N0 wz B := fun h hgr hr =>
    ⟨⟨Nat.le_trans h.1.size hgr.size, fun k o hk ho => (hgr.block _ (Array.getElem?_eq_some_iff.1 (h.1.all k o hk ho)).1 (fun e => by have := (hr _ e.symm).1; have := (Array.getElem?_eq_some_iff.1 ho).1; omega)).trans (h.1.all k o hk ho)⟩, h.2.trans ((Below.refl _ _).grown hgr (Nat.le_trans hN h.1.size) (fun k hk => by have := (hr k hk).1; omega))⟩
  refine range_x h1 hg eg hseq (fun b hb => by cases hb) hb0 hps (fun pre W => pre = [] ∧ Sv [] w W ∧ Below N0 wz W) (fun c pre W => c = .exit id ∧ Sv [] w W ∧ Below N0 wz W) (fun s A B row hs hgr hr => ⟨hs.1, grown hs.2 hgr hr⟩) (fun c s A B row hs hgr hr => ⟨hs.1, grown hs.2 hgr hr⟩) ⟨rfl, Sv.refl' _ _, hz⟩ ?_ ?_ ?_
  · rintro l pre x W ⟨rfl, hs, hb⟩ _
    refine wpIn_mono (hround l x W hs hb) ?_
    intro e a' W' he
    cases e with
    | normal => exact ⟨he.1, fun Wb hWb hk hsz => he.2 Wb hWb.2.1 hWb.2.2 hk hsz⟩
    | ret => exact he
    | exit id => exact he
    | goto t => exact he
    | panic ch => exact he
    | outgrown => exact he
  · rintro D xs W hD _ ⟨_, hs, hb⟩ hK
    exact hrest D W hD hs hb hK
  · rintro D c pre W hD _ ⟨rfl, hs, hb⟩ hK
    exact hx _ _ (hrest D W hD hs hb hK)
theorem findIdx_nk (l : List Kb) (h : l.Pairwise (· ≠ ·)) (j : Nat) (k : Kb) (hk : l[j]? = some k) : l.findIdx (fun x => decide (x = k)) = j := by
  obtain ⟨hj, e⟩ := List.getElem?_eq_some_iff.1 hk
  rw [List.findIdx_eq hj]
  refine ⟨by simp [e], fun i hi => ?_⟩
  have := List.pairwise_iff_getElem.1 h i j (by omega) hj hi
  rw [e] at this
  simpa using this
theorem ansF_at {S : List (List SlR)} (hS : NK S) (i j : Nat) (x : SlR) (hx : (S.getD i [])[j]? = some x) : ansF S (i : Int) x.kb = ((j : Int), x.f, true) := by
  have e := findIdx_nk _ (hS.at i) j x.kb (by rw [List.getElem?_map, hx]; rfl)
  unfold ansF
  rw [if_neg (by omega), Int.toNat_natCast, e, hx]
section
variable {B g rb : Nat} {S : List (List SlR)} {D : List (Nat × Obj)} {w w' : World}
theorem kb_idem (s : ByteArray) (z : Int) : kbOf (kbOf (s, z)) = kbOf (s, z) := by
  have he : evenS (bareS s z) = bareS s z := bare_even s z
  unfold kbOf
  dsimp only
  by_cases h : 0 < z
  · have h1 : bareZ z = z := by unfold bareZ; rw [if_pos h]
    have h2 : ∀ t, bareS t z = bareS s z := fun t => by unfold bareS; rw [if_pos h, if_pos h]
    rw [h1, h2, h1]
  · have h1 : bareZ z = 0 := by unfold bareZ; rw [if_neg h]
    have h2 : ∀ t, bareS t 0 = evenS t := fun t => by unfold bareS; rw [if_neg (by omega)]
    have h3 : bareZ 0 = 0 := by unfold bareZ; rw [if_neg (by omega)]
    rw [h1, h2, he, h3]
theorem wf_bareZ {z : Int} (h : (Lit.int .i64 z).wf = true) : (Lit.int .i64 (bareZ z)).wf = true := by
  unfold bareZ
  split
  · exact h
  · rfl
theorem two_nk (h : Two B g rb S D w) : NK S := by
  obtain ⟨⟨mn, mw, vk, vs, ks, LS, fs, fv, ws, Dn, Dw, vL, vW, sv, W, E, hT, h2, h3, hR, h5, h6, hE⟩, hF⟩ := h
  exact h6.nk
theorem tells_of {ks : List Kb} {ln fl : List Int} {sl : List SlR} (h : tell ks ln fl sl) (hs : ∀ x ∈ sl, (x.s.size : Int) ≤ 140737488351232) : tells ks ln fl (sl.map SlR.kf) := by
  obtain ⟨h1, h2, h3⟩ := h
  refine ⟨by rw [List.length_map]; exact h1, h2, fun j x hx => ?_⟩
  rw [List.getElem?_map] at hx
  obtain ⟨y, hy, rfl⟩ := Option.map_eq_some_iff.1 hx
  obtain ⟨n, a, b, c, d, e⟩ := h3 j y hy
  exact ⟨n, a, b, c, bare_even y.s y.z, bareS_le y.s y.z (hs y (List.mem_of_getElem? hy)), d, e⟩
theorem Two.shape (h : Two B g rb S D w) (i : Nat) (hi : i < S.length) : ∃ mn mw lb vk vs vl ks ln fs fv nw Dn Dw E, T1 (D ++ E) B g mn mw lb vk vs vl ks ln fs fv nw Dn Dw w ∧ (∃ hf : i < (fv : List (Nat × Value)).length, fv[i].1 = lb) ∧ tells ks ln (fs.getD i []) ((S.getD i []).map SlR.kf) ∧ (S.getD i []).length < 1000 ∧ (ks : List Kb).length < 100000 := by
  obtain ⟨⟨mn, mw, vk, vs, ks, LS, fs, fv, ws, Dn, Dw, vL, vW, sv, W, E, hT, h2, h3, hR, h5, h6, hE⟩, hF⟩ := h
  have hf : i < fv.length := by rw [← h6.sl]; exact hi
  obtain ⟨q, hq, e, ht⟩ := h6.at_ i hf
  obtain ⟨o1, o2⟩ := h6.so.at i
  exact ⟨mn, mw, q.1, vk, vs, q.2.1, ks, q.2.2, fs, fv, ws.length, Dn, Dw, E, hT.one q hq, ⟨hf, e⟩, tells_of ht o2, o1, by have := h6.c3; have := h6.c4; omega⟩
theorem Two.cells (h : Two B g rb S D w) : w.cell? ⟨g, 0, none⟩ = some (.pointer (some ⟨g, 0, none⟩)) ∧ ∃ a c, w.cell? ⟨g, 3, none⟩ = some (.slice a S.length c) := by
  obtain ⟨⟨mn, mw, vk, vs, ks, LS, fs, fv, ws, Dn, Dw, vL, vW, sv, W, E, hT, h2, h3, hR, h5, h6, hE⟩, hF⟩ := h
  obtain ⟨c0, a, c, c3⟩ := hT.cells
  exact ⟨c0, a, c, by rw [h6.sl]; exact c3⟩
/-- The document's row of rows. -/
theorem Two.rows (h : Two B g rb S D w) : ∃ a c, w.cell? ⟨rb, 0, none⟩ = some (.slice a S.length c) ∧ S.length ≤ 100000 ∧ ∀ (i : Nat), i < S.length → ∃ gs a1 c1, a = some ⟨gs, 0, none⟩ ∧ w.cell? ⟨gs, i, none⟩ = some (.slice a1 (S.getD i []).length c1) ∧ RdR SlR.cs 3 w a1 (S.getD i []) ∧ (∀ x ∈ S.getD i [], (x.s.size : Int) ≤ 140737488351232) := by
  obtain ⟨⟨mn, mw, vk, vs, ks, LS, fs, fv, ws, Dn, Dw, vL, vW, sv, W, E, hT, h2, h3, hR, h5, h6, hE⟩, hF⟩ := h
  have hl : sv.length = S.length := by rw [h5, h6.sl]
  obtain ⟨a, c, hv, _⟩ := own_slice' hR.l
  obtain ⟨c0, _⟩ := hR.cells
  rw [hv, hl] at c0
  refine ⟨a, c, c0, by rw [h6.sl]; exact h6.c4, fun i hi => ?_⟩
  obtain ⟨gs, c', a1, c1, hv', d0, _, hrd⟩ := hR.at i (by omega)
  rw [hv] at hv'
  simp only [Value.slice.injEq] at hv'
  exact ⟨gs, a1, c1, hv'.1, d0, hrd, (h6.so.at i).2⟩
/-- Keys of a shape that there is. -/
theorem two_keys (i : Nat) (hi : i < S.length) (w : World) (h : Two B g rb S D w) :
    Calls Try.prog 36 #[.pointer (some ⟨g, 0, none⟩), .int .i64 (i : Nat)] w fun e w' => ∃ v, e = .returned (.tuple #[v, .int .i64 0]) ∧ w'.ownsRow w.heap.size 31 2 v (S.getD i []).length (kC ((S.getD i []).map SlR.kb)) ∧ Below w.heap.size w w' := by
  obtain ⟨mn, mw, lb, vk, vs, vl, ks, ln, fs, fv, nw, Dn, Dw, E, h1, ⟨hf, hlb⟩, hL, hl, hk⟩ := h.shape i hi
  refine (t1_keys i (S.getD i []).length _ w h1 hf hlb hL (by rw [List.length_map]) hl hk).mono ?_
  rintro e w' ⟨v, rfl, ho, hb⟩
  refine ⟨v, rfl, ?_, hb⟩
  rw [List.map_map] at ho
  exact ho
/-- Each of a shape that there is. -/
theorem two_each (n tb sb i : Nat) (X : List Nat) (w : World) (h : Two B g rb S D w) (hi : i < S.length) (hX : ∀ b ∈ X, (∃ ob, (b, ob) ∈ D) ∧ b ≠ tb ∧ b ≠ sb) (ht : w.cell? ⟨tb, 0, none⟩ = some (.pointer (some ⟨g, 0, none⟩))) (hsb : w.cell? ⟨sb, 0, none⟩ = some (.int .i64 (i : Nat))) :
    SeqX n Try.prog 53 #[.pointer (some ⟨tb, 0, none⟩), .pointer (some ⟨sb, 0, none⟩)] encK X (fun xs => xs = (S.getD i []).map SlR.kf) (fun pre => pre <+: (S.getD i []).map SlR.kf) (fun l => l <+: (S.getD i []).map SlR.kf) w := by
  have hD := h.2
  have hc := h.c
  obtain ⟨mn, mw, lb, vk, vs, vl, ks, ln, fs, fv, nw, Dn, Dw, E, h1, ⟨hf, hlb⟩, hL, hl, hk⟩ := h.shape i hi
  refine each_stops n tb sb i X _ w h1 (h1.aside (fun b hb => ?_)) (fun b hb => ?_) hf hlb hL (by rw [List.length_map]; exact hl) hk ht hsb
  · obtain ⟨⟨ob, hob⟩, _⟩ := hX b hb
    exact ⟨ob, List.mem_append_left _ hob, fun c fz => (hD _ hob c fz).1⟩
  · obtain ⟨⟨ob, hob⟩, n1, n2⟩ := hX b hb
    exact ⟨(Array.getElem?_eq_some_iff.1 (hc _ hob)).1, n1, n2⟩
theorem two_keys_out (s : Int) (hs : s < 0 ∨ (S.length : Int) ≤ s) (w : World) (h : Two B g rb S D w) : Calls Try.prog 36 #[.pointer (some ⟨g, 0, none⟩), .int .i64 s] w fun e w' => e = .returned (.tuple #[.slice none 0 0, .int .i64 140]) ∧ w' = w := by
  obtain ⟨c0, a, c, c3⟩ := h.cells
  exact keys_out g s a _ c w c0 c3 hs
theorem two_each_out (k tb sb : Nat) (s : Int) (X : List Nat) (hs : s < 0 ∨ (S.length : Int) ≤ s) (w : World) (h : Two B g rb S D w) (ht : w.cell? ⟨tb, 0, none⟩ = some (.pointer (some ⟨g, 0, none⟩))) (hsb : w.cell? ⟨sb, 0, none⟩ = some (.int .i64 s)) :
    SeqX k Try.prog 53 #[.pointer (some ⟨tb, 0, none⟩), .pointer (some ⟨sb, 0, none⟩)] encK X (fun xs => xs = []) (fun _ => False) (fun l => l <+: []) w := by
  obtain ⟨c0, a, c, c3⟩ := h.cells
  exact each_out k tb sb g s X a _ c w hs c0 c3 ht hsb
theorem two_len (w : World) (h : Two B g rb S D w) : Calls Try.prog 13 #[.pointer (some ⟨g, 0, none⟩)] w fun e w' => e = .returned (.int .i64 (S.length : Nat)) ∧ w' = w := by
  obtain ⟨⟨mn, mw, vk, vs, ks, LS, fs, fv, ws, Dn, Dw, vL, vW, sv, W, E, hT, h2, h3, hR, h5, h6, hE⟩, hF⟩ := h
  obtain ⟨q, _, h1⟩ := hT.any
  rw [h6.sl]
  exact shLen_any w h1
end
end Go.Proofs.Ytoonaljmdiideaa
