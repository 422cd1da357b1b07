/- Package shape: Add. -/
import Derived.Test.YtoonaljmdiideaaShN
import Derived.BigRegion
namespace Go.Proofs.Ytoonaljmdiideaa
set_option linter.unusedVariables false
set_option linter.unusedSimpArgs false
open Go.RowKit Go.Maps Go.ChangeShapes
section
variable {C : List (Nat × Obj)} {B g mn mw lb : Nat} {vk vs vl : Value} {ks : List Kb} {ln : List Int} {fs : List (List Int)} {fv : List (Nat × Value)} {nw : Nat} {Dn Dw : DataW Unit} {w : World}

/-- A key has the number k, of those that are kept, or of one more. -/
def KsW (ks : List Kb) (s : Kb) (k : Nat) (ks' : List Kb) : Prop := (ks[k]? = some s ∧ ks' = ks) ∨ (k = ks.length ∧ s ∉ ks ∧ ks' = ks ++ [s])
theorem number_any {ks' : List Kb} (s : ByteArray) (z : Int) (k : Nat) (w : World) (h : T1 C B g mn mw lb vk vs vl ks ln fs fv nw Dn Dw w) (hn : NumOk Dn ks) (hs : Kwf (s, z)) (hk : KsW ks (s, z) k ks') (hl : ks.length < 2000000000) :
    Calls Try.prog 24 #[.pointer (some ⟨g, 0, none⟩), .agg #[.string s, .int .i64 z]] w fun e w' => e = .returned (.int .i32 (k : Nat)) ∧ Below w.heap.size w w' := by
  rcases hk with ⟨hi, _⟩ | ⟨rfl, hno, _⟩
  · exact number_yes s z k w h hn hs hi
  · exact number_no s z w h hn hs hno hl
theorem keep_any {ks' : List Kb} (s : ByteArray) (z : Int) (k : Nat) (he : evenS s = s) (hs : (s.size : Int) ≤ 140737488351232) (hzf : (Lit.int .i64 z).wf = true) (w : World) (h : T1 C B g mn mw lb vk vs vl ks ln fs fv nw Dn Dw w) (hn : NumOk Dn ks) (hz : ∀ t ∈ ks, Kwf t) (hk : KsW ks (s, z) k ks') (hl : ks.length < 100000) :
    Calls Try.prog 33 #[.pointer (some ⟨g, 0, none⟩), .int .i32 (k : Nat), .agg #[.string s, .int .i64 z]] w fun e w' => e = .returned (.tuple #[]) ∧ ∃ vk' Dn', T1 C B g mn mw lb vk' vs vl ks' ln fs fv nw Dn' Dw w' ∧ NumOk Dn' ks' ∧ Below B w w' := by
  rcases hk with ⟨hi, rfl⟩ | ⟨rfl, hno, rfl⟩
  · have hB : B ≤ w.heap.size := by have := h.ge.1; have := h.lts.1; omega
    refine (keep_old s z k w h (List.getElem?_eq_some_iff.1 hi).1 (by omega)).mono ?_
    rintro e w' ⟨rfl, hb⟩
    exact ⟨rfl, vk, Dn, h.below hb, hn, hb.mono hB⟩
  · exact keep_new s z he hs hzf w h hn hz hno hl
theorem T1.sat (h : T1 C B g mn mw lb vk vs vl ks ln fs fv nw Dn Dw w) (i : Nat) (hi : i < fv.length) : ∃ gs c, vs = .slice (some ⟨gs, 0, none⟩) fv.length c ∧ fv.length ≤ c ∧ w.cell? ⟨gs, i * 2, none⟩ = some (.pointer (some ⟨fv[i].1, 0, none⟩)) ∧ w.cell? ⟨gs, i * 2 + 1, none⟩ = some fv[i].2 := by
  have ho := h.s
  obtain ⟨a, c, hv, _⟩ := own_slice' ho
  subst hv
  obtain ⟨gs, rfl⟩ := own_some ho (by omega)
  have c1 := ho.cells (g := gs) rfl (i * 2) _ (cC_get fv i hi).1
  have c2 := ho.cells (g := gs) rfl (i * 2 + 1) _ (cC_get fv i hi).2
  rw [Addr.add_lit] at c1 c2
  refine ⟨gs, c, rfl, ?_, by simpa using c1, by simpa using c2⟩
  rcases ho.2 with ⟨e, _⟩ | ⟨g', cap', cur', e, _, _, hcap, _⟩
  · simp at e
  · simp at e; omega
theorem T1.rd (h : T1 C B g mn mw lb vk vs vl ks ln fs fv nw Dn Dw w) : ∃ la lc, vl = .slice la ln.length lc ∧ ln.length ≤ lc ∧ (la = none → lc = 0) ∧ Rd32 w la ln ∧ lc ≤ maxLen := by
  have ho := h.l
  rcases ho.2 with ⟨rfl, hn⟩ | ⟨gl, cap, cur, rfl, _, hg, hcap, hmx, _, _⟩
  · refine ⟨none, 0, by rw [hn], by omega, fun _ => rfl, fun j hj => by omega, by decide⟩
  · refine ⟨_, cap, rfl, hcap, (fun e => by cases e), fun j hj => ⟨gl, rfl, ?_⟩, hmx⟩
    have c1 := ho.cells (g := gl) rfl j (.int .i32 ln[j]) (by simp [iC, hj])
    rw [Addr.add_lit] at c1
    simpa using c1
theorem place_no (i : Nat) (k : Int) (w : World) (h : T1 C B g mn mw lb vk vs vl ks ln fs fv nw Dn Dw w) (hi : i < fv.length) (m fc : Nat) (fa : Option Addr) (hm : m ≤ ln.length) (hl : ln.length < 100000) (hk : ∀ x ∈ ln.take m, x ≠ k) :
    Calls Try.prog 26 #[.agg #[.pointer (some ⟨lb, 0, none⟩), .slice fa m fc], .int .i32 k] w fun e w' => e = .returned (.int .i64 (-1)) ∧ Below w.heap.size w w' := by
  obtain ⟨la, lc, hvl, h1, h2, h3, h4⟩ := h.rd
  have c := h.cells.2.2.2.2.2.2.1
  rw [hvl] at c
  have := place_any lb fa la m fc lc ln k w c h1 h2 hm h3 (by omega)
  rwa [ixI_no hk] at this
theorem place_at (k : Int) (w : World) (h : T1 C B g mn mw lb vk vs vl ks ln fs fv nw Dn Dw w) (m fc : Nat) (fa : Option Addr) (hm : m ≤ ln.length) (hl : ln.length < 100000) :
    Calls Try.prog 26 #[.agg #[.pointer (some ⟨lb, 0, none⟩), .slice fa m fc], .int .i32 k] w fun e w' => e = .returned (.int .i64 (ixI (ln.take m) k)) ∧ Below w.heap.size w w' := by
  obtain ⟨la, lc, hvl, h1, h2, h3, h4⟩ := h.rd
  have c := h.cells.2.2.2.2.2.2.1
  rw [hvl] at c
  exact place_any lb fa la m fc lc ln k w c h1 h2 hm h3 (by omega)
theorem ixI_in {l : List Int} {k : Int} (h : k ∈ l) : 0 ≤ ixI l k := by
  unfold ixI
  rw [if_pos (List.findIdx_lt_length.2 ⟨k, h, by simp⟩)]
  omega
set_option maxHeartbeats 400000 in
theorem isFull_yes (g : Nat) (a : Option Addr) (n c : Nat) (w : World) (h3 : w.cell? ⟨g, 3, none⟩ = some (.slice a n c)) (hn : ¬ n < 100000) : Calls Try.prog 27 #[.pointer (some ⟨g, 0, none⟩)] w fun e w' => e = .returned (.bool true) ∧ w' = w := by
  have h1 : (n : Int) ≥ 100000 := by omega
  go_enter Try.func27, Try.ntmps27
  go_wp2
  go_ret
  exact ⟨by first | rfl | simp, rfl⟩
theorem LnW_new {ln ln' ln'' : List Int} {m : Nat} {k : Int} {B lbx : Nat} {E : List (Nat × Obj)} {vl' : Value} (h : LnW ln m k ln') {N0 : Nat} (hN : NewL N0 B lb vl ln m k E lbx vl' ln'') : E = [] ∧ lbx = lb ∧ ln'' = ln' := by
  rcases hN with ⟨rfl, rfl, h2⟩ | ⟨_, _, h2, h3, _⟩
  · refine ⟨rfl, rfl, ?_⟩
    rcases h with ⟨rfl, rfl⟩ | ⟨h, rfl⟩
    · rcases h2 with ⟨_, rfl⟩ | ⟨h2, _⟩
      · rfl
      · simp at h2
    · rcases h2 with ⟨rfl, _⟩ | ⟨_, rfl⟩
      · simp at h
      · rfl
  · rcases h with ⟨rfl, _⟩ | ⟨h, _⟩
    · omega
    · exact absurd h h3
theorem add_boxes (h : T1 C B g mn mw lb vk vs vl ks ln fs fv nw Dn Dw w) {W1 w3 : World} {s0 s : ByteArray} {z0 z : Int} {ob : Obj} (b1 : Below w.heap.size w W1) (b3 : Below W1.heap.size W1 w3) (q3 : w3.heap[w.heap.size]? = some (.cells #[.string s0, .int .i64 z0] 31 (0, 0))) :
    T1 ((w3.heap.size, ob) :: (w.heap.size, .cells #[.string s, .int .i64 z] 31 (0, 0)) :: C) B g mn mw lb vk vs vl ks ln fs fv nw Dn Dw (((w3.setCell ⟨w.heap.size, 0, none⟩ (.string s)).setCell ⟨w.heap.size, 1, none⟩ (.int .i64 z)).alloc ob) ∧ Below w.heap.size w (((w3.setCell ⟨w.heap.size, 0, none⟩ (.string s)).setCell ⟨w.heap.size, 1, none⟩ (.int .i64 z)).alloc ob) := by
  have B3 : Below w.heap.size w w3 := b1.trans (b3.mono b1.size)
  have B4 : Below w.heap.size w ((w3.setCell ⟨w.heap.size, 0, none⟩ (.string s)).setCell ⟨w.heap.size, 1, none⟩ (.int .i64 z)) := (B3.setCell (p := ⟨w.heap.size, 0, none⟩) (Nat.le_refl _) _).setCell (p := ⟨w.heap.size, 1, none⟩) (Nat.le_refl _) _
  have k1 := set_blk2' (j := 0) (v := .string s) q3
  have k2 := set_blk2' (j := 1) (v := .int .i64 z) k1
  have k3 : ((w3.setCell ⟨w.heap.size, 0, none⟩ (.string s)).setCell ⟨w.heap.size, 1, none⟩ (.int .i64 z)).heap[w.heap.size]? = some (.cells #[.string s, .int .i64 z] 31 (0, 0)) := by simpa using k2
  have hT := (h.cons B4 w.heap.size _ (Nat.le_refl _) k3).lay ob
  rw [show ((w3.setCell ⟨w.heap.size, 0, none⟩ (.string s)).setCell ⟨w.heap.size, 1, none⟩ (.int .i64 z)).heap.size = w3.heap.size from by simp [World.setCell]] at hT
  exact ⟨hT, B4.alloc B4.size _⟩
theorem T1.join {p q : Nat × Obj} (h1 : T1 (p :: C) B g mn mw lb vk vs vl ks ln fs fv nw Dn Dw w) (h2 : T1 (q :: C) B g mn mw lb vk vs vl ks ln fs fv nw Dn Dw w) : T1 (q :: p :: C) B g mn mw lb vk vs vl ks ln fs fv nw Dn Dw w := by
  refine ⟨h1.ge, h1.row, h1.lrow, h1.k, h1.s, h1.l, h1.f, h1.n, h1.m, h1.mm, fun x hx => ?_, fun x hx => ?_⟩
  · rcases List.mem_cons.1 hx with rfl | hx
    · exact h2.c _ (List.mem_cons_self ..)
    · exact h1.c _ hx
  · rcases List.mem_cons.1 hx with rfl | hx
    · exact h2.cn _ (List.mem_cons_self ..)
    · exact h1.cn _ hx
theorem add_boxes2 (h : T1 C B g mn mw lb vk vs vl ks ln fs fv nw Dn Dw w) {W1 w3 : World} {s0 s : ByteArray} {z0 z : Int} {fa : Option Addr} {m fc : Nat} (b1 : Below w.heap.size w W1) (b3 : Below (W1.alloc (.cells #[.pointer none, .slice none 0 0] 63)).heap.size (W1.alloc (.cells #[.pointer none, .slice none 0 0] 63)) w3) (q3 : w3.heap[w.heap.size]? = some (.cells #[.string s0, .int .i64 z0] 31 (0, 0))) (hlt : w.heap.size < W1.heap.size) :
    T1 ((W1.heap.size, .cells #[.pointer (some ⟨lb, 0, none⟩), .slice fa m fc] 63 (0, 0)) :: (w.heap.size, .cells #[.string s, .int .i64 z] 31 (0, 0)) :: C) B g mn mw lb vk vs vl ks ln fs fv nw Dn Dw ((((w3.setCell ⟨W1.heap.size, 0, none⟩ (.pointer (some ⟨lb, 0, none⟩))).setCell ⟨W1.heap.size, 1, none⟩ (.slice fa m fc)).setCell ⟨w.heap.size, 0, none⟩ (.string s)).setCell ⟨w.heap.size, 1, none⟩ (.int .i64 z)) ∧ Below w.heap.size w ((((w3.setCell ⟨W1.heap.size, 0, none⟩ (.pointer (some ⟨lb, 0, none⟩))).setCell ⟨W1.heap.size, 1, none⟩ (.slice fa m fc)).setCell ⟨w.heap.size, 0, none⟩ (.string s)).setCell ⟨w.heap.size, 1, none⟩ (.int .i64 z)) := by
  have bz : Below W1.heap.size W1 (W1.alloc (.cells #[.pointer none, .slice none 0 0] 63)) := (Below.refl _ _).alloc (Nat.le_refl _) _
  have B3 : Below w.heap.size w w3 := (b1.trans (bz.mono b1.size)).trans (b3.mono (by simp; omega))
  have B4 : Below w.heap.size w ((((w3.setCell ⟨W1.heap.size, 0, none⟩ (.pointer (some ⟨lb, 0, none⟩))).setCell ⟨W1.heap.size, 1, none⟩ (.slice fa m fc)).setCell ⟨w.heap.size, 0, none⟩ (.string s)).setCell ⟨w.heap.size, 1, none⟩ (.int .i64 z)) := (((B3.setCell (p := ⟨W1.heap.size, 0, none⟩) b1.size _).setCell (p := ⟨W1.heap.size, 1, none⟩) b1.size _).setCell (p := ⟨w.heap.size, 0, none⟩) (Nat.le_refl _) _).setCell (p := ⟨w.heap.size, 1, none⟩) (Nat.le_refl _) _
  have z3 : w3.heap[W1.heap.size]? = some (.cells #[.pointer none, .slice none 0 0] 63 (0, 0)) := (b3.block W1.heap.size (by simp)).trans (World.alloc_heap_new _ _)
  have z4 := set_blk2' (j := 0) (v := .pointer (some ⟨lb, 0, none⟩)) z3
  have z5 := set_blk2' (j := 1) (v := .slice fa m fc) z4
  have z6 : ((w3.setCell ⟨W1.heap.size, 0, none⟩ (.pointer (some ⟨lb, 0, none⟩))).setCell ⟨W1.heap.size, 1, none⟩ (.slice fa m fc)).heap[W1.heap.size]? = some (.cells #[.pointer (some ⟨lb, 0, none⟩), .slice fa m fc] 63 (0, 0)) := by simpa using z5
  have z7 : ((((w3.setCell ⟨W1.heap.size, 0, none⟩ (.pointer (some ⟨lb, 0, none⟩))).setCell ⟨W1.heap.size, 1, none⟩ (.slice fa m fc)).setCell ⟨w.heap.size, 0, none⟩ (.string s)).setCell ⟨w.heap.size, 1, none⟩ (.int .i64 z)).heap[W1.heap.size]? = some (.cells #[.pointer (some ⟨lb, 0, none⟩), .slice fa m fc] 63 (0, 0)) := (Below.heap_setCell _ _ _ _ (show W1.heap.size ≠ w.heap.size by omega)).trans ((Below.heap_setCell _ _ _ _ (show W1.heap.size ≠ w.heap.size by omega)).trans z6)
  have q1 : ((w3.setCell ⟨W1.heap.size, 0, none⟩ (.pointer (some ⟨lb, 0, none⟩))).setCell ⟨W1.heap.size, 1, none⟩ (.slice fa m fc)).heap[w.heap.size]? = some (.cells #[.string s0, .int .i64 z0] 31 (0, 0)) := (Below.heap_setCell _ _ _ _ (show w.heap.size ≠ W1.heap.size by omega)).trans ((Below.heap_setCell _ _ _ _ (show w.heap.size ≠ W1.heap.size by omega)).trans q3)
  have k1 := set_blk2' (j := 0) (v := .string s) q1
  have k2 := set_blk2' (j := 1) (v := .int .i64 z) k1
  have k3 : ((((w3.setCell ⟨W1.heap.size, 0, none⟩ (.pointer (some ⟨lb, 0, none⟩))).setCell ⟨W1.heap.size, 1, none⟩ (.slice fa m fc)).setCell ⟨w.heap.size, 0, none⟩ (.string s)).setCell ⟨w.heap.size, 1, none⟩ (.int .i64 z)).heap[w.heap.size]? = some (.cells #[.string s, .int .i64 z] 31 (0, 0)) := by simpa using k2
  exact ⟨(h.cons B4 w.heap.size _ (Nat.le_refl _) k3).join (h.cons B4 W1.heap.size _ b1.size z7), B4⟩
/-- What Add comes to. -/
def AddW (C : List (Nat × Obj)) (B g mn mw lb : Nat) (vk vs vl : Value) (ks ks' : List Kb) (ln : List Int) (fs : List (List Int)) (fv : List (Nat × Value)) (nw : Nat) (Dn Dw : DataW Unit) (ws : List ((Int × Int × Int) × Int)) (i k : Nat) (f : Int) (w : World) (e : Ending) (w' : World) : Prop :=
  (∃ to', ((((i : Int), (k : Int), f) : Int × Int × Int), to') ∈ ws ∧ e = .returned (.tuple #[.int .i64 to', .int .i64 0]) ∧ T1 C B g mn mw lb vk vs vl ks ln fs fv nw Dn Dw w') ∨
  ((∀ p ∈ ws, p.1 ≠ ((i : Int), (k : Int), f)) ∧ 100000 ≤ fv.length ∧ e = .returned (.tuple #[.int .i64 0, .int .i64 2]) ∧ T1 C B g mn mw lb vk vs vl ks ln fs fv nw Dn Dw w') ∨
  ((∀ p ∈ ws, p.1 ≠ ((i : Int), (k : Int), f)) ∧ fv.length < 100000 ∧ e = .returned (.tuple #[.int .i64 (fv.length : Nat), .int .i64 0]) ∧ ∃ lbx E vl' ln' vk' vs' Dn' Dw' v, NewL w.heap.size B lb vl ln (fs.getD i []).length k E lbx vl' ln' ∧ T1 (E ++ C) B g mn mw lb vk' vs' vl' ks' ln' (fs ++ [fs.getD i [] ++ [f]]) (fv ++ [(lbx, v)]) (nw + 1) Dn' Dw' w' ∧ NumOk Dn' ks' ∧ WayOk Dw' (ws ++ [(((i : Int), (k : Int), f), (fv.length : Int))]))
/-- What Add comes to, its refusals too. -/
def AddG (C : List (Nat × Obj)) (B g mn mw lb : Nat) (vk vs vl : Value) (ks ks' : List Kb) (ln : List Int) (fs : List (List Int)) (fv : List (Nat × Value)) (nw : Nat) (Dn Dw : DataW Unit) (ws : List ((Int × Int × Int) × Int)) (i k : Nat) (f : Int) (w : World) (e : Ending) (w' : World) : Prop :=
  ((k : Int) ∈ ln.take (fs.getD i []).length ∧ e = .returned (.tuple #[.int .i64 0, .int .i64 141]) ∧ T1 C B g mn mw lb vk vs vl ks ln fs fv nw Dn Dw w') ∨
  ((k : Int) ∉ ln.take (fs.getD i []).length ∧ 128 ≤ (fs.getD i []).length ∧ e = .returned (.tuple #[.int .i64 0, .int .i64 2]) ∧ T1 C B g mn mw lb vk vs vl ks ln fs fv nw Dn Dw w') ∨
  ((k : Int) ∉ ln.take (fs.getD i []).length ∧ (fs.getD i []).length < 128 ∧ AddW C B g mn mw lb vk vs vl ks ks' ln fs fv nw Dn Dw ws i k f w e w')
theorem bare_even (s : ByteArray) (z : Int) : evenS (bareS s z) = bareS s z := by
  unfold bareS
  split
  · decide
  · rw [sh_even_eq, sh_even_eq, ByteArray.extract_extract, ByteArray.size_extract]
    congr 1
    omega
set_option maxHeartbeats 4000000 in
set_option maxRecDepth 100000 in
theorem add_all {ks' : List Kb} (i k : Nat) (s0 : ByteArray) (z0 : Int) (s : ByteArray) (z : Int) (hbs : bareS s0 z0 = s) (hbz : bareZ z0 = z) (f : Int) (ws : List ((Int × Int × Int) × Int)) (w : World) (h : T1 C B g mn mw lb vk vs vl ks ln fs fv nw Dn Dw w) (hn : NumOk Dn ks) (hw : WayOk Dw ws) (hs0 : (s0.size : Int) ≤ 140737488351232) (hzf : (Lit.int .i64 z).wf = true) (hz : ∀ t ∈ ks, Kwf t) (hk : KsW ks (s, z) k ks') (hi : i < fv.length) (hlb : fv[i].1 = lb) (hfl : fs.length = fv.length) (hm : (fs.getD i []).length ≤ ln.length) (f0 : 0 ≤ f) (f1 : f ≤ 15) (hl : ln.length < 90000) (hl2 : fv.length ≤ 100000) (hl3 : ks.length < 100000) (hl4 : nw < 100000) (hkk : k < 100000) :
    Calls Try.prog 11 #[.pointer (some ⟨g, 0, none⟩), .int .i64 (i : Nat), .agg #[.string s0, .int .i64 z0], .int .i64 f] w fun e w' => AddG C B g mn mw lb vk vs vl ks ks' ln fs fv nw Dn Dw ws i k f w e w' ∧ Below B w w' := by
  have he : evenS s = s := by rw [← hbs]; exact bare_even s0 z0
  have hs : (s.size : Int) ≤ 140737488351232 := by rw [← hbs]; exact bareS_le s0 z0 hs0
  have hsm : Kwf (s, z) := ⟨by unfold maxLen; show s.size ≤ _; omega, hzf⟩
  obtain ⟨fa, fc, hfv, _⟩ := own_slice' (h.f i hi)
  obtain ⟨m, hmm⟩ : ∃ m, (fs.getD i []).length = m := ⟨_, rfl⟩
  unfold AddG
  rw [hmm] at hm hfv ⊢
  have hx : Wwf ((i : Int), (k : Int), f) := by refine ⟨?_, ?_, ?_⟩ <;> simp [Lit.wf, IntKind.min, IntKind.max, IntKind.bits, IntKind.signed] <;> omega
  have HKM := Hid.mk' (way_mk _ hx)
  unfold wv at HKM
  dsimp only at HKM
  have HBW : Hid (B ≤ w.heap.size) := Hid.mk' (by have := h.ge.1; have := h.lts.1; omega)
  have HBA := Hid.mk' (fun W => shbare_any s0 z0 W hs0)
  rw [hbs, hbz] at HBA
  have HNU := Hid.mk' (fun (W : World) (C' : List (Nat × Obj)) (hW : T1 C' B g mn mw lb vk vs vl ks ln fs fv nw Dn Dw W) => number_any s z k W hW hn hsm hk (by omega))
  have HPL := Hid.mk' (fun (W : World) (C' : List (Nat × Obj)) (hW : T1 C' B g mn mw lb vk vs vl ks ln fs fv nw Dn Dw W) => place_at (k : Int) W hW m fc fa hm (by omega))
  obtain ⟨px, hpx⟩ : ∃ px, ixI (ln.take m) (k : Int) = px := ⟨_, rfl⟩
  rw [hpx] at HPL
  have HPX := Hid.mk' hpx
  clear hpx
  obtain ⟨W1, hW1⟩ : ∃ W1, w.alloc (.cells #[.string s0, .int .i64 z0] 31) = W1 := ⟨_, rfl⟩
  have b1 : Below w.heap.size w W1 := by rw [← hW1]; exact (Below.refl _ _).alloc (Nat.le_refl _) _
  have q1 : W1.heap[w.heap.size]? = some (.cells #[.string s0, .int .i64 z0] 31 (0, 0)) := by rw [← hW1]; exact World.alloc_heap_new _ _
  obtain ⟨b0, hb0⟩ : ∃ b0, w.heap.size = b0 := ⟨_, rfl⟩
  rw [hb0] at q1
  have HS0 := Hid.mk' hb0
  have h1 := h.below b1
  obtain ⟨c0, c1, c2, c3, c4, cf, l0, lf⟩ := h1.cells
  obtain ⟨gs, sc, hvs, hsc, d0, d1⟩ := h1.sat i hi
  have hi0 := hi
  obtain ⟨n, hnn⟩ : ∃ n, fv.length = n := ⟨_, rfl⟩
  rw [hvs, hnn] at c3
  rw [hlb] at d0
  rw [hfv] at d1
  rw [hnn] at hi hsc hl2
  have HRF := Hid.mk' (refusal_ok g (i : Int) f _ n sc W1 c0 c3 ⟨by omega, by omega⟩ f0 f1)
  have HT := Hid.mk' h
  have HB1 := Hid.mk' b1
  have HQ1 := Hid.mk' q1
  have HVS := Hid.mk' hvs
  have i1 : (i : Int) < (n : Int) := by omega
  obtain ⟨f2, f3, g0, g1⟩ := pair_facts q1
  have gl1 : g < W1.heap.size := h1.lts.1
  have gl2 : gs < W1.heap.size := World.block_lt_of_cell? _ _ d0
  have gl3 : b0 < W1.heap.size := (Array.getElem?_eq_some_iff.1 q1).1
  have gn1 : b0 ≠ gs := fun e => by
    have := h.lts.2.2.2.2.2.1 gs (by rw [hvs]; rfl)
    omega
  have gn2 : b0 ≠ g := fun e => by have := h.lts.1; omega
  have HHN := Hid.mk' hn
  have HHW := Hid.mk' hw
  have HHX := Hid.mk' hx
  have HFF := Hid.mk' hfl
  have HN90 : Hid (n ≤ 100000) := Hid.mk' hl2
  have HNN := Hid.mk' hnn
  have HNW := Hid.mk' hl4
  have HKP := Hid.mk' (fun (W : World) (C' : List (Nat × Obj)) (hW : T1 C' B g mn mw lb vk vs vl ks ln fs fv nw Dn Dw W) => keep_any s z k he hs hzf W hW hn hz hk (by omega))
  have HWI := Hid.mk' (fun (W : World) (C' : List (Nat × Obj)) (vk' : Value) (Dn' : DataW Unit) (hW : T1 C' B g mn mw lb vk' vs vl ks' ln fs fv nw Dn' Dw W) (hm2 : m < 128) => with_any i (k : Int) f W hW hi0 (by rw [hmm]; exact hm) (by omega) (by rw [hmm]; omega) f0 f1)
  rw [hfv] at HWI
  clear h h1 hn hw he hs hs0 hzf hbs hbz hk hm hl hl3 hsm hz hl4 hkk hx hfl c0 c1 c2 c4 cf l0 lf b1 q1 hfv hmm hvs hlb hnn hl2
  go_enter Try.func11, Try.ntmps11
  go_wp2_with fail
  refine HRF.out.mono ?_
  rintro e w2 ⟨rfl, rfl⟩
  have HKK : Hid (∀ w3, Below w2.heap.size w2 w3 → w3.heap[b0]? = some (.cells #[.string s0, .int .i64 z0] 31 (0, 0))) := Hid.mk' (fun w3 hb3 => (hb3.block b0 gl3).trans HQ1.out)
  have HLY : Hid (∀ w3, Below (w2.alloc (.cells #[.pointer none, .slice none 0 0] 63)).heap.size (w2.alloc (.cells #[.pointer none, .slice none 0 0] 63)) w3 → Below w2.heap.size w2 w3) := Hid.mk' (fun w3 hb => ((Below.refl _ _).alloc (Nat.le_refl _) _).trans (hb.mono (by simp)))
  have HLZ : Hid (∀ w3, Below (w2.alloc (.cells #[.pointer none, .slice none 0 0] 63)).heap.size (w2.alloc (.cells #[.pointer none, .slice none 0 0] 63)) w3 → w3.frozen? ⟨w2.heap.size, 0, none⟩ = false ∧ w3.frozen? ⟨w2.heap.size, 1, none⟩ = false ∧ w3.cell? ⟨w2.heap.size, 0, none⟩ = some (.pointer none) ∧ w3.cell? ⟨w2.heap.size, 1, none⟩ = some (.slice none 0 0)) := Hid.mk' (fun w3 hb => pair_facts ((hb.block w2.heap.size (by simp)).trans (World.alloc_heap_new _ _)))
  have HCB : Hid (w2.heap.size ≠ b0 ∧ w2.heap.size ≠ g ∧ w2.heap.size ≠ gs) := Hid.mk' ⟨by omega, by omega, by omega⟩
  have yg1 : ¬ g = w2.heap.size := Nat.ne_of_lt gl1
  have yg2 : ¬ gs = w2.heap.size := Nat.ne_of_lt gl2
  have yg4 : ¬ w2.heap.size = g := fun e => yg1 e.symm
  have yg5 : ¬ w2.heap.size = gs := fun e => yg2 e.symm
  have yg6 : ¬ w2.heap.size = b0 := Nat.ne_of_gt gl3
  have yg3 : ¬ b0 = w2.heap.size := Nat.ne_of_lt gl3
  go_upto_region 4 with fail
  go_cut [11] from 16 (fun v11 wc => ∃ cb, v11 = .pointer (some ⟨cb, 0, none⟩) ∧ Hid (T1 ((cb, .cells #[.pointer (some ⟨lb, 0, none⟩), .slice fa m fc] 63 (0, 0)) :: (b0, .cells #[.string s, .int .i64 z] 31 (0, 0)) :: C) B g mn mw lb vk vs vl ks ln fs fv nw Dn Dw wc ∧ Below w.heap.size w wc))
  case first =>
    go_region_with (first
      | (go_at_call 25; refine (HBA.out _).mono ?_; rintro e w3 ⟨rfl, b3⟩; have hb3 := below_from_drew b3; have r1 := (hb3.cell (p := ⟨g, 3, none⟩) gl1).trans c3; have r2 := (hb3.cell (p := ⟨gs, i * 2, none⟩) gl2).trans d0; have r3 := (hb3.cell (p := ⟨gs, i * 2 + 1, none⟩) gl2).trans d1; have r4 := (hb3.cell (p := ⟨b0, 0, none⟩) gl3).trans g0; have r5 := (hb3.cell (p := ⟨b0, 1, none⟩) gl3).trans g1; have r6 := (hb3.frozen (p := ⟨b0, 0, none⟩) gl3).trans f2; have r7 := (hb3.frozen (p := ⟨b0, 1, none⟩) gl3).trans f3; have HB3 := Hid.mk' hb3; have r8 := hb3.size; have r9 : b0 < w3.heap.size := Nat.lt_of_lt_of_le gl3 r8; have r10 : g < w3.heap.size := Nat.lt_of_lt_of_le gl1 r8; have r11 : gs < w3.heap.size := Nat.lt_of_lt_of_le gl2 r8; have r12 : ¬ b0 = w3.heap.size := Nat.ne_of_lt r9; have HQ3 := Hid.mk' (HKK.out w3 hb3); clear b3 hb3)
      | (go_at_call 25; refine (HBA.out _).mono ?_; rintro e w3 ⟨rfl, b3⟩; have hb4 := below_from_drew b3; have hb3 := HLY.out w3 hb4; obtain ⟨y0, y1, y2, y3⟩ := HLZ.out w3 hb4; have y4 : ¬ w2.heap.size = b0 := HCB.out.1; have y5 : ¬ b0 = w2.heap.size := fun e => HCB.out.1 e.symm; have r1 := (hb3.cell (p := ⟨g, 3, none⟩) gl1).trans c3; have r2 := (hb3.cell (p := ⟨gs, i * 2, none⟩) gl2).trans d0; have r3 := (hb3.cell (p := ⟨gs, i * 2 + 1, none⟩) gl2).trans d1; have r4 := (hb3.cell (p := ⟨b0, 0, none⟩) gl3).trans g0; have r5 := (hb3.cell (p := ⟨b0, 1, none⟩) gl3).trans g1; have r6 := (hb3.frozen (p := ⟨b0, 0, none⟩) gl3).trans f2; have r7 := (hb3.frozen (p := ⟨b0, 1, none⟩) gl3).trans f3; have HB3 := Hid.mk' hb3; have r8 := hb3.size; have r9 : b0 < w3.heap.size := Nat.lt_of_lt_of_le gl3 r8; have r10 : g < w3.heap.size := Nat.lt_of_lt_of_le gl1 r8; have r11 : gs < w3.heap.size := Nat.lt_of_lt_of_le gl2 r8; have r12 : ¬ b0 = w3.heap.size := Nat.ne_of_lt r9; have HQ3 := Hid.mk' (HKK.out w3 hb3); have HQZ := Hid.mk' hb4; clear hb4; clear b3 hb3))
    all_goals
      go_wp2_with fail
      go_meet
      first
        | (obtain ⟨e1, e2⟩ := add_boxes2 HT.out HB1.out HQZ.out (lb := lb) (fa := fa) (m := m) (fc := fc) (by rw [HS0.out]; exact HQ3.out) (by rw [HS0.out]; exact gl3)
           rw [HS0.out] at e1 e2
           exact ⟨_, rfl, Hid.mk' ⟨e1, by rw [HS0.out]; exact e2⟩⟩)
        | (obtain ⟨e1, e2⟩ := add_boxes (ob := Obj.cells #[.pointer (some ⟨lb, 0, none⟩), .slice fa m fc] 63 (0, 0)) HT.out HB1.out HB3.out (by rw [HS0.out]; exact HQ3.out)
           rw [HS0.out] at e1 e2
           exact ⟨_, rfl, Hid.mk' ⟨e1, by rw [HS0.out]; exact e2⟩⟩)
  case rest =>
    obtain ⟨cb, rfl, HT5⟩ := hcut
    have q5 := HT5.out.1.c (b0, _) (List.mem_cons_of_mem _ (List.mem_cons_self ..))
    obtain ⟨_, _, j0, j1⟩ := pair_facts q5
    have HNU5 := Hid.mk' (HNU.out _ _ HT5.out.1)
    clear q5 c3 d0 d1 f2 f3 g0 g1 gl1 gl2 gl3 gn1 gn2 HRF HKK HLY HLZ HCB yg1 yg2 yg3 yg4 yg5 yg6
    go_wp2_with fail
    refine HNU5.out.mono ?_
    rintro e w6 ⟨rfl, b6⟩
    have hT6 := HT5.out.1.below b6
    have q6 := hT6.c (cb, _) (List.mem_cons_self ..)
    obtain ⟨_, _, k0, k1⟩ := pair_facts q6
    have HPL6 := Hid.mk' (HPL.out _ _ hT6)
    have HT6 := Hid.mk' hT6
    have HB6 : Hid (Below w.heap.size w w6) := Hid.mk' (HT5.out.2.trans (b6.mono HT5.out.2.size))
    clear b6 hT6 q6 j0 j1
    go_wp2_with fail
    refine HPL6.out.mono ?_
    rintro e w7 ⟨rfl, b7⟩
    have hT7 := HT6.out.below b7
    have q7 := hT7.c (cb, _) (List.mem_cons_self ..)
    obtain ⟨_, _, k2, k3⟩ := pair_facts q7
    have HT7 := Hid.mk' hT7
    have HB7 : Hid (Below B w w7) := Hid.mk' ((HB6.out.trans (b7.mono HB6.out.size)).mono HBW.out)
    by_cases hin : (k : Int) ∈ ln.take m
    · have hx0 : px ≥ 0 := by have := ixI_in hin; rw [HPX.out] at this; exact this
      have HIN := Hid.mk' hin
      clear b7 hT7 q7 k0 k1 k2 k3 hin
      go_wp2
      go_ret2
      exact ⟨.inl ⟨HIN.out, rfl, HT7.out.sub (fun p hp => List.mem_cons_of_mem _ (List.mem_cons_of_mem _ hp))⟩, HB7.out⟩
    have hpx1 : px = -1 := by rw [← HPX.out]; exact ixI_no (fun y hy e => hin (e ▸ hy))
    subst hpx1
    have HIN := Hid.mk' hin
    clear hin
    by_cases hm2 : m < 128
    case neg =>
      have hm4 : (m : Int) ≥ 128 := by omega
      have HM2 : Hid (128 ≤ m) := Hid.mk' (by omega)
      clear b7 hT7 q7 k0 k1 hm2
      go_wp2
      go_ret2
      exact ⟨.inr (.inl ⟨HIN.out, HM2.out, rfl, HT7.out.sub (fun p hp => List.mem_cons_of_mem _ (List.mem_cons_of_mem _ hp))⟩), HB7.out⟩
    have hm3 : (m : Int) < 128 := by omega
    have HM2 := Hid.mk' hm2
    clear hm2
    have hT8 := hT7.lay (.cells #[.int .i64 (i : Int), .int .i32 (k : Int), .int .i64 f] 74)
    obtain ⟨W8, hW8⟩ : ∃ W8, w7.alloc (.cells #[.int .i64 (i : Int), .int .i32 (k : Int), .int .i64 f] 74) = W8 := ⟨_, rfl⟩
    rw [hW8] at hT8
    obtain ⟨b8, hb8⟩ : ∃ b8, w7.heap.size = b8 := ⟨_, rfl⟩
    rw [hb8] at hT8
    have B8 : Below w.heap.size w W8 := by rw [← hW8]; exact (HB6.out.trans (b7.mono HB6.out.size)).alloc (Nat.le_trans HB6.out.size b7.size) _
    have HT8 := Hid.mk' hT8
    have HB8 := Hid.mk' B8
    have q8 := hT8.c (b8, _) (List.mem_cons_self ..)
    have m0 : W8.cell? ⟨b8, 0, none⟩ = some (.int .i64 (i : Int)) := by simp [World.cell?, q8]
    have m1 : W8.cell? ⟨b8, 1, none⟩ = some (.int .i32 (k : Int)) := by simp [World.cell?, q8]
    have m2 : W8.cell? ⟨b8, 2, none⟩ = some (.int .i64 f) := by simp [World.cell?, q8]
    obtain ⟨c0, c1, c2, c3, c4, cf, l0, lf⟩ := hT8.cells
    clear b7 hT7 q7 hT8 B8 q8 k0 k1 c0 c1 c2 c3 cf l0 lf
    by_cases hkn : ∃ to', ((((i : Int), (k : Int), f) : Int × Int × Int), to') ∈ ws
    · obtain ⟨to', hto⟩ := hkn
      obtain ⟨_, u1, u2⟩ := HHW.out.yes _ hto
      have hrun : ∀ j, (Instr.lookup 65 (.map (some mw)) (.agg #[.int .i64 (i : Int), .int .i32 (k : Int), .int .i64 f]) true).run Try.prog (W8.drewN j) = .ok (.tuple #[.int .i64 to', .bool true]) (W8.drewN j) := fun j => way_yes (show (W8.drewN j).ownsMap Try.prog 74 (plainElem Try.prog 3) mw nw Dw from HT8.out.m) HKM.out u1 u2
      have HTO := Hid.mk' hto
      clear hto u1 u2
      go_upto_region 11 with fail
      go_quiet (fail)
      clear hrun
      go_wp2
      go_ret2
      exact ⟨.inr (.inr ⟨HIN.out, HM2.out, .inl ⟨to', HTO.out, rfl, ((HT8.out.below (below_drewN (Below.refl _ _) _)).sub (fun p hp => List.mem_cons_of_mem _ (List.mem_cons_of_mem _ (List.mem_cons_of_mem _ hp))))⟩⟩), below_drewN (HB8.out.mono HBW.out) _⟩
    · have hno : ∀ p ∈ ws, p.1 ≠ ((i : Int), (k : Int), f) := fun p hp e => hkn ⟨p.2, by rw [← e]; exact hp⟩
      have hrun : ∀ j, (Instr.lookup 65 (.map (some mw)) (.agg #[.int .i64 (i : Int), .int .i32 (k : Int), .int .i64 f]) true).run Try.prog (W8.drewN j) = .ok (.tuple #[.int .i64 0, .bool false]) (W8.drewN j) := fun j => way_no (show (W8.drewN j).ownsMap Try.prog 74 (plainElem Try.prog 3) mw nw Dw from HT8.out.m) HKM.out (HHW.out.no _ HHX.out hno)
      have HNO := Hid.mk' hno
      clear hno hkn
      go_upto_region 11 with fail
      go_quiet (fail)
      clear hrun m0 m1 m2 c4 k2 k3
      obtain ⟨W9, hW9⟩ : ∃ W9, W8.drewN nq = W9 := ⟨_, rfl⟩
      have hT9 := HT8.out.below (below_drewN (Below.refl _ _) nq)
      rw [hW9] at hT9
      have B9 : Below w.heap.size w W9 := by rw [← hW9]; exact below_drewN HB8.out _
      rw [hW9]
      have HT9 := Hid.mk' hT9
      have HB9 := Hid.mk' B9
      have c3' := hT9.cells.2.2.2.1
      rw [HVS.out, HNN.out] at c3'
      have q9 := hT9.c (b0, .cells #[.string s, .int .i64 z] 31 (0, 0)) (List.mem_cons_of_mem _ (List.mem_cons_of_mem _ (List.mem_cons_self ..)))
      obtain ⟨_, _, n0, n1⟩ := pair_facts q9
      have HK9 := Hid.mk' (HKP.out _ _ hT9)
      by_cases hfull : n < 100000
      case neg =>
        have HIF := Hid.mk' (isFull_yes g _ n sc W9 c3' hfull)
        have HFU : Hid (100000 ≤ n) := Hid.mk' (by omega)
        clear hT9 B9 c3' q9 hW9 hfull
        go_wp2_with fail
        refine HIF.out.mono ?_
        rintro e w9 ⟨rfl, rfl⟩
        go_wp2
        go_ret2
        exact ⟨.inr (.inr ⟨HIN.out, HM2.out, .inr (.inl ⟨HNO.out, by rw [HNN.out]; exact HFU.out, rfl, HT9.out.sub (fun p hp => List.mem_cons_of_mem _ (List.mem_cons_of_mem _ (List.mem_cons_of_mem _ hp)))⟩)⟩), HB9.out.mono HBW.out⟩
      have HIF := Hid.mk' (isFull_no g _ n sc W9 c3' hfull)
      have HFU := Hid.mk' hfull
      clear hT9 B9 c3' q9 hW9 hfull
      go_wp2_with fail
      refine HIF.out.mono ?_
      rintro e w9 ⟨rfl, rfl⟩
      go_wp2_with fail
      refine HK9.out.mono ?_
      rintro e w10 ⟨rfl, vk', Dn', hT10, hN10, b10⟩
      have HT10 := Hid.mk' hT10
      have HN10 := Hid.mk' hN10
      have HB10 : Hid (Below B w w10) := Hid.mk' ((HB9.out.mono HBW.out).trans b10)
      have HTD := Hid.mk' hT10.drew
      have HWC : Hid (∀ (W : World) (C' : List (Nat × Obj)) (vk' vs' vl' : Value) (ks' : List Kb) (l' : List Int) (Dn' Dw' : DataW Unit) (fs' : List (List Int)) (fv' : List (Nat × Value)) (nw' : Nat), T1 C' B g mn mw lb vk' vs' vl' ks' l' fs' fv' nw' Dn' Dw' W → (b8, .cells #[.int .i64 (i : Int), .int .i32 (k : Int), .int .i64 f] 74 (0, 0)) ∈ C' → (cb, .cells #[.pointer (some ⟨lb, 0, none⟩), .slice fa m fc] 63 (0, 0)) ∈ C' → W.cell? ⟨b8, 0, none⟩ = some (.int .i64 (i : Int)) ∧ W.cell? ⟨b8, 1, none⟩ = some (.int .i32 (k : Int)) ∧ W.cell? ⟨b8, 2, none⟩ = some (.int .i64 f) ∧ W.cell? ⟨cb, 0, none⟩ = some (.pointer (some ⟨lb, 0, none⟩)) ∧ W.cell? ⟨cb, 1, none⟩ = some (.slice fa m fc)) := Hid.mk' (fun W C' _ _ _ _ _ _ _ _ _ _ hW h8 hc => by
        have q1 := hW.c _ h8
        obtain ⟨_, _, e0, e1⟩ := pair_facts (hW.c _ hc)
        refine ⟨?_, ?_, ?_, e0, e1⟩ <;> simp [World.cell?, q1])
      obtain ⟨o0, o1, o2, o3, o4⟩ := HWC.out _ _ _ _ _ _ _ _ _ _ _ _ hT10 (List.mem_cons_self ..) (List.mem_cons_of_mem _ (List.mem_cons_self ..))
      have HWI10 := Hid.mk' (HWI.out _ _ _ _ HTD.out HM2.out)
      clear hT10 hN10 b10 n0 n1
      go_upto_region 17 with fail
      go_region_with (first
        | (go_at_call 34; refine HWI10.out.mono ?_; rintro e w11 ⟨lbx, v, E, vl', ln', rfl, hNL, hT11, ho11, b11⟩; have HNL := Hid.mk' (hNL.mono (N1 := w.heap.size) (by have := HB10.out.size; simpa using this)); obtain ⟨p0, p1, p2, p3, p4⟩ := HWC.out _ _ _ _ _ _ _ _ _ _ _ _ hT11 (mem_at0 _ _ _) (mem_at1 _ _ _ _); have HLD := Hid.mk' (lead_any _ lbx v _ ws w11 hT11 HFF.out HHW.out HHX.out HNO.out (by rw [HNN.out]; exact HFU.out) (by have := HNW.out; omega) ho11); have HB11 : Hid (Below B w w11) := Hid.mk' (HB10.out.drew.trans b11); unfold wv at HLD; dsimp only at HLD; clear hT11 ho11 b11 hNL)
        | (go_at_call 28; refine HLD.out.mono ?_; rintro e w12 ⟨rfl, vs', Dw', hT12, hW12, b12⟩; have HT12 := Hid.mk' hT12; have HW12 := Hid.mk' hW12; have HB12 : Hid (Below B w w12) := Hid.mk' (HB11.out.trans b12); clear hT12 hW12 b12))
      all_goals
        go_wp2
        go_ret2
        exact ⟨.inr (.inr ⟨HIN.out, HM2.out, .inr (.inr ⟨HNO.out, by rw [HNN.out]; exact HFU.out, rfl, lbx, E, vl', ln', _, _, _, _, _, HNL.out, HT12.out.sub (fun p hp => mem_mid (mem_mid (mem_mid hp))), HN10.out, HW12.out⟩)⟩), HB12.out⟩
/-- What Add comes to where the line goes on. -/
def AddO (C : List (Nat × Obj)) (B g mn mw lb : Nat) (vk vs vl : Value) (ks ks' : List Kb) (ln ln' : List Int) (fs : List (List Int)) (fv : List (Nat × Value)) (nw : Nat) (Dn Dw : DataW Unit) (ws : List ((Int × Int × Int) × Int)) (i k : Nat) (f : Int) (w : World) (e : Ending) (w' : World) : Prop :=
  (∃ to', ((((i : Int), (k : Int), f) : Int × Int × Int), to') ∈ ws ∧ e = .returned (.tuple #[.int .i64 to', .int .i64 0]) ∧ T1 C B g mn mw lb vk vs vl ks ln fs fv nw Dn Dw w') ∨
  ((∀ p ∈ ws, p.1 ≠ ((i : Int), (k : Int), f)) ∧ e = .returned (.tuple #[.int .i64 (fv.length : Nat), .int .i64 0]) ∧ ∃ vk' vs' vl' Dn' Dw' v, T1 C B g mn mw lb vk' vs' vl' ks' ln' (fs ++ [fs.getD i [] ++ [f]]) (fv ++ [(lb, v)]) (nw + 1) Dn' Dw' w' ∧ NumOk Dn' ks' ∧ WayOk Dw' (ws ++ [(((i : Int), (k : Int), f), (fv.length : Int))]))
theorem add_any {ks' : List Kb} {ln' : List Int} (i k : Nat) (s : ByteArray) (z : Int) (hbs : bareS s z = s) (hbz : bareZ z = z) (f : Int) (ws : List ((Int × Int × Int) × Int)) (w : World) (h : T1 C B g mn mw lb vk vs vl ks ln fs fv nw Dn Dw w) (hn : NumOk Dn ks) (hw : WayOk Dw ws) (hs : (s.size : Int) ≤ 140737488351232) (hzf : (Lit.int .i64 z).wf = true) (hz : ∀ t ∈ ks, Kwf t) (hk : KsW ks (s, z) k ks') (hi : i < fv.length) (hlb : ∀ p ∈ fv, p.1 = lb) (hfl : fs.length = fv.length) (hm : (fs.getD i []).length ≤ ln.length) (hm2 : (fs.getD i []).length < 128) (hno : ∀ x ∈ ln.take (fs.getD i []).length, x ≠ (k : Int)) (hc : LnW ln (fs.getD i []).length k ln') (f0 : 0 ≤ f) (f1 : f ≤ 15) (hl : ln.length < 90000) (hl2 : fv.length < 90000) (hl3 : ks.length < 90000) (hl4 : nw < 90000) (hkk : k < 90000) :
    Calls Try.prog 11 #[.pointer (some ⟨g, 0, none⟩), .int .i64 (i : Nat), .agg #[.string s, .int .i64 z], .int .i64 f] w fun e w' => AddO C B g mn mw lb vk vs vl ks ks' ln ln' fs fv nw Dn Dw ws i k f w e w' ∧ Below B w w' := by
  refine (add_all i k s z s z hbs hbz f ws w h hn hw hs hzf hz hk hi (hlb _ (List.getElem_mem hi)) hfl hm f0 f1 hl (by omega) (by omega) (by omega) (by omega)).mono ?_
  rintro e w' ⟨hA, hb⟩
  refine ⟨?_, hb⟩
  rcases hA with ⟨hin, _⟩ | ⟨_, h128, _⟩ | ⟨_, _, hA⟩
  · exact absurd rfl (hno _ hin)
  · omega
  · rcases hA with hA | ⟨_, hA, _⟩ | ⟨h1, _, h3, lbx, E, vl', ln'', vk', vs', Dn', Dw', v, hN, hT, h4, h5⟩
    · exact .inl hA
    · omega
    · obtain ⟨rfl, rfl, rfl⟩ := LnW_new hc hN
      exact .inr ⟨h1, h3, vk', vs', vl', Dn', Dw', v, hT, h4, h5⟩
end
end Go.Proofs.Ytoonaljmdiideaa
