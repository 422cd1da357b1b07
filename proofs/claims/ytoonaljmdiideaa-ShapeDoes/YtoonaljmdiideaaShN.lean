/- Package shape: a class with one more key. -/
import Derived.Test.YtoonaljmdiideaaShW
namespace Go.Proofs.Ytoonaljmdiideaa
set_option linter.unusedVariables false
set_option linter.unusedSimpArgs false
open Go.RowKit Go.Maps Go.ChangeShapes
section
variable {C : List (Nat × Obj)} {B g mn mw lb : Nat} {vk vs vl : Value} {ks : List Kb} {ln : List Int} {fs : List (List Int)} {fv : List (Nat × Value)} {nw : Nat} {Dn Dw : DataW Unit} {w : World}

/-- How a line goes on with a key behind its first m. -/
def LnW (ln : List Int) (m : Nat) (k : Int) (ln' : List Int) : Prop := (m = ln.length ∧ ln' = ln ++ [k]) ∨ (ln[m]? = some k ∧ ln' = ln)
/-- How a line goes on, or that there is a new one: its block, the blocks that it has made, the row's content. -/
def NewL (N0 B lb : Nat) (vl : Value) (ln : List Int) (m : Nat) (k : Int) (E : List (Nat × Obj)) (lbx : Nat) (vl' : Value) (ln' : List Int) : Prop :=
  (E = [] ∧ lbx = lb ∧ LnW ln m k ln') ∨
  (vl' = vl ∧ ln' = ln ∧ m < ln.length ∧ ln[m]? ≠ some k ∧ ∃ v2 b2 c2, E = [(lbx, .cells #[v2] 60 (0, 0)), (b2, .cells c2 21 (0, 0))] ∧ (B ≤ lbx ∧ N0 ≤ lbx ∧ N0 ≤ b2) ∧ v2.ownBlock = some b2 ∧ ∀ W : World, W.heap[b2]? = some (.cells c2 21 (0, 0)) → W.ownsRow B 21 1 v2 (m + 1) (iC (ln.take m ++ [k])))
theorem NewL.mono {N0 N1 B' lb' : Nat} {vl0 vl' : Value} {ln0 ln' : List Int} {m : Nat} {k : Int} {E : List (Nat × Obj)} {lbx : Nat} (h : NewL N0 B' lb' vl0 ln0 m k E lbx vl' ln') (hN : N1 ≤ N0) : NewL N1 B' lb' vl0 ln0 m k E lbx vl' ln' := by
  rcases h with h | ⟨h1, h2, h3, h4, v2, b2, c2, h5, ⟨h6, h7, h8⟩, h9⟩
  · exact .inl h
  · exact .inr ⟨h1, h2, h3, h4, v2, b2, c2, h5, ⟨h6, Nat.le_trans hN h7, Nat.le_trans hN h8⟩, h9⟩
theorem own_take {e : TypeId} {v : Value} {n : Nat} {xs : List Value} (h : w.ownsRow B e 1 v n xs) (m : Nat) (hm : m ≤ n) : ∃ a c, v = .slice a n c ∧ w.ownsRow B e 1 (.slice a m c) m (xs.take m) := by
  rcases h.2 with ⟨rfl, rfl⟩ | ⟨g, cap, cur, rfl, hB, hg, h1, h2, h3, h4⟩
  · obtain rfl : m = 0 := by omega
    exact ⟨none, 0, rfl, by simpa using World.ownsRow_nil w B e 1⟩
  · refine ⟨_, _, rfl, ?_, .inr ⟨g, cap, cur, rfl, hB, hg, by omega, h2, h3, ?_⟩⟩
    · have := h.1; simp; omega
    · rw [← h4, List.take_take]; congr 1; omega
/-- A line with a new key behind its first ones. -/
theorem T1.newline {w' : World} {lbx b2 : Nat} {v2 : Value} {c2 : Array Value} (h : T1 C B g mn mw lb vk vs vl ks ln fs fv nw Dn Dw w) (hb : Below w.heap.size w w') (h1 : w.heap.size ≤ lbx) (h2 : w.heap.size ≤ b2) (q1 : w'.heap[lbx]? = some (.cells #[v2] 60 (0, 0))) (q2 : w'.heap[b2]? = some (.cells c2 21 (0, 0))) : T1 ([(lbx, .cells #[v2] 60 (0, 0)), (b2, .cells c2 21 (0, 0))] ++ C) B g mn mw lb vk vs vl ks ln fs fv nw Dn Dw w' := by
  have k1 := h.cons hb lbx _ h1 q1
  have k2 := h.cons hb b2 _ h2 q2
  refine ⟨k1.ge, k1.row, k1.lrow, k1.k, k1.s, k1.l, k1.f, k1.n, k1.m, k1.mm, fun p hp => ?_, fun p hp => ?_⟩
  · rcases List.mem_cons.1 hp with rfl | hp
    · exact k1.c _ (List.mem_cons_self ..)
    · exact k2.c p hp
  · rcases List.mem_cons.1 hp with rfl | hp
    · exact k1.cn _ (List.mem_cons_self ..)
    · exact k2.cn p hp
set_option maxHeartbeats 1000000 in
set_option maxRecDepth 100000 in
theorem lineWith_new (k : Int) (m : Nat) (w : World) (h : T1 C B g mn mw lb vk vs vl ks ln fs fv nw Dn Dw w) (hm : m < ln.length) (hk : ln[m]? ≠ some k) (hl : ln.length < 100000) :
    Calls Try.prog 51 #[.pointer (some ⟨lb, 0, none⟩), .int .i64 (m : Nat), .int .i32 k] w fun e w' => ∃ lbx E, e = .returned (.pointer (some ⟨lbx, 0, none⟩)) ∧ NewL w.heap.size B lb vl ln m k E lbx vl ln ∧ T1 (E ++ C) B g mn mw lb vk vs vl ks ln fs fv nw Dn Dw w' ∧ Below w.heap.size w w' := by
  have hBw : B ≤ w.heap.size := by have := h.ge.1; have := h.lts.1; omega
  obtain ⟨gl, lc, hvl, hlc, dl⟩ := h.lat m hm
  obtain ⟨a0, c0', hvl2, htk⟩ := own_take h.l m (Nat.le_of_lt hm)
  rw [hvl] at hvl2
  simp only [Value.slice.injEq, true_and] at hvl2
  obtain ⟨rfl, rfl⟩ := hvl2
  have l0 := h.cells.2.2.2.2.2.2.1
  rw [hvl] at l0
  obtain ⟨x, hx⟩ : ∃ x, ln[m] = x := ⟨_, rfl⟩
  rw [hx] at dl
  have hxk : x ≠ k := fun e => hk (by rw [List.getElem?_eq_getElem hm, hx, e])
  have HTK : Hid (w.ownsRow B 21 1 (.slice (some ⟨gl, 0, none⟩) m lc) (ln.take m).length (iC (ln.take m))) := Hid.mk' (by rw [List.length_take, Nat.min_eq_left (Nat.le_of_lt hm)]; unfold iC at htk ⊢; rw [List.map_take]; exact htk)
  have HT := Hid.mk' h
  have HM : Hid (m < ln.length ∧ ln[m]? ≠ some k ∧ ln.length < 100000) := Hid.mk' ⟨hm, hk, hl⟩
  have HBW := Hid.mk' hBw
  obtain ⟨n, hn⟩ : ∃ n, ln.length = n := ⟨_, rfl⟩
  rw [hn] at l0 hlc hm hl
  have e1 : ((m : Int) == (n : Int)) = false := by simp; omega
  have e2 : (x == k) = false := by simpa using hxk
  have i1 : (m : Int) < (n : Int) := by omega
  have i2 : (m : Int) ≤ (lc : Int) := by omega
  obtain ⟨W1, hW1⟩ : ∃ W1, w.alloc (.cells #[.int .i32 k] 21) = W1 := ⟨_, rfl⟩
  obtain ⟨W2, hW2⟩ : ∃ W2, W1.alloc (.cells #[.slice (some ⟨gl, 0, none⟩) m lc, .slice (some ⟨w.heap.size, 0, none⟩) 1 1] 58) = W2 := ⟨_, rfl⟩
  have b1 : Below w.heap.size w W1 := by rw [← hW1]; exact (Below.refl _ _).alloc (Nat.le_refl _) _
  have b2 : Below W1.heap.size W1 W2 := by rw [← hW2]; exact (Below.refl _ _).alloc (Nat.le_refl _) _
  have B2 : Below w.heap.size w W2 := b1.trans (b2.mono b1.size)
  have q1 : W1.heap[w.heap.size]? = some (.cells #[.int .i32 k] 21 (0, 0)) := by rw [← hW1]; exact World.alloc_heap_new _ _
  have q1' := (b2.block _ (Array.getElem?_eq_some_iff.1 q1).1).trans q1
  have q2 : W2.heap[W1.heap.size]? = some (.cells #[.slice (some ⟨gl, 0, none⟩) m lc, .slice (some ⟨w.heap.size, 0, none⟩) 1 1] 58 (0, 0)) := by rw [← hW2]; exact World.alloc_heap_new _ _
  obtain ⟨_, _, p0, p1⟩ := pair_facts q2
  have HCC := Hid.mk' (concat32 W1.heap.size B (.slice (some ⟨gl, 0, none⟩) m lc) (.slice (some ⟨w.heap.size, 0, none⟩) 1 1) (ln.take m) [k] W2 (Nat.le_trans hBw B2.size) p0 p1 ((Sv.below B2).own HTK.out (by simp)) ⟨rfl, .inr ⟨w.heap.size, 1, #[.int .i32 k], rfl, hBw, q1', Nat.le_refl _, by decide, rfl, rfl⟩⟩ (by simp; omega) (by simp))
  have hs1 : W1.heap.size = w.heap.size + 1 := by rw [← hW1]; simp
  rw [hs1] at HCC
  have HB2 := Hid.mk' B2
  have HH1 := Hid.mk' hW1
  have HH2 := Hid.mk' hW2
  clear h hBw htk hk hx hxk b1 b2 B2 q1 q1' q2 p0 p1 hm hl hlc hW1 hW2 hvl hn
  go_enter Try.func51, Try.ntmps51
  go_upto_region 5 with fail
  clear e1 e2 dl
  go_wp2_with fail
  rw [HH1.out, HH2.out]
  refine HCC.out.mono ?_
  rintro e w3 ⟨v, rfl, ho3, b3⟩
  have hlen : (ln.take m).length + [k].length = m + 1 := by have := HM.out.1; simp; omega
  rw [hlen] at ho3
  have HO3 := Hid.mk' ho3
  obtain ⟨va, vc, hv, _⟩ := own_slice' ho3
  subst hv
  have HB3 : Hid (Below w.heap.size w w3) := Hid.mk' (HB2.out.trans (b3.mono HB2.out.size))
  clear ho3 b3 hlen l0 i1 i2
  go_wp2
  go_ret
  obtain ⟨b2, cap, cur, hv2, hB, hg, r1, r2, r3, r4⟩ : ∃ g cap cur, Value.slice va (m + 1) vc = .slice (some ⟨g, 0, none⟩) (m + 1) cap ∧ W2.heap.size ≤ g ∧ w3.heap[g]? = some (.cells cur 21 (0, 0)) ∧ m + 1 ≤ cap ∧ cap ≤ maxLen ∧ cur.size = cap * 1 ∧ cur.toList.take ((m + 1) * 1) = iC (ln.take m ++ [k]) := by
    rcases HO3.out.2 with ⟨_, h0⟩ | h
    · omega
    · exact h
  have hB2 : B ≤ b2 := by have := HBW.out; have := HB2.out.size; omega
  refine ⟨w3.heap.size, [(w3.heap.size, .cells #[.slice va (m + 1) vc] 60 (0, 0)), (b2, .cells cur 21 (0, 0))], rfl, .inr ⟨rfl, rfl, HM.out.1, HM.out.2.1, .slice va (m + 1) vc, b2, cur, rfl, ⟨by have := HBW.out; have := HB3.out.size; omega, HB3.out.size, by have := HB2.out.size; omega⟩, by rw [hv2]; rfl, fun W hW => ⟨HO3.out.1, .inr ⟨b2, cap, cur, hv2, hB2, hW, r1, r2, r3, r4⟩⟩⟩, ?_, HB3.out.alloc HB3.out.size _⟩
  exact HT.out.newline (HB3.out.alloc HB3.out.size _) HB3.out.size (by have := HB2.out.size; omega) (World.alloc_heap_new _ _) (sh_old (Array.getElem?_eq_some_iff.1 hg).1 hg)
theorem lineWith_any (k : Int) (m : Nat) (w : World) (h : T1 C B g mn mw lb vk vs vl ks ln fs fv nw Dn Dw w) (hm : m ≤ ln.length) (hl : ln.length < 100000) :
    Calls Try.prog 51 #[.pointer (some ⟨lb, 0, none⟩), .int .i64 (m : Nat), .int .i32 k] w fun e w' => ∃ lbx E vl' ln', e = .returned (.pointer (some ⟨lbx, 0, none⟩)) ∧ NewL w.heap.size B lb vl ln m k E lbx vl' ln' ∧ T1 (E ++ C) B g mn mw lb vk vs vl' ks ln' fs fv nw Dn Dw w' ∧ Below B w w' := by
  have hBw : B ≤ w.heap.size := by have := h.ge.1; have := h.lts.1; omega
  by_cases h1 : m = ln.length
  · subst h1
    refine (lineWith_app k w h hl).mono ?_
    rintro e w' ⟨rfl, vl', hT, hb⟩
    exact ⟨lb, [], vl', _, rfl, .inl ⟨rfl, rfl, .inl ⟨rfl, rfl⟩⟩, hT, hb⟩
  · have hm' : m < ln.length := by omega
    by_cases h2 : ln[m]? = some k
    · refine (lineWith_same k m w h hm' (by rw [List.getElem?_eq_getElem hm'] at h2; exact Option.some.inj h2) hl).mono ?_
      rintro e w' ⟨rfl, rfl⟩
      exact ⟨lb, [], vl, ln, rfl, .inl ⟨rfl, rfl, .inr ⟨h2, rfl⟩⟩, h, Below.refl _ _⟩
    · refine (lineWith_new k m w h hm' h2 hl).mono ?_
      rintro e w' ⟨lbx, E, rfl, hN, hT, hb⟩
      exact ⟨lbx, E, vl, ln, rfl, hN, hT, hb.mono hBw⟩
/-- A row of one flag. -/
theorem own_one {b : Nat} {f : Int} (hB : B ≤ b) (h : w.heap[b]? = some (.cells #[.int .u8 f] 5 (0, 0))) : w.ownsRow B 5 1 (.slice (some ⟨b, 0, none⟩) 1 1) [f].length (bC [f]) :=
  ⟨rfl, .inr ⟨b, 1, #[.int .u8 f], rfl, hB, h, Nat.le_refl _, by decide, rfl, rfl⟩⟩

theorem sh_mono {base base' : Nat} {e : TypeId} {size : Nat} {v : Value} {n : Nat} {xs : List Value} (h : w.ownsRow base e size v n xs) (hb : base' ≤ base) : w.ownsRow base' e size v n xs := by
  refine ⟨h.1, ?_⟩
  rcases h.2 with hn | ⟨g, cap, cur, hv, hB, rest⟩
  · exact .inl hn
  · exact .inr ⟨g, cap, cur, hv, Nat.le_trans hb hB, rest⟩
/-- A block that is not the tree's is written. -/
theorem T1.out {C' : List (Nat × Obj)} {w' : World} {b : Nat} {ob : Obj} (h : T1 C' B g mn mw lb vk vs vl ks ln fs fv nw Dn Dw w) (hs : Sv [b] w w') (hb : (b, ob) ∈ C') (hob : ∀ c fz, ob ≠ .cells c 5 fz) (hC : ∀ p ∈ C, p ∈ C' ∧ p.1 ≠ b) : T1 C B g mn mw lb vk vs vl ks ln fs fv nw Dn Dw w' := by
  obtain ⟨c1, c2, c3, c4, c5, c6, c7⟩ := h.cn _ hb
  have no : ∀ {x : Nat}, b ≠ x → x ∉ [b] := fun hx q => hx (List.mem_singleton.1 q).symm
  exact ⟨h.ge, hs.all _ _ (no c1) h.row, hs.all _ _ (no c2) h.lrow, hs.own h.k (fun x hx => by rw [List.mem_singleton.1 hx]; exact c5), hs.own h.s (fun x hx => by rw [List.mem_singleton.1 hx]; exact c6), hs.own h.l (fun x hx => by rw [List.mem_singleton.1 hx]; exact c7), fun i hi => hs.own (h.f i hi) (fun x hx => by rw [List.mem_singleton.1 hx]; exact sh_ne (h.f i hi) (h.c _ hb) hob), hs.map h.n (no c3), hs.map h.m (no c4), h.mm, fun p hp => hs.all _ _ (no (fun e => (hC p hp).2 e.symm)) (h.c p (hC p hp).1), fun p hp => h.cn p (hC p hp).1⟩
theorem cc_any (fl : List Int) (fa : Option Addr) (m fc pb bf : Nat) (f : Int) (W : World) (h : T1 C B g mn mw lb vk vs vl ks ln fs fv nw Dn Dw W) (ho : W.ownsRow B 5 1 (.slice fa m fc) fl.length (bC fl)) (c1 : W.cell? ⟨pb, 0, none⟩ = some (.slice fa m fc)) (c2 : W.cell? ⟨pb, 1, none⟩ = some (.slice (some ⟨bf, 0, none⟩) 1 1)) (hf : W.heap[bf]? = some (.cells #[.int .u8 f] 5 (0, 0))) (hB : B ≤ bf) (hm : fl.length < 1000) :
    Calls Try.prog 52 #[.slice (some ⟨pb, 0, none⟩) 2 2] W fun e w' => ∃ v, e = .returned v ∧ T1 C B g mn mw lb vk vs vl ks ln fs fv nw Dn Dw w' ∧ w'.ownsRow B 5 1 v (fl ++ [f]).length (bC (fl ++ [f])) ∧ Below W.heap.size W w' := by
  have hBw : B ≤ W.heap.size := by have := h.ge.1; have := h.lts.1; omega
  refine (concat8 pb B _ _ fl [f] W hBw c1 c2 ho (own_one hB hf) (by simp; omega) (by simp)).mono ?_
  rintro e w' ⟨v, rfl, ho', hb⟩
  exact ⟨v, rfl, h.below hb, by rw [List.length_append]; exact sh_mono ho' hBw, hb⟩
theorem T1.drew (h : T1 C B g mn mw lb vk vs vl ks ln fs fv nw Dn Dw w) : T1 C B g mn mw lb vk vs vl ks ln fs fv nw Dn Dw w.drew := h.below ((Below.refl _ _).drew)
theorem T1.lay (h : T1 C B g mn mw lb vk vs vl ks ln fs fv nw Dn Dw w) (ob : Obj) : T1 ((w.heap.size, ob) :: C) B g mn mw lb vk vs vl ks ln fs fv nw Dn Dw (w.alloc ob) := h.cons ((Below.refl _ _).alloc (Nat.le_refl _) _) _ _ (Nat.le_refl _) (World.alloc_heap_new _ _)
theorem with_end {b1 b0 n : Nat} {ob1 ob0 : Obj} {x y v : Value} {xs : List Value} (h : T1 ((b1, ob1) :: (b0, ob0) :: C) B g mn mw lb vk vs vl ks ln fs fv nw Dn Dw w) (hob : ∀ c fz, ob1 ≠ .cells c 5 fz) (hC : ∀ p ∈ C, p.1 ≠ b1) (ho : w.ownsRow B 5 1 v n xs) :
    T1 C B g mn mw lb vk vs vl ks ln fs fv nw Dn Dw ((w.setCell ⟨b1, 0, none⟩ x).setCell ⟨b1, 1, none⟩ y) ∧ ((w.setCell ⟨b1, 0, none⟩ x).setCell ⟨b1, 1, none⟩ y).ownsRow B 5 1 v n xs := by
  have s1 := (Sv.set w b1 0 x).trans (Sv.set (w.setCell ⟨b1, 0, none⟩ x) b1 1 y)
  have s2 : Sv [b1] w ((w.setCell ⟨b1, 0, none⟩ x).setCell ⟨b1, 1, none⟩ y) := ⟨s1.size, fun k o hk ho => s1.all k o (by simpa using hk) ho⟩
  exact ⟨h.out s2 (List.mem_cons_self ..) hob (fun p hp => ⟨List.mem_cons_of_mem _ (List.mem_cons_of_mem _ hp), hC p hp⟩), s2.own ho (fun k hk => by rw [List.mem_singleton.1 hk]; exact sh_ne ho (h.c _ (List.mem_cons_self ..)) hob)⟩
theorem cc_two (fl : List Int) (fa : Option Addr) (m fc : Nat) (f : Int) (h : T1 C B g mn mw lb vk vs vl ks ln fs fv nw Dn Dw w) (ho : w.ownsRow B 5 1 (.slice fa m fc) fl.length (bC fl)) (hm : fl.length < 1000) :
    Calls Try.prog 52 #[.slice (some ⟨w.heap.size + 1, 0, none⟩) 2 2] ((w.alloc (.cells #[.int .u8 f] 5)).alloc (.cells #[.slice fa m fc, .slice (some ⟨w.heap.size, 0, none⟩) 1 1] 61)) fun e w' => ∃ v, e = .returned v ∧ T1 C B g mn mw lb vk vs vl ks ln fs fv nw Dn Dw w' ∧ w'.ownsRow B 5 1 v (fl ++ [f]).length (bC (fl ++ [f])) ∧ Below w.heap.size w w' := by
  have hb : Below w.heap.size w ((w.alloc (.cells #[.int .u8 f] 5)).alloc (.cells #[.slice fa m fc, .slice (some ⟨w.heap.size, 0, none⟩) 1 1] 61)) := ((Below.refl _ _).alloc (Nat.le_refl _) _).alloc (by simp) _
  have hBw : B ≤ w.heap.size := by have := h.ge.1; have := h.lts.1; omega
  have q : ((w.alloc (.cells #[.int .u8 f] 5)).alloc (.cells #[.slice fa m fc, .slice (some ⟨w.heap.size, 0, none⟩) 1 1] 61)).heap[w.heap.size + 1]? = some (.cells #[.slice fa m fc, .slice (some ⟨w.heap.size, 0, none⟩) 1 1] 61 (0, 0)) := sh_new (by simp)
  obtain ⟨_, _, c1, c2⟩ := pair_facts q
  refine (cc_any fl fa m fc _ w.heap.size f _ (h.below hb) (own_below ho hb) c1 c2 (sh_old (by simp) (sh_new rfl)) hBw hm).mono ?_
  rintro e w' ⟨v, rfl, k1, k2, k3⟩
  exact ⟨v, rfl, k1, k2, hb.trans (k3.mono hb.size)⟩
theorem cc_one (fl : List Int) (fa : Option Addr) (m fc bf : Nat) (f : Int) (h : T1 C B g mn mw lb vk vs vl ks ln fs fv nw Dn Dw w) (ho : w.ownsRow B 5 1 (.slice fa m fc) fl.length (bC fl)) (hf : w.heap[bf]? = some (.cells #[.int .u8 f] 5 (0, 0))) (hB : B ≤ bf) (hm : fl.length < 1000) :
    Calls Try.prog 52 #[.slice (some ⟨w.heap.size, 0, none⟩) 2 2] (w.alloc (.cells #[.slice fa m fc, .slice (some ⟨bf, 0, none⟩) 1 1] 61)) fun e w' => ∃ v, e = .returned v ∧ T1 C B g mn mw lb vk vs vl ks ln fs fv nw Dn Dw w' ∧ w'.ownsRow B 5 1 v (fl ++ [f]).length (bC (fl ++ [f])) ∧ Below w.heap.size w w' := by
  have hb : Below w.heap.size w (w.alloc (.cells #[.slice fa m fc, .slice (some ⟨bf, 0, none⟩) 1 1] 61)) := (Below.refl _ _).alloc (Nat.le_refl _) _
  have q : (w.alloc (.cells #[.slice fa m fc, .slice (some ⟨bf, 0, none⟩) 1 1] 61)).heap[w.heap.size]? = some (.cells #[.slice fa m fc, .slice (some ⟨bf, 0, none⟩) 1 1] 61 (0, 0)) := sh_new rfl
  obtain ⟨_, _, c1, c2⟩ := pair_facts q
  refine (cc_any fl fa m fc _ bf f _ (h.below hb) (own_below ho hb) c1 c2 (sh_old (Array.getElem?_eq_some_iff.1 hf).1 hf) hB hm).mono ?_
  rintro e w' ⟨v, rfl, k1, k2, k3⟩
  exact ⟨v, rfl, k1, k2, hb.trans (k3.mono hb.size)⟩
theorem mem_at0 {α : Type} (E : List α) (x : α) (D : List α) : x ∈ E ++ x :: D := List.mem_append_right _ (List.mem_cons_self ..)
theorem mem_at1 {α : Type} (E : List α) (y x : α) (D : List α) : x ∈ E ++ y :: x :: D := List.mem_append_right _ (List.mem_cons_of_mem _ (List.mem_cons_self ..))
theorem mem_at2 {α : Type} (E : List α) (z y x : α) (D : List α) : x ∈ E ++ z :: y :: x :: D := List.mem_append_right _ (List.mem_cons_of_mem _ (List.mem_cons_of_mem _ (List.mem_cons_self ..)))
theorem mem_at3 {α : Type} (E : List α) (u z y x : α) (D : List α) : x ∈ E ++ u :: z :: y :: x :: D := List.mem_append_right _ (List.mem_cons_of_mem _ (List.mem_cons_of_mem _ (List.mem_cons_of_mem _ (List.mem_cons_self ..))))
theorem mem_mid {α : Type} {E D : List α} {p x : α} (h : p ∈ E ++ D) : p ∈ E ++ x :: D := by
  rcases List.mem_append.1 h with h | h
  · exact List.mem_append_left _ h
  · exact List.mem_append_right _ (List.mem_cons_of_mem _ h)
theorem mem_swap {α : Type} {E D : List α} {p x y : α} (h : p ∈ x :: y :: (E ++ D)) : p ∈ E ++ x :: y :: D := by
  rcases List.mem_cons.1 h with rfl | h
  · exact mem_at0 _ _ _
  · rcases List.mem_cons.1 h with rfl | h
    · exact mem_at1 _ _ _ _
    · exact mem_mid (mem_mid h)
theorem with_apart {E : List (Nat × Obj)} {b1 lbx m : Nat} {k : Int} {vl0 vl' : Value} {ln0 ln' : List Int} {a0 a1 : Value} {x : Nat × Obj} (h : T1 (E ++ (b1, .cells #[a0, a1] 63 (0, 0)) :: x :: C) B g mn mw lb vk vs vl ks ln fs fv nw Dn Dw w) {N0 : Nat} (hN : NewL N0 B lb vl0 ln0 m k E lbx vl' ln') (hC : ∀ p ∈ C, p.1 < b1) {p : Nat × Obj} (hp : p ∈ E ++ C) : p.1 ≠ b1 := by
  rcases List.mem_append.1 hp with hp | hp
  · rcases hN with ⟨rfl, _⟩ | ⟨_, _, _, _, v2, b2, c2, rfl, _⟩
    · cases hp
    · have q := h.c _ (mem_at0 _ _ _)
      have q' := h.c p (List.mem_append_left _ hp)
      intro e
      rw [e] at q'
      rw [q] at q'
      simp only [List.mem_cons, List.not_mem_nil, or_false] at hp
      rcases hp with rfl | rfl <;> cases q'
  · have := hC p hp
    omega
set_option maxHeartbeats 4000000 in
set_option maxRecDepth 100000 in
theorem with_any (i : Nat) (k f : Int) (w : World) (h : T1 C B g mn mw lb vk vs vl ks ln fs fv nw Dn Dw w) (hi : i < fv.length) (hc : (fs.getD i []).length ≤ ln.length) (hl : ln.length < 100000) (hm : (fs.getD i []).length < 1000) (f0 : 0 ≤ f) (f1 : f ≤ 15) :
    Calls Try.prog 34 #[.agg #[.pointer (some ⟨lb, 0, none⟩), fv[i].2], .int .i32 k, .int .i64 f] w fun e w' => ∃ lbx v E vl' ln', e = .returned (.agg #[.pointer (some ⟨lbx, 0, none⟩), v]) ∧ NewL w.heap.size B lb vl ln (fs.getD i []).length k E lbx vl' ln' ∧ T1 (E ++ C) B g mn mw lb vk vs vl' ks ln' fs fv nw Dn Dw w' ∧ w'.ownsRow B 5 1 v (fs.getD i [] ++ [f]).length (bC (fs.getD i [] ++ [f])) ∧ Below B w w' := by
  have hBw : B ≤ w.heap.size := by have := h.ge.1; have := h.lts.1; omega
  obtain ⟨fa, fc, hfv, _⟩ := own_slice' (h.f i hi)
  obtain ⟨fl, hfl⟩ : ∃ fl, fs.getD i [] = fl := ⟨_, rfl⟩
  obtain ⟨m, hmm⟩ : ∃ m, fl.length = m := ⟨_, rfl⟩
  rw [hfl] at hc hm hfv ⊢
  rw [hmm] at hc hm hfv
  have HLW := Hid.mk' (fun (W : World) (C' : List (Nat × Obj)) (hW : T1 C' B g mn mw lb vk vs vl ks ln fs fv nw Dn Dw W) => lineWith_any k m W hW hc hl)
  have HF : Hid (∀ (W : World) (C' : List (Nat × Obj)) (vl' : Value) (l' : List Int), T1 C' B g mn mw lb vk vs vl' ks l' fs fv nw Dn Dw W → W.ownsRow B 5 1 (.slice fa m fc) fl.length (bC fl)) := Hid.mk' (fun W C' vl' l' hW => by have := hW.f i hi; rw [hfl, hfv] at this; exact this)
  rw [hfv]
  obtain ⟨b0, hb0⟩ : ∃ b0, w.heap.size = b0 := ⟨_, rfl⟩
  have HS0 := Hid.mk' hb0
  obtain ⟨ob0, hob0⟩ : ∃ o : Obj, .cells #[.pointer (some ⟨lb, 0, none⟩), .slice fa m fc] 63 = o := ⟨_, rfl⟩
  obtain ⟨W2, hW2⟩ : ∃ W2, (w.alloc (.cells #[.pointer (some ⟨lb, 0, none⟩), .slice fa m fc] 63)).alloc (.cells #[.pointer none, .slice none 0 0] 63) = W2 := ⟨_, rfl⟩
  have b2 : Below w.heap.size w W2 := by rw [← hW2]; exact ((Below.refl _ _).alloc (Nat.le_refl _) _).alloc (by simp) _
  have q1 : W2.heap[b0]? = some (.cells #[.pointer (some ⟨lb, 0, none⟩), .slice fa m fc] 63 (0, 0)) := by rw [← hW2, ← hb0]; exact sh_old (by simp) (sh_new rfl)
  have q2 : W2.heap[b0 + 1]? = some (.cells #[.pointer none, .slice none 0 0] 63 (0, 0)) := by rw [← hW2, ← hb0]; exact sh_new (by simp)
  have sz2 : W2.heap.size = b0 + 2 := by rw [← hW2, ← hb0]; simp
  have hT1 := h.cons b2 b0 _ (by omega) q1
  have hT2 : T1 ((b0 + 1, .cells #[.pointer none, .slice none 0 0] 63 (0, 0)) :: (b0, .cells #[.pointer (some ⟨lb, 0, none⟩), .slice fa m fc] 63 (0, 0)) :: C) B g mn mw lb vk vs vl ks ln fs fv nw Dn Dw W2 := by
    refine ⟨hT1.ge, hT1.row, hT1.lrow, hT1.k, hT1.s, hT1.l, hT1.f, hT1.n, hT1.m, hT1.mm, fun p hp => ?_, fun p hp => ?_⟩
    · rcases List.mem_cons.1 hp with rfl | hp
      · exact q2
      · exact hT1.c p hp
    · rcases List.mem_cons.1 hp with rfl | hp
      · obtain ⟨l1, l2, l3, l4, l5, l6, l7⟩ := h.lts
        refine ⟨by show b0 + 1 ≠ g; omega, by show b0 + 1 ≠ lb; omega, by show b0 + 1 ≠ mn; omega, by show b0 + 1 ≠ mw; omega, fun e => ?_, fun e => ?_, fun e => ?_⟩
        · have := l5 _ e.symm; omega
        · have := l6 _ e.symm; omega
        · have := l7 _ e.symm; omega
      · exact hT1.cn p hp
  have HTA := Hid.mk' hT2.drew
  have HTB := Hid.mk' (hT2.lay (.cells #[.int .u8 f] 5)).drew
  have HTC := Hid.mk' ((hT2.lay (.cells #[.int .u8 f] 5)).lay (.cells #[.slice fa m fc, .slice (some ⟨b0 + 2, 0, none⟩) 1 1] 61)).drew
  simp only [World.size_alloc, sz2] at HTB HTC
  have HCF : Hid (∀ (W : World) (C' : List (Nat × Obj)) (vl' : Value) (l' : List Int), T1 C' B g mn mw lb vk vs vl' ks l' fs fv nw Dn Dw W → (b0 + 1, .cells #[.pointer none, .slice none 0 0] 63 (0, 0)) ∈ C' → (b0, .cells #[.pointer (some ⟨lb, 0, none⟩), .slice fa m fc] 63 (0, 0)) ∈ C' → W.cell? ⟨b0, 0, none⟩ = some (.pointer (some ⟨lb, 0, none⟩)) ∧ W.cell? ⟨b0, 1, none⟩ = some (.slice fa m fc) ∧ W.frozen? ⟨b0 + 1, 0, none⟩ = false ∧ W.frozen? ⟨b0 + 1, 1, none⟩ = false ∧ W.cell? ⟨b0 + 1, 0, none⟩ = some (.pointer none) ∧ W.cell? ⟨b0 + 1, 1, none⟩ = some (.slice none 0 0)) := Hid.mk' (fun W C' vl' l' hW h1 h0 => by
    obtain ⟨_, _, k0, k1⟩ := pair_facts (hW.c _ h0)
    obtain ⟨k2, k3, k4, k5⟩ := pair_facts (hW.c _ h1)
    exact ⟨k0, k1, k2, k3, k4, k5⟩)
  obtain ⟨p0, p1, p2, p3, p4, p5⟩ := HCF.out W2 _ _ _ hT2 (List.mem_cons_self ..) (List.mem_cons_of_mem _ (List.mem_cons_self ..))
  have HBw : Hid (B ≤ b0) := Hid.mk' (by omega)
  have HCL : Hid (∀ p ∈ C, p.1 < b0 + 1) := Hid.mk' (fun p hp => by have := h.clt hp; omega)
  have HM : Hid (fl.length < 1000) := Hid.mk' (by omega)
  have HML := Hid.mk' hmm
  have HB2 : Hid (Below B w W2) := Hid.mk' (b2.mono hBw)
  have HSZ2 := Hid.mk' sz2
  have HH2 := Hid.mk' hW2
  have hw8 : IntKind.u8.wrap f = f := by rw [IntKind.wrap_u8]; omega
  clear hT1 hT2 h hi hc hl hm hmm hfl hfv b2 q1 q2 hW2 hBw hob0 f0 f1
  go_enter Try.func34, Try.ntmps34
  go_upto_region 1 with fail
  rw [HH2.out]
  go_region_held3 (fun w' => w'.cell? ⟨b0, 0, none⟩ = some (.pointer (some ⟨lb, 0, none⟩)) ∧ w'.cell? ⟨b0, 1, none⟩ = some (.slice fa m fc)) (first | exact ⟨a0, a1⟩ | exact ⟨d0, d1⟩ | go_keep) (first
    | (go_at_call 51; refine (HLW.out _ _ HTA.out).mono ?_; rintro e wA ⟨lbx, E, vA, lA, rfl, hNL, hTA, hBA⟩; have HNL := Hid.mk' (hNL.mono (N1 := w.heap.size) (by have := HS0.out; simp; try omega)); obtain ⟨a0, a1, a2, a3, a4, a5⟩ := HCF.out wA _ _ _ hTA (mem_at0 _ _ _) (mem_at1 _ _ _ _); have HQ5 : Hid (Below B w wA) := Hid.mk' (HB2.out.drew.trans hBA); have HCC := Hid.mk' (cc_two fl fa m fc f hTA (HF.out _ _ _ _ hTA) HM.out); have HE5 : Hid (B ≤ wA.heap.size) := Hid.mk' (by have := hTA.ge.1; have := hTA.lts.1; omega); clear hTA hBA hNL)
    | (go_at_call 51; refine (HLW.out _ _ HTB.out).mono ?_; rintro e wA ⟨lbx, E, vA, lA, rfl, hNL, hTA, hBA⟩; have HNL := Hid.mk' (hNL.mono (N1 := w.heap.size) (by have := HS0.out; simp; try omega)); obtain ⟨a0, a1, a2, a3, a4, a5⟩ := HCF.out wA _ _ _ hTA (mem_at1 _ _ _ _) (mem_at2 _ _ _ _ _); have HE5 : Hid (B ≤ wA.heap.size) := Hid.mk' (by have := hTA.ge.1; have := hTA.lts.1; omega); have HQ5 : Hid (Below B w wA) := Hid.mk' ((HB2.out.alloc (Nat.le_trans HBw.out (by omega)) _).drew.trans hBA); have HCC := Hid.mk' (cc_one fl fa m fc _ f (hTA.sub (fun p hp => mem_mid hp)) (HF.out _ _ _ _ hTA) (hTA.c _ (mem_at0 _ _ _)) (Nat.le_trans HBw.out (by omega)) HM.out); clear hTA hBA hNL)
    | (go_at_call 51; refine (HLW.out _ _ HTC.out).mono ?_; rintro e wA ⟨lbx, E, vA, lA, rfl, hNL, hTA, hBA⟩; have HNL := Hid.mk' (hNL.mono (N1 := w.heap.size) (by have := HS0.out; simp; try omega)); obtain ⟨a0, a1, a2, a3, a4, a5⟩ := HCF.out wA _ _ _ hTA (mem_at2 _ _ _ _ _) (mem_at3 _ _ _ _ _ _); have HE5 : Hid (B ≤ wA.heap.size) := Hid.mk' (by have := hTA.ge.1; have := hTA.lts.1; omega); have HQ5 : Hid (Below B w wA) := Hid.mk' (((HB2.out.alloc (Nat.le_trans HBw.out (by omega)) _).alloc (by simp; have := HBw.out; omega) _).drew.trans hBA); have HCC := Hid.mk' (cc_any fl fa m fc _ _ f wA (hTA.sub (fun p hp => mem_mid (mem_mid hp))) (HF.out _ _ _ _ hTA) (pair_facts (hTA.c _ (mem_at0 _ _ _))).2.2.1 (pair_facts (hTA.c _ (mem_at0 _ _ _))).2.2.2 (hTA.c _ (mem_at1 _ _ _ _)) (Nat.le_trans HBw.out (by omega)) HM.out); clear hTA hBA hNL)
    | (go_at_call 52; refine HCC.out.mono ?_; rintro e wF ⟨v, rfl, hTF, hoF, hBF⟩; obtain ⟨d0, d1, d2, d3, d4, d5⟩ := HCF.out wF _ _ _ hTF (mem_at0 _ _ _) (mem_at1 _ _ _ _); obtain ⟨vfa, vfc, hvF, _⟩ := own_slice' hoF; have HTF := Hid.mk' hTF; have HOF := Hid.mk' hoF; have HBF := Hid.mk' hBF; subst hvF; clear hTF hoF hBF))
  all_goals
    go_wp2
    (try simp only [Exit.inBlock, Exit.then])
    obtain ⟨e1, e2⟩ := with_end (x := .pointer (some ⟨lbx, 0, none⟩)) (y := .slice vfa (fl.length + 1) vfc) (C := E ++ C) (HTF.out.sub (fun p hp => mem_swap hp)) (fun c fz q => by cases q) (fun p hp => with_apart HTF.out HNL.out HCL.out hp) HOF.out
    refine bodyPost_ret (v := .agg #[.pointer (some ⟨lbx, 0, none⟩), .slice vfa (fl.length + 1) vfc]) ?_ rfl ⟨lbx, _, E, vA, lA, rfl, by rw [HML.out]; exact HNL.out, e1, by have e3 := e2; rw [show (fl ++ [f]).length = fl.length + 1 from by simp] at e3 ⊢; exact e3, ?_⟩
    · rw [sh_results_cell rfl]
      go_simp
    · exact ((HQ5.out.trans (HBF.out.mono (by first | exact HE5.out | exact Nat.le_trans HBw.out (by omega)))).setCell (p := ⟨b0 + 1, 0, none⟩) (Nat.le_trans HBw.out (by show b0 ≤ b0 + 1; omega)) _).setCell (p := ⟨b0 + 1, 1, none⟩) (Nat.le_trans HBw.out (by show b0 ≤ b0 + 1; omega)) _
end
end Go.Proofs.Ytoonaljmdiideaa
