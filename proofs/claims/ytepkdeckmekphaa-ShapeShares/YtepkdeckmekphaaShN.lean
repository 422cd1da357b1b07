/- Package shape: a class with one more key. -/
import Derived.Test.YtepkdeckmekphaaShM
namespace Go.Proofs.Ytepkdeckmekphaa
set_option linter.unusedVariables false
set_option linter.unusedSimpArgs false
open Go.RowKit Go.Maps Go.ChangeShapes
section
variable {C : List (Nat × Obj)} {B g mn mw lb : Nat} {vk vs vl : Value} {ks : List Kb} {ln : List Int} {fs : List (List Int)} {fv : List Value} {nw : Nat} {Dn Dw : DataW Unit} {w : World}

/-- How a line goes on with a key behind its first m. -/
def LnW (ln : List Int) (m : Nat) (k : Int) (ln' : List Int) : Prop := (m = ln.length ∧ ln' = ln ++ [k]) ∨ (ln[m]? = some k ∧ ln' = ln)
theorem lineWith_any {ln' : List Int} (k : Int) (m : Nat) (w : World) (h : T1 C B g mn mw lb vk vs vl ks ln fs fv nw Dn Dw w) (hc : LnW ln m k ln') (hl : ln.length < 100000) :
    Calls Try.prog 53 #[.pointer (some ⟨lb, 0, none⟩), .int .i64 (m : Nat), .int .i32 k] w fun e w' => e = .returned (.pointer (some ⟨lb, 0, none⟩)) ∧ ∃ vl', T1 C B g mn mw lb vk vs vl' ks ln' fs fv nw Dn Dw w' ∧ Below B w w' := by
  rcases hc with ⟨rfl, rfl⟩ | ⟨he, rfl⟩
  · exact lineWith_app k w h hl
  · obtain ⟨hm, hk⟩ := List.getElem?_eq_some_iff.1 he
    refine (lineWith_same k m w h hm hk hl).mono ?_
    rintro e w' ⟨rfl, rfl⟩
    exact ⟨rfl, vl, h, Below.refl _ _⟩
/-- A row of one flag. -/
theorem own_one {b : Nat} {f : Int} (hB : B ≤ b) (h : w.heap[b]? = some (.cells #[.int .u8 f] 5 (0, 0))) : w.ownsRow B 5 1 (.slice (some ⟨b, 0, none⟩) 1 1) [f].length (bC [f]) :=
  ⟨rfl, .inr ⟨b, 1, #[.int .u8 f], rfl, hB, h, Nat.le_refl _, by decide, rfl, rfl⟩⟩

theorem sh_mono {base base' : Nat} {e : TypeId} {size : Nat} {v : Value} {n : Nat} {xs : List Value} (h : w.ownsRow base e size v n xs) (hb : base' ≤ base) : w.ownsRow base' e size v n xs := by
  refine ⟨h.1, ?_⟩
  rcases h.2 with hn | ⟨g, cap, cur, hv, hB, rest⟩
  · exact .inl hn
  · exact .inr ⟨g, cap, cur, hv, Nat.le_trans hb hB, rest⟩
/-- A block that is not the tree's is written. -/
theorem T1.out {C' : List (Nat × Obj)} {w' : World} {b : Nat} {ob : Obj} (h : T1 C' B g mn mw lb vk vs vl ks ln fs fv nw Dn Dw w) (hs : Sv [b] w w') (hb : (b, ob) ∈ C') (hob : ∀ c fz, ob ≠ .cells c 5 fz) (hC : ∀ p ∈ C, p ∈ C' ∧ p.1 ≠ b) : T1 C B g mn mw lb vk vs vl ks ln fs fv nw Dn Dw w' := by
  obtain ⟨c1, c2, c3, c4, c5, c6, c7⟩ := h.cn _ hb
  have no : ∀ {x : Nat}, b ≠ x → x ∉ [b] := fun hx q => hx (List.mem_singleton.1 q).symm
  exact ⟨h.ge, hs.all _ _ (no c1) h.row, hs.all _ _ (no c2) h.lrow, hs.own h.k (fun x hx => by rw [List.mem_singleton.1 hx]; exact c5), hs.own h.s (fun x hx => by rw [List.mem_singleton.1 hx]; exact c6), hs.own h.l (fun x hx => by rw [List.mem_singleton.1 hx]; exact c7), fun i hi => hs.own (h.f i hi) (fun x hx => by rw [List.mem_singleton.1 hx]; exact sh_ne (h.f i hi) (h.c _ hb) hob), hs.map h.n (no c3), hs.map h.m (no c4), h.mm, fun p hp => hs.all _ _ (no (fun e => (hC p hp).2 e.symm)) (h.c p (hC p hp).1), fun p hp => h.cn p (hC p hp).1⟩
theorem cc_any (fl : List Int) (fa : Option Addr) (m fc pb bf : Nat) (f : Int) (W : World) (h : T1 C B g mn mw lb vk vs vl ks ln fs fv nw Dn Dw W) (ho : W.ownsRow B 5 1 (.slice fa m fc) fl.length (bC fl)) (c1 : W.cell? ⟨pb, 0, none⟩ = some (.slice fa m fc)) (c2 : W.cell? ⟨pb, 1, none⟩ = some (.slice (some ⟨bf, 0, none⟩) 1 1)) (hf : W.heap[bf]? = some (.cells #[.int .u8 f] 5 (0, 0))) (hB : B ≤ bf) (hm : fl.length < 1000) :
    Calls Try.prog 54 #[.slice (some ⟨pb, 0, none⟩) 2 2] W fun e w' => ∃ v, e = .returned v ∧ T1 C B g mn mw lb vk vs vl ks ln fs fv nw Dn Dw w' ∧ w'.ownsRow B 5 1 v (fl ++ [f]).length (bC (fl ++ [f])) ∧ Below W.heap.size W w' := by
  have hBw : B ≤ W.heap.size := by have := h.ge.1; have := h.lts.1; omega
  refine (concat8 pb B _ _ fl [f] W hBw c1 c2 ho (own_one hB hf) (by simp; omega) (by simp)).mono ?_
  rintro e w' ⟨v, rfl, ho', hb⟩
  exact ⟨v, rfl, h.below hb, by rw [List.length_append]; exact sh_mono ho' hBw, hb⟩
theorem T1.drew (h : T1 C B g mn mw lb vk vs vl ks ln fs fv nw Dn Dw w) : T1 C B g mn mw lb vk vs vl ks ln fs fv nw Dn Dw w.drew := h.below ((Below.refl _ _).drew)
theorem T1.lay (h : T1 C B g mn mw lb vk vs vl ks ln fs fv nw Dn Dw w) (ob : Obj) : T1 ((w.heap.size, ob) :: C) B g mn mw lb vk vs vl ks ln fs fv nw Dn Dw (w.alloc ob) := h.cons ((Below.refl _ _).alloc (Nat.le_refl _) _) _ _ (Nat.le_refl _) (World.alloc_heap_new _ _)
theorem with_end {b1 b0 n : Nat} {ob1 ob0 : Obj} {x y v : Value} {xs : List Value} (h : T1 ((b1, ob1) :: (b0, ob0) :: C) B g mn mw lb vk vs vl ks ln fs fv nw Dn Dw w) (hob : ∀ c fz, ob1 ≠ .cells c 5 fz) (hC : ∀ p ∈ C, p.1 < b1) (ho : w.ownsRow B 5 1 v n xs) :
    T1 C B g mn mw lb vk vs vl ks ln fs fv nw Dn Dw ((w.setCell ⟨b1, 0, none⟩ x).setCell ⟨b1, 1, none⟩ y) ∧ ((w.setCell ⟨b1, 0, none⟩ x).setCell ⟨b1, 1, none⟩ y).ownsRow B 5 1 v n xs := by
  have s1 := (Sv.set w b1 0 x).trans (Sv.set (w.setCell ⟨b1, 0, none⟩ x) b1 1 y)
  have s2 : Sv [b1] w ((w.setCell ⟨b1, 0, none⟩ x).setCell ⟨b1, 1, none⟩ y) := ⟨s1.size, fun k o hk ho => s1.all k o (by simpa using hk) ho⟩
  exact ⟨h.out s2 (List.mem_cons_self ..) hob (fun p hp => ⟨List.mem_cons_of_mem _ (List.mem_cons_of_mem _ hp), by have := hC p hp; omega⟩), s2.own ho (fun k hk => by rw [List.mem_singleton.1 hk]; exact sh_ne ho (h.c _ (List.mem_cons_self ..)) hob)⟩
theorem cc_two (fl : List Int) (fa : Option Addr) (m fc : Nat) (f : Int) (h : T1 C B g mn mw lb vk vs vl ks ln fs fv nw Dn Dw w) (ho : w.ownsRow B 5 1 (.slice fa m fc) fl.length (bC fl)) (hm : fl.length < 1000) :
    Calls Try.prog 54 #[.slice (some ⟨w.heap.size + 1, 0, none⟩) 2 2] ((w.alloc (.cells #[.int .u8 f] 5)).alloc (.cells #[.slice fa m fc, .slice (some ⟨w.heap.size, 0, none⟩) 1 1] 82)) fun e w' => ∃ v, e = .returned v ∧ T1 C B g mn mw lb vk vs vl ks ln fs fv nw Dn Dw w' ∧ w'.ownsRow B 5 1 v (fl ++ [f]).length (bC (fl ++ [f])) ∧ Below w.heap.size w w' := by
  have hb : Below w.heap.size w ((w.alloc (.cells #[.int .u8 f] 5)).alloc (.cells #[.slice fa m fc, .slice (some ⟨w.heap.size, 0, none⟩) 1 1] 82)) := ((Below.refl _ _).alloc (Nat.le_refl _) _).alloc (by simp) _
  have hBw : B ≤ w.heap.size := by have := h.ge.1; have := h.lts.1; omega
  have q : ((w.alloc (.cells #[.int .u8 f] 5)).alloc (.cells #[.slice fa m fc, .slice (some ⟨w.heap.size, 0, none⟩) 1 1] 82)).heap[w.heap.size + 1]? = some (.cells #[.slice fa m fc, .slice (some ⟨w.heap.size, 0, none⟩) 1 1] 82 (0, 0)) := sh_new (by simp)
  obtain ⟨_, _, c1, c2⟩ := pair_facts q
  refine (cc_any fl fa m fc _ w.heap.size f _ (h.below hb) (own_below ho hb) c1 c2 (sh_old (by simp) (sh_new rfl)) hBw hm).mono ?_
  rintro e w' ⟨v, rfl, k1, k2, k3⟩
  exact ⟨v, rfl, k1, k2, hb.trans (k3.mono hb.size)⟩
theorem cc_one (fl : List Int) (fa : Option Addr) (m fc bf : Nat) (f : Int) (h : T1 C B g mn mw lb vk vs vl ks ln fs fv nw Dn Dw w) (ho : w.ownsRow B 5 1 (.slice fa m fc) fl.length (bC fl)) (hf : w.heap[bf]? = some (.cells #[.int .u8 f] 5 (0, 0))) (hB : B ≤ bf) (hm : fl.length < 1000) :
    Calls Try.prog 54 #[.slice (some ⟨w.heap.size, 0, none⟩) 2 2] (w.alloc (.cells #[.slice fa m fc, .slice (some ⟨bf, 0, none⟩) 1 1] 82)) fun e w' => ∃ v, e = .returned v ∧ T1 C B g mn mw lb vk vs vl ks ln fs fv nw Dn Dw w' ∧ w'.ownsRow B 5 1 v (fl ++ [f]).length (bC (fl ++ [f])) ∧ Below w.heap.size w w' := by
  have hb : Below w.heap.size w (w.alloc (.cells #[.slice fa m fc, .slice (some ⟨bf, 0, none⟩) 1 1] 82)) := (Below.refl _ _).alloc (Nat.le_refl _) _
  have q : (w.alloc (.cells #[.slice fa m fc, .slice (some ⟨bf, 0, none⟩) 1 1] 82)).heap[w.heap.size]? = some (.cells #[.slice fa m fc, .slice (some ⟨bf, 0, none⟩) 1 1] 82 (0, 0)) := sh_new rfl
  obtain ⟨_, _, c1, c2⟩ := pair_facts q
  refine (cc_any fl fa m fc _ bf f _ (h.below hb) (own_below ho hb) c1 c2 (sh_old (Array.getElem?_eq_some_iff.1 hf).1 hf) hB hm).mono ?_
  rintro e w' ⟨v, rfl, k1, k2, k3⟩
  exact ⟨v, rfl, k1, k2, hb.trans (k3.mono hb.size)⟩
set_option maxHeartbeats 4000000 in
set_option maxRecDepth 100000 in
theorem with_any {ln' : List Int} (i : Nat) (k f : Int) (w : World) (h : T1 C B g mn mw lb vk vs vl ks ln fs fv nw Dn Dw w) (hi : i < fv.length) (hc : LnW ln (fs.getD i []).length k ln') (hl : ln.length < 100000) (hm : (fs.getD i []).length < 1000) (f0 : 0 ≤ f) (f1 : f ≤ 15) :
    Calls Try.prog 37 #[.agg #[.pointer (some ⟨lb, 0, none⟩), fv[i]], .int .i32 k, .int .i64 f] w fun e w' => ∃ v, e = .returned (.agg #[.pointer (some ⟨lb, 0, none⟩), v]) ∧ (∃ vl', T1 C B g mn mw lb vk vs vl' ks ln' fs fv nw Dn Dw w') ∧ w'.ownsRow B 5 1 v (fs.getD i [] ++ [f]).length (bC (fs.getD i [] ++ [f])) ∧ Below B w w' := by
  have hBw : B ≤ w.heap.size := by have := h.ge.1; have := h.lts.1; omega
  obtain ⟨fa, fc, hfv, _⟩ := own_slice' (h.f i hi)
  obtain ⟨fl, hfl⟩ : ∃ fl, fs.getD i [] = fl := ⟨_, rfl⟩
  obtain ⟨m, hmm⟩ : ∃ m, fl.length = m := ⟨_, rfl⟩
  rw [hfl] at hc hm hfv ⊢
  rw [hmm] at hc hm hfv
  have HLW := Hid.mk' (fun (W : World) (C' : List (Nat × Obj)) (hW : T1 C' B g mn mw lb vk vs vl ks ln fs fv nw Dn Dw W) => lineWith_any k m W hW hc hl)
  have HF : Hid (∀ (W : World) (C' : List (Nat × Obj)) (vl' : Value) (l' : List Int), T1 C' B g mn mw lb vk vs vl' ks l' fs fv nw Dn Dw W → W.ownsRow B 5 1 (.slice fa m fc) fl.length (bC fl)) := Hid.mk' (fun W C' vl' l' hW => by have := hW.f i hi; rw [hfl, hfv] at this; exact this)
  rw [hfv]
  obtain ⟨b0, hb0⟩ : ∃ b0, w.heap.size = b0 := ⟨_, rfl⟩
  have HS0 := Hid.mk' hb0
  obtain ⟨ob0, hob0⟩ : ∃ o : Obj, .cells #[.pointer (some ⟨lb, 0, none⟩), .slice fa m fc] 84 = o := ⟨_, rfl⟩
  obtain ⟨W2, hW2⟩ : ∃ W2, (w.alloc (.cells #[.pointer (some ⟨lb, 0, none⟩), .slice fa m fc] 84)).alloc (.cells #[.pointer none, .slice none 0 0] 84) = W2 := ⟨_, rfl⟩
  have b2 : Below w.heap.size w W2 := by rw [← hW2]; exact ((Below.refl _ _).alloc (Nat.le_refl _) _).alloc (by simp) _
  have q1 : W2.heap[b0]? = some (.cells #[.pointer (some ⟨lb, 0, none⟩), .slice fa m fc] 84 (0, 0)) := by rw [← hW2, ← hb0]; exact sh_old (by simp) (sh_new rfl)
  have q2 : W2.heap[b0 + 1]? = some (.cells #[.pointer none, .slice none 0 0] 84 (0, 0)) := by rw [← hW2, ← hb0]; exact sh_new (by simp)
  have sz2 : W2.heap.size = b0 + 2 := by rw [← hW2, ← hb0]; simp
  have hT1 := h.cons b2 b0 _ (by omega) q1
  have hT2 : T1 ((b0 + 1, .cells #[.pointer none, .slice none 0 0] 84 (0, 0)) :: (b0, .cells #[.pointer (some ⟨lb, 0, none⟩), .slice fa m fc] 84 (0, 0)) :: C) B g mn mw lb vk vs vl ks ln fs fv nw Dn Dw W2 := by
    refine ⟨hT1.ge, hT1.row, hT1.lrow, hT1.k, hT1.s, hT1.l, hT1.f, hT1.n, hT1.m, hT1.mm, fun p hp => ?_, fun p hp => ?_⟩
    · rcases List.mem_cons.1 hp with rfl | hp
      · exact q2
      · exact hT1.c p hp
    · rcases List.mem_cons.1 hp with rfl | hp
      · obtain ⟨l1, l2, l3, l4, l5, l6, l7⟩ := h.lts
        refine ⟨by show b0 + 1 ≠ g; omega, by show b0 + 1 ≠ lb; omega, by show b0 + 1 ≠ mn; omega, by show b0 + 1 ≠ mw; omega, fun e => ?_, fun e => ?_, fun e => ?_⟩
        · have := l5 _ e.symm; omega
        · have := l6 _ e.symm; omega
        · have := l7 _ e.symm; omega
      · exact hT1.cn p hp
  have HTA := Hid.mk' hT2.drew
  have HTB := Hid.mk' (hT2.lay (.cells #[.int .u8 f] 5)).drew
  have HTC := Hid.mk' ((hT2.lay (.cells #[.int .u8 f] 5)).lay (.cells #[.slice fa m fc, .slice (some ⟨b0 + 2, 0, none⟩) 1 1] 82)).drew
  simp only [World.size_alloc, sz2] at HTB HTC
  have HCF : Hid (∀ (W : World) (E : List (Nat × Obj)) (vl' : Value) (l' : List Int), T1 (E ++ ((b0 + 1, .cells #[.pointer none, .slice none 0 0] 84 (0, 0)) :: (b0, .cells #[.pointer (some ⟨lb, 0, none⟩), .slice fa m fc] 84 (0, 0)) :: C)) B g mn mw lb vk vs vl' ks l' fs fv nw Dn Dw W → W.cell? ⟨b0, 0, none⟩ = some (.pointer (some ⟨lb, 0, none⟩)) ∧ W.cell? ⟨b0, 1, none⟩ = some (.slice fa m fc) ∧ W.frozen? ⟨b0 + 1, 0, none⟩ = false ∧ W.frozen? ⟨b0 + 1, 1, none⟩ = false ∧ W.cell? ⟨b0 + 1, 0, none⟩ = some (.pointer none) ∧ W.cell? ⟨b0 + 1, 1, none⟩ = some (.slice none 0 0)) := Hid.mk' (fun W E vl' l' hW => by
    obtain ⟨_, _, k0, k1⟩ := pair_facts (hW.c (b0, .cells #[.pointer (some ⟨lb, 0, none⟩), .slice fa m fc] 84 (0, 0)) (List.mem_append_right _ (List.mem_cons_of_mem _ (List.mem_cons_self ..))))
    obtain ⟨k2, k3, k4, k5⟩ := pair_facts (hW.c (b0 + 1, .cells #[.pointer none, .slice none 0 0] 84 (0, 0)) (List.mem_append_right _ (List.mem_cons_self ..)))
    exact ⟨k0, k1, k2, k3, k4, k5⟩)
  obtain ⟨p0, p1, p2, p3, p4, p5⟩ := HCF.out W2 [] _ _ hT2
  have HBw : Hid (B ≤ b0) := Hid.mk' (by omega)
  have HCL : Hid (∀ p ∈ C, p.1 < b0 + 1) := Hid.mk' (fun p hp => by have := h.clt hp; omega)
  have HM : Hid (fl.length < 1000) := Hid.mk' (by omega)
  have HML := Hid.mk' hmm
  have HB2 : Hid (Below B w W2) := Hid.mk' (b2.mono hBw)
  have HH2 := Hid.mk' hW2
  have hw8 : IntKind.u8.wrap f = f := by rw [IntKind.wrap_u8]; omega
  clear hT1 hT2 h hi hc hl hm hmm hfl hfv b2 q1 q2 hW2 hBw hob0 f0 f1
  go_enter Try.func37, Try.ntmps37
  go_upto_region 1 with fail
  rw [HH2.out]
  go_region_held3 (fun w' => w'.cell? ⟨b0, 0, none⟩ = some (.pointer (some ⟨lb, 0, none⟩)) ∧ w'.cell? ⟨b0, 1, none⟩ = some (.slice fa m fc)) (first | exact ⟨a0, a1⟩ | exact ⟨d0, d1⟩ | go_keep) (first
    | (go_at_call 53; refine (HLW.out _ _ HTA.out).mono ?_; rintro e wA ⟨rfl, vA, hTA, hBA⟩; obtain ⟨a0, a1, a2, a3, a4, a5⟩ := HCF.out wA [] _ _ hTA; have HQ5 : Hid (Below B w wA) := Hid.mk' (HB2.out.drew.trans hBA); have HCC := Hid.mk' (cc_two fl fa m fc f hTA (HF.out _ _ _ _ hTA) HM.out); have HE5 : Hid (B ≤ wA.heap.size) := Hid.mk' (by have := hTA.ge.1; have := hTA.lts.1; omega); clear hTA hBA)
    | (go_at_call 53; refine (HLW.out _ _ HTB.out).mono ?_; rintro e wA ⟨rfl, vA, hTA, hBA⟩; obtain ⟨a0, a1, a2, a3, a4, a5⟩ := HCF.out wA [_] _ _ hTA; have HE5 : Hid (B ≤ wA.heap.size) := Hid.mk' (by have := hTA.ge.1; have := hTA.lts.1; omega); have HQ5 : Hid (Below B w wA) := Hid.mk' ((HB2.out.alloc (Nat.le_trans HBw.out (by omega)) _).drew.trans hBA); have HCC := Hid.mk' (cc_one fl fa m fc _ f (hTA.sub (fun p hp => List.mem_cons_of_mem _ hp)) (HF.out _ _ _ _ hTA) (hTA.c _ (List.mem_cons_self ..)) (Nat.le_trans HBw.out (by omega)) HM.out); clear hTA hBA)
    | (go_at_call 53; refine (HLW.out _ _ HTC.out).mono ?_; rintro e wA ⟨rfl, vA, hTA, hBA⟩; obtain ⟨a0, a1, a2, a3, a4, a5⟩ := HCF.out wA [_, _] _ _ hTA; have HE5 : Hid (B ≤ wA.heap.size) := Hid.mk' (by have := hTA.ge.1; have := hTA.lts.1; omega); have HQ5 : Hid (Below B w wA) := Hid.mk' (((HB2.out.alloc (Nat.le_trans HBw.out (by omega)) _).alloc (by simp; have := HBw.out; omega) _).drew.trans hBA); have HCC := Hid.mk' (cc_any fl fa m fc _ _ f wA (hTA.sub (fun p hp => List.mem_cons_of_mem _ (List.mem_cons_of_mem _ hp))) (HF.out _ _ _ _ hTA) (pair_facts (hTA.c _ (List.mem_cons_self ..))).2.2.1 (pair_facts (hTA.c _ (List.mem_cons_self ..))).2.2.2 (hTA.c _ (List.mem_cons_of_mem _ (List.mem_cons_self ..))) (Nat.le_trans HBw.out (by omega)) HM.out); clear hTA hBA)
    | (go_at_call 54; refine HCC.out.mono ?_; rintro e wF ⟨v, rfl, hTF, hoF, hBF⟩; obtain ⟨d0, d1, d2, d3, d4, d5⟩ := HCF.out wF [] _ _ hTF; obtain ⟨vfa, vfc, hvF, _⟩ := own_slice' hoF; have HTF := Hid.mk' hTF; have HOF := Hid.mk' hoF; have HBF := Hid.mk' hBF; subst hvF; clear hTF hoF hBF))
  all_goals
    go_wp2
    (try simp only [Exit.inBlock, Exit.then])
    obtain ⟨e1, e2⟩ := with_end (x := .pointer (some ⟨lb, 0, none⟩)) (y := .slice vfa (fl.length + 1) vfc) HTF.out (fun c fz q => by cases q) HCL.out HOF.out
    refine bodyPost_ret (v := .agg #[.pointer (some ⟨lb, 0, none⟩), .slice vfa (fl.length + 1) vfc]) ?_ rfl ⟨_, rfl, ⟨vA, e1⟩, by have e3 := e2; rw [show (fl ++ [f]).length = fl.length + 1 from by simp] at e3 ⊢; exact e3, ?_⟩
    · rw [sh_results_cell rfl]
      go_simp
    · exact ((HQ5.out.trans (HBF.out.mono (by first | exact HE5.out | exact Nat.le_trans HBw.out (by omega)))).setCell (p := ⟨b0 + 1, 0, none⟩) (Nat.le_trans HBw.out (by show b0 ≤ b0 + 1; omega)) _).setCell (p := ⟨b0 + 1, 1, none⟩) (Nat.le_trans HBw.out (by show b0 ≤ b0 + 1; omega)) _
end
end Go.Proofs.Ytepkdeckmekphaa
