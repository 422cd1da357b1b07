/- Package shape: what a tree comes to when its line, its keys, its shapes grow. Package shape: numbers of keys; ways. Package shape: New, number, keep. -/
import Derived.Test.YtoonaljmdiideaaShF
namespace Go.Proofs.Ytoonaljmdiideaa
set_option linter.unusedVariables false
set_option linter.unusedSimpArgs false
open Go.RowKit Go.Maps Go.ChangeShapes
section
variable {C : List (Nat × Obj)} {B g mn mw lb : Nat} {vk vs vl : Value} {ks : List Kb} {ln : List Int} {fs : List (List Int)} {fv : List (Nat × Value)} {nw : Nat} {Dn Dw : DataW Unit} {w w' : World}

theorem ob_new {v' v : Value} {N : Nat} {p : Nat} (hb : v'.ownBlock = v.ownBlock ∨ ∃ b, v'.ownBlock = some b ∧ N ≤ b) (hp : p < N) (hn : some p ≠ v.ownBlock) : some p ≠ v'.ownBlock := by
  rcases hb with e | ⟨b, e, hl⟩
  · rw [e]; exact hn
  · rw [e]; intro q; cases q; omega
theorem set_blk2' {W : World} {rb j : Nat} {c : Array Value} {t : TypeId} {m} {v : Value} (h : W.heap[rb]? = some (.cells c t m)) : (W.setCell ⟨rb, j, none⟩ v).heap[rb]? = some (.cells (c.setIfInBounds j v) t m) := by
  simp only [World.setCell, Array.getElem?_modify, h]
  rw [if_pos trivial]
  rfl
theorem T1.clt (h : T1 C B g mn mw lb vk vs vl ks ln fs fv nw Dn Dw w) {p : Nat × Obj} (hp : p ∈ C) : p.1 < w.heap.size := (Array.getElem?_eq_some_iff.1 (h.c p hp)).1

theorem T1.appL (h : T1 C B g mn mw lb vk vs vl ks ln fs fv nw Dn Dw w) {v' : Value} {k : Int} (hs : Sv (vl.ownBlock.toList ++ [lb]) w w') (hl : w'.ownsRow B 21 1 v' (ln.length + 1) (iC ln ++ [.int .i32 k])) (hr : w'.heap[lb]? = some (.cells #[v'] 60 (0, 0))) (hb : v'.ownBlock = vl.ownBlock ∨ ∃ b, v'.ownBlock = some b ∧ w.heap.size ≤ b) :
    T1 C B g mn mw lb vk vs v' ks (ln ++ [k]) fs fv nw Dn Dw w' := by
  have hX : ∀ x, x ∈ vl.ownBlock.toList ++ [lb] → vl.ownBlock = some x ∨ x = lb := fun x hx => by simpa [eq_comm] using hx
  obtain ⟨n1, n2, n3, n4, n5⟩ := h.nes
  obtain ⟨m1, m2⟩ := h.mapne h.l
  obtain ⟨r1, r2⟩ := h.rowne h.l (by decide) (by decide)
  obtain ⟨k1, k2⟩ := h.rowne h.k (by decide) (by decide)
  obtain ⟨s1, s2⟩ := h.rowne h.s (by decide) (by decide)
  refine ⟨h.ge, hs.all _ _ (fun q => ?_) h.row, hr, hs.own h.k (fun x hx => ?_), hs.own h.s (fun x hx => ?_), by rw [List.length_append, iC_append]; exact hl, fun i hi => hs.own (h.f i hi) (fun x hx => ?_), hs.map h.n (fun q => ?_), hs.map h.m (fun q => ?_), h.mm, fun p hp => hs.all _ _ (fun q => ?_) (h.c p hp), fun p hp => ?_⟩
  · rcases hX _ q with e | e
    · exact r1 e.symm
    · exact n1 e
  · rcases hX _ hx with e | rfl
    · exact sh_apart h.l h.k (by decide) x e
    · exact k2
  · rcases hX _ hx with e | rfl
    · exact sh_apart h.l h.s (by decide) x e
    · exact s2
  · obtain ⟨f1, f2⟩ := h.rowne (h.f i hi) (by decide) (by decide)
    rcases hX _ hx with e | rfl
    · exact sh_apart h.l (h.f i hi) (by decide) x e
    · exact f2
  · rcases hX _ q with e | e
    · exact m1 e.symm
    · exact n4 e.symm
  · rcases hX _ q with e | e
    · exact m2 e.symm
    · exact n5 e.symm
  · obtain ⟨c1, c2, c3, c4, c5, c6, c7⟩ := h.cn p hp
    rcases hX _ q with e | e
    · exact c7 e.symm
    · exact c2 e
  · obtain ⟨c1, c2, c3, c4, c5, c6, c7⟩ := h.cn p hp
    exact ⟨c1, c2, c3, c4, c5, c6, ob_new hb (h.clt hp) c7⟩

theorem T1.appK (h : T1 C B g mn mw lb vk vs vl ks ln fs fv nw Dn Dw w) {v' : Value} {s : ByteArray} {z : Int} {Dn' : DataW Unit} (hs : Sv ([mn] ++ (vk.ownBlock.toList ++ [g])) w w') (hk : w'.ownsRow B 31 2 v' (ks.length + 1) (kC ks ++ [.string s, .int .i64 z])) (hr : w'.heap[g]? = some (.cells #[.pointer (some ⟨g, 0, none⟩), .map (some mn), v', vs, .map (some mw)] 68 (0, 0))) (hn : w'.ownsMap Try.prog 31 (plainElem Try.prog 21) mn (ks.length + 1) Dn') (hb : v'.ownBlock = vk.ownBlock ∨ ∃ b, v'.ownBlock = some b ∧ w.heap.size ≤ b) :
    T1 C B g mn mw lb v' vs vl (ks ++ [(s, z)]) ln fs fv nw Dn' Dw w' := by
  have hX : ∀ x, x ∈ [mn] ++ (vk.ownBlock.toList ++ [g]) → x = mn ∨ vk.ownBlock = some x ∨ x = g := fun x hx => by simpa [eq_comm] using hx
  obtain ⟨n1, n2, n3, n4, n5⟩ := h.nes
  obtain ⟨m1, m2⟩ := h.mapne h.k
  obtain ⟨r1, r2⟩ := h.rowne h.k (by decide) (by decide)
  refine ⟨h.ge, hr, hs.all _ _ (fun q => ?_) h.lrow, by rw [List.length_append, kC_append]; exact hk, hs.own h.s (fun x hx => ?_), hs.own h.l (fun x hx => ?_), fun i hi => hs.own (h.f i hi) (fun x hx => ?_), by rw [List.length_append]; exact hn, hs.map h.m (fun q => ?_), h.mm, fun p hp => hs.all _ _ (fun q => ?_) (h.c p hp), fun p hp => ?_⟩
  · rcases hX _ q with e | e | e
    · exact n4 e
    · exact r2 e.symm
    · exact n1 e.symm
  · rcases hX _ hx with rfl | e | rfl
    · exact (h.mapne h.s).1
    · exact sh_apart h.k h.s (by decide) x e
    · exact (h.rowne h.s (by decide) (by decide)).1
  · rcases hX _ hx with rfl | e | rfl
    · exact (h.mapne h.l).1
    · exact sh_apart h.k h.l (by decide) x e
    · exact (h.rowne h.l (by decide) (by decide)).1
  · rcases hX _ hx with rfl | e | rfl
    · exact (h.mapne (h.f i hi)).1
    · exact sh_apart h.k (h.f i hi) (by decide) x e
    · exact (h.rowne (h.f i hi) (by decide) (by decide)).1
  · rcases hX _ q with e | e | e
    · exact h.mm e.symm
    · exact m2 e.symm
    · exact n3 e.symm
  · obtain ⟨c1, c2, c3, c4, c5, c6, c7⟩ := h.cn p hp
    rcases hX _ q with e | e | e
    · exact c3 e
    · exact c5 e.symm
    · exact c1 e
  · obtain ⟨c1, c2, c3, c4, c5, c6, c7⟩ := h.cn p hp
    exact ⟨c1, c2, c3, c4, ob_new hb (h.clt hp) c5, c6, c7⟩

theorem T1.appS (h : T1 C B g mn mw lb vk vs vl ks ln fs fv nw Dn Dw w) {v' x : Value} {lb' : Nat} {l : List Int} {Dw' : DataW Unit} (hfl : fs.length = fv.length) (hs : Sv (vs.ownBlock.toList ++ [g] ++ [mw]) w w') (hv : w'.ownsRow B 63 2 v' (fv.length + 1) (cC fv ++ [.pointer (some ⟨lb', 0, none⟩), x])) (hr : w'.heap[g]? = some (.cells #[.pointer (some ⟨g, 0, none⟩), .map (some mn), vk, v', .map (some mw)] 68 (0, 0))) (hm : w'.ownsMap Try.prog 74 (plainElem Try.prog 3) mw (nw + 1) Dw') (hx : w'.ownsRow B 5 1 x l.length (bC l)) (hb : v'.ownBlock = vs.ownBlock ∨ ∃ b, v'.ownBlock = some b ∧ w.heap.size ≤ b) :
    T1 C B g mn mw lb vk v' vl ks ln (fs ++ [l]) (fv ++ [(lb', x)]) (nw + 1) Dn Dw' w' := by
  have hX : ∀ x, x ∈ vs.ownBlock.toList ++ [g] ++ [mw] → vs.ownBlock = some x ∨ x = g ∨ x = mw := fun x hx => by simpa [eq_comm, or_assoc] using hx
  obtain ⟨n1, n2, n3, n4, n5⟩ := h.nes
  obtain ⟨m1, m2⟩ := h.mapne h.s
  obtain ⟨r1, r2⟩ := h.rowne h.s (by decide) (by decide)
  refine ⟨h.ge, hr, hs.all _ _ (fun q => ?_) h.lrow, hs.own h.k (fun x hx => ?_), by rw [List.length_append, cC_append]; exact hv, hs.own h.l (fun x hx => ?_), fun i hi => ?_, hs.map h.n (fun q => ?_), hm, h.mm, fun p hp => hs.all _ _ (fun q => ?_) (h.c p hp), fun p hp => ?_⟩
  · rcases hX _ q with e | e | e
    · exact r2 e.symm
    · exact n1 e.symm
    · exact n5 e
  · rcases hX _ hx with e | rfl | rfl
    · exact sh_apart h.s h.k (by decide) x e
    · exact (h.rowne h.k (by decide) (by decide)).1
    · exact (h.mapne h.k).2
  · rcases hX _ hx with e | rfl | rfl
    · exact sh_apart h.s h.l (by decide) x e
    · exact (h.rowne h.l (by decide) (by decide)).1
    · exact (h.mapne h.l).2
  · by_cases hi' : i < fv.length
    · have e1 : (fv ++ [(lb', x)])[i] = fv[i] := List.getElem_append_left hi'
      have e2 : (fs ++ [l]).getD i [] = fs.getD i [] := by
        rw [List.getD_eq_getElem?_getD, List.getD_eq_getElem?_getD, List.getElem?_append_left (by omega)]
      rw [e1, e2]
      refine hs.own (h.f i hi') (fun x hx => ?_)
      rcases hX _ hx with e | rfl | rfl
      · exact sh_apart h.s (h.f i hi') (by decide) x e
      · exact (h.rowne (h.f i hi') (by decide) (by decide)).1
      · exact (h.mapne (h.f i hi')).2
    · have hi2 : i = fv.length := by simp at hi; omega
      subst hi2
      have e1 : (fv ++ [(lb', x)])[fv.length] = (lb', x) := by simp
      have e2 : (fs ++ [l]).getD fv.length [] = l := by rw [← hfl]; simp [List.getD_eq_getElem?_getD]
      rw [e1, e2]
      exact hx
  · rcases hX _ q with e | e | e
    · exact m1 e.symm
    · exact n2 e.symm
    · exact h.mm e
  · obtain ⟨c1, c2, c3, c4, c5, c6, c7⟩ := h.cn p hp
    rcases hX _ q with e | e | e
    · exact c6 e.symm
    · exact c1 e
    · exact c4 e
  · obtain ⟨c1, c2, c3, c4, c5, c6, c7⟩ := h.cn p hp
    exact ⟨c1, c2, c3, c4, c5, ob_new hb (h.clt hp) c6, c7⟩
end
end Go.Proofs.Ytoonaljmdiideaa

namespace Go.Proofs.Ytoonaljmdiideaa
set_option linter.unusedVariables false
set_option linter.unusedSimpArgs false
open Go.RowKit Go.Maps Go.ChangeShapes

theorem shLaid : laidOutB Try.prog = true := by kernel_rfl
theorem keyRow : (31 : TypeId) < Try.prog.types.size := of_decide_eq_true (by kernel_rfl)
theorem keyDeep : Try.prog.keyTypeAt (Try.prog.types.size + 1) 31 = true := by kernel_rfl
theorem keyWide : (match Try.prog.underlying 31 with | some (.array _ _) | some (.struct _) => true | _ => false) = true := by rw [Try.underlying31]
set_option maxRecDepth 100000 in
theorem keyLaw : Keyed Try.prog 31 := Keyed.of_law (deep_law_laid shLaid (m := 3) (by omega) keyRow (by kernel_rfl) keyWide)
theorem keyFormed {c0 c1 : Value} : (Value.agg #[c0, c1]).formed Try.prog 31 = true := by
  have h : Try.prog.cellsOf 31 = 2 := by kernel_rfl
  simp [Value.formed, Try.underlying31, h]
/-- What a key reads as, as a map's key. -/
def kl (s : Kb) : Lit := (DataW.agg [.lit (.string s.1.data.toList), .lit (.int .i64 s.2)] : DataW Unit).asKey
/-- A key that is one: neither its text nor its number is too great. -/
def Kwf (s : Kb) : Prop := s.1.size ≤ maxLen ∧ (Lit.int .i64 s.2).wf = true
set_option maxRecDepth 100000 in
theorem key_mk (s : ByteArray) (z : Int) (h : Kwf (s, z)) : keyOf Try.prog 31 (.agg #[.string s, .int .i64 z]) = some (kl (s, z)) := by
  have w : World := default
  have hd : DataW.Trod (H := Unit) (fun _ => ()) Try.prog w 0 (fun _ => false) false 31 (.agg #[.string s, .int .i64 z]) (.agg [.lit (.string s.data.toList), .lit (.int .i64 z)]) ([] ++ []) :=
    Joins.shut_agg2 (y0 := (.lit (.string s.data.toList), [])) (y1 := (.lit (.int .i64 z), [])) Try.underlying31 (by kernel_rfl) (by kernel_rfl) (by obtain ⟨n, hn⟩ := ChangeMaps.shut_string (enc := fun _ => ()) (w := w) (base := 0) (sp := fun _ => false) (held := false) Try.underlying29 (s := s) h.1; exact ⟨n, hn⟩) ⟨1, trod_int_mk 0 Try.underlying3 h.2⟩
  exact (keyOf_asKey keyDeep keyWide keyFormed hd).1
theorem kl_inj {s s' : Kb} (h : Kwf s) (h' : Kwf s') (e : kl s = kl s') : s = s' := by
  have := keyLaw.inj (key_mk s.1 s.2 h) (e ▸ key_mk s'.1 s'.2 h')
  simp at this
  exact Prod.ext this.1 this.2
theorem wayRow : (74 : TypeId) < Try.prog.types.size := of_decide_eq_true (by kernel_rfl)
theorem wayDeep : Try.prog.keyTypeAt (Try.prog.types.size + 1) 74 = true := by kernel_rfl
theorem wayWide : (match Try.prog.underlying 74 with | some (.array _ _) | some (.struct _) => true | _ => false) = true := by rw [Try.underlying74]
set_option maxRecDepth 100000 in
theorem wayLaw : Keyed Try.prog 74 := Keyed.of_law (deep_law_laid shLaid (m := 3) (by omega) wayRow (by kernel_rfl) wayWide)
theorem wayFormed {c0 c1 c2 : Value} : (Value.agg #[c0, c1, c2]).formed Try.prog 74 = true := by
  have h : Try.prog.cellsOf 74 = 3 := by kernel_rfl
  simp [Value.formed, Try.underlying74, h]
/-- What a way reads as, as a key. -/
def wl (x : Int × Int × Int) : Lit := (DataW.agg [.lit (.int .i64 x.1), .lit (.int .i32 x.2.1), .lit (.int .i64 x.2.2)] : DataW Unit).asKey
/-- Numbers that are numbers. -/
def Wwf (x : Int × Int × Int) : Prop := (Lit.int .i64 x.1).wf = true ∧ (Lit.int .i32 x.2.1).wf = true ∧ (Lit.int .i64 x.2.2).wf = true
def wv (x : Int × Int × Int) : Value := .agg #[.int .i64 x.1, .int .i32 x.2.1, .int .i64 x.2.2]
set_option maxRecDepth 100000 in
theorem way_mk (x : Int × Int × Int) (h : Wwf x) : keyOf Try.prog 74 (wv x) = some (wl x) := by
  have w : World := default
  have hd : DataW.Trod (H := Unit) (fun _ => ()) Try.prog w 0 (fun _ => false) false 74 (wv x) (.agg [.lit (.int .i64 x.1), .lit (.int .i32 x.2.1), .lit (.int .i64 x.2.2)]) ([] ++ ([] ++ [])) :=
    Joins.shut_agg3 (y0 := (.lit (.int .i64 x.1), [])) (y1 := (.lit (.int .i32 x.2.1), [])) (y2 := (.lit (.int .i64 x.2.2), [])) Try.underlying74 (by kernel_rfl) (by kernel_rfl) ⟨1, trod_int_mk 0 Try.underlying3 h.1⟩ ⟨1, trod_int_mk 0 Try.underlying21 h.2.1⟩ ⟨1, trod_int_mk 0 Try.underlying3 h.2.2⟩
  exact (keyOf_asKey wayDeep wayWide wayFormed hd).1
theorem wl_inj {x y : Int × Int × Int} (h : Wwf x) (h' : Wwf y) (e : wl x = wl y) : x = y := by
  have := wayLaw.inj (way_mk x h) (e ▸ way_mk y h')
  unfold wv at this
  simp at this
  exact Prod.ext this.1 (Prod.ext this.2.1 this.2.2)
/-- The map tells each text's number. -/
structure NumOk (D : DataW Unit) (ts : List Kb) : Prop where
  isMap : IsMap D
  yes : ∀ (i : Nat) (s : Kb), ts[i]? = some s → has D (kl s) = true ∧ D.atKey (kl s) (.lit (.int .i32 0)) = .lit (.int .i32 i)
  no : ∀ s : Kb, Kwf s → s ∉ ts → has D (kl s) = false
theorem numOk_nil : NumOk (.map []) [] := ⟨isMap_empty, fun i s h => by simp at h, fun s _ _ => rfl⟩
theorem NumOk.put {D : DataW Unit} {ts : List Kb} (h : NumOk D ts) (s : Kb) (hs : Kwf s) (hz : ∀ t ∈ ts, Kwf t) (hn : s ∉ ts) : NumOk (D.put (kl s) (.lit (.int .i32 (ts.length : Nat)))) (ts ++ [s]) := by
  have hk : WideAt.IsKeyLit (kl s) := keyLaw.key (key_mk s.1 s.2 hs)
  refine ⟨h.isMap.put _ _, fun i t ht => ?_, fun t ht hnt => ?_⟩
  · rw [List.getElem?_append] at ht
    split at ht
    · have hm : t ∈ ts := List.mem_of_getElem? ht
      have hne : kl t ≠ kl s := fun e => hn (kl_inj (hz t hm) hs e ▸ hm)
      rw [has_put_other hne, atKey_put_other hne]
      exact h.yes i t ht
    · rename_i hi
      have hi2 : i = ts.length := by
        rcases Nat.lt_or_ge (i - ts.length) 1 with h1 | h1
        · omega
        · rw [List.getElem?_eq_none (by simpa using h1)] at ht; cases ht
      subst hi2
      simp at ht
      subst ht
      exact ⟨has_put_same h.isMap hk _, atKey_put_same h.isMap hk _ _⟩
  · simp at hnt
    have hne : kl t ≠ kl s := fun e => hnt.2 (kl_inj ht hs e)
    rw [has_put_other hne]
    exact h.no t ht hnt.1
/-- The map tells where each way leads. -/
structure WayOk (D : DataW Unit) (ws : List ((Int × Int × Int) × Int)) : Prop where
  isMap : IsMap D
  yes : ∀ p ∈ ws, Wwf p.1 ∧ has D (wl p.1) = true ∧ D.atKey (wl p.1) (.lit (.int .i64 0)) = .lit (.int .i64 p.2)
  no : ∀ x, Wwf x → (∀ p ∈ ws, p.1 ≠ x) → has D (wl x) = false
theorem wayOk_nil : WayOk (.map []) [] := ⟨isMap_empty, fun p h => by simp at h, fun x _ _ => rfl⟩
theorem WayOk.put {D : DataW Unit} {ws : List ((Int × Int × Int) × Int)} (h : WayOk D ws) (x : Int × Int × Int) (dst : Int) (hx : Wwf x) (hn : ∀ p ∈ ws, p.1 ≠ x) : WayOk (D.put (wl x) (.lit (.int .i64 dst))) (ws ++ [(x, dst)]) := by
  have hk : WideAt.IsKeyLit (wl x) := wayLaw.key (way_mk x hx)
  refine ⟨h.isMap.put _ _, fun p hp => ?_, fun y hy hny => ?_⟩
  · rcases List.mem_append.1 hp with hp | hp
    · obtain ⟨h1, h2, h3⟩ := h.yes p hp
      have hne : wl p.1 ≠ wl x := fun e => hn p hp (wl_inj h1 hx e)
      exact ⟨h1, by rw [has_put_other hne]; exact h2, by rw [atKey_put_other hne]; exact h3⟩
    · simp at hp
      subst hp
      exact ⟨hx, has_put_same h.isMap hk _, atKey_put_same h.isMap hk _ _⟩
  · have hne : wl y ≠ wl x := fun e => hny (x, dst) (List.mem_append_right _ (by simp)) (wl_inj hy hx e).symm
    rw [has_put_other hne]
    exact h.no y hy (fun p hp => hny p (List.mem_append_left _ hp))
theorem zero32 (w : World) : (zeroValue 21).run Try.prog w = .ok (.int .i32 0) w := by kernel_rfl
theorem zero64 (w : World) : (zeroValue 3).run Try.prog w = .ok (.int .i64 0) w := by kernel_rfl
theorem num_no {w : World} {b n : Nat} {D : DataW Unit} {key : Value} {k : Lit} (h : w.ownsMap Try.prog 31 (plainElem Try.prog 21) b n D) (hk : keyOf Try.prog 31 key = some k) (hh : has D k = false) :
    (Instr.lookup 56 (.map (some b)) key true).run Try.prog w = .ok (.tuple #[.int .i32 0, .bool false]) w := by
  obtain ⟨v, ps, hrun, hv⟩ := h.look_ok keyLaw Try.underlying56 (zero32 w) (plainElem_int Try.underlying21 (by decide)) hk
  rw [atKey_of_not_has hh] at hv
  obtain ⟨a, rfl, ha, _⟩ := plainElem_int_inv Try.underlying21 hv
  simp at ha
  rw [hrun, hh, ← ha.1]
theorem num_yes {w : World} {b n : Nat} {D : DataW Unit} {key : Value} {k : Lit} {i : Int} (h : w.ownsMap Try.prog 31 (plainElem Try.prog 21) b n D) (hk : keyOf Try.prog 31 key = some k) (hh : has D k = true) (hi : D.atKey k (.lit (.int .i32 0)) = .lit (.int .i32 i)) :
    (Instr.lookup 56 (.map (some b)) key true).run Try.prog w = .ok (.tuple #[.int .i32 i, .bool true]) w := by
  obtain ⟨v, ps, hrun, hv⟩ := h.look_ok keyLaw Try.underlying56 (zero32 w) (plainElem_int Try.underlying21 (by decide)) hk
  rw [hi] at hv
  obtain ⟨a, rfl, ha, _⟩ := plainElem_int_inv Try.underlying21 hv
  simp at ha
  rw [hrun, hh, ← ha.1]
theorem way_no {w : World} {b n : Nat} {D : DataW Unit} {key : Value} {k : Lit} (h : w.ownsMap Try.prog 74 (plainElem Try.prog 3) b n D) (hk : keyOf Try.prog 74 key = some k) (hh : has D k = false) :
    (Instr.lookup 65 (.map (some b)) key true).run Try.prog w = .ok (.tuple #[.int .i64 0, .bool false]) w := by
  obtain ⟨v, ps, hrun, hv⟩ := h.look_ok wayLaw Try.underlying65 (zero64 w) (plainElem_int Try.underlying3 (by decide)) hk
  rw [atKey_of_not_has hh] at hv
  obtain ⟨a, rfl, ha, _⟩ := plainElem_int_inv Try.underlying3 hv
  simp at ha
  rw [hrun, hh, ← ha.1]
theorem way_yes {w : World} {b n : Nat} {D : DataW Unit} {key : Value} {k : Lit} {i : Int} (h : w.ownsMap Try.prog 74 (plainElem Try.prog 3) b n D) (hk : keyOf Try.prog 74 key = some k) (hh : has D k = true) (hi : D.atKey k (.lit (.int .i64 0)) = .lit (.int .i64 i)) :
    (Instr.lookup 65 (.map (some b)) key true).run Try.prog w = .ok (.tuple #[.int .i64 i, .bool true]) w := by
  obtain ⟨v, ps, hrun, hv⟩ := h.look_ok wayLaw Try.underlying65 (zero64 w) (plainElem_int Try.underlying3 (by decide)) hk
  rw [hi] at hv
  obtain ⟨a, rfl, ha, _⟩ := plainElem_int_inv Try.underlying3 hv
  simp at ha
  rw [hrun, hh, ← ha.1]
end Go.Proofs.Ytoonaljmdiideaa

namespace Go.Proofs.Ytoonaljmdiideaa
set_option linter.unusedVariables false
set_option linter.unusedSimpArgs false
open Go.RowKit Go.Maps Go.ChangeShapes
theorem sh_new {X : World} {ob : Obj} {k : Nat} (h : X.heap.size = k) : (X.alloc ob).heap[k]? = some ob := by rw [← h]; exact World.alloc_heap_new X ob
theorem sh_old {X : World} {ob : Obj} {k : Nat} {v : Option Obj} (h : k < X.heap.size) (hv : X.heap[k]? = v) : (X.alloc ob).heap[k]? = v := (((Below.refl _ _).alloc (Nat.le_refl _) _).block k h).trans hv
section
variable {C : List (Nat × Obj)} {B g mn mw lb : Nat} {vk vs vl : Value} {ks : List Kb} {ln : List Int} {fs : List (List Int)} {fv : List (Nat × Value)} {nw : Nat} {Dn Dw : DataW Unit}

set_option maxHeartbeats 1000000 in
set_option maxRecDepth 100000 in
theorem number_no (s : ByteArray) (z : Int) (w : World) (h : T1 C B g mn mw lb vk vs vl ks ln fs fv nw Dn Dw w) (hn : NumOk Dn ks) (hs : Kwf (s, z)) (hno : (s, z) ∉ ks) (hl : ks.length < 2000000000) :
    Calls Try.prog 24 #[.pointer (some ⟨g, 0, none⟩), .agg #[.string s, .int .i64 z]] w fun e w' => e = .returned (.int .i32 (ks.length : Nat)) ∧ Below w.heap.size w w' := by
  obtain ⟨W1, hW1⟩ : ∃ W1, w.alloc (.cells #[.string s, .int .i64 z] 31) = W1 := ⟨_, rfl⟩
  have b1 : Below w.heap.size w W1 := by rw [← hW1]; exact (Below.refl _ _).alloc (Nat.le_refl _) _
  have q1 : W1.heap[w.heap.size]? = some (.cells #[.string s, .int .i64 z] 31 (0, 0)) := by rw [← hW1]; exact World.alloc_heap_new _ _
  obtain ⟨_, _, g0, g1⟩ := pair_facts q1
  have h1 := h.below b1
  obtain ⟨c0, c1, c2, c3, c4, cf, l0, lf⟩ := h1.cells
  obtain ⟨a, cap, hvk, _⟩ := own_slice' h1.k
  rw [hvk] at c2
  have hrun : ∀ n, (Instr.lookup 56 (.map (some mn)) (.agg #[.string s, .int .i64 z]) true).run Try.prog (W1.drewN n) = .ok (.tuple #[.int .i32 0, .bool false]) (W1.drewN n) := fun n => num_no (show (W1.drewN n).ownsMap Try.prog 31 (plainElem Try.prog 21) mn ks.length Dn from h1.n) (key_mk s z hs) (hn.no (s, z) hs hno)
  have HB := Hid.mk' b1
  have HH := Hid.mk' hW1
  obtain ⟨n, hnn⟩ : ∃ n, ks.length = n := ⟨_, rfl⟩
  rw [hnn] at c2 hl ⊢
  have hw : IntKind.i32.wrap (n : Int) = (n : Int) := by rw [IntKind.wrap_i32]; omega
  have hw2 : wrap32 (n : Int) = (n : Int) := by unfold wrap32; omega
  clear h hn hs hno b1 q1 h1 cf lf hvk hnn hW1 c0 c3 c4 l0
  go_enter Try.func24, Try.ntmps24
  go_upto_region 1 with fail
  rw [HH.out]
  go_quiet (fail)
  clear hrun
  go_wp2
  go_ret
  exact ⟨rfl, below_drewN HB.out _⟩
set_option maxHeartbeats 1000000 in
set_option maxRecDepth 100000 in
theorem number_yes (s : ByteArray) (z : Int) (i : Nat) (w : World) (h : T1 C B g mn mw lb vk vs vl ks ln fs fv nw Dn Dw w) (hn : NumOk Dn ks) (hs : Kwf (s, z)) (hi : ks[i]? = some (s, z)) :
    Calls Try.prog 24 #[.pointer (some ⟨g, 0, none⟩), .agg #[.string s, .int .i64 z]] w fun e w' => e = .returned (.int .i32 (i : Nat)) ∧ Below w.heap.size w w' := by
  obtain ⟨W1, hW1⟩ : ∃ W1, w.alloc (.cells #[.string s, .int .i64 z] 31) = W1 := ⟨_, rfl⟩
  have b1 : Below w.heap.size w W1 := by rw [← hW1]; exact (Below.refl _ _).alloc (Nat.le_refl _) _
  have q1 : W1.heap[w.heap.size]? = some (.cells #[.string s, .int .i64 z] 31 (0, 0)) := by rw [← hW1]; exact World.alloc_heap_new _ _
  obtain ⟨_, _, g0, g1⟩ := pair_facts q1
  have h1 := h.below b1
  obtain ⟨c0, c1, c2, c3, c4, cf, l0, lf⟩ := h1.cells
  have hrun : ∀ n, (Instr.lookup 56 (.map (some mn)) (.agg #[.string s, .int .i64 z]) true).run Try.prog (W1.drewN n) = .ok (.tuple #[.int .i32 i, .bool true]) (W1.drewN n) := fun n => num_yes (show (W1.drewN n).ownsMap Try.prog 31 (plainElem Try.prog 21) mn ks.length Dn from h1.n) (key_mk s z hs) (hn.yes i (s, z) hi).1 (hn.yes i (s, z) hi).2
  have HB := Hid.mk' b1
  have HH := Hid.mk' hW1
  clear h hn hs hi b1 q1 h1 cf lf hW1 c0 c3 c4 l0 c2
  go_enter Try.func24, Try.ntmps24
  go_upto_region 1 with fail
  rw [HH.out]
  go_quiet (fail)
  clear hrun
  go_wp2
  go_ret
  exact ⟨rfl, below_drewN HB.out _⟩
set_option maxHeartbeats 1000000 in
set_option maxRecDepth 100000 in
theorem keep_old (s : ByteArray) (z : Int) (i : Nat) (w : World) (h : T1 C B g mn mw lb vk vs vl ks ln fs fv nw Dn Dw w) (hi : i < ks.length) (hl : ks.length < 2000000000) :
    Calls Try.prog 33 #[.pointer (some ⟨g, 0, none⟩), .int .i32 (i : Nat), .agg #[.string s, .int .i64 z]] w fun e w' => e = .returned (.tuple #[]) ∧ Below w.heap.size w w' := by
  have b1 : Below w.heap.size w (w.alloc (.cells #[.string s, .int .i64 z] 31)) := (Below.refl _ _).alloc (Nat.le_refl _) _
  have h1 := h.below b1
  obtain ⟨c0, c1, c2, c3, c4, cf, l0, lf⟩ := h1.cells
  obtain ⟨a, cap, hvk, _⟩ := own_slice' h1.k
  rw [hvk] at c2
  obtain ⟨n, hnn⟩ : ∃ n, ks.length = n := ⟨_, rfl⟩
  rw [hnn] at c2 hl hi
  have i1 : (i : Int) < (n : Int) := by omega
  have HB := Hid.mk' b1
  clear h b1 h1 c0 c1 c3 c4 cf l0 lf hvk hnn
  go_enter Try.func33, Try.ntmps33
  go_wp2
  exact bodyPost_ret (v := .tuple #[]) (results_none rfl _ _ _) rfl ⟨rfl, HB.out⟩
end
set_option maxHeartbeats 1000000 in
theorem shnew_any (w : World) : Calls Try.prog 7 #[] w fun e w' => ∃ g mn mw lb vs, e = .returned (.pointer (some ⟨g, 0, none⟩)) ∧ T1 [] w.heap.size g mn mw lb (.slice none 0 0) vs (.slice none 0 0) [] [] [[]] [(lb, .slice none 0 0)] 0 (.map []) (.map []) w' ∧ Below w.heap.size w w' := by
  have hmm := @run_makeMap Try.prog
  go_enter Try.func7, Try.ntmps7
  go_wp2
  go_ret
  obtain ⟨b, hb⟩ : ∃ b, w.heap.size = b := ⟨_, rfl⟩
  refine ⟨w.heap.size + 1 + 1 + 1 + 1, w.heap.size, w.heap.size + 1 + 1 + 1, w.heap.size + 1, .slice (some ⟨w.heap.size + 1 + 1, 0, none⟩) 1 1, rfl, ⟨⟨by omega, by omega, by omega, by omega⟩, ?_, ?_, World.ownsRow_nil _ _ _ _, ⟨rfl, .inr ⟨w.heap.size + 1 + 1, 1, #[.pointer (some ⟨w.heap.size + 1, 0, none⟩), .slice none 0 0], rfl, by omega, ?_, Nat.le_refl _, by decide, rfl, rfl⟩⟩, World.ownsRow_nil _ _ _ _, fun i hi => ?_, ?_, ?_, by omega, (fun p hp => by cases hp), (fun p hp => by cases hp)⟩, ?_⟩
  · exact sh_new (by simp only [World.size_alloc])
  · exact sh_old (by simp only [World.size_alloc]; omega) (sh_old (by simp only [World.size_alloc]; omega) (sh_old (by simp only [World.size_alloc]; omega) (sh_new (by simp only [World.size_alloc]))))
  · exact sh_old (by simp only [World.size_alloc]; omega) (sh_old (by simp only [World.size_alloc]; omega) (sh_new (by simp only [World.size_alloc])))
  · obtain rfl : i = 0 := by simp at hi; omega
    exact World.ownsRow_nil _ _ _ _
  · have h0 := World.ownsMap_made (H := Unit) w Try.prog 31 (plainElem Try.prog 21)
    refine Sv.map (X := []) (Sv.below ?_) h0 (by simp)
    refine Below.alloc ?_ (by simp only [World.size_alloc]; omega) _
    refine Below.alloc ?_ (by simp only [World.size_alloc]; omega) _
    refine Below.alloc ?_ (by simp only [World.size_alloc]; omega) _
    exact Below.alloc (Below.refl _ _) (Nat.le_refl _) _
  · have h0 := World.ownsMap_made (H := Unit) (((w.alloc (Obj.map #[] 0)).alloc (Obj.cells #[Value.slice none 0 0] 60)).alloc (Obj.cells #[Value.pointer (some { block := w.heap.size + 1, off := 0, spot := none }), Value.slice none 0 0] 63)) Try.prog 74 (plainElem Try.prog 3)
    simp only [World.size_alloc] at h0
    refine Sv.map (X := []) (Sv.below ?_) h0 (by simp)
    exact Below.alloc (Below.refl _ _) (Nat.le_refl _) _
  · refine Below.alloc ?_ (by simp only [World.size_alloc]; omega) _
    refine Below.alloc ?_ (by simp only [World.size_alloc]; omega) _
    refine Below.alloc ?_ (by simp only [World.size_alloc]; omega) _
    refine Below.alloc ?_ (by simp only [World.size_alloc]; omega) _
    exact Below.alloc (Below.refl _ _) (Nat.le_refl _) _
end Go.Proofs.Ytoonaljmdiideaa
