/- Package check: the walker in memory; reach, next. Package check: the walker: enter. Package check: the walker: lay. -/
import Derived.Test.YtcagfjogfbddeaaDoorCrB
import Derived.Test.YtcagfjogfbddeaaDoorChQ
import Derived.Lib.MinMax
namespace Go.Proofs.YtcagfjogfbddeaaDoor
set_option linter.unusedVariables false
set_option linter.unusedSimpArgs false
open Go.RowKit Go.Shelf

/-- A row of known length, cell by cell. -/
def RowF (w : World) (b : Nat) (e : TypeId) (n : Nat) (F : Nat → Value) : Prop := ∃ A : Array Value, w.heap[b]? = some (.cells A e (0, 0)) ∧ A.size = n ∧ ∀ i, i < n → A[i]? = some (F i)
theorem RowF.cell {w : World} {b : Nat} {e : TypeId} {n : Nat} {F : Nat → Value} (h : RowF w b e n F) {i : Nat} (hi : i < n) : w.cell? ⟨b, i, none⟩ = some (F i) := by
  obtain ⟨A, hA, _, hF⟩ := h
  exact (cell_row _ _ i _ _ hA).trans (hF i hi)
theorem RowF.thaw {w : World} {b : Nat} {e : TypeId} {n : Nat} {F : Nat → Value} (h : RowF w b e n F) (i : Nat) : w.frozen? ⟨b, i, none⟩ = false := by
  obtain ⟨A, hA, _, hF⟩ := h
  exact thaw_row _ _ _ _ hA i
theorem RowF.lt {w : World} {b : Nat} {e : TypeId} {n : Nat} {F : Nat → Value} (h : RowF w b e n F) : b < w.heap.size := by
  obtain ⟨A, hA, _⟩ := h
  exact (Array.getElem?_eq_some_iff.1 hA).1
theorem RowF.keep {w w' : World} {b : Nat} {e : TypeId} {n : Nat} {F : Nat → Value} (h : RowF w b e n F) (hk : w'.heap[b]? = w.heap[b]?) : RowF w' b e n F := by
  obtain ⟨A, hA, r⟩ := h
  exact ⟨A, hk.trans hA, r⟩
theorem RowF.set {w : World} {b : Nat} {e : TypeId} {n : Nat} {F : Nat → Value} (h : RowF w b e n F) (k : Nat) (v : Value) : RowF (w.setCell ⟨b, k, none⟩ v) b e n (fun i => if i = k then v else F i) := by
  obtain ⟨A, hA, hs, hF⟩ := h
  refine ⟨_, set_blk v hA, by simpa using hs, fun i hi => ?_⟩
  rw [Array.getElem?_setIfInBounds]
  show _ = some (if i = k then v else F i)
  by_cases e : k = i
  · subst e; rw [if_pos rfl, if_pos (by omega), if_pos rfl]
  · rw [if_neg e, if_neg (fun q : i = k => e q.symm)]; exact hF i hi
theorem RowF.cong {w : World} {b : Nat} {e : TypeId} {n : Nat} {F G : Nat → Value} (h : RowF w b e n F) (hg : ∀ i, i < n → F i = G i) : RowF w b e n G := by
  obtain ⟨A, hA, hs, hF⟩ := h
  exact ⟨A, hA, hs, fun i hi => by rw [← hg i hi]; exact hF i hi⟩
theorem RowF.ne {w : World} {b c : Nat} {e : TypeId} {n : Nat} {F : Nat → Value} {ob : Obj} (h : RowF w b e n F) (hc : w.heap[c]? = some ob) (hne : ∀ A fz, ob ≠ .cells A e fz) : c ≠ b := fun q => by
  obtain ⟨A, hA, _⟩ := h
  rw [q, hA] at hc
  exact hne _ _ (Option.some.inj hc).symm
def zs (l : List Int) : List Value := l.map fun z => Value.int .i64 z
theorem zs_length (l : List Int) : (zs l).length = l.length := by simp [zs]
theorem own_ne {w : World} {B b : Nat} {e e' : TypeId} {sz : Nat} {v : Value} {n : Nat} {xs : List Value} {N : Nat} {F : Nat → Value} (h : w.ownsRow B e sz v n xs) (hb : RowF w b e' N F) (hne : e' ≠ e) : some b ≠ v.ownBlock := by
  obtain ⟨A, hA, _⟩ := hb
  exact blk_ne h hA (fun c fz q => by cases q; exact hne rfl)
/-- The walker. -/
structure Wq (B : Nat) (w : World) (wb br bt bp n : Nat) (vw : Value) (R : Nat → Bool) (Q : List Int) (T : Nat → Int) (V : Nat → Value) (P : Nat → List Int) : Prop where
  blk : w.heap[wb]? = some (.cells #[.slice (some ⟨br, 0, none⟩) n n, vw, .slice (some ⟨bt, 0, none⟩) n n, .slice (some ⟨bp, 0, none⟩) (2 * n) (2 * n)] 53 (0, 0))
  r : RowF w br 4 n (fun i => .bool (R i))
  t : RowF w bt 3 n (fun i => .int .i64 (T i))
  p : RowF w bp 36 (2 * n) V
  own : w.ownsRow B 3 1 vw Q.length (zs Q)
  pown : ∀ p, p < 2 * n → w.ownsRow B 3 1 (V p) (P p).length (zs (P p))
  ap : ∀ p, p < 2 * n → vw.ownBlock = none ∨ vw.ownBlock ≠ (V p).ownBlock
  pp : ∀ p q, p < 2 * n → q < 2 * n → p ≠ q → (V p).ownBlock = none ∨ (V p).ownBlock ≠ (V q).ownBlock
  tw : vw.ownBlock ≠ some bt
  tp : ∀ p, p < 2 * n → (V p).ownBlock ≠ some bt
  ge : B ≤ wb ∧ B ≤ br ∧ B ≤ bt ∧ B ≤ bp
  m : 2 * cnt n R + Q.length ≤ 2 * n
  nb : n * 40 ≤ 140737488351232
section
variable {B : Nat} {w : World} {wb br bt bp n : Nat} {vw : Value} {R : Nat → Bool} {Q : List Int} {T : Nat → Int} {V : Nat → Value} {P : Nat → List Int}
theorem Wq.ne (h : Wq B w wb br bt bp n vw R Q T V P) : wb ≠ br ∧ wb ≠ bt ∧ wb ≠ bp ∧ br ≠ bt ∧ br ≠ bp ∧ bt ≠ bp := by
  obtain ⟨A1, h1, _⟩ := h.r
  obtain ⟨A2, h2, _⟩ := h.t
  refine ⟨h.r.ne h.blk (fun _ _ e => by cases e), h.t.ne h.blk (fun _ _ e => by cases e), h.p.ne h.blk (fun _ _ e => by cases e), h.t.ne h1 (fun _ _ e => by cases e), h.p.ne h1 (fun _ _ e => by cases e), h.p.ne h2 (fun _ _ e => by cases e)⟩
theorem Wq.cells (h : Wq B w wb br bt bp n vw R Q T V P) : w.cell? ⟨wb, 0, none⟩ = some (.slice (some ⟨br, 0, none⟩) n n) ∧ w.cell? ⟨wb, 1, none⟩ = some vw ∧ w.cell? ⟨wb, 2, none⟩ = some (.slice (some ⟨bt, 0, none⟩) n n) ∧ w.cell? ⟨wb, 3, none⟩ = some (.slice (some ⟨bp, 0, none⟩) (2 * n) (2 * n)) :=
  ⟨(cell_row _ _ 0 _ _ h.blk).trans rfl, (cell_row _ _ 1 _ _ h.blk).trans rfl, (cell_row _ _ 2 _ _ h.blk).trans rfl, (cell_row _ _ 3 _ _ h.blk).trans rfl⟩
theorem Wq.size (h : Wq B w wb br bt bp n vw R Q T V P) : B ≤ w.heap.size := by
  have := h.r.lt
  have := h.ge
  omega
theorem Wq.below {w' : World} (h : Wq B w wb br bt bp n vw R Q T V P) (hb : Below w.heap.size w w') : Wq B w' wb br bt bp n vw R Q T V P :=
  ⟨(hb.block _ (Array.getElem?_eq_some_iff.1 h.blk).1).trans h.blk, h.r.keep (hb.block _ h.r.lt), h.t.keep (hb.block _ h.t.lt), h.p.keep (hb.block _ h.p.lt), own_below h.own hb, fun p hp => own_below (h.pown p hp) hb, h.ap, h.pp, h.tw, h.tp, h.ge, h.m, h.nb⟩
theorem own_set {u : Value} {k : Nat} {xs : List Value} {b o : Nat} (x : Value) (ho : w.ownsRow B 3 1 u k xs) (hne : some b ≠ u.ownBlock) : (w.setCell ⟨b, o, none⟩ x).ownsRow B 3 1 u k xs := by
  refine ⟨ho.1, ?_⟩
  rcases ho.2 with hn | ⟨g, cap, cur, rfl, hB, hg, rest⟩
  · exact .inl hn
  · exact .inr ⟨g, cap, cur, rfl, hB, (Below.heap_setCell _ _ _ _ (show g ≠ b from fun e => hne (by rw [e]; rfl))).trans hg, rest⟩
theorem Wq.setR (h : Wq B w wb br bt bp n vw R Q T V P) (k : Nat) : w.cell? ⟨wb, 1, none⟩ = some vw ∧ (w.setCell ⟨br, k, none⟩ (.bool true)).heap[wb]? = w.heap[wb]? ∧ RowF (w.setCell ⟨br, k, none⟩ (.bool true)) br 4 n (fun i => .bool (upd R k i)) ∧ RowF (w.setCell ⟨br, k, none⟩ (.bool true)) bt 3 n (fun i => .int .i64 (T i)) ∧ RowF (w.setCell ⟨br, k, none⟩ (.bool true)) bp 36 (2 * n) V ∧ (w.setCell ⟨br, k, none⟩ (.bool true)).ownsRow B 3 1 vw Q.length (zs Q) ∧ ∀ p, p < 2 * n → (w.setCell ⟨br, k, none⟩ (.bool true)).ownsRow B 3 1 (V p) (P p).length (zs (P p)) := by
  obtain ⟨n1, n2, n3, n4, n5, n6⟩ := h.ne
  refine ⟨h.cells.2.1, Below.heap_setCell _ _ _ _ n1, (h.r.set k (.bool true)).cong (fun i _ => by unfold upd; split <;> rfl), h.t.keep (Below.heap_setCell _ _ _ _ (Ne.symm n4)), h.p.keep (Below.heap_setCell _ _ _ _ (Ne.symm n5)), own_set _ h.own (own_ne h.own h.r (by decide)), fun p hp => own_set _ (h.pown p hp) (own_ne (h.pown p hp) h.r (by decide))⟩
/-- With another row of those that wait. -/
theorem Wq.setW {v : Value} {R' : Nat → Bool} {Q' : List Int} (h : Wq B w wb br bt bp n vw R Q T V P) (hr : RowF w br 4 n (fun i => .bool (R' i))) (ho : w.ownsRow B 3 1 v Q'.length (zs Q')) (ha : ∀ p, p < 2 * n → v.ownBlock = none ∨ v.ownBlock ≠ (V p).ownBlock) (ht : v.ownBlock ≠ some bt) (hm : 2 * cnt n R' + Q'.length ≤ 2 * n) : Wq B (w.setCell ⟨wb, 1, none⟩ v) wb br bt bp n v R' Q' T V P := by
  obtain ⟨n1, n2, n3, n4, n5, n6⟩ := h.ne
  have q : ∀ {u : Value} {k : Nat} {xs : List Value}, w.ownsRow B 3 1 u k xs → some wb ≠ u.ownBlock := fun ho => blk_ne ho h.blk (fun c fz e => by cases e)
  exact ⟨set_blk _ h.blk, hr.keep (Below.heap_setCell _ _ _ _ (Ne.symm n1)), h.t.keep (Below.heap_setCell _ _ _ _ (Ne.symm n2)), h.p.keep (Below.heap_setCell _ _ _ _ (Ne.symm n3)), own_set _ ho (q ho), fun p hp => own_set _ (h.pown p hp) (q (h.pown p hp)), ha, h.pp, ht, h.tp, h.ge, hm, h.nb⟩
set_option maxHeartbeats 1000000 in
set_option maxRecDepth 100000 in
theorem reach_skip (h : Wq B w wb br bt bp n vw R Q T V P) (z : Int) (hz : z < 0 ∨ (n : Int) ≤ z ∨ ∃ k : Nat, z = (k : Int) ∧ k < n ∧ R k = true) : Calls Tryd.prog 12 #[.pointer (some ⟨wb, 0, none⟩), .int .i64 z] w fun e w' => (∃ v, e = .returned v) ∧ w' = w := by
  obtain ⟨c0, _, _, _⟩ := h.cells
  have nb := h.nb
  rcases hz with hz | hz | ⟨k, rfl, hk, hr⟩
  · have e : decide (0 ≤ z) = false := by simp; omega
    clear h hz
    go_enter Tryd.func12, Tryd.ntmps12
    go_wp2
    go_end0
    exact ⟨⟨_, rfl⟩, rfl⟩
  · have e : decide (0 ≤ z) = true := by simp; omega
    have e2 : decide (z < (n : Int)) = false := by simp; omega
    clear h hz
    go_enter Tryd.func12, Tryd.ntmps12
    go_wp2
    go_end0
    exact ⟨⟨_, rfl⟩, rfl⟩
  · have cr := h.r.cell hk
    simp only [hr] at cr
    have k1 : (k : Int) < (n : Int) := by omega
    have k2 : (k : Int) < 140737488351232 := by omega
    clear h hr hk
    go_enter Tryd.func12, Tryd.ntmps12
    go_wp2
    go_end0
    exact ⟨⟨_, rfl⟩, rfl⟩
set_option maxHeartbeats 1000000 in
set_option maxRecDepth 100000 in
theorem reach_new (h : Wq B w wb br bt bp n vw R Q T V P) (k : Nat) (hk : k < n) (hR : R k = false) : Calls Tryd.prog 12 #[.pointer (some ⟨wb, 0, none⟩), .int .i64 (k : Int)] w fun e w' => (∃ v, e = .returned v) ∧ ∃ vw', Wq B w' wb br bt bp n vw' (upd R k) (Q ++ [(k : Int)]) T V P ∧ Below B w w' := by
  obtain ⟨i0, hif, hz0, hz1, hz2⟩ := info_parts infoInt
  obtain ⟨c0, c1, _, _⟩ := h.cells
  have nb := h.nb
  have cr := h.r.cell hk
  simp only [hR] at cr
  have zr := h.r.thaw k
  have hM : 2 * cnt n (upd R k) + (Q ++ [(k : Int)]).length ≤ 2 * n := Nat.le_trans (Ext.one (Q := Q) hk hR).m h.m
  have HQL : Hid (Q.length ≤ 2 * n) := Hid.mk' (by have := h.m; omega)
  have HNB := Hid.mk' nb
  obtain ⟨_, e1, e2, e3, e4, e5, e6⟩ := h.setR k
  have HB1 : Hid (Below B w (w.setCell ⟨br, k, none⟩ (.bool true))) := Hid.mk' ((Below.refl _ _).setCell h.ge.2.1 _)
  obtain ⟨W1, hW1⟩ : ∃ W1, w.setCell ⟨br, k, none⟩ (.bool true) = W1 := ⟨_, rfl⟩
  rw [hW1] at e1 e2 e3 e4 e5 e6 HB1
  have hs1 : W1.heap.size = w.heap.size := by rw [← hW1]; simp
  have hblk := e1.trans h.blk
  obtain ⟨W2, hW2⟩ : ∃ W2, W1.alloc (.cells #[.int .i64 (k : Int)] 3) = W2 := ⟨_, rfl⟩
  have b2 : Below W1.heap.size W1 W2 := by rw [← hW2]; exact lay_below
  have HC2 : Hid (∀ (j : Nat) (u : Value), ([.int .i64 (k : Int)] : List Value)[j]? = some u → W2.cell? (Addr.add ⟨W1.heap.size, 0, none⟩ j) = some u) := Hid.mk' (by rw [← hW2]; exact cells_new _ _ _)
  have d1 : W1.cell? ⟨wb, 1, none⟩ = some vw := (cell_row _ _ 1 _ _ hblk).trans rfl
  have hblk2 := (b2.block _ (Array.getElem?_eq_some_iff.1 hblk).1).trans hblk
  have e2' := e2.keep (b2.block _ e2.lt)
  have e3' := e3.keep (b2.block _ e3.lt)
  have e4' := e4.keep (b2.block _ e4.lt)
  have HO := Hid.mk' (own_below e5 b2)
  have HP2 := Hid.mk' (fun p hp => own_below (e6 p hp) b2)
  have HWH := Hid.mk' h
  have HBK := Hid.mk' hblk2
  have HR2 := Hid.mk' e2'
  have HT2 := Hid.mk' e3'
  have HPP2 := Hid.mk' e4'
  have HBS : Hid (B ≤ W2.heap.size) := Hid.mk' (Nat.le_trans (by rw [hs1]; exact h.size) b2.size)
  have HB2 := Hid.mk' (HB1.out.trans (b2.mono (by rw [hs1]; exact h.size)))
  have HLT : Hid (bt < W2.heap.size) := Hid.mk' e3'.lt
  obtain ⟨b3, hb3⟩ : ∃ b3, W1.heap.size = b3 := ⟨_, rfl⟩
  rw [hb3] at HC2
  have HMM := Hid.mk' hM
  have HHW := Hid.mk' hW1
  have k1 : (k : Int) < (n : Int) := by omega
  have k2 : (k : Int) < 140737488351232 := by omega
  obtain ⟨ql, hql⟩ : ∃ ql, Q.length = ql := ⟨_, rfl⟩
  have HQE := Hid.mk' hql
  rw [hql] at HO HQL
  obtain ⟨va, vc, hv, _⟩ := own_slice' HO.out
  subst hv
  clear h hM e1 e2 e3 e4 e5 e6 hblk hblk2 e2' e3' e4' b2 hs1 hW1 hk hR nb hql
  go_enter Tryd.func12, Tryd.ntmps12
  go_upto_region 2 with fail
  rw [HHW.out]
  clear c0 c1 cr zr HHW
  go_wp2_with (at_builtin; refine wpList_append_own_at _ rfl _ _ 36 rfl B 3 i0 (.int .i64 0) 1 8 Tryd.underlying36 hif hz0 hz1 hz2 rfl (by decide) _ _ _ rfl HO.out ⟨b3, 0, none⟩ 1 1 [.int .i64 (k : Int)] rfl rfl HC2.out ?c2 (by unfold maxLen; have := HQL.out; have := HNB.out; omega) (by have := HQL.out; have := HNB.out; omega) HBS.out ?_)
  case c2 => first | rfl | (intro u hu; rw [List.mem_singleton.1 hu]; rfl)
  intro v' w4 ho4 hg4 _ hl4
  have no : ∀ {b : Nat} {ob : Obj}, W2.heap[b]? = some ob → some b ≠ (Value.slice va ql vc).ownBlock → w4.heap[b]? = some ob := fun hb hn => (hg4.block _ (Array.getElem?_eq_some_iff.1 hb).1 hn).trans hb
  have hb4 := no HBK.out (blk_ne HO.out HBK.out (fun c fz e => by cases e))
  have d4 : w4.cell? ⟨wb, 1, none⟩ = some (.slice va ql vc) := (cell_row _ _ 1 _ _ hb4).trans rfl
  have z4 := thaw_row _ _ _ _ hb4 1
  have tw : some bt ≠ (Value.slice va ql vc).ownBlock := fun e => HWH.out.tw e.symm
  have hW4 : Wq B w4 wb br bt bp n (.slice va ql vc) (fun _ => true) [] T V P → True := fun _ => trivial
  have ho' : w4.ownsRow B 3 1 v' (Q ++ [(k : Int)]).length (zs (Q ++ [(k : Int)])) := by
    have e1 : (Q ++ [(k : Int)]).length = ql + 1 := by rw [List.length_append, HQE.out]; rfl
    have e2 : zs (Q ++ [(k : Int)]) = zs Q ++ [.int .i64 (k : Int)] := by simp [zs]
    rw [e1, e2]
    exact ho4
  have hr4 : RowF w4 br 4 n (fun i => .bool (upd R k i)) := HR2.out.keep (hg4.block _ HR2.out.lt (own_ne HO.out HR2.out (by decide)))
  have ht4 : RowF w4 bt 3 n (fun i => .int .i64 (T i)) := HT2.out.keep (hg4.block _ HT2.out.lt tw)
  have hp4 : RowF w4 bp 36 (2 * n) V := HPP2.out.keep (hg4.block _ HPP2.out.lt (own_ne HO.out HPP2.out (by decide)))
  have hpo : ∀ p, p < 2 * n → w4.ownsRow B 3 1 (V p) (P p).length (zs (P p)) := fun p hp => (HP2.out p hp).kept hg4 (by
    rcases HWH.out.ap p hp with e | e
    · cases va with
      | none => cases hh : (V p).ownBlock with
        | none => exact .inl rfl
        | some x => exact .inr (fun q => by cases q)
      | some x => cases e
    · exact .inr (Ne.symm e))
  have hap : ∀ p, p < 2 * n → v'.ownBlock = none ∨ v'.ownBlock ≠ (V p).ownBlock := fun p hp => by
    rcases hl4 with e | e
    · rw [e]; exact HWH.out.ap p hp
    · rw [e]
      exact .inr (fun q => by have := ((HP2.out p hp).lt _ q.symm).2; omega)
  have htw : v'.ownBlock ≠ some bt := by
    rcases hl4 with e | e
    · rw [e]; exact HWH.out.tw
    · rw [e]; intro q; have := HLT.out; have := Option.some.inj q; omega
  have HK4 : Hid (Wq B (w4.setCell ⟨wb, 1, none⟩ v') wb br bt bp n v' (upd R k) (Q ++ [(k : Int)]) T V P) := Hid.mk' (by
    have hn := HWH.out.ne
    have q : ∀ {u : Value} {k : Nat} {xs : List Value}, w4.ownsRow B 3 1 u k xs → some wb ≠ u.ownBlock := fun ho => blk_ne ho hb4 (fun c fz e => by cases e)
    exact ⟨set_blk _ hb4, hr4.keep (Below.heap_setCell _ _ _ _ (Ne.symm hn.1)), ht4.keep (Below.heap_setCell _ _ _ _ (Ne.symm hn.2.1)), hp4.keep (Below.heap_setCell _ _ _ _ (Ne.symm hn.2.2.1)), own_set _ ho' (q ho'), fun p hp => own_set _ (hpo p hp) (q (hpo p hp)), hap, HWH.out.pp, htw, HWH.out.tp, HWH.out.ge, HMM.out, HWH.out.nb⟩)
  have HB4 : Hid (Below B w (w4.setCell ⟨wb, 1, none⟩ v')) := Hid.mk' ((HB2.out.grown hg4 HBS.out (fun k hk => (HO.out.lt k hk).1)).setCell HWH.out.ge.1 _)
  obtain ⟨y4, c4, hv4, _⟩ := own_slice' ho4
  subst hv4
  clear ho4 hg4 hl4 no hb4 tw hW4 ho' hr4 ht4 hp4 hpo hap htw d1
  go_wp2
  go_end0
  exact ⟨⟨_, rfl⟩, _, HK4.out, HB4.out⟩
/-- Reach. -/
theorem reach_any (h : Wq B w wb br bt bp n vw R Q T V P) (z : Int) : Calls Tryd.prog 12 #[.pointer (some ⟨wb, 0, none⟩), .int .i64 z] w fun e w' => (∃ v, e = .returned v) ∧ ∃ vw' R' Q', Wq B w' wb br bt bp n vw' R' Q' T V P ∧ Ext n R R' Q Q' (fun i => (i : Int) = z) ∧ Below B w w' := by
  by_cases hz : z < 0 ∨ (n : Int) ≤ z ∨ ∃ k : Nat, z = (k : Int) ∧ k < n ∧ R k = true
  · refine (reach_skip h z hz).mono ?_
    rintro e w' ⟨he, rfl⟩
    refine ⟨he, vw, R, Q, h, Ext.refl n R Q (fun i hi e => ?_), Below.refl _ _⟩
    rcases hz with hz | hz | ⟨k, hz, _, hr⟩
    · omega
    · omega
    · obtain rfl : i = k := by omega
      exact hr
  · obtain ⟨k, rfl⟩ : ∃ k : Nat, z = (k : Int) := ⟨z.toNat, by have := fun q => hz (.inl q); omega⟩
    have hk : k < n := by have := fun q => hz (.inr (.inl q)); omega
    have hr : R k = false := by
      cases hh : R k with
      | false => rfl
      | true => exact absurd (.inr (.inr ⟨k, rfl, hk, hh⟩)) hz
    refine (reach_new h k hk hr).mono ?_
    rintro e w' ⟨he, vw', hw, hb⟩
    exact ⟨he, vw', _, _, hw, (Ext.one hk hr).of (fun i _ => by omega), hb⟩
set_option maxHeartbeats 1000000 in
set_option maxRecDepth 100000 in
theorem next_any {at' : Nat} (h : Wq B w wb br bt bp n vw R (Q ++ [(at' : Int)]) T V P) : Calls Tryd.prog 13 #[.pointer (some ⟨wb, 0, none⟩)] w fun e w' => e = .returned (.int .i64 (at' : Int)) ∧ ∃ vw', Wq B w' wb br bt bp n vw' R Q T V P ∧ Below B w w' := by
  obtain ⟨ql, hql⟩ : ∃ ql, Q.length = ql := ⟨_, rfl⟩
  have hl : (Q ++ [(at' : Int)]).length = ql + 1 := by simp [hql]
  have ho := h.own
  rw [hl] at ho
  obtain ⟨a, c, hv, _⟩ := own_slice' ho
  subst hv
  obtain ⟨g, rfl⟩ := own_some ho (by omega)
  obtain ⟨_, c1, _⟩ := h.cells
  have z1 := thaw_row _ _ _ _ h.blk 1
  have cg : w.cell? ⟨g, ql, none⟩ = some (.int .i64 (at' : Int)) := by
    have := ho.cells (g := g) rfl ql (.int .i64 (at' : Int)) (by simp [zs, ← hql])
    rw [Addr.add_lit] at this
    simpa using this
  have hgw : wb ≠ g := fun e => (blk_ne ho h.blk (fun c fz e => by cases e)) (by rw [e]; rfl)
  have hos := own_short ho ql (by omega) (by omega)
  have hz : (zs (Q ++ [(at' : Int)])).take ql = zs Q := by simp [zs, ← hql]
  rw [hz, ← hql] at hos
  have hcap : ql + 1 ≤ c := by
    rcases ho.2 with ⟨h0, _⟩ | ⟨g', cap, cur, h0, _, _, h1, _⟩
    · cases h0
    · simp only [Value.slice.injEq] at h0
      omega
  have hc1 : (ql : Int) ≤ (c : Int) := by omega
  have hm := h.m
  have hnb := h.nb
  rw [hl] at hm
  have q1 : (ql : Int) < 140737488351232 := by omega
  have HK : Hid (Wq B (w.setCell ⟨wb, 1, none⟩ (.slice (some ⟨g, 0, none⟩) ql c)) wb br bt bp n (.slice (some ⟨g, 0, none⟩) ql c) R Q T V P) := Hid.mk' (by
    rw [hql] at hos
    exact h.setW h.r (by rw [hql]; exact hos) h.ap h.tw (by omega))
  have HB : Hid (Below B w (w.setCell ⟨wb, 1, none⟩ (.slice (some ⟨g, 0, none⟩) ql c))) := Hid.mk' ((Below.refl _ _).setCell h.ge.1 _)
  clear h ho hos hz hl hql hm hnb hcap
  go_enter Tryd.func13, Tryd.ntmps13
  go_wp2
  go_ret
  exact ⟨rfl, _, HK.out, HB.out⟩
end
end Go.Proofs.YtcagfjogfbddeaaDoor

namespace Go.Proofs.YtcagfjogfbddeaaDoor
set_option linter.unusedVariables false
set_option linter.unusedSimpArgs false
open Go.RowKit Go.Shelf

theorem meas_less (a b : Nat) (h : a < b) : (intOf (.int .i64 (a : Int))).toNat < (intOf (.int .i64 (b : Int))).toNat := by simp [intOf]; omega
theorem anc_not {p : Nat} (h : 0 < p) : p ∉ anc (p / 2) := fun q => by have := anc_lt _ q; omega
section
variable {B : Nat} {w : World} {wb br bt bp n : Nat} {vw : Value} {R : Nat → Bool} {Q : List Int} {T : Nat → Int} {V : Nat → Value} {P : Nat → List Int}
theorem Wq.setP (h : Wq B w wb br bt bp n vw R Q T V P) (p : Nat) (hp : p < 2 * n) : Wq B (w.setCell ⟨bp, p, none⟩ (.slice none 0 0)) wb br bt bp n vw R Q T (fun q => if q = p then .slice none 0 0 else V q) (fun q => if q = p then [] else P q) := by
  obtain ⟨n1, n2, n3, n4, n5, n6⟩ := h.ne
  refine ⟨(Below.heap_setCell _ _ _ _ n3).trans h.blk, h.r.keep (Below.heap_setCell _ _ _ _ n5), h.t.keep (Below.heap_setCell _ _ _ _ n6), h.p.set p _, own_set _ h.own (own_ne h.own h.p (by decide)), fun q hq => ?_, fun q hq => ?_, fun q q' hq hq' hne => ?_, h.tw, fun q hq => ?_, h.ge, h.m, h.nb⟩
  · by_cases e : q = p
    · simp only [if_pos e]; exact World.ownsRow_nil _ _ _ _
    · simp only [if_neg e]; exact own_set _ (h.pown q hq) (own_ne (h.pown q hq) h.p (by decide))
  · by_cases e : q = p
    · simp only [if_pos e]
      cases hh : vw.ownBlock with
      | none => exact .inl rfl
      | some x => exact .inr (fun q => by cases q)
    · simp only [if_neg e]; exact h.ap q hq
  · by_cases e : q = p
    · simp only [if_pos e]; exact .inl rfl
    · by_cases e' : q' = p
      · simp only [if_neg e, if_pos e']
        cases hh : (V q).ownBlock with
        | none => exact .inl rfl
        | some x => exact .inr (fun q => by cases q)
      · simp only [if_neg e, if_neg e']; exact h.pp q q' hq hq' hne
  · by_cases e : q = p
    · simp only [if_pos e]; intro q; cases q
    · simp only [if_neg e]; exact h.tp q hq
theorem Wq.cong {V' : Nat → Value} {P' : Nat → List Int} (h : Wq B w wb br bt bp n vw R Q T V P) (hP : ∀ p, p < 2 * n → P' p = P p) : Wq B w wb br bt bp n vw R Q T V P' :=
  ⟨h.blk, h.r, h.t, h.p, h.own, fun p hp => by rw [hP p hp]; exact h.pown p hp, h.ap, h.pp, h.tw, h.tp, h.ge, h.m, h.nb⟩

set_option maxHeartbeats 2000000 in
set_option maxRecDepth 100000 in
theorem enter_any (h : Wq B w wb br bt bp n vw R Q T V P) (at' : Nat) (ha : at' < n) : Calls Tryd.prog 15 #[.pointer (some ⟨wb, 0, none⟩), .int .i64 (at' : Int)] w fun e w' => (∃ v, e = .returned v) ∧ ∃ vw' R' Q' V' P', Wq B w' wb br bt bp n vw' R' Q' T V' P' ∧ Ext n R R' Q Q' (fun i => ∃ p ∈ anc (at' + n), (i : Int) ∈ P p) ∧ (∀ p, p < 2 * n → P' p = if p ∈ anc (at' + n) then [] else P p) ∧ Below B w w' := by
  obtain ⟨c0, _, _, _⟩ := h.cells
  have nb := h.nb
  have HH := Hid.mk' h
  have HA := Hid.mk' ha
  have HNB := Hid.mk' nb
  obtain ⟨p0, hp0'⟩ : ∃ p0, at' + n = p0 := ⟨_, rfl⟩
  have hs : wrap64 ((at' : Int) + (n : Int)) = (p0 : Int) := by unfold wrap64; omega
  have HP00 := Hid.mk' hp0'
  clear h ha nb hp0'
  go_enter Tryd.func15, Tryd.ntmps15
  go_wp2_with fail
  rw [hs]
  clear c0 hs
  go_loopw [4] (fun pv wr => ∃ p : Nat, pv = .int .i64 (p : Int) ∧ p < 2 * n ∧ Hid (∀ q ∈ anc p, q ∈ anc (at' + n)) ∧ ∃ vw' R' Q' V' P', Hid (Wq B wr wb br bt bp n vw' R' Q' T V' P' ∧ Ext n R R' Q Q' (fun i => ∃ q, q ∈ anc (at' + n) ∧ q ∉ anc p ∧ (i : Int) ∈ P q) ∧ (∀ q, q < 2 * n → P' q = if q ∈ anc (at' + n) ∧ q ∉ anc p then [] else P q) ∧ Below B w wr)) (fun pv wr => (intOf pv).toNat)
  case atStart => exact ⟨p0, rfl, by have := HA.out; have := HP00.out; omega, Hid.mk' (fun q h => by rw [HP00.out]; exact h), vw, R, Q, V, P, Hid.mk' ⟨HH.out, Ext.refl n R Q (fun i _ ⟨q, h1, h2, _⟩ => absurd (by rw [← HP00.out]; exact h1) h2), fun q _ => by rw [if_neg (fun h => h.2 (by rw [← HP00.out]; exact h.1))], Below.refl _ _⟩⟩
  case round =>
    obtain ⟨p, rfl, hp, HAN, vw', R', Q', V', P', HW⟩ := hrel
    by_cases hp0 : 0 < p
    · have hW := HW.out.1
      obtain ⟨c0, _, _, c3⟩ := hW.cells
      have hPp : P' p = P p := by
        rw [HW.out.2.2.1 p hp, if_neg (fun h => h.2 (by rw [anc_step hp0]; exact List.mem_cons_self))]
      have ho := hW.pown p hp
      rw [hPp] at ho
      have cp := hW.p.cell hp
      obtain ⟨a, c, hv, _⟩ := own_slice' ho
      rw [hv] at cp ho
      obtain ⟨L, hL⟩ : ∃ L, (P p).length = L := ⟨_, rfl⟩
      rw [hL] at cp ho
      have HL := Hid.mk' hL
      have hcell : Hid (∀ (j : Nat), j < L → ∃ g, a = some ⟨g, 0, none⟩ ∧ g ≠ wb ∧ ∃ z, (P p)[j]? = some z ∧ ∀ W vx R2 Q2 T2, Wq B W wb br bt bp n vx R2 Q2 T2 V' P' → W.cell? ⟨g, j, none⟩ = some (.int .i64 z)) := Hid.mk' (fun j hj => by
        obtain ⟨g, rfl⟩ := own_some ho (by omega)
        refine ⟨g, rfl, fun e => (blk_ne ho hW.blk (fun c fz e => by cases e)) (by rw [← e]; rfl), (P p)[j]'(by omega), List.getElem?_eq_getElem (by omega), fun W vx R2 Q2 T2 hq => ?_⟩
        have ho2 := hq.pown p hp
        rw [hPp, hv] at ho2
        have := ho2.cells (g := g) rfl j (.int .i64 ((P p)[j]'(by omega))) (by simp [zs, List.getElem?_eq_getElem (show j < (P p).length by omega)])
        rw [Addr.add_lit] at this
        simpa using this)
      obtain ⟨N2, hN2⟩ : ∃ N2, 2 * n = N2 := ⟨_, rfl⟩
      rw [hN2] at c3
      have p1 : (p : Int) < (N2 : Int) := by omega
      have HN2 := Hid.mk' hN2
      have hLb : (L : Int) ≤ 9223372036854775807 := by
        rcases ho.2 with ⟨_, h0⟩ | ⟨g', cap, cur, h0, _, _, h1, h2, _⟩
        · omega
        · unfold maxLen at h2; omega
      have HP := Hid.mk' hp
      have HP0 := Hid.mk' hp0
      have HDV : Hid (Int.tdiv (p : Int) 2 = ((p / 2 : Nat) : Int)) := Hid.mk' (by rw [Int.tdiv_eq_ediv_of_nonneg (by omega)]; omega)
      clear hW hPp hv hL hp ho hN2
      go_wp2_with fail
      clear c0 c3 cp
      go_loopw [26] (fun jv wr => ∃ j : Nat, jv = .int .i64 (j : Int) ∧ j ≤ L ∧ ∃ v2 R2 Q2, Hid (Wq B wr wb br bt bp n v2 R2 Q2 T V' P' ∧ Ext n R' R2 Q' Q2 (fun i => (i : Int) ∈ (P p).take j) ∧ Below B w wr)) (fun jv wr => L - (intOf jv).toNat)
      case atStart => exact ⟨0, rfl, Nat.zero_le _, vw', R', Q', Hid.mk' ⟨HW.out.1, Ext.refl n R' Q' (fun i _ h => by simp at h), HW.out.2.2.2⟩⟩
      case round =>
        obtain ⟨j, rfl, hj, v2, R2, Q2, HW2⟩ := hrel
        by_cases hjt : j < L
        · obtain ⟨g, rfl, hgw, z, hz, hc⟩ := hcell.out j hjt
          have cj := hc _ _ _ _ _ HW2.out.1
          have HRA := Hid.mk' (reach_any HW2.out.1 z)
          have HZ := Hid.mk' hz
          have j1 : (j : Int) < (L : Int) := by omega
          have j2 : (j : Int) < 9223372036854775807 := by omega
          have HJ := Hid.mk' hjt
          clear hc hz hjt hj
          go_wp2_with fail
          refine HRA.out.mono ?_
          rintro e w3 ⟨⟨v3, rfl⟩, vw3, R3, Q3, hw3, he3, hb3⟩
          have HW3 : Hid (Wq B w3 wb br bt bp n vw3 R3 Q3 T V' P' ∧ Ext n R' R3 Q' Q3 (fun i => (i : Int) ∈ (P p).take (j + 1)) ∧ Below B w w3) := Hid.mk' ⟨hw3, (HW2.out.2.1.trans he3).of (fun i _ => by
            rw [List.take_add_one, List.mem_append, HZ.out]
            simp), HW2.out.2.2.trans hb3⟩
          clear hw3 he3 hb3 cj
          go_wp2
          exact ⟨⟨j + 1, by go_num, HJ.out, vw3, R3, Q3, HW3⟩, meas_up' L j HJ.out⟩
        · have j1 : ¬ (j : Int) < (L : Int) := by omega
          obtain rfl : j = L := by omega
          obtain ⟨c0, _, _, c3⟩ := HW2.out.1.cells
          rw [HN2.out] at c3
          have zp := HW2.out.1.p.thaw p
          have cp := HW2.out.1.p.cell HP.out
          have HWN : Hid (∃ v3 R3 Q3 V3 P3, Wq B (wr.setCell ⟨bp, p, none⟩ (.slice none 0 0)) wb br bt bp n v3 R3 Q3 T V3 P3 ∧ Ext n R R3 Q Q3 (fun i => ∃ q, q ∈ anc (at' + n) ∧ q ∉ anc (p / 2) ∧ (i : Int) ∈ P q) ∧ (∀ q, q < 2 * n → P3 q = if q ∈ anc (at' + n) ∧ q ∉ anc (p / 2) then [] else P q) ∧ Below B w (wr.setCell ⟨bp, p, none⟩ (.slice none 0 0))) := Hid.mk' (by
            have hpa : p ∈ anc (at' + n) := HAN.out p (by rw [anc_step HP0.out]; exact List.mem_cons_self)
            refine ⟨v2, R2, Q2, _, _, HW2.out.1.setP p HP.out, (HW.out.2.1.trans HW2.out.2.1).of (fun i _ => ?_), fun q hq => ?_, HW2.out.2.2.setCell HW2.out.1.ge.2.2.2 _⟩
            · rw [List.take_of_length_le (by have := HL.out; omega)]
              constructor
              · rintro (⟨q, h1, h2, h3⟩ | h)
                · exact ⟨q, h1, fun h => h2 (by rw [anc_step HP0.out]; exact List.mem_cons_of_mem _ h), h3⟩
                · exact ⟨p, hpa, anc_not HP0.out, h⟩
              · rintro ⟨q, h1, h2, h3⟩
                by_cases e : q = p
                · subst e; exact .inr h3
                · exact .inl ⟨q, h1, fun h => by
                    rw [anc_step HP0.out, List.mem_cons] at h
                    exact h.elim e h2, h3⟩
            · show (if q = p then [] else P' q) = _
              by_cases e : q = p
              · subst e
                rw [if_pos rfl, if_pos ⟨hpa, anc_not HP0.out⟩]
              · rw [if_neg e, HW.out.2.2.1 q hq]
                have e2 : q ∉ anc p ↔ q ∉ anc (p / 2) := by rw [anc_step HP0.out, List.mem_cons]; simp [e]
                simp only [e2])
          have HAN2 : Hid (∀ q ∈ anc (p / 2), q ∈ anc (at' + n)) := Hid.mk' (fun q hq => HAN.out q (by rw [anc_step HP0.out]; exact List.mem_cons_of_mem _ hq))
          obtain ⟨p', hp'⟩ : ∃ p', p / 2 = p' := ⟨_, rfl⟩
          rw [hp'] at HWN HAN2
          have hdv : Int.tdiv (p : Int) 2 = (p' : Int) := by rw [← hp']; exact HDV.out
          have HP' := Hid.mk' hp'
          have hwp : wrap64 (p' : Int) = (p' : Int) := by have := HNB.out; have := HP.out; unfold wrap64; omega
          clear hjt hj hp'
          go_wp2
          rw [hwp]
          have hw4 := HWN.out
          obtain ⟨v3, R3, Q3, V3, P3, hw⟩ := hw4
          exact ⟨⟨p', by first | go_num | rfl, by have := HP.out; have := HP'.out; omega, HAN2, v3, R3, Q3, V3, P3, Hid.mk' hw⟩, meas_less p' p (by have := HP0.out; have := HP'.out; omega)⟩
    · obtain rfl : p = 0 := by omega
      clear hp0 hp
      go_wp2
      go_end0
      exact ⟨⟨_, rfl⟩, vw', R', Q', V', P', HW.out.1, HW.out.2.1.of (fun i _ => by simp [anc_zero]), fun q hq => by rw [HW.out.2.2.1 q hq]; simp [anc_zero], HW.out.2.2.2⟩
end
end Go.Proofs.YtcagfjogfbddeaaDoor

namespace Go.Proofs.YtcagfjogfbddeaaDoor
set_option linter.unusedVariables false
set_option linter.unusedSimpArgs false
open Go.RowKit Go.Shelf

section
variable {B : Nat} {w : World} {wb br bt bp n : Nat} {vw : Value} {R : Nat → Bool} {Q : List Int} {T : Nat → Int} {V : Nat → Value} {P : Nat → List Int}
/-- One more at a part. -/
theorem Wq.app (h : Wq B w wb br bt bp n vw R Q T V P) (p : Nat) (hp : p < 2 * n) (a : Int) {X w5 : World} {v5 : Value} (hX : Below w.heap.size w X) (g5 : X.grownBy w5 (V p).ownBlock) (o5 : w5.ownsRow B 3 1 v5 ((P p).length + 1) (zs (P p) ++ [.int .i64 a])) (hl : v5.ownBlock = (V p).ownBlock ∨ v5.ownBlock = some X.heap.size) :
    (Wq B (w5.setCell ⟨bp, p, none⟩ v5) wb br bt bp n vw R Q T (fun q => if q = p then v5 else V q) (fun q => if q = p then P p ++ [a] else P q) ∧ Below B w (w5.setCell ⟨bp, p, none⟩ v5)) ∧ w5.cell? ⟨bp, p, none⟩ = some (V p) ∧ w5.frozen? ⟨bp, p, none⟩ = false ∧ w5.cell? ⟨wb, 3, none⟩ = some (.slice (some ⟨bp, 0, none⟩) (2 * n) (2 * n)) := by
  have hx := h.below hX
  obtain ⟨n1, n2, n3, n4, n5, n6⟩ := h.ne
  have hb5 : w5.heap[wb]? = _ := (g5.block _ (Array.getElem?_eq_some_iff.1 hx.blk).1 (blk_ne (hx.pown p hp) hx.blk (fun c fz e => by cases e))).trans hx.blk
  have hr5 := hx.r.keep (g5.block _ hx.r.lt (own_ne (hx.pown p hp) hx.r (by decide)))
  have ht5 := hx.t.keep (g5.block _ hx.t.lt (Ne.symm (h.tp p hp)))
  have hp5 := hx.p.keep (g5.block _ hx.p.lt (own_ne (hx.pown p hp) hx.p (by decide)))
  have fl : ∀ {u v : Value}, (u.ownBlock = none ∨ u.ownBlock ≠ v.ownBlock) → (v.ownBlock = none ∨ v.ownBlock ≠ u.ownBlock) := fun {u v} hh => by
    rcases hh with e | e
    · rw [e]
      cases hv : v.ownBlock with
      | none => exact .inl rfl
      | some x => exact .inr (fun q => by cases q)
    · exact .inr (Ne.symm e)
  have how5 : w5.ownsRow B 3 1 vw Q.length (zs Q) := hx.own.kept g5 (h.ap p hp)
  have hpo5 : ∀ q, q < 2 * n → q ≠ p → w5.ownsRow B 3 1 (V q) (P q).length (zs (P q)) := fun q hq hne => (hx.pown q hq).kept g5 (h.pp q p hq hp hne)
  have hbp : ∀ {u : Value} {k : Nat} {xs : List Value}, w5.ownsRow B 3 1 u k xs → some bp ≠ u.ownBlock := fun ho => own_ne ho hp5 (by decide)
  refine ⟨⟨⟨(Below.heap_setCell _ _ _ _ n3).trans hb5, hr5.keep (Below.heap_setCell _ _ _ _ n5), ht5.keep (Below.heap_setCell _ _ _ _ n6), hp5.set p _, own_set _ how5 (hbp how5), fun q hq => ?_, fun q hq => ?_, fun q q' hq hq' hne => ?_, h.tw, fun q hq => ?_, h.ge, h.m, h.nb⟩, ?_⟩, hp5.cell hp, hp5.thaw p, (cell_row _ _ 3 _ _ hb5).trans rfl⟩
  · by_cases e : q = p
    · subst e
      simp only [if_true]
      have e1 : (P q ++ [a]).length = (P q).length + 1 := by simp
      have e2 : zs (P q ++ [a]) = zs (P q) ++ [.int .i64 a] := by simp [zs]
      rw [e1, e2]
      exact own_set _ o5 (hbp o5)
    · simp only [if_neg e]; exact own_set _ (hpo5 q hq e) (hbp (hpo5 q hq e))
  · by_cases e : q = p
    · subst e
      simp only [if_true]
      rcases hl with e | e
      · rw [e]; exact h.ap q hq
      · rw [e]; exact .inr (fun k => by have := (hx.own.lt _ k).2; omega)
    · simp only [if_neg e]; exact h.ap q hq
  · by_cases e : q = p
    · have e' : q' ≠ p := fun k => hne (by rw [e, k])
      simp only [if_pos e, if_neg e']
      rcases hl with k | k
      · rw [k]; exact h.pp p q' hp hq' (fun k => e' k.symm)
      · rw [k]; exact .inr (fun k => by have := ((hx.pown q' hq').lt _ k.symm).2; omega)
    · by_cases e' : q' = p
      · simp only [if_neg e, if_pos e']
        rcases hl with k | k
        · rw [k]; exact h.pp q p hq hp e
        · rw [k]; exact .inr (fun k => by have := ((hx.pown q hq).lt _ k).2; omega)
      · simp only [if_neg e, if_neg e']; exact h.pp q q' hq hq' hne
  · by_cases e : q = p
    · simp only [if_pos e]
      rcases hl with k | k
      · rw [k]; exact h.tp p hp
      · rw [k]; intro k; have := hx.t.lt; have := Option.some.inj k; omega
    · simp only [if_neg e]; exact h.tp q hq
  · have hBs : B ≤ X.heap.size := Nat.le_trans h.size hX.size
    exact (((hX.mono h.size).grown g5 hBs (fun k hk => ((hx.pown p hp).lt k hk).1))).setCell h.ge.2.2.2 _
/-- What was laid so far of one that goes on at a. -/
structure Ly (B : Nat) (w wr : World) (wb br bt bp n x0 : Nat) (bx : Array Value) (ys : List (Nat × Obj)) (vw : Value) (R : Nat → Bool) (Q : List Int) (T : Nat → Int) (P : Nat → List Int) (a : Int) (k : Nat) (V' : Nat → Value) (P' : Nat → List Int) (D : List Nat) : Prop where
  wq : Wq B wr wb br bt bp n vw R Q T V' P'
  pl : ∀ q, q < 2 * n → P' q = P q ++ (if q ∈ D then [a] else [])
  k : ∀ q, q < 2 * n → (P q).length ≤ k
  bx : wr.heap[x0]? = some (.cells bx 59 (0, 0))
  ky : ∀ y ∈ ys, wr.heap[y.1]? = some y.2
  y1 : ∀ y ∈ ys, ∀ c fz, y.2 ≠ .cells c 3 fz
  y2 : ∀ y ∈ ys, ∀ c fz, y.2 ≠ .cells c 36 fz
  bl : Below B w wr
theorem Ly.app {wr X w5 : World} {v5 : Value} {a : Int} {k p x0 : Nat} {ys : List (Nat × Obj)} {bx : Array Value} {V' : Nat → Value} {P' : Nat → List Int} {D : List Nat} (h : Ly B w wr wb br bt bp n x0 bx ys vw R Q T P a k V' P' D) (hp : p < 2 * n) (hd : p ∉ D) (hX : Below wr.heap.size wr X) (g5 : X.grownBy w5 (V' p).ownBlock) (o5 : w5.ownsRow B 3 1 v5 ((P' p).length + 1) (zs (P' p) ++ [.int .i64 a])) (hl : v5.ownBlock = (V' p).ownBlock ∨ v5.ownBlock = some X.heap.size) :
    (∃ V2 P2, Ly B w (w5.setCell ⟨bp, p, none⟩ v5) wb br bt bp n x0 bx ys vw R Q T P a k V2 P2 (D ++ [p])) ∧ w5.cell? ⟨bp, p, none⟩ = some (V' p) ∧ w5.frozen? ⟨bp, p, none⟩ = false ∧ w5.cell? ⟨wb, 3, none⟩ = some (.slice (some ⟨bp, 0, none⟩) (2 * n) (2 * n)) := by
  obtain ⟨⟨h1, h2⟩, h3⟩ := h.wq.app p hp a hX g5 o5 hl
  refine ⟨⟨_, _, h1, fun q hq => ?_, h.k, ?_, ?_, h.y1, h.y2, h.bl.trans h2⟩, h3⟩
  · by_cases e : q = p
    · subst e
      simp only [if_true]
      rw [h.pl q hq, if_neg hd, if_pos (by simp)]
      simp
    · simp only [if_neg e]
      rw [h.pl q hq]
      simp [e]
  · have hbX := (hX.block _ (Array.getElem?_eq_some_iff.1 h.bx).1).trans h.bx
    have hx := h.wq.below hX
    have hb5 := (g5.block _ (Array.getElem?_eq_some_iff.1 hbX).1 (blk_ne (hx.pown p hp) hbX (fun c fz e => by cases e))).trans hbX
    exact (Below.heap_setCell _ _ _ _ (h.wq.p.ne h.bx (fun _ _ e => by cases e))).trans hb5
  · intro y hy
    have hbX := (hX.block _ (Array.getElem?_eq_some_iff.1 (h.ky y hy)).1).trans (h.ky y hy)
    have hx := h.wq.below hX
    have hb5 := (g5.block _ (Array.getElem?_eq_some_iff.1 hbX).1 (blk_ne (hx.pown p hp) hbX (h.y1 y hy))).trans hbX
    exact (Below.heap_setCell _ _ _ _ (h.wq.p.ne (h.ky y hy) (h.y2 y hy))).trans hb5
end
end Go.Proofs.YtcagfjogfbddeaaDoor
