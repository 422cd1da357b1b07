/- CheckReach: the law's walk. -/
import Derived.Test.YtcagfjogfbddeaaDoorCrO
import Derived.Test.YtcagfjogfbddeaaDoorCrT
import Derived.Test.YtcagfjogfbddeaaDoorCrK
import Derived.Test.YtcagfjogfbddeaaDoorCrS
import Derived.Test.YtcagfjogfbddeaaDoorCrG
namespace Go.Proofs.YtcagfjogfbddeaaDoor
set_option linter.unusedVariables false
set_option linter.unusedSimpArgs false
open Go.RowKit Go.Shelf
attribute [local go_sem] Oper.semAt_some

theorem rch_result {n : Nat} {tmps : Array Value} {w w' : World} {ra : Nat} (h4 : tmps[2]? = some (.pointer (some ⟨ra, 0, none⟩))) (hc : w'.cell? ⟨ra, 0, none⟩ = some (.bool true)) (hb : Below w.heap.size w w') :
    LeavesInM Fence.wide n Tryd.prog Tryd.f3 tmps (fun e w' => e = .returned (.bool true) ∧ Below w.heap.size w w') [] .returning w' := by
  have ht : tmps[2]?.getD undef = .pointer (some ⟨ra, 0, none⟩) := by rw [h4]; rfl
  refine ⟨.bool true, ?_, rfl, hb⟩
  simp [results, Tryd.results3, go_sem, ht, hc]
theorem kf_set' {B b : Nat} (W : World) (v : Value) (h : b < B) : KF B W (W.setCell ⟨b, 0, none⟩ v) := ⟨by simp [World.setCell], fun k o hk ho => (Below.heap_setCell _ _ _ _ (by show k ≠ b; omega)).trans ho⟩
theorem pre_at {α : Type} {L pre : List α} {y : α} (hlt : pre.length < L.length) (h : (pre ++ [y]) <+: L) : L[pre.length] = y := by
  obtain ⟨r, rfl⟩ := h
  simp
theorem rch_ends {n : Nat} {tmps : Array Value} {w U : World} {ra E E2 : Nat} (h4 : tmps[2]? = some (.pointer (some ⟨ra, 0, none⟩))) (hr : Boxed U ra 4 (.bool true)) (hb : Below w.heap.size w U) (k2 : U.heap[E2]? = some (.deferred (some []))) (k1 : U.heap[E]? = some (.deferred (some []))) (hw : w.heap.size ≤ E) (hE : ra < E) (hE2 : E < E2) :
    LeavesInM Fence.wide n Tryd.prog Tryd.f3 tmps (fun e w' => e = .returned (.bool true) ∧ Below w.heap.size w w') [{ target := .collected E2, args := #[] }, { target := .collected E, args := #[] }] .returning U := by
  have r2 : Boxed (U.putObj E2 (.deferred none)) ra 4 (.bool true) := (World.putObj_heap_other (by omega)).trans hr
  have r1 : Boxed ((U.putObj E2 (.deferred none)).putObj E (.deferred none)) ra 4 (.bool true) := (World.putObj_heap_other (by omega)).trans r2
  have kd : (U.putObj E2 (.deferred none)).heap[E]? = some (.deferred (some [])) := (World.putObj_heap_other (by omega)).trans k1
  refine ⟨by simp, .inl ⟨_, _, rfl, run_takeDeferred k2, ?_⟩⟩
  refine ⟨by simp, .inl ⟨_, _, rfl, run_takeDeferred kd, ?_⟩⟩
  exact rch_result h4 r1.cell ((hb.trans (belowK_b (w := w) (Nat.le_refl _) U E2 _ _ (by omega) k2 rfl rfl)).trans (belowK_b (w := w) (Nat.le_refl _) _ E _ _ (by omega) kd rfl rfl))
theorem eqj_nil (W : World) (f : Nat) (b : Value) : (binOp .eql 40 (.func (.func f) #[] #[b]) .nilFunc).run Tryd.prog W = .ok (.bool false) W := by
  kernel_rfl
/-- What lies in memory when the jumps are told. -/
structure Rl (w : World) (B B2 ra x6 x7 ba : Nat) (va vt vj : Value) (L : List (Nat × Int)) (W : World) : Prop where
  res : Boxed W ra 4 (.bool false)
  b6 : Boxed W x6 36 va
  b7 : Boxed W x7 36 vt
  oa : W.ownsRow B 3 1 va L.length (zs (L.map fun p => (p.1 : Int)))
  ot : W.ownsRow B 3 1 vt L.length (zs (L.map fun p => p.2))
  bj : W.heap[ba]? = some (.cells #[vj] 60 (0, 0))
  oj : W.ownsRow B2 66 2 vj L.length (jc L)
  be : Below w.heap.size w W
  rl : ra < B2
  wr : w.heap.size ≤ ra
theorem Rl.below {w W W' : World} {B B2 ra x6 x7 ba : Nat} {va vt vj : Value} {L : List (Nat × Int)} (h : Rl w B B2 ra x6 x7 ba va vt vj L W) (hb : Below W.heap.size W W') : Rl w B B2 ra x6 x7 ba va vt vj L W' :=
  ⟨(hb.block _ h.res.lt).trans h.res, (hb.block _ h.b6.lt).trans h.b6, (hb.block _ h.b7.lt).trans h.b7, own_below h.oa hb, own_below h.ot hb, (hb.block _ (Array.getElem?_eq_some_iff.1 h.bj).1).trans h.bj, own_below h.oj hb, h.be.trans (hb.mono h.be.size), h.rl, h.wr⟩
theorem Rl.jumps {w W : World} {B B2 ra x6 x7 ba Bk : Nat} {va vt vj : Value} {L : List (Nat × Int)} (h : Rl w B B2 ra x6 x7 ba va vt vj L W) (hl : L.length < 100000000000000) (hne : some Bk ≠ vj.ownBlock) : RdJ Bk W vj L := RdJ.of h.oj hl hne
theorem Rl.ats {w W : World} {B B2 ra x6 x7 ba : Nat} {va vt vj : Value} {L : List (Nat × Int)} (h : Rl w B B2 ra x6 x7 ba va vt vj L W) (k : Nat) (hk : k < L.length) : ∃ ga ca gt ct, va = .slice (some ⟨ga, 0, none⟩) L.length ca ∧ vt = .slice (some ⟨gt, 0, none⟩) L.length ct ∧ W.cell? ⟨ga, k, none⟩ = some (.int .i64 (L[k].1 : Int)) ∧ W.cell? ⟨gt, k, none⟩ = some (.int .i64 L[k].2) ∧ L.length ≤ ca ∧ L.length ≤ ct := by
  obtain ⟨a, ca, hva, _⟩ := own_slice' h.oa
  obtain ⟨t, ct, hvt, _⟩ := own_slice' h.ot
  have ho := h.oa
  have ht := h.ot
  subst hva hvt
  obtain ⟨ga, rfl⟩ := own_some ho (by omega)
  obtain ⟨gt, rfl⟩ := own_some ht (by omega)
  have c1 := ho.cells (g := ga) rfl k (.int .i64 (L[k].1 : Int)) (by simp [zs, hk])
  have c2 := ht.cells (g := gt) rfl k (.int .i64 L[k].2) (by simp [zs, hk])
  rw [Addr.add_lit] at c1 c2
  refine ⟨ga, ca, gt, ct, rfl, rfl, by simpa using c1, by simpa using c2, ?_, ?_⟩
  · rcases ho.2 with ⟨e, _⟩ | ⟨g', cap', cur', e, _, _, hcap, _⟩
    · simp at e
    · simp at e; omega
  · rcases ht.2 with ⟨e, _⟩ | ⟨g', cap', cur', e, _, _, hcap, _⟩
    · simp at e
    · simp at e; omega
theorem Rl.len {w W : World} {B B2 ra x6 x7 ba : Nat} {va vt vj : Value} {L : List (Nat × Int)} (h : Rl w B B2 ra x6 x7 ba va vt vj L W) : ∃ a c, va = .slice a L.length c := by
  obtain ⟨a, ca, hva, _⟩ := own_slice' h.oa
  exact ⟨a, ca, hva⟩

theorem Rl.ne {w W : World} {B B2 ra x6 x7 ba : Nat} {va vt vj : Value} {L : List (Nat × Int)} (h : Rl w B B2 ra x6 x7 ba va vt vj L W) : some ra ≠ vj.ownBlock := fun e => by
  have := (h.oj.lt _ e.symm).1
  have := h.rl
  omega
theorem Rl.ne' {w W : World} {B B2 ra x6 x7 ba : Nat} {va vt vj : Value} {L : List (Nat × Int)} (h : Rl w B B2 ra x6 x7 ba va vt vj L W) {k : Nat} (hk : W.heap.size ≤ k) : some k ≠ vj.ownBlock := fun e => by
  have := (h.oj.lt _ e.symm).2
  omega
theorem rows_meet {w4 w5 W2 : World} {b3 b4 n : Nat} {R S : Nat → Bool} {P : Nat → Prop} (h1 : RowF w4 b3 4 n (fun i => .bool (R i))) (h2 : RowF w5 b4 4 n (fun i => .bool (S i))) (e1 : ∀ i, i < n → (R i = true ↔ P i)) (e2 : ∀ i, i < n → (S i = true ↔ P i)) (B4 : Below W2.heap.size W2 w4) (b5 : Below w4.heap.size w4 w5) :
    RowF w5 b3 4 n (fun i => .bool (R i)) ∧ RowF w5 b4 4 n (fun i => .bool (S i)) ∧ (∀ i, i < n → R i = S i) ∧ Below W2.heap.size W2 w5 :=
  ⟨h1.keep (b5.block _ h1.lt), h2, fun i hi => Bool.eq_iff_iff.2 ((e1 i hi).trans (e2 i hi).symm), B4.trans (b5.mono B4.size)⟩
theorem two_boxes (w : World) (t : TypeId) (va vt : Value) : Boxed ((w.alloc (.cells #[va] t)).alloc (.cells #[vt] t)) w.heap.size t va ∧ Boxed ((w.alloc (.cells #[va] t)).alloc (.cells #[vt] t)) (w.heap.size + 1) t vt ∧ Below w.heap.size w ((w.alloc (.cells #[va] t)).alloc (.cells #[vt] t)) := by
  have hA : Boxed (w.alloc (.cells #[va] t)) w.heap.size t va := Boxed.new _ _ _
  have hB : Boxed ((w.alloc (.cells #[va] t)).alloc (.cells #[vt] t)) (w.heap.size + 1) t vt := by have := Boxed.new (w.alloc (.cells #[va] t)) t vt; simpa using this
  exact ⟨at_old hA.lt hA, hB, (lay_below).alloc (by simp) _⟩
set_option maxHeartbeats 40000000 in
set_option maxRecDepth 100000 in
theorem reach_law (q : FW) (w : World) (hrd : q.rd w) (hfi : Fine' q.f) (hl : LaidL w) :
    Calls Tryd.prog 3 #[.agg q.cs.toArray] w fun e w' => e = .returned (.bool true) ∧ Below w.heap.size w w' := by
  have hile := hrd.i.le
  have hicl : q.yc * (5 * 8) ≤ 140737488351232 := hrd.i.cle
  have HMO := Hid.mk' (fun (W : World) (hW : Below w.heap.size w W) (g : Nat) (hg : W.heap[g]? = some (.cells q.cs.toArray 28 (0, 0))) => few_any W (Md.one (c := 1) (by omega) (by omega) hg (hrd.below hW) hfi))
  have HRE := Hid.mk' (fun (W : World) (hW : Below w.heap.size w W) => reach_all q W (hrd.below hW).i (fun W' hW' => newWalker_any q W' ((hrd.below hW).below hW') ((hl.below' hW).below' hW')))
  have HRR := Hid.mk' (fun (W : World) (hW : Below w.heap.size w W) => rreach_any q W (hrd.below hW))
  have HTA := Hid.mk' (fun (W : World) (hW : Below w.heap.size w W) => targets_any q W (hrd.below hW).i (hl.below' hW))
  have HRT := Hid.mk' (fun (W : World) (hW : Below w.heap.size w W) => rtargets_any q W (hrd.below hW).i)
  have HLT := Hid.mk' (tgL_len q.f q.f.code.length)
  obtain ⟨f, hf⟩ : ∃ f, q.f = f := ⟨_, rfl⟩
  obtain ⟨n, hn⟩ : ∃ n, q.f.code.length = n := ⟨_, rfl⟩
  rw [hn] at hile HRE HRR HTA HRT HLT
  simp only [hf] at HRE HRR HTA HRT HLT
  obtain ⟨⟨f1, f2, f3, f4, f5, cs, is, ts, us⟩, xa, xc, ya, yc, za, zc, ua, uc⟩ := q
  simp only [FW.cs] at HMO HRE HRR HTA HRT ⊢
  dsimp only at hile hicl hn hf
  obtain ⟨m1, hm1⟩ : ∃ m, cs.length = m := ⟨_, rfl⟩
  obtain ⟨m3, hm3⟩ : ∃ m, ts.length = m := ⟨_, rfl⟩
  obtain ⟨m4, hm4⟩ : ∃ m, us.length = m := ⟨_, rfl⟩
  rw [hn, hm1, hm3, hm4] at HMO HRE HRR HTA HRT
  rw [hn, hm1, hm3, hm4]
  obtain ⟨L, hL⟩ : ∃ L, tgL f n = L := ⟨_, rfl⟩
  rw [hL] at HTA HRT HLT
  have HLL : Hid ((L.length : Int) < 100000000000000 ∧ L.length < 100000000000000) := Hid.mk' (by have := HLT.out; omega)
  obtain ⟨W1, hW1⟩ : ∃ W1, w.alloc (.cells #[.string f1, .int .i64 f2, .bool f3, .bool f4, .int .i64 f5, .slice xa m1 xc, .slice ya n yc, .slice za m3 zc, .slice ua m4 uc] 28) = W1 := ⟨_, rfl⟩
  have b1 : Below w.heap.size w W1 := by rw [← hW1]; exact lay_below
  have q1 : W1.heap[w.heap.size]? = some (.cells #[.string f1, .int .i64 f2, .bool f3, .bool f4, .int .i64 f5, .slice xa m1 xc, .slice ya n yc, .slice za m3 zc, .slice ua m4 uc] 28 (0, 0)) := by rw [← hW1]; exact box_new
  obtain ⟨b0, hb0⟩ : ∃ b0, w.heap.size = b0 := ⟨_, rfl⟩
  have HS0 := Hid.mk' hb0
  rw [hb0] at q1
  have s1 : W1.heap.size = b0 + 1 := by rw [← hW1, ← hb0]; simp
  obtain ⟨W2, hW2⟩ : ∃ W2, W1.alloc (.cells #[.bool false] 4) = W2 := ⟨_, rfl⟩
  have b2 : Below W1.heap.size W1 W2 := by rw [← hW2]; exact lay_below
  have q2 : W2.heap[b0 + 1]? = some (.cells #[.bool false] 4 (0, 0)) := by rw [← s1, ← hW2]; exact box_new
  have q12 := (b2.block b0 (by omega)).trans q1
  have B2 : Below w.heap.size w W2 := b1.trans (b2.mono b1.size)
  have HH : Hid ((w.alloc (.cells #[.string f1, .int .i64 f2, .bool f3, .bool f4, .int .i64 f5, .slice xa m1 xc, .slice ya n yc, .slice za m3 zc, .slice ua m4 uc] 28)).alloc (.cells #[.bool false] 4) = W2) := Hid.mk' (by rw [hW1]; exact hW2)
  have hb1 : b0 < W2.heap.size := (Array.getElem?_eq_some_iff.1 q12).1
  obtain ⟨ra, hra⟩ : ∃ ra, b0 + 1 = ra := ⟨_, rfl⟩
  rw [hra] at q2
  have HB2 := Hid.mk' B2
  have HRA : Hid (∀ W, Below W2.heap.size W2 W → Boxed W ra 4 (.bool false)) := Hid.mk' (fun W hW => (hW.block ra (Array.getElem?_eq_some_iff.1 q2).1).trans q2)
  have HCF : Hid (∀ W, Below W2.heap.size W2 W → ∀ k v, (#[.string f1, .int .i64 f2, .bool f3, .bool f4, .int .i64 f5, .slice xa m1 xc, .slice ya n yc, .slice za m3 zc, .slice ua m4 uc] : Array Value)[k]? = some v → W.cell? ⟨b0, k, none⟩ = some v) := Hid.mk' (fun W hW k v hv => (hW.cell (p := ⟨b0, k, none⟩) hb1).trans ((cell_row _ _ k _ _ q12).trans hv))
  have HAW := Hid.mk' (awake_any W2 (hl.below' B2))
  have HN9 : Hid (n * 40 ≤ 140737488351232) := Hid.mk' (by omega)
  clear hrd hfi hl hile hicl hn hf hm1 hm3 hm4 hL b1 q1 b2 q2 q12 B2 hb1 s1 hW1 hW2 HLT
  refine (callsIn_wide (n := 8)).1 ?_
  refine callsIn_of_wp_marks Tryd.func3 rfl trivial ?_ rfl
  refine wpIn_wide.2 ?_
  simp only [Tryd.ntmps3, List.size_toArray, List.length_cons, List.length_nil, Nat.reduceAdd, Nat.reduceSub, Array.replicate_succ, Array.replicate_zero, List.push_toArray, List.append_toArray, List.nil_append, List.cons_append]
  go_upto_region 1 with fail
  rw [HH.out]
  (try rw [hra])
  clear HH
  go_wp2_with fail
  refine HAW.out.mono ?_
  rintro e w2 ⟨rfl, b2⟩
  have a0 := HCF.out w2 (b2) 0 _ rfl
  have a1 := HCF.out w2 (b2) 1 _ rfl
  have a2 := HCF.out w2 (b2) 2 _ rfl
  have a3 := HCF.out w2 (b2) 3 _ rfl
  have a4 := HCF.out w2 (b2) 4 _ rfl
  have a5 := HCF.out w2 (b2) 5 _ rfl
  have a6 := HCF.out w2 (b2) 6 _ rfl
  have a7 := HCF.out w2 (b2) 7 _ rfl
  have a8 := HCF.out w2 (b2) 8 _ rfl
  have HD2 := Hid.mk' b2
  obtain ⟨W3, hW3⟩ : ∃ W3, w2.alloc (.cells #[.string f1, .int .i64 f2, .bool f3, .bool f4, .int .i64 f5, .slice xa m1 xc, .slice ya n yc, .slice za m3 zc, .slice ua m4 uc] 28) = W3 := ⟨_, rfl⟩
  have b3 : Below w2.heap.size w2 W3 := by rw [← hW3]; exact lay_below
  have q3 : W3.heap[w2.heap.size]? = some (.cells #[.string f1, .int .i64 f2, .bool f3, .bool f4, .int .i64 f5, .slice xa m1 xc, .slice ya n yc, .slice za m3 zc, .slice ua m4 uc] 28 (0, 0)) := by rw [← hW3]; exact box_new
  have HD3 := Hid.mk' (b2.trans (b3.mono b2.size))
  have HF3 := Hid.mk' (HMO.out W3 (HB2.out.trans (HD3.out.mono HB2.out.size)) _ q3)
  have HH3 := Hid.mk' hW3
  clear b2 b3 q3 hW3 HAW HMO
  go_wp2_with fail
  rw [HH3.out]
  refine HF3.out.mono ?_
  rintro e w3 ⟨v, rfl, ⟨b, rfl⟩, b3⟩
  have HD4 := Hid.mk' (HD3.out.trans (b3.mono HD3.out.size))
  clear b3 HH3 HF3 a0 a1 a2 a3 a4 a5 a6 a7 a8
  have rc := (HRA.out w3 HD4.out).cell
  have rf := (HRA.out w3 HD4.out).frozen
  cases b with
  | false =>
    go_wp2
    exact rch_result rfl (World.cell?_setCell_same _ _ _ rc) ((HB2.out.trans (HD4.out.mono HB2.out.size)).setCell (p := ⟨ra, 0, none⟩) (by have := HS0.out; show w.heap.size ≤ ra; omega) _)
  | true =>
    clear rc rf
    have a0 := HCF.out w3 (HD4.out) 0 _ rfl
    have a1 := HCF.out w3 (HD4.out) 1 _ rfl
    have a2 := HCF.out w3 (HD4.out) 2 _ rfl
    have a3 := HCF.out w3 (HD4.out) 3 _ rfl
    have a4 := HCF.out w3 (HD4.out) 4 _ rfl
    have a5 := HCF.out w3 (HD4.out) 5 _ rfl
    have a6 := HCF.out w3 (HD4.out) 6 _ rfl
    have a7 := HCF.out w3 (HD4.out) 7 _ rfl
    have a8 := HCF.out w3 (HD4.out) 8 _ rfl
    go_upto_region 5 with fail
    go_cut [3, 4] from 12 (fun v3 v4 wc => ∃ (b3 b4 : Nat) (R S : Nat → Bool), v3 = .slice (some ⟨b3, 0, none⟩) n n ∧ v4 = .slice (some ⟨b4, 0, none⟩) n n ∧ Hid (RowF wc b3 4 n (fun i => .bool (R i)) ∧ RowF wc b4 4 n (fun i => .bool (S i)) ∧ (∀ i, i < n → R i = S i) ∧ Below W2.heap.size W2 wc))
    case first =>
      refine region_only' (n := 0) ?_
      go_region_with (first
        | (go_at_call 6; refine (HRE.out _ ((HB2.out.trans (HD4.out.mono HB2.out.size)).drew)).mono ?_; rintro e w4 ⟨b3, R, rfl, hR, eR, b4⟩; have B4 : Below W2.heap.size W2 w4 := HD4.out.drew.trans (b4.mono HD4.out.drew.size); have HR4 := Hid.mk' hR; have HE4 := Hid.mk' eR; have HB4 := Hid.mk' B4; have c0 := HCF.out w4 B4 0 _ rfl; have c1 := HCF.out w4 B4 1 _ rfl; have c2 := HCF.out w4 B4 2 _ rfl; have c3 := HCF.out w4 B4 3 _ rfl; have c4 := HCF.out w4 B4 4 _ rfl; have c5 := HCF.out w4 B4 5 _ rfl; have c6 := HCF.out w4 B4 6 _ rfl; have c7 := HCF.out w4 B4 7 _ rfl; have c8 := HCF.out w4 B4 8 _ rfl; clear hR eR B4 b4)
        | (go_at_call 7; refine (HRR.out _ (HB2.out.trans (HB4.out.mono HB2.out.size))).mono ?_; rintro e w5 ⟨b4, S, rfl, hS, eS, b5⟩; have HM := Hid.mk' (rows_meet HR4.out hS HE4.out eS HB4.out b5); clear hS eS b5))
      all_goals
        go_wp2_with fail
        go_meet
        exact ⟨_, _, _, _, rfl, rfl, HM⟩
    case rest =>
      obtain ⟨b3, b4, R, S, rfl, rfl, HR⟩ := hcut
      have hnn : ((n : Int) != (n : Int)) = false := by simp
      clear a0 a1 a2 a3 a4 a5 a6 a7 a8 HRE HRR HD2 HD3 HD4
      go_wp2_with fail
      go_loopw [30] (fun v wr => ∃ i : Nat, v = .int .i64 (i : Int) ∧ i ≤ n ∧ Hid (RowF wr b3 4 n (fun i => .bool (R i)) ∧ RowF wr b4 4 n (fun i => .bool (S i)) ∧ (∀ i, i < n → R i = S i) ∧ Below W2.heap.size W2 wr)) (fun v wr => n - (intOf v).toNat)
      case atStart => exact ⟨0, rfl, Nat.zero_le _, HR⟩
      case round =>
        obtain ⟨i, rfl, hi, HQ⟩ := hrel
        by_cases hlt : i < n
        · have i1 : (i : Int) < (n : Int) := by omega
          have i2 : (0 : Int) ≤ (i : Int) := by omega
          have d3 := HQ.out.1.cell hlt
          have d4 := HQ.out.2.1.cell hlt
          have e3 := HQ.out.2.2.1 i hlt
          simp only [← e3] at d4
          have HLI := Hid.mk' hlt
          have hbn : (i : Int) < 100000000000000 := by have := HN9.out; omega
          clear hi hlt e3
          cases R i with
          | true =>
            go_upto_region 11 with fail
            go_quiet (fail)
            go_wp2
            exact ⟨⟨i + 1, by go_num, HLI.out, Hid.mk' ⟨HQ.out.1.keep rfl, HQ.out.2.1.keep rfl, HQ.out.2.2.1, HQ.out.2.2.2.trans (kept_drewN _ 0 _ _).1⟩⟩, meas_up' n i HLI.out⟩
          | false =>
            go_upto_region 11 with fail
            go_quiet (fail)
            go_wp2
            exact ⟨⟨i + 1, by go_num, HLI.out, Hid.mk' ⟨HQ.out.1.keep rfl, HQ.out.2.1.keep rfl, HQ.out.2.2.1, HQ.out.2.2.2.trans (kept_drewN _ 0 _ _).1⟩⟩, meas_up' n i HLI.out⟩
        · have i1 : ¬ (i : Int) < (n : Int) := by omega
          have HBQ := Hid.mk' HQ.out.2.2.2
          have a0 := HCF.out wr (HBQ.out) 0 _ rfl
          have a1 := HCF.out wr (HBQ.out) 1 _ rfl
          have a2 := HCF.out wr (HBQ.out) 2 _ rfl
          have a3 := HCF.out wr (HBQ.out) 3 _ rfl
          have a4 := HCF.out wr (HBQ.out) 4 _ rfl
          have a5 := HCF.out wr (HBQ.out) 5 _ rfl
          have a6 := HCF.out wr (HBQ.out) 6 _ rfl
          have a7 := HCF.out wr (HBQ.out) 7 _ rfl
          have a8 := HCF.out wr (HBQ.out) 8 _ rfl
          clear hi hlt HQ HR
          go_wp2_with fail
          refine (HRT.out _ (HB2.out.trans (HBQ.out.mono HB2.out.size))).mono ?_
          rintro e w6 ⟨V, rfl, va, vt, rfl, oa, ot, b6⟩
          have HD6 := Hid.mk' (HBQ.out.trans (b6.mono HBQ.out.size))
          have HOA := Hid.mk' oa
          have HOT := Hid.mk' ot
          obtain ⟨av, cv, hva, _⟩ := own_slice' oa
          obtain ⟨at', ct', hvt, _⟩ := own_slice' ot
          subst hva hvt
          clear oa ot b6 a0 a1 a2 a3 a4 a5 a6 a7 a8
          obtain ⟨ln, hln⟩ : ∃ ln, L.length = ln := ⟨_, rfl⟩
          have HLN := Hid.mk' hln
          rw [hln] at HOA HOT ⊢
          obtain ⟨bx6, bx7, bz⟩ := two_boxes w6 36 (.slice av ln cv) (.slice at' ln ct')
          obtain ⟨W7, hW7⟩ : ∃ W7, (w6.alloc (.cells #[.slice av ln cv] 36)).alloc (.cells #[.slice at' ln ct'] 36) = W7 := ⟨_, rfl⟩
          rw [hW7] at bx6 bx7 bz
          have HD7 := Hid.mk' (HD6.out.trans (bz.mono HD6.out.size))
          have HB6 := Hid.mk' bx6
          have HB7 := Hid.mk' bx7
          have HO7 : Hid (W7.ownsRow wr.heap.size 3 1 (.slice av ln cv) ln (zs (L.map fun p => (p.1 : Int))) ∧ W7.ownsRow wr.heap.size 3 1 (.slice at' ln ct') ln (zs (L.map fun p => p.2))) := Hid.mk' ⟨own_below HOA.out bz, own_below HOT.out bz⟩
          have HH7 := Hid.mk' hW7
          have HT7 := Hid.mk' (HTA.out W7 (HB2.out.trans (HD7.out.mono HB2.out.size)))
          have c0 := HCF.out W7 (HD7.out) 0 _ rfl
          have c1 := HCF.out W7 (HD7.out) 1 _ rfl
          have c2 := HCF.out W7 (HD7.out) 2 _ rfl
          have c3 := HCF.out W7 (HD7.out) 3 _ rfl
          have c4 := HCF.out W7 (HD7.out) 4 _ rfl
          have c5 := HCF.out W7 (HD7.out) 5 _ rfl
          have c6 := HCF.out W7 (HD7.out) 6 _ rfl
          have c7 := HCF.out W7 (HD7.out) 7 _ rfl
          have c8 := HCF.out W7 (HD7.out) 8 _ rfl
          clear bx6 bx7 bz hW7 HTA HRT HOA HOT hln
          go_upto_region 15 with fail
          rw [HH7.out]
          go_wp2_with fail
          refine HT7.out.mono ?_
          rintro e w9 ⟨ba, rfl, hba, vj, bj, oj, b9⟩
          have HSW : Hid (Rl w wr.heap.size W7.heap.size ra w6.heap.size (w6.heap.size + 1) ba (.slice av ln cv) (.slice at' ln ct') vj L w9) := Hid.mk' ⟨HRA.out w9 (HD7.out.trans (b9.mono HD7.out.size)), (b9.block _ HB6.out.lt).trans HB6.out, (b9.block _ HB7.out.lt).trans HB7.out, by rw [HLN.out]; exact own_below HO7.out.1 b9, by rw [HLN.out]; exact own_below HO7.out.2 b9, bj, oj, (HB2.out.trans (HD7.out.mono HB2.out.size)).trans (b9.mono (HB2.out.trans (HD7.out.mono HB2.out.size)).size), (HRA.out W7 HD7.out).lt, by have := HS0.out; omega⟩
          have hnil := eqj_nil
          clear hba bj oj b9 HT7 HO7 HB6 HB7 HH7 HD6 HD7 HBQ c0 c1 c2 c3 c4 c5 c6 c7 c8
          go_wp2_with fail
          have lW : ra < w9.heap.size := HSW.out.res.lt
          refine (wpIn_wide (n := 8)).1 ?_
          refine range_p (by omega) (gf := 22) (lb := #[.pointer (some ⟨ba, 0, none⟩)]) rfl (enters_of Tryd.func22 (by kernel_rfl) rfl)
            (targets_stops (8 - 1) ba ra w9 L encJ (fun _ _ => rfl) vj ((cell_row _ _ 0 _ _ HSW.out.bj).trans rfl) (HSW.out.jumps HLL.out.2 HSW.out.ne)) lW (Below.refl _ _) (fun _ => rfl)
            (fun _ V => Below w9.heap.size w9 V) (fun cd _ V => cd = .exit 2 ∧ Below w9.heap.size w9 V) (ownFrom_below (Nat.le_refl _) (Nat.le_refl _))
            (fun cd s A C row hs hgr hr => ⟨hs.1, ownFrom_below (β := Unit) (Nat.le_refl _) (Nat.le_refl _) () A C row hs.2 hgr hr⟩) (Below.refl _ _) ?round1 ?done1 ?stop1
          case round1 =>
            intro l pre y V Vb _ hIb _
            gi_wp2
            refine ⟨trivial, ?_⟩
            gi_wp2
            exact ⟨KF.refl _ _, rfl, hIb⟩
          case stop1 =>
            rintro E cd pre V hE _ ⟨rfl, bV⟩ hK
            refine wpIn_wide.2 ?_
            have HSV := Hid.mk' (HSW.out.below bV)
            have lE : E < V.heap.size := (Array.getElem?_eq_some_iff.1 hK).1
            have HKV := Hid.mk' hK
            have HEE := Hid.mk' hE
            clear HSW bV hK hE
            go_wp2
            obtain ⟨Wk, hWk⟩ : ∃ Wk, V.alloc (.cells #[.int .i64 0] 3) = Wk := ⟨_, rfl⟩
            have bk0 : Below V.heap.size V Wk := by rw [← hWk]; exact (Below.refl _ _).alloc (Nat.le_refl _) _
            have bI : Boxed Wk V.heap.size 3 (.int .i64 0) := by rw [← hWk]; exact Boxed.new _ _ _
            rw [hWk]
            have lk : V.heap.size < Wk.heap.size := bI.lt
            clear hWk
            refine (wpIn_wide (n := 8)).1 ?_
            refine range_p (by omega) (gf := 22) (lb := #[.pointer (some ⟨ba, 0, none⟩)]) rfl (enters_of Tryd.func22 (by kernel_rfl) rfl)
              (targets_stops (8 - 1) ba V.heap.size Wk L encJ (fun _ _ => rfl) vj ((cell_row _ _ 0 _ _ (HSV.out.below bk0).bj).trans rfl) ((HSV.out.below bk0).jumps HLL.out.2 (HSV.out.ne' (Nat.le_refl _)))) lk (Below.refl _ _) (fun _ => rfl)
              (fun pre U => Boxed U V.heap.size 3 (.int .i64 (pre.length : Nat)) ∧ Below V.heap.size V U) (fun cd pre U => ¬ pre <+: L)
              (OwnFrom.and (Own.from (boxed_own _ _ (fun pre : List (Nat × Int) => .int .i64 (pre.length : Nat))) _) (ownFrom_below (Nat.le_refl _) (Nat.le_of_lt lk)))
              (fun cd => ownFrom_pure _ (fun pre => ¬ pre <+: L)) ⟨bI, bk0⟩ ?round2 ?done2 ?stop2
            case round2 =>
              rintro l pre y U Ub _ ⟨hb, hB⟩ hlen
              have hkc := hb.cell
              have hkf := hb.frozen
              have HSU := Hid.mk' (HSV.out.below hB)
              have c6 := HSU.out.b6.cell
              have c7 := HSU.out.b7.cell
              obtain ⟨ga, ca, gt, ct, hva, hvt, d6, d7, hca, hct⟩ := HSU.out.ats pre.length hlen
              simp only [Value.slice.injEq] at hva hvt
              obtain ⟨rfl, hl1, rfl⟩ := hva
              obtain ⟨rfl, hl2, rfl⟩ := hvt
              rw [← hl1] at hca hct
              have HBad : Hid (((y.1 : Int) ≠ (L[pre.length].1 : Int) ∨ y.2 ≠ L[pre.length].2) → ¬ (pre ++ [y]) <+: L) := Hid.mk' (fun h hp => by
                have e1 := pre_at hlen hp
                rw [e1] at h
                rcases h with h | h
                · exact h rfl
                · exact h rfl)
              have rc := HSU.out.res.cell
              have rf := HSU.out.res.frozen
              have HF9 : Hid (pre.length < ln) := Hid.mk' (by omega)
              have HB := Hid.mk' hB
              have Hb := Hid.mk' hb
              generalize L[pre.length] = t at HBad d6 d7
              obtain ⟨y1, y2⟩ := y
              obtain ⟨t1, t2⟩ := t
              simp only [encJ, List.zip_toArray, List.zip_cons_cons, List.zip_nil_right, List.size_toArray, List.length_cons, List.length_nil, List.foldl_toArray', List.foldl_cons, List.foldl_nil]
              dsimp only at d6 d7 HBad
              have HCC := Hid.mk' (And.intro hca hct)
              clear HSU hb hB hl1 hl2 hlen hca hct
              gi_wp2
              refine ⟨trivial, ?_⟩
              have hlt9 := HF9.out
              have hra' : ra < V.heap.size := HSV.out.res.lt
              have i7 : (pre.length : Int) < (ln : Int) := by omega
              have i8 : ¬ (pre.length : Int) ≥ (ln : Int) := by omega
              have i9 : (ln : Int) < 100000000000000 := by have := HLL.out.1; have := HLN.out; omega
              clear hlt9
              generalize (y1 : Int) = z1 at HBad ⊢
              generalize (t1 : Int) = u1 at HBad d6 ⊢
              by_cases e1 : z1 = u1
              · subst e1
                by_cases e2 : y2 = t2
                · subst e2
                  clear HBad
                  have n1 : (z1 != z1) = false := by simp
                  have n2 : (y2 != y2) = false := by simp
                  gi_wp2
                  have hbn : Boxed (Ub.setCell ⟨V.heap.size, 0, none⟩ (.int .i64 ((pre.length : Int) + 1))) V.heap.size 3 (.int .i64 ((pre.length : Int) + 1)) := Boxed.set _ Hb.out
                  refine ⟨KN.set _ _ _ _, ?_, HB.out.setCell (p := ⟨V.heap.size, 0, none⟩) (Nat.le_refl _) _⟩
                  have el : (((pre ++ [(y1, y2)]).length : Nat) : Int) = (pre.length : Int) + 1 := by simp
                  rw [el]
                  exact hbn
                · have HNo := Hid.mk' (HBad.out (.inr e2))
                  have n1 : (z1 != z1) = false := by simp
                  have n2 : (y2 != t2) = true := by simpa using e2
                  gi_wp2
                  exact ⟨kf_set' _ _ (by omega), HNo.out⟩
              · have HNo := Hid.mk' (HBad.out (.inl e1))
                have n1 : (z1 != u1) = true := by simpa using e1
                gi_wp2
                exact ⟨kf_set' _ _ (by omega), HNo.out⟩
            case stop2 =>
              rintro E2 cd pre U _ hSp hIx _
              exact absurd hSp hIx
            case done2 =>
              rintro E2 ys U hE2 rfl ⟨hb, hB⟩ hK2
              have hkc := hb.cell
              have HSU := Hid.mk' (HSV.out.below hB)
              have c6 := HSU.out.b6.cell
              have hyl := HLN.out
              rw [hyl] at hkc
              have rc := HSU.out.res.cell
              have rf := HSU.out.res.frozen
              have HKE := Hid.mk' ((hB.block E lE).trans HKV.out)
              have HK2 := Hid.mk' hK2
              have n3 : ((ln : Int) == (ln : Int)) = true := by simp
              clear hb hB hK2
              go_wp2
              refine rch_ends ?hh (HSU.out.res.set (.bool true)) (HSU.out.be.setCell (p := ⟨ra, 0, none⟩) HSU.out.wr _) ((KeepsOthers.setCell U ⟨ra, 0, none⟩ (.bool true)).same E2 _ HK2.out rfl) ((KeepsOthers.setCell U ⟨ra, 0, none⟩ (.bool true)).same E _ HKE.out rfl) (by have := HEE.out; have := HSV.out.wr; omega) (by have := HEE.out; omega) (by omega)
              case hh => rfl
          case done1 =>
            rintro E ys' V hE _ bV hK
            have HSV := Hid.mk' (HSW.out.below bV)
            have lE : E < V.heap.size := (Array.getElem?_eq_some_iff.1 hK).1
            have HKV := Hid.mk' hK
            have HEE := Hid.mk' hE
            clear HSW bV hK hE
            go_wp2
            obtain ⟨Wk, hWk⟩ : ∃ Wk, V.alloc (.cells #[.int .i64 0] 3) = Wk := ⟨_, rfl⟩
            have bk0 : Below V.heap.size V Wk := by rw [← hWk]; exact (Below.refl _ _).alloc (Nat.le_refl _) _
            have bI : Boxed Wk V.heap.size 3 (.int .i64 0) := by rw [← hWk]; exact Boxed.new _ _ _
            rw [hWk]
            have lk : V.heap.size < Wk.heap.size := bI.lt
            clear hWk
            refine (wpIn_wide (n := 8)).1 ?_
            refine range_p (by omega) (gf := 22) (lb := #[.pointer (some ⟨ba, 0, none⟩)]) rfl (enters_of Tryd.func22 (by kernel_rfl) rfl)
              (targets_stops (8 - 1) ba V.heap.size Wk L encJ (fun _ _ => rfl) vj ((cell_row _ _ 0 _ _ (HSV.out.below bk0).bj).trans rfl) ((HSV.out.below bk0).jumps HLL.out.2 (HSV.out.ne' (Nat.le_refl _)))) lk (Below.refl _ _) (fun _ => rfl)
              (fun pre U => Boxed U V.heap.size 3 (.int .i64 (pre.length : Nat)) ∧ Below V.heap.size V U) (fun cd pre U => ¬ pre <+: L)
              (OwnFrom.and (Own.from (boxed_own _ _ (fun pre : List (Nat × Int) => .int .i64 (pre.length : Nat))) _) (ownFrom_below (Nat.le_refl _) (Nat.le_of_lt lk)))
              (fun cd => ownFrom_pure _ (fun pre => ¬ pre <+: L)) ⟨bI, bk0⟩ ?round2 ?done2 ?stop2
            case round2 =>
              rintro l pre y U Ub _ ⟨hb, hB⟩ hlen
              have hkc := hb.cell
              have hkf := hb.frozen
              have HSU := Hid.mk' (HSV.out.below hB)
              have c6 := HSU.out.b6.cell
              have c7 := HSU.out.b7.cell
              obtain ⟨ga, ca, gt, ct, hva, hvt, d6, d7, hca, hct⟩ := HSU.out.ats pre.length hlen
              simp only [Value.slice.injEq] at hva hvt
              obtain ⟨rfl, hl1, rfl⟩ := hva
              obtain ⟨rfl, hl2, rfl⟩ := hvt
              rw [← hl1] at hca hct
              have HBad : Hid (((y.1 : Int) ≠ (L[pre.length].1 : Int) ∨ y.2 ≠ L[pre.length].2) → ¬ (pre ++ [y]) <+: L) := Hid.mk' (fun h hp => by
                have e1 := pre_at hlen hp
                rw [e1] at h
                rcases h with h | h
                · exact h rfl
                · exact h rfl)
              have rc := HSU.out.res.cell
              have rf := HSU.out.res.frozen
              have HF9 : Hid (pre.length < ln) := Hid.mk' (by omega)
              have HB := Hid.mk' hB
              have Hb := Hid.mk' hb
              generalize L[pre.length] = t at HBad d6 d7
              obtain ⟨y1, y2⟩ := y
              obtain ⟨t1, t2⟩ := t
              simp only [encJ, List.zip_toArray, List.zip_cons_cons, List.zip_nil_right, List.size_toArray, List.length_cons, List.length_nil, List.foldl_toArray', List.foldl_cons, List.foldl_nil]
              dsimp only at d6 d7 HBad
              have HCC := Hid.mk' (And.intro hca hct)
              clear HSU hb hB hl1 hl2 hlen hca hct
              gi_wp2
              refine ⟨trivial, ?_⟩
              have hlt9 := HF9.out
              have hra' : ra < V.heap.size := HSV.out.res.lt
              have i7 : (pre.length : Int) < (ln : Int) := by omega
              have i8 : ¬ (pre.length : Int) ≥ (ln : Int) := by omega
              have i9 : (ln : Int) < 100000000000000 := by have := HLL.out.1; have := HLN.out; omega
              clear hlt9
              generalize (y1 : Int) = z1 at HBad ⊢
              generalize (t1 : Int) = u1 at HBad d6 ⊢
              by_cases e1 : z1 = u1
              · subst e1
                by_cases e2 : y2 = t2
                · subst e2
                  clear HBad
                  have n1 : (z1 != z1) = false := by simp
                  have n2 : (y2 != y2) = false := by simp
                  gi_wp2
                  have hbn : Boxed (Ub.setCell ⟨V.heap.size, 0, none⟩ (.int .i64 ((pre.length : Int) + 1))) V.heap.size 3 (.int .i64 ((pre.length : Int) + 1)) := Boxed.set _ Hb.out
                  refine ⟨KN.set _ _ _ _, ?_, HB.out.setCell (p := ⟨V.heap.size, 0, none⟩) (Nat.le_refl _) _⟩
                  have el : (((pre ++ [(y1, y2)]).length : Nat) : Int) = (pre.length : Int) + 1 := by simp
                  rw [el]
                  exact hbn
                · have HNo := Hid.mk' (HBad.out (.inr e2))
                  have n1 : (z1 != z1) = false := by simp
                  have n2 : (y2 != t2) = true := by simpa using e2
                  gi_wp2
                  exact ⟨kf_set' _ _ (by omega), HNo.out⟩
              · have HNo := Hid.mk' (HBad.out (.inl e1))
                have n1 : (z1 != u1) = true := by simpa using e1
                gi_wp2
                exact ⟨kf_set' _ _ (by omega), HNo.out⟩
            case stop2 =>
              rintro E2 cd pre U _ hSp hIx _
              exact absurd hSp hIx
            case done2 =>
              rintro E2 ys U hE2 rfl ⟨hb, hB⟩ hK2
              have hkc := hb.cell
              have HSU := Hid.mk' (HSV.out.below hB)
              have c6 := HSU.out.b6.cell
              have hyl := HLN.out
              rw [hyl] at hkc
              have rc := HSU.out.res.cell
              have rf := HSU.out.res.frozen
              have HKE := Hid.mk' ((hB.block E lE).trans HKV.out)
              have HK2 := Hid.mk' hK2
              have n3 : ((ln : Int) == (ln : Int)) = true := by simp
              clear hb hB hK2
              go_wp2
              refine rch_ends ?hh (HSU.out.res.set (.bool true)) (HSU.out.be.setCell (p := ⟨ra, 0, none⟩) HSU.out.wr _) ((KeepsOthers.setCell U ⟨ra, 0, none⟩ (.bool true)).same E2 _ HK2.out rfl) ((KeepsOthers.setCell U ⟨ra, 0, none⟩ (.bool true)).same E _ HKE.out rfl) (by have := HEE.out; have := HSV.out.wr; omega) (by have := HEE.out; omega) (by omega)
              case hh => rfl
end Go.Proofs.YtcagfjogfbddeaaDoor
