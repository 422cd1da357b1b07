/- Package check: newWalker. -/
import Derived.Test.YtcagfjogfbddeaaDoorCrN
import Derived.Test.YtcagfjogfbddeaaDoorCrF
import Derived.Test.YtcagfjogfbddeaaDoorCrG
import Derived.Deep.DeepCutAuto
import Derived.Laws.MakeOwn
namespace Go.Proofs.YtcagfjogfbddeaaDoor
set_option linter.unusedVariables false
set_option linter.unusedSimpArgs false
open Go.RowKit Go.Shelf
attribute [local go_sem] Oper.semAt_some

def capN (n k : Nat) : Nat := if k < n then k else 0
def capJ (n : Nat) (p : Nat × Int) : Array Value := encJ (capN n p.1, p.2)
/-- What the row of targets holds when some were told. -/
def tpF (n : Nat) (pre : List (Nat × Int)) : Nat → Int := pre.foldl (fun T p => fun k => if k = capN n p.1 then p.2 else T k) (fun _ => -1)
theorem tpF_snoc (n : Nat) (pre : List (Nat × Int)) (x : Nat × Int) : tpF n (pre ++ [x]) = fun k => if k = capN n x.1 then x.2 else tpF n pre k := by
  unfold tpF
  rw [List.foldl_append]
  rfl
theorem tgL_mem {f : Fun} {k : Nat} : ∀ x ∈ tgL f k, x.1 < k := by
  intro x hx
  unfold tgL at hx
  obtain ⟨i, hi, e⟩ := List.mem_filterMap.1 hx
  rw [List.mem_range] at hi
  cases h : tgO (insAt f i) with
  | none => rw [h] at e; cases e
  | some z => rw [h] at e; simp at e; rw [← e]; exact hi
theorem tpF_all (f : Fun) (n : Nat) : ∀ k, k ≤ n → ∀ i, tpF n (tgL f k) i = if i < k then (tgO (insAt f i)).getD (-1) else -1
  | 0, _, i => rfl
  | k + 1, hk, i => by
    have ih := tpF_all f n k (by omega) i
    have hc : capN n k = k := by unfold capN; rw [if_pos (by omega)]
    rw [tgL_succ]
    cases h : tgO (insAt f k) with
    | none =>
      rw [List.append_nil, ih]
      by_cases e : i = k
      · subst e; rw [if_neg (Nat.lt_irrefl _), if_pos (by omega), h]; rfl
      · by_cases e2 : i < k
        · rw [if_pos e2, if_pos (by omega)]
        · rw [if_neg e2, if_neg (by omega)]
    | some z =>
      rw [tpF_snoc]
      show (if i = capN n k then z else tpF n (tgL f k) i) = _
      rw [hc, ih]
      by_cases e : i = k
      · subst e; rw [if_pos rfl, if_pos (by omega), h]; rfl
      · rw [if_neg e]
        by_cases e2 : i < k
        · rw [if_pos e2, if_pos (by omega)]
        · rw [if_neg e2, if_neg (by omega)]
/-- The walker with the variable that holds it. -/
structure Nq (W1 wc : World) (bw wb br bt bp n : Nat) (T : Nat → Int) (V : Nat → Value) (P : Nat → List Int) : Prop where
  wq : Wq W1.heap.size wc wb br bt bp n (.slice none 0 0) (fun _ => false) [] T V P
  pw : wc.heap[bw]? = some (.cells #[.pointer (some ⟨wb, 0, none⟩)] 48 (0, 0))
  bl : Below W1.heap.size W1 wc
theorem Nq.below {W1 wc w' : World} {bw wb br bt bp n : Nat} {T : Nat → Int} {V : Nat → Value} {P : Nat → List Int} (h : Nq W1 wc bw wb br bt bp n T V P) (hb : Below wc.heap.size wc w') : Nq W1 w' bw wb br bt bp n T V P :=
  ⟨h.wq.below hb, (hb.block _ (Array.getElem?_eq_some_iff.1 h.pw).1).trans h.pw, h.bl.trans (hb.mono h.bl.size)⟩
theorem Nq.setT {W1 wc : World} {bw wb br bt bp n : Nat} {T : Nat → Int} {V : Nat → Value} {P : Nat → List Int} (h : Nq W1 wc bw wb br bt bp n T V P) (k : Nat) (z : Int) : Nq W1 (wc.setCell ⟨bt, k, none⟩ (.int .i64 z)) bw wb br bt bp n (fun i => if i = k then z else T i) V P := by
  obtain ⟨n1, n2, n3, n4, n5, n6⟩ := h.wq.ne
  have hw := h.wq
  refine ⟨⟨(Below.heap_setCell _ _ _ _ n2).trans hw.blk, hw.r.keep (Below.heap_setCell _ _ _ _ n4), (hw.t.set k (.int .i64 z)).cong (fun i _ => by split <;> rfl), hw.p.keep (Below.heap_setCell _ _ _ _ (Ne.symm n6)), own_set _ hw.own (fun e => hw.tw e.symm), fun p hp => own_set _ (hw.pown p hp) (fun e => hw.tp p hp e.symm), hw.ap, hw.pp, hw.tw, hw.tp, hw.ge, hw.m, hw.nb⟩, (Below.heap_setCell _ _ _ _ (hw.t.ne h.pw (fun _ _ e => by cases e))).trans h.pw, h.bl.setCell hw.ge.2.2.1 _⟩
theorem Wq.base {B B' : Nat} {w : World} {wb br bt bp n : Nat} {vw : Value} {R : Nat → Bool} {Q : List Int} {T : Nat → Int} {V : Nat → Value} {P : Nat → List Int} (h : Wq B w wb br bt bp n vw R Q T V P) (hB : B' ≤ B) : Wq B' w wb br bt bp n vw R Q T V P :=
  have f : ∀ {v : Value} {k : Nat} {xs : List Value}, w.ownsRow B 3 1 v k xs → w.ownsRow B' 3 1 v k xs := fun h => ⟨h.1, h.2.imp id (fun ⟨g, cap, cur, a, b, c⟩ => ⟨g, cap, cur, a, Nat.le_trans hB b, c⟩)⟩
  ⟨h.blk, h.r, h.t, h.p, f h.own, fun p hp => f (h.pown p hp), h.ap, h.pp, h.tw, h.tp, ⟨Nat.le_trans hB h.ge.1, Nat.le_trans hB h.ge.2.1, Nat.le_trans hB h.ge.2.2.1, Nat.le_trans hB h.ge.2.2.2⟩, h.m, h.nb⟩
theorem Nq.congT {W1 wc : World} {bw wb br bt bp n : Nat} {T T' : Nat → Int} {V : Nat → Value} {P : Nat → List Int} (h : Nq W1 wc bw wb br bt bp n T V P) (hT : ∀ i, i < n → T i = T' i) : Nq W1 wc bw wb br bt bp n T' V P :=
  ⟨⟨h.wq.blk, h.wq.r, h.wq.t.cong (fun i hi => by rw [hT i hi]), h.wq.p, h.wq.own, h.wq.pown, h.wq.ap, h.wq.pp, h.wq.tw, h.wq.tp, h.wq.ge, h.wq.m, h.wq.nb⟩, h.pw, h.bl⟩
theorem Nq.turn {W1 A C : World} {bw wb br bt bp n : Nat} {T : Nat → Int} {V : Nat → Value} {P : Nat → List Int} {row : Option Nat} (h : Nq W1 A bw wb br bt bp n T V P) (hg : A.grownBy C row) (hr : ∀ r, row = some r → W1.heap.size ≤ r ∧ ∃ o : Obj, A.heap[r]? = some o ∧ o.isCells = false) : Nq W1 C bw wb br bt bp n T V P := by
  have kp : ∀ {k : Nat} {c : Array Value} {t : TypeId} {fz}, A.heap[k]? = some (.cells c t fz) → C.heap[k]? = some (.cells c t fz) := fun {k c t fz} hk => (hg.block _ (Array.getElem?_eq_some_iff.1 hk).1 (fun e => by
    obtain ⟨_, o, ho, hc⟩ := hr k e.symm
    rw [hk] at ho
    cases ho
    cases hc)).trans hk
  have ko : ∀ {v : Value} {k : Nat} {xs : List Value}, A.ownsRow W1.heap.size 3 1 v k xs → C.ownsRow W1.heap.size 3 1 v k xs := fun h => ⟨h.1, h.2.imp id (fun ⟨g, cap, cur, a, b, c, d⟩ => ⟨g, cap, cur, a, b, kp c, d⟩)⟩
  have kr : ∀ {b : Nat} {e : TypeId} {m : Nat} {F : Nat → Value}, RowF A b e m F → RowF C b e m F := fun ⟨X, hX, r⟩ => ⟨X, kp hX, r⟩
  exact ⟨⟨kp h.wq.blk, kr h.wq.r, kr h.wq.t, kr h.wq.p, ko h.wq.own, fun p hp => ko (h.wq.pown p hp), h.wq.ap, h.wq.pp, h.wq.tw, h.wq.tp, h.wq.ge, h.wq.m, h.wq.nb⟩, kp h.pw, h.bl.grown hg h.bl.size (fun k hk => (hr k hk).1)⟩
/-- The parts with the first tries. -/
def LainK (f : Fun) (n k : Nat) (P0 : Nat → List Int) : Prop := ∀ p, p < 2 * n → ∀ a, a ∈ P0 p ↔ ∃ t ∈ f.tries.take k, a = t.at' ∧ p ∈ mk (n + clN n t.fr) (n + clN n t.to)
theorem grown_put {W : World} {E : Nat} {ob : Obj} : W.grownBy (W.putObj E ob) (some E) := ⟨rfl, rfl, rfl, by simp [World.putObj], fun k _ hne => World.putObj_heap_other (fun e => hne (by rw [e]))⟩
theorem made_cells (z : Value) (n : Nat) (i : Nat) (hi : i < n) : (madeCells #[z] n)[i]? = some z := by unfold madeCells; simp [hi, Nat.mod_one]
theorem cnt_all (n : Nat) : cnt n (fun _ => false) = n := by unfold cnt; rw [List.filter_eq_self.2 (by simp)]; simp
theorem infoBool' : (Tryd.prog.info? 4).map (fun i => (i.zero, i.size, i.bytes)) = some (some (.bool false), 1, 1) := by kernel_rfl
theorem infoSl' : (Tryd.prog.info? 36).map (fun i => (i.zero, i.size, i.bytes)) = some (some (.slice none 0 0), 1, 24) := by kernel_rfl
set_option maxHeartbeats 4000000 in
set_option maxRecDepth 100000 in
theorem newWalker_any (q : FW) (w : World) (hrd : q.rd w) (hl : LaidL w) : NwC q w := by
  have HTA := Hid.mk' (fun W (hW : Below w.heap.size w W) => targets_any q W (hrd.i.below hW) (hl.below' hW))
  unfold NwC
  have hr := hrd.i
  have htr := hrd.t
  have hile := hr.le
  have hicl : q.yc * (5 * 8) ≤ 140737488351232 := hr.cle
  have htle := htr.le
  have htcl : q.zc * (4 * 8) ≤ 140737488351232 := htr.cle
  have HRT := Hid.mk' htr
  obtain ⟨f, hf⟩ : ∃ f, q.f = f := ⟨_, rfl⟩
  obtain ⟨n, hn⟩ : ∃ n, q.f.code.length = n := ⟨_, rfl⟩
  have HN : Hid (f.code.length = n) := Hid.mk' (by rw [← hf]; exact hn)
  rw [hn] at hile HTA
  rw [hn]
  simp only [hf]
  simp only [hf] at HTA
  rw [hf] at HRT htle
  obtain ⟨⟨f1, f2, f3, f4, f5, cs, is, ts, us⟩, xa, xc, ya, yc, za, zc, ua, uc⟩ := q
  simp only [FW.cs] at HTA ⊢
  dsimp only at hile hicl htle htcl HRT hn hf
  obtain ⟨m1, hm1⟩ : ∃ m, cs.length = m := ⟨_, rfl⟩
  obtain ⟨m3, hm3⟩ : ∃ m, ts.length = m := ⟨_, rfl⟩
  obtain ⟨m4, hm4⟩ : ∃ m, us.length = m := ⟨_, rfl⟩
  have hft : f.tries.length = m3 := by rw [← hf]; exact hm3
  have HFT := Hid.mk' hft
  rw [hft] at htle
  rw [hn, hm1, hm3, hm4] at HTA
  rw [hn, hm1, hm3, hm4]
  obtain ⟨W1, hW1⟩ : ∃ W1, w.alloc (.cells #[.string f1, .int .i64 f2, .bool f3, .bool f4, .int .i64 f5, .slice xa m1 xc, .slice ya n yc, .slice za m3 zc, .slice ua m4 uc] 28) = W1 := ⟨_, rfl⟩
  have b1 : Below w.heap.size w W1 := by rw [← hW1]; exact lay_below
  have q1 : W1.heap[w.heap.size]? = some (.cells #[.string f1, .int .i64 f2, .bool f3, .bool f4, .int .i64 f5, .slice xa m1 xc, .slice ya n yc, .slice za m3 zc, .slice ua m4 uc] 28 (0, 0)) := by rw [← hW1]; exact box_new
  have HT1 := Hid.mk' (HRT.out.below b1)
  obtain ⟨b0, hb0⟩ : ∃ b0, w.heap.size = b0 := ⟨_, rfl⟩
  have HS0 := Hid.mk' hb0
  rw [hb0] at q1
  have hb1 : b0 < W1.heap.size := (Array.getElem?_eq_some_iff.1 q1).1
  have HCF : Hid (∀ W, Below W1.heap.size W1 W → ∀ k v, (#[.string f1, .int .i64 f2, .bool f3, .bool f4, .int .i64 f5, .slice xa m1 xc, .slice ya n yc, .slice za m3 zc, .slice ua m4 uc] : Array Value)[k]? = some v → W.cell? ⟨b0, k, none⟩ = some v) := Hid.mk' (fun W hW k v hv => (hW.cell (p := ⟨b0, k, none⟩) hb1).trans ((cell_row _ _ k _ _ q1).trans hv))
  have a6 := HCF.out W1 (Below.refl _ _) 6 _ rfl
  have HB1 := Hid.mk' b1
  have HNB : Hid (n * 40 ≤ 140737488351232) := Hid.mk' (by omega)
  have HMB : Hid (m3 ≤ 4398046511104) := Hid.mk' (by omega)
  obtain ⟨i1, j1, j2, j3, j4⟩ := info_parts infoBool'
  obtain ⟨i2, k1, k2, k3, k4⟩ := info_parts infoInt
  obtain ⟨i3, l1, l2, l3, l4⟩ := info_parts infoSl'
  have mk1 : ∀ W : World, (Instr.makeSlice 34 (.int .i64 (n : Int)) (.int .i64 (n : Int))).run Tryd.prog W = .ok (.slice (some ⟨W.heap.size, 0, none⟩) n n) (W.alloc (.cells (madeCells #[.bool false] n) 4)) := fun W => by
    have hh := run_make (P := Tryd.prog) W 34 4 i1 (.bool false) Tryd.underlying34 j1 j2 .i64 .i64 (n : Int) (n : Int) (by omega) (by omega) (by rw [j4]; omega) (by omega)
    simp only [Int.toNat_natCast, j3, Nat.mul_one] at hh
    exact hh
  have mk2 : ∀ W : World, (Instr.makeSlice 36 (.int .i64 (n : Int)) (.int .i64 (n : Int))).run Tryd.prog W = .ok (.slice (some ⟨W.heap.size, 0, none⟩) n n) (W.alloc (.cells (madeCells #[.int .i64 0] n) 3)) := fun W => by
    have hh := run_make (P := Tryd.prog) W 36 3 i2 (.int .i64 0) Tryd.underlying36 k1 k2 .i64 .i64 (n : Int) (n : Int) (by omega) (by omega) (by rw [k4]; omega) (by omega)
    simp only [Int.toNat_natCast, k3, Nat.mul_one] at hh
    exact hh
  have mk3 : ∀ W : World, (Instr.makeSlice 51 (.int .i64 (2 * (n : Int))) (.int .i64 (2 * (n : Int)))).run Tryd.prog W = .ok (.slice (some ⟨W.heap.size, 0, none⟩) (2 * n) (2 * n)) (W.alloc (.cells (madeCells #[.slice none 0 0] (2 * n)) 36)) := fun W => by
    have hh := run_make (P := Tryd.prog) W 51 36 i3 (.slice none 0 0) Tryd.underlying51 l1 l2 .i64 .i64 (2 * (n : Int)) (2 * (n : Int)) (by omega) (by omega) (by rw [l4]; omega) (by omega)
    have e : (2 * (n : Int)).toNat = 2 * n := by omega
    simp only [e, l3, Nat.mul_one] at hh
    exact hh
  have hw2 : wrap64 (2 * (n : Int)) = 2 * (n : Int) := by unfold wrap64; omega
  obtain ⟨A1, hA1⟩ : ∃ A, madeCells #[.bool false] n = A := ⟨_, rfl⟩
  obtain ⟨A2, hA2⟩ : ∃ A, madeCells #[.int .i64 0] n = A := ⟨_, rfl⟩
  obtain ⟨A3, hA3⟩ : ∃ A, madeCells #[.slice none 0 0] (2 * n) = A := ⟨_, rfl⟩
  rw [hA1] at mk1
  rw [hA2] at mk2
  rw [hA3] at mk3
  have HA1 : Hid (A1.size = n ∧ ∀ i, i < n → A1[i]? = some (.bool false)) := Hid.mk' (by rw [← hA1]; exact ⟨size_madeCells _ _, fun i hi => made_cells _ _ i hi⟩)
  have HA2 : Hid (A2.size = n ∧ ∀ i, i < n → A2[i]? = some (.int .i64 0)) := Hid.mk' (by rw [← hA2]; exact ⟨size_madeCells _ _, fun i hi => made_cells _ _ i hi⟩)
  have HA3 : Hid (A3.size = 2 * n ∧ ∀ i, i < 2 * n → A3[i]? = some (.slice none 0 0)) := Hid.mk' (by rw [← hA3]; exact ⟨size_madeCells _ _, fun i hi => made_cells _ _ i hi⟩)
  have HLD := Hid.mk' hl
  clear hrd hr htr b1 q1 hb1 hm1 hm3 hm4 hft hile hicl htle htcl hn hf hA1 hA2 hA3 j1 j2 j3 j4 k1 k2 k3 k4 l1 l2 l3 l4 i1 i2 i3 hl
  obtain ⟨s1, hs1⟩ : ∃ s1, W1.heap.size = s1 := ⟨_, rfl⟩
  refine (callsIn_wide (n := 3)).1 ?_
  refine callsIn_of_wp_marks Tryd.func11 rfl trivial ?_ rfl
  refine wpIn_wide.2 ?_
  simp only [Tryd.ntmps11, List.size_toArray, List.length_cons, List.length_nil, Nat.reduceAdd, Nat.reduceSub, Array.replicate_succ, Array.replicate_zero, List.push_toArray, List.append_toArray, List.nil_append, List.cons_append]
  go_upto_region 2 with fail
  go_cut [4, 14, 16, 19, 21] from 13 (fun v4 v14 v16 v19 v21 wc => ∃ bw wb br bt bp, v4 = .pointer (some ⟨bw, 0, none⟩) ∧ v14 = .slice (some ⟨br, 0, none⟩) n n ∧ v16 = .slice (some ⟨bt, 0, none⟩) n n ∧ v19 = .slice (some ⟨bp, 0, none⟩) (2 * n) (2 * n) ∧ v21 = .pointer (some ⟨wb, 0, none⟩) ∧ Hid (Nq W1 wc bw wb br bt bp n (fun _ => 0) (fun _ => .slice none 0 0) (fun _ => [])))
  case first =>
    refine region_only' (n := 0) ?_
    go_region
    all_goals go_wp2_with fail
    all_goals
      go_meet
      refine ⟨_, _, _, _, _, rfl, rfl, rfl, rfl, rfl, Hid.mk' ⟨⟨?_, ⟨A1, ?_, HA1.out.1, HA1.out.2⟩, ⟨A2, ?_, HA2.out.1, HA2.out.2⟩, ⟨A3, ?_, HA3.out.1, HA3.out.2⟩, World.ownsRow_nil _ _ _ _, fun _ _ => World.ownsRow_nil _ _ _ _, fun _ _ => .inl rfl, fun _ _ _ _ _ => .inl rfl, (fun e => by cases e), (fun _ _ e => by cases e), ?_, ?_, HNB.out⟩, ?_, ?_⟩⟩
      · refine at_drew ?_
        repeat' (first | exact at_new (by simp only [World.size_alloc, hs1]) | refine at_old (by simp only [World.size_alloc, hs1]; omega) ?_)
      · refine at_drew ?_
        repeat' (first | exact at_new (by simp only [World.size_alloc, hs1]) | refine at_old (by simp only [World.size_alloc, hs1]; omega) ?_)
      · refine at_drew ?_
        repeat' (first | exact at_new (by simp only [World.size_alloc, hs1]) | refine at_old (by simp only [World.size_alloc, hs1]; omega) ?_)
      · refine at_drew ?_
        repeat' (first | exact at_new (by simp only [World.size_alloc, hs1]) | refine at_old (by simp only [World.size_alloc, hs1]; omega) ?_)
      · omega
      · rw [cnt_all]; exact Nat.le_refl _
      · refine at_drew ?_
        repeat' (first | exact at_new (by simp only [World.size_alloc, hs1]) | refine at_old (by simp only [World.size_alloc, hs1]; omega) ?_)
      · refine Below.drew ?_
        repeat' (first | exact lay_below | refine Below.alloc ?_ (by simp only [World.size_alloc]; omega) _)
  case rest =>
    obtain ⟨bw, wb, br, bt, bp, rfl, rfl, rfl, rfl, rfl, HW⟩ := hcut
    clear mk1 mk2 mk3 hw2 a6
    have HW0 : Hid (Nq W1 wc bw wb br bt bp n (fun i => if i < 0 then -1 else 0) (fun _ => .slice none 0 0) (fun _ => [])) := Hid.mk' (HW.out.congT (fun i _ => by simp))
    have c0 : wc.cell? ⟨bw, 0, none⟩ = some (.pointer (some ⟨wb, 0, none⟩)) := (cell_row _ _ 0 _ _ HW.out.pw).trans rfl
    have c2 := HW.out.wq.cells.2.2.1
    clear HW
    go_wp2_with fail
    clear c0 c2
    go_loopw [27] (fun v wr => ∃ j : Nat, v = .int .i64 (j : Int) ∧ j ≤ n ∧ Hid (Nq W1 wr bw wb br bt bp n (fun i => if i < j then -1 else 0) (fun _ => .slice none 0 0) (fun _ => []))) (fun v wr => n - (intOf v).toNat)
    case atStart => exact ⟨0, rfl, Nat.zero_le _, HW0⟩
    case round =>
      obtain ⟨j, rfl, hj, HQ⟩ := hrel
      by_cases hjt : j < n
      · have c0 : wr.cell? ⟨bw, 0, none⟩ = some (.pointer (some ⟨wb, 0, none⟩)) := (cell_row _ _ 0 _ _ HQ.out.pw).trans rfl
        have c2 := HQ.out.wq.cells.2.2.1
        have ct := HQ.out.wq.t.cell hjt
        have zt := HQ.out.wq.t.thaw j
        have z1 : (j : Int) < (n : Int) := by omega
        have z2 : (j : Int) < 3600000000000 := by have := HNB.out; omega
        have HQN : Hid (Nq W1 (wr.setCell ⟨bt, j, none⟩ (.int .i64 (-1))) bw wb br bt bp n (fun i => if i < j + 1 then -1 else 0) (fun _ => .slice none 0 0) (fun _ => [])) := Hid.mk' ((HQ.out.setT j (-1)).congT (fun i _ => by
          by_cases e : i = j
          · rw [if_pos e, if_pos (by omega)]
          · rw [if_neg e]
            by_cases e2 : i < j
            · rw [if_pos e2, if_pos (by omega)]
            · rw [if_neg e2, if_neg (by omega)]))
        have HJT := Hid.mk' hjt
        clear hjt hj
        go_wp2
        exact ⟨⟨j + 1, by go_num, HJT.out, HQN⟩, meas_up' n j HJT.out⟩
      · have z1 : ¬ (j : Int) < (n : Int) := by omega
        obtain rfl : j = n := by omega
        have HQ0 : Hid (Nq W1 wr bw wb br bt bp j (tpF j []) (fun _ => .slice none 0 0) (fun _ => [])) := Hid.mk' (HQ.out.congT (fun i hi => by rw [if_pos hi]; rfl))
        have a0 := HCF.out wr HQ.out.bl 0 _ rfl
        have a1 := HCF.out wr HQ.out.bl 1 _ rfl
        have a2 := HCF.out wr HQ.out.bl 2 _ rfl
        have a3 := HCF.out wr HQ.out.bl 3 _ rfl
        have a4 := HCF.out wr HQ.out.bl 4 _ rfl
        have a5 := HCF.out wr HQ.out.bl 5 _ rfl
        have a6 := HCF.out wr HQ.out.bl 6 _ rfl
        have a7 := HCF.out wr HQ.out.bl 7 _ rfl
        have a8 := HCF.out wr HQ.out.bl 8 _ rfl
        have HTW := Hid.mk' (HTA.out wr (HB1.out.trans (HQ.out.bl.mono HB1.out.size)))
        clear hjt hj HQ
        go_wp2_with (go_at_call 9; refine HTW.out.mono ?_; rintro e w6 ⟨ba, rfl, hba0, vj, hbx, hown, b6⟩)
        clear a0 a1 a2 a3 a4 a5 a6 a7 a8
        have HQ6 := Hid.mk' (HQ0.out.below b6)
        have ckb : w6.cell? ⟨ba, 0, none⟩ = some vj := (cell_row _ _ 0 _ _ hbx).trans rfl
        have hne : some bt ≠ vj.ownBlock := by
          obtain ⟨A, hA, _⟩ := HQ6.out.wq.t
          exact blk_ne hown hA (fun c fz e => by cases e)
        have hrj := RdJ.of hown (by have := tgL_len f j; have := HNB.out; omega) hne
        refine (wpIn_wide (n := 3)).1 ?_
        refine range_p (α := Nat × Int) (by omega) (gf := 22) (lb := #[.pointer (some ⟨ba, 0, none⟩)]) rfl (enters_of Tryd.func22 (by kernel_rfl) rfl)
          (targets_stops (3 - 1) ba bt w6 (tgL f j) (capJ j) (fun x hx => by unfold capJ capN; rw [if_pos (tgL_mem x hx)]) vj ckb hrj) HQ6.out.wq.t.lt (Below.refl _ _) (fun _ => rfl)
          (fun pre V => Nq W1 V bw wb br bt bp j (tpF j pre) (fun _ => .slice none 0 0) (fun _ => [])) (fun _ _ _ => False) (fun s A C row hs hgr hr => hs.turn hgr (fun r e => ⟨Nat.le_trans HQ6.out.bl.size (hr r e).1, (hr r e).2⟩))
          (fun cd s A C row hs hgr hr => hs) HQ6.out ?round1 ?done1 ?stop1
        case round1 =>
          intro l pre y V Vb _ hVb hlt
          have hj0 : 0 < j := by
            rcases Nat.eq_zero_or_pos j with e | e
            · rw [e] at hlt; simp [tgL] at hlt
            · exact e
          have hcap : capN j y.1 < j := by unfold capN; split <;> omega
          have hsn := tpF_snoc j pre y
          obtain ⟨ya, yt⟩ := y
          dsimp only at hcap hsn
          obtain ⟨yc', hyc'⟩ : ∃ c, capN j ya = c := ⟨_, rfl⟩
          rw [hyc'] at hcap hsn
          have c0 : Vb.cell? ⟨bw, 0, none⟩ = some (.pointer (some ⟨wb, 0, none⟩)) := (cell_row _ _ 0 _ _ hVb.pw).trans rfl
          have c2 := hVb.wq.cells.2.2.1
          have ct := hVb.wq.t.cell hcap
          have zt := hVb.wq.t.thaw yc'
          have z1 : (yc' : Int) < (j : Int) := by omega
          have z2 : (yc' : Int) < 3600000000000 := by have := HNB.out; omega
          have HQN : Hid (Nq W1 (Vb.setCell ⟨bt, yc', none⟩ (.int .i64 yt)) bw wb br bt bp j (tpF j (pre ++ [(ya, yt)])) (fun _ => .slice none 0 0) (fun _ => [])) := Hid.mk' (by rw [hsn]; exact hVb.setT yc' yt)
          have HKN : Hid (KN bt Vb (Vb.setCell ⟨bt, yc', none⟩ (.int .i64 yt))) := Hid.mk' (KN.set bt yc' Vb (.int .i64 yt))
          simp only [capJ, encJ, hyc']
          clear hVb hlt hj0 hcap hsn hyc'
          gi_wp2
          refine ⟨trivial, ?_⟩
          gi_wp2
          exact ⟨HKN.out, HQN.out⟩
        case stop1 =>
          rintro E cd pre V hE h hx hK
          exact hx.elim
        case done1 =>
          rintro E xs V hE rfl hV hK
          have HV0 : Hid (∃ V0 P0, Nq W1 V bw wb br bt bp j (fun i => (tgO (insAt f i)).getD (-1)) V0 P0 ∧ LainK f j 0 P0 ∧ (∀ q, q < 2 * j → (P0 q).length ≤ 0) ∧ V.heap[E]? = some (.deferred (some []))) := Hid.mk' ⟨_, _, hV.congT (fun i hi => by rw [tpF_all f j j (Nat.le_refl _) i, if_pos hi]), (fun p _ a => by simp), (fun q _ => Nat.le_refl _), hK⟩
          have a7 := HCF.out V hV.bl 7 _ rfl
          have HEE : Hid (W1.heap.size ≤ E) := Hid.mk' (Nat.le_trans HQ6.out.bl.size hE)
          clear hV hK hE hrj hne ckb hown hbx b6 hba0
          go_wp2_with fail
          clear a7
          go_loopw [51] (fun v wr => ∃ k : Nat, v = .int .i64 (k : Int) ∧ k ≤ m3 ∧ Hid (∃ V0 P0, Nq W1 wr bw wb br bt bp j (fun i => (tgO (insAt f i)).getD (-1)) V0 P0 ∧ LainK f j k P0 ∧ (∀ q, q < 2 * j → (P0 q).length ≤ k) ∧ wr.heap[E]? = some (.deferred (some [])))) (fun v wr => m3 - (intOf v).toNat)
          case atStart => exact ⟨0, rfl, Nat.zero_le _, HV0⟩
          case round =>
            obtain ⟨k, rfl, hk, HL⟩ := hrel
            obtain ⟨V0, P0, hq, hlk, hlen, hE⟩ := HL.out
            have c0 : wr.cell? ⟨bw, 0, none⟩ = some (.pointer (some ⟨wb, 0, none⟩)) := (cell_row _ _ 0 _ _ hq.pw).trans rfl
            by_cases hkt : k < m3
            · have hkl : k < f.tries.length := by rw [HFT.out]; exact hkt
              obtain ⟨g3, o3, rfl, hg3, hc3⟩ := (HT1.out.below hq.bl).at k hkl
              obtain ⟨tk, htk⟩ : ∃ tk, f.tries[k] = tk := ⟨_, rfl⟩
              have htake : f.tries.take (k + 1) = f.tries.take k ++ [tk] := by rw [List.take_succ_eq_append_getElem hkl, htk]
              rw [htk] at hc3
              obtain ⟨tf, tt, ta, tr⟩ := tk
              have d0 := hc3 0 (.int .i64 tf) (by omega) rfl
              have d1 := hc3 1 (.int .i64 tt) (by omega) rfl
              have d2 := hc3 2 (.int .i64 ta) (by omega) rfl
              have d3 := hc3 3 (.int .i64 tr) (by omega) rfl
              simp only [Nat.add_zero] at d0
              obtain ⟨W4, hW4⟩ : ∃ W4, wr.alloc (.cells #[.int .i64 tf, .int .i64 tt, .int .i64 ta, .int .i64 tr] 59) = W4 := ⟨_, rfl⟩
              have b4 : Below wr.heap.size wr W4 := by rw [← hW4]; exact lay_below
              have q4 : W4.heap[wr.heap.size]? = some (.cells #[.int .i64 tf, .int .i64 tt, .int .i64 ta, .int .i64 tr] 59 (0, 0)) := by rw [← hW4]; exact box_new
              obtain ⟨x4, hx4⟩ : ∃ x, wr.heap.size = x := ⟨_, rfl⟩
              rw [hx4] at q4
              have z0 : W4.cell? ⟨x4, 0, none⟩ = some (.int .i64 tf) := (cell_row _ _ 0 _ _ q4).trans rfl
              have z1 : W4.cell? ⟨x4, 1, none⟩ = some (.int .i64 tt) := (cell_row _ _ 1 _ _ q4).trans rfl
              have z2 : W4.cell? ⟨x4, 2, none⟩ = some (.int .i64 ta) := (cell_row _ _ 2 _ _ q4).trans rfl
              have z3 : W4.cell? ⟨x4, 3, none⟩ = some (.int .i64 tr) := (cell_row _ _ 3 _ _ q4).trans rfl
              have hq4 := hq.below b4
              have c4 : W4.cell? ⟨bw, 0, none⟩ = some (.pointer (some ⟨wb, 0, none⟩)) := (cell_row _ _ 0 _ _ hq4.pw).trans rfl
              have hE4 := (b4.block _ (Array.getElem?_eq_some_iff.1 hE).1).trans hE
              have HLY := Hid.mk' (lay_any hq4.wq tf tt ta tr k hlen (by have := HMB.out; omega) [(bw, .cells #[.pointer (some ⟨wb, 0, none⟩)] 48 (0, 0)), (E, .deferred (some []))]
                (by intro y hy; simp only [List.mem_cons, List.not_mem_nil, or_false] at hy; rcases hy with rfl | rfl <;> first | exact hq4.pw | exact hE4)
                (by intro y hy c fz; simp only [List.mem_cons, List.not_mem_nil, or_false] at hy; rcases hy with rfl | rfl <;> (intro e; cases e))
                (by intro y hy c fz; simp only [List.mem_cons, List.not_mem_nil, or_false] at hy; rcases hy with rfl | rfl <;> (intro e; cases e)))
              have HBL := Hid.mk' hq4.bl
              have HLK : Hid (∀ P', (∀ q, q < 2 * j → P' q = P0 q ++ (if q ∈ mk (j + clN j tf) (j + clN j tt) then [ta] else [])) → LainK f j (k + 1) P' ∧ ∀ q, q < 2 * j → (P' q).length ≤ k + 1) := Hid.mk' (fun P' hP => ⟨fun p hp a => by
                rw [hP p hp, List.mem_append, hlk p hp a, htake]
                simp only [List.mem_append, List.mem_singleton, or_and_right, exists_or]
                refine or_congr Iff.rfl ?_
                constructor
                · intro h
                  split at h
                  · rename_i hm; exact ⟨_, rfl, List.mem_singleton.1 h, hm⟩
                  · cases h
                · rintro ⟨t, rfl, e, hm⟩
                  dsimp only at e hm
                  rw [if_pos hm, e]
                  exact List.mem_singleton.2 rfl, fun q hq => by
                rw [hP q hq, List.length_append]
                have := hlen q hq
                split <;> simp <;> omega⟩)
              have y1 : (k : Int) < (m3 : Int) := by omega
              have y2 : (k : Int) < 4400000000000 := by have := HMB.out; omega
              have HKT := Hid.mk' hkt
              clear hkl hg3 hc3 htk htake b4 q4 hq hlk hlen hE hq4 hE4 hk hkt
              go_wp2_with fail
              refine HLY.out.mono ?_
              rintro e w7 ⟨⟨v7, rfl⟩, V7, P7, hw7, hp7, hy7, b7⟩
              have HN7 : Hid (∃ V0 P0, Nq W1 w7 bw wb br bt bp j (fun i => (tgO (insAt f i)).getD (-1)) V0 P0 ∧ LainK f j (k + 1) P0 ∧ (∀ q, q < 2 * j → (P0 q).length ≤ k + 1) ∧ w7.heap[E]? = some (.deferred (some []))) := Hid.mk' ⟨V7, P7, ⟨hw7, hy7 _ (List.mem_cons_self), HBL.out.trans b7⟩, (HLK.out P7 hp7).1, (HLK.out P7 hp7).2, hy7 (E, .deferred (some [])) (by simp)⟩
              clear hw7 hp7 hy7 b7 d0 d1 d2 d3 z0 z1 z2 z3 c0 c4
              go_wp2
              exact ⟨⟨k + 1, by go_num, HKT.out, HN7⟩, meas_up' m3 k HKT.out⟩
            · have y1 : ¬ (k : Int) < (m3 : Int) := by omega
              have hkm : k = m3 := by omega
              have HQF := Hid.mk' hq
              have HLF : Hid (Lain f j P0) := Hid.mk' (fun p hp a => by rw [hlk p hp a, List.take_of_length_le (by rw [HFT.out, hkm]; exact Nat.le_refl _)])
              have HEF := Hid.mk' hE
              clear hq hlk hlen hE hkm hkt hk
              go_wp2_with fail
              refine ⟨by simp, .inl ⟨_, _, rfl, run_takeDeferred HEF.out, ?_⟩⟩
              have ht := HQF.out.turn (grown_put (E := E) (ob := .deferred none)) (fun r e => by cases e; exact ⟨HEE.out, _, HEF.out, rfl⟩)
              exact ⟨_, results_tmp rfl _ _ _, wb, rfl, br, bt, bp, V0, P0, ht.wq.base (by have := HB1.out.size; have := HS0.out; omega), HLF.out, by have h := HB1.out.trans (ht.bl.mono HB1.out.size); first | exact h | (rw [← hb0]; exact h)⟩
end Go.Proofs.YtcagfjogfbddeaaDoor
