/- Plain: tries that are right lie within each other as the stack tells just where each two of them do. The document's check: tries. -/
import Derived.Test.YtlhiedlpjefbnaaDoorChJ
import Derived.Test.YtlhiedlpjefbnaaDoorChV
namespace Go.Proofs.YtlhiedlpjefbnaaDoor
set_option linter.unusedVariables false
set_option linter.unusedSimpArgs false
open Go.RowKit

/-- Of two tries in the order of their places the second is behind, or within and earlier. -/
def Qn (l : List Tri) (x y : Nat) : Prop := (trAt l x).to ≤ (trAt l y).fr ∨ ((trAt l y).to ≤ (trAt l x).to ∧ y ≤ x)
def Cn (l : List Tri) (i j : Nat) : Prop := (trAt l i).to ≤ (trAt l j).to ∧ i ≤ j
theorem pop_spec (l : List Tri) (n : Nat) : ∀ st : List Nat, st.Pairwise (Cn l) →
    (popT l n st).Pairwise (Cn l) ∧ (∀ i ∈ popT l n st, i ∈ st ∧ (trAt l n).fr < (trAt l i).to) ∧ (∀ i ∈ st, i ∈ popT l n st ∨ (trAt l i).to ≤ (trAt l n).fr)
  | [], _ => by simp [popT]
  | t :: r, h => by
    rw [List.pairwise_cons] at h
    unfold popT
    split
    · rename_i ht
      obtain ⟨h1, h2, h3⟩ := pop_spec l n r h.2
      refine ⟨h1, fun i hi => ⟨List.mem_cons_of_mem _ (h2 i hi).1, (h2 i hi).2⟩, fun i hi => ?_⟩
      rcases List.mem_cons.1 hi with rfl | hi
      · exact .inr ht
      · exact h3 i hi
    · rename_i ht
      refine ⟨List.pairwise_cons.2 h, fun i hi => ⟨hi, ?_⟩, fun i hi => .inl hi⟩
      rcases List.mem_cons.1 hi with rfl | hi
      · omega
      · have := (h.1 i hi).1; omega
theorem pair_step (l : List Tri) (n : Nat) (r D : List Nat) (hQ : ∀ d ∈ D, Qn l d n) :
    ((∀ d ∈ n :: D, ∀ y ∈ r, Qn l d y) ∧ r.Pairwise (Qn l)) ↔ ((∀ d ∈ D, ∀ y ∈ n :: r, Qn l d y) ∧ (n :: r).Pairwise (Qn l)) := by
  rw [List.pairwise_cons]
  constructor
  · rintro ⟨h1, h2⟩
    refine ⟨fun d hd y hy => ?_, fun y hy => h1 n (List.mem_cons_self ..) y hy, h2⟩
    rcases List.mem_cons.1 hy with rfl | hy
    · exact hQ d hd
    · exact h1 d (List.mem_cons_of_mem _ hd) y hy
  · rintro ⟨h1, h2, h3⟩
    refine ⟨fun d hd y hy => ?_, h3⟩
    rcases List.mem_cons.1 hd with rfl | hd
    · exact h2 y hy
    · exact h1 d hd y (List.mem_cons_of_mem _ hy)
theorem nst_iff (l : List Tri) : ∀ (rest D st : List Nat), st.Pairwise (Cn l) → (∀ i ∈ st, i ∈ D) → (∀ d ∈ D, d ∈ st ∨ ∀ y ∈ rest, (trAt l d).to ≤ (trAt l y).fr) → rest.Pairwise (fun x y => (trAt l x).fr ≤ (trAt l y).fr) →
    (nstB l rest st = true ↔ (∀ d ∈ D, ∀ y ∈ rest, Qn l d y) ∧ rest.Pairwise (Qn l))
  | [], D, st, _, _, _, _ => by simp [nstB]
  | n :: r, D, st, hch, hsub, hout, hsort => by
    obtain ⟨p1, p2, p3⟩ := pop_spec l n st hch
    rw [List.pairwise_cons] at hsort
    have hfar : ∀ d ∈ D, d ∈ popT l n st ∨ (trAt l d).to ≤ (trAt l n).fr := fun d hd => by
      rcases hout d hd with h | h
      · exact p3 d h
      · exact .inr (h n (List.mem_cons_self ..))
    unfold nstB
    cases hq : popT l n st with
    | nil =>
      rw [hq] at hfar
      have hQ : ∀ d ∈ D, Qn l d n := fun d hd => by
        rcases hfar d hd with h | h
        · cases h
        · exact .inl h
      rw [← pair_step l n r D hQ]
      refine nst_iff l r (n :: D) [n] (List.pairwise_singleton _ _) (fun i hi => by simp at hi; rw [hi]; exact List.mem_cons_self ..) (fun d hd => ?_) hsort.2
      rcases List.mem_cons.1 hd with rfl | hd
      · exact .inl (List.mem_cons_self ..)
      · refine .inr fun y hy => ?_
        have h1 := hsort.1 y hy
        rcases hfar d hd with h | h
        · cases h
        · omega
    | cons t u =>
      rw [hq] at hfar p1 p2
      have ht := p2 t (List.mem_cons_self ..)
      rw [List.pairwise_cons] at p1
      show (if (trAt l t).to < (trAt l n).to ∨ t < n then false else nstB l r (n :: t :: u)) = true ↔ _
      split
      · rename_i hb
        constructor
        · intro h; cases h
        · rintro ⟨h1, _⟩
          have := h1 t (hsub t ht.1) n (List.mem_cons_self ..)
          unfold Qn at this
          omega
      · rename_i hb
        have hc : ∀ i ∈ t :: u, Cn l n i := fun i hi => by
          rcases List.mem_cons.1 hi with rfl | hi
          · unfold Cn; omega
          · have := p1.1 i hi
            unfold Cn at this ⊢
            omega
        have hQ : ∀ d ∈ D, Qn l d n := fun d hd => by
          rcases hfar d hd with h | h
          · exact .inr (hc d h)
          · exact .inl h
        rw [← pair_step l n r D hQ]
        refine nst_iff l r (n :: D) (n :: t :: u) (List.pairwise_cons.2 ⟨hc, List.pairwise_cons.2 p1⟩) (fun i hi => ?_) (fun d hd => ?_) hsort.2
        · rcases List.mem_cons.1 hi with rfl | hi
          · exact List.mem_cons_self ..
          · exact List.mem_cons_of_mem _ (hsub i (p2 i hi).1)
        · rcases List.mem_cons.1 hd with rfl | hd
          · exact .inl (List.mem_cons_self ..)
          · rcases hfar d hd with h | h
            · exact .inl (List.mem_cons_of_mem _ h)
            · exact .inr fun y hy => by have := hsort.1 y hy; omega
/-- The document's words on two tries, the first the earlier. -/
def Pr (l : List Tri) (o k : Nat) : Prop := (trAt l o).to ≤ (trAt l k).fr ∨ (trAt l k).to ≤ (trAt l o).fr ∨ ((trAt l k).fr ≤ (trAt l o).fr ∧ (trAt l o).to ≤ (trAt l k).to)
def Pz (l : List Tri) (x y : Nat) : Prop := (x < y → Pr l x y) ∧ (y < x → Pr l y x)
theorem qn_pz {l : List Tri} {x y : Nat} (hs : (!befB l y x) = true) (hne : x ≠ y) (hx : (trAt l x).fr < (trAt l x).to) (hy : (trAt l y).fr < (trAt l y).to) : Qn l x y ↔ Pz l x y := by
  unfold befB at hs
  simp only [Bool.not_eq_true', Bool.or_eq_false_iff, Bool.and_eq_false_iff, decide_eq_false_iff_not] at hs
  unfold Qn Pz Pr
  omega
theorem tr_ok {l : List Tri} (hok : ∀ t ∈ l, t.fr < t.to) {x : Nat} (h : x < l.length) : (trAt l x).fr < (trAt l x).to := by
  unfold trAt
  rw [List.getD_eq_getElem?_getD, List.getElem?_eq_getElem h]
  exact hok _ (List.getElem_mem h)
theorem bef_trans (l : List Tri) (a b c : Nat) (h1 : (!befB l b a) = true) (h2 : (!befB l c b) = true) : (!befB l c a) = true := by
  unfold befB at *
  simp only [Bool.not_eq_true', Bool.or_eq_false_iff, Bool.and_eq_false_iff, decide_eq_false_iff_not] at *
  omega
theorem bef_total (l : List Tri) (a b : Nat) : ((!befB l b a) || (!befB l a b)) = true := by
  cases h1 : befB l b a <;> cases h2 : befB l a b <;> simp
  unfold befB at h1 h2
  simp only [Bool.or_eq_true, Bool.and_eq_true, decide_eq_true_eq] at h1 h2
  omega
theorem nes_iff (l : List Tri) (hok : ∀ t ∈ l, t.fr < t.to) : nesB l = true ↔ ∀ k, k < l.length → ∀ o, o < k → Pr l o k := by
  have hperm : (ordT l).Perm (List.range l.length) := List.mergeSort_perm _ _
  have hsorted : (ordT l).Pairwise (fun a b => (!befB l b a) = true) := List.pairwise_mergeSort (fun a b c => bef_trans l a b c) (fun a b => bef_total l a b) _
  have hnd : (ordT l).Pairwise (· ≠ ·) := (hperm.nodup_iff.2 List.nodup_range)
  have hmem : ∀ x ∈ ordT l, x < l.length := fun x hx => List.mem_range.1 (hperm.mem_iff.1 hx)
  have hboth := hsorted.and hnd
  unfold nesB
  rw [nst_iff l (ordT l) [] [] List.Pairwise.nil (fun i hi => hi) (fun d hd => by cases hd) (hsorted.imp fun {a b} h => by
    unfold befB at h
    simp only [Bool.not_eq_true', Bool.or_eq_false_iff, Bool.and_eq_false_iff, decide_eq_false_iff_not] at h
    omega)]
  have e1 : (ordT l).Pairwise (Qn l) ↔ (ordT l).Pairwise (Pz l) := by
    constructor
    · intro h
      refine (hboth.and h).imp_of_mem fun {a b} ha hb hab => (qn_pz hab.1.1 hab.1.2 (tr_ok hok (hmem a ha)) (tr_ok hok (hmem b hb))).1 hab.2
    · intro h
      refine (hboth.and h).imp_of_mem fun {a b} ha hb hab => (qn_pz hab.1.1 hab.1.2 (tr_ok hok (hmem a ha)) (tr_ok hok (hmem b hb))).2 hab.2
  have e2 : (ordT l).Pairwise (Pz l) ↔ (List.range l.length).Pairwise (Pz l) := hperm.pairwise_iff fun {a b} h => ⟨h.2, h.1⟩
  have e3 : (List.range l.length).Pairwise (Pz l) ↔ ∀ k, k < l.length → ∀ o, o < k → Pr l o k := by
    rw [List.pairwise_iff_getElem]
    constructor
    · intro h k hk o ho
      have := h o k (by simp; omega) (by simpa using hk) ho
      simp at this
      exact this.1 ho
    · intro h i j hi hj hij
      simp at hi hj ⊢
      exact ⟨fun _ => h j hj i hij, fun h' => by omega⟩
  rw [e1, e2, e3]
  simp
end Go.Proofs.YtlhiedlpjefbnaaDoor

namespace Go.Proofs.YtlhiedlpjefbnaaDoor
set_option linter.unusedVariables false
set_option linter.unusedSimpArgs false
open Go.RowKit Go.Shelf

theorem tri_iff {f : Fun} {t : Tri} : triB f t = true ↔ ¬ t.fr < 0 ∧ ¬ t.to ≤ t.fr ∧ ¬ (f.code.length : Int) < t.to ∧ ¬ t.at' < 0 ∧ ¬ (f.code.length : Int) ≤ t.at' ∧ ¬ t.reg < 0 ∧ ¬ f.regs ≤ t.reg := by
  unfold triB tgtB regB
  simp only [Bool.not_eq_true', Bool.or_eq_false_iff, decide_eq_false_iff_not, Bool.not_eq_false', Bool.and_eq_true, decide_eq_true_eq]
  omega
theorem tn_iff (f : Fun) : (trsB f && nesB f.tries) = true ↔ ∀ k, k < f.tries.length → triB f (trAt f.tries k) = true ∧ ∀ o, o < k → Pr f.tries o k := by
  have key : trsB f = true ↔ ∀ k, k < f.tries.length → triB f (trAt f.tries k) = true := by
    unfold trsB
    rw [List.all_eq_true]
    constructor
    · intro h k hk
      unfold trAt
      rw [List.getD_eq_getElem?_getD, List.getElem?_eq_getElem hk]
      exact h _ (List.getElem_mem hk)
    · intro h x hx
      obtain ⟨j, hj, e⟩ := List.getElem_of_mem hx
      have := h j hj
      unfold trAt at this
      rw [List.getD_eq_getElem?_getD, List.getElem?_eq_getElem hj] at this
      rw [← e]
      exact this
  rw [Bool.and_eq_true]
  constructor
  · rintro ⟨h1, h2⟩ k hk
    have hok : ∀ t ∈ f.tries, t.fr < t.to := fun t ht => by
      have := tri_iff.1 (List.all_eq_true.1 h1 t ht)
      omega
    exact ⟨key.1 h1 k hk, (nes_iff f.tries hok).1 h2 k hk⟩
  · intro h
    have h1 := key.2 fun k hk => (h k hk).1
    have hok : ∀ t ∈ f.tries, t.fr < t.to := fun t ht => by
      have := tri_iff.1 (List.all_eq_true.1 h1 t ht)
      omega
    exact ⟨h1, (nes_iff f.tries hok).2 fun k hk => (h k hk).2⟩
set_option maxHeartbeats 4000000 in
set_option maxRecDepth 100000 in
theorem rtries_any (q : FW) (w : World) (hr : RdE Tri.cs 4 w q.za q.zc q.f.tries) :
    Calls Tryd.prog 17 #[.agg q.cs.toArray] w fun e w' => e = .returned (.bool (trsB q.f && nesB q.f.tries)) ∧ Below w.heap.size w w' := by
  have hle := hr.le
  have hcl : q.zc * (4 * 8) ≤ 140737488351232 := hr.cle
  obtain ⟨A, hA⟩ : ∃ A, (trsB q.f && nesB q.f.tries) = A := ⟨_, rfl⟩
  have hiff := tn_iff q.f
  rw [hA] at hiff ⊢
  clear hA
  simp only [FW.cs]
  obtain ⟨⟨f1, f2, f3, f4, f5, cs, is, ts, us⟩, xa, xc, ya, yc, za, zc, ua, uc⟩ := q
  dsimp only at hr hle hcl hiff ⊢
  obtain ⟨m1, hm1⟩ : ∃ m, cs.length = m := ⟨_, rfl⟩
  obtain ⟨m2, hm2⟩ : ∃ m, is.length = m := ⟨_, rfl⟩
  obtain ⟨m3, hm3⟩ : ∃ m, ts.length = m := ⟨_, rfl⟩
  obtain ⟨m4, hm4⟩ : ∃ m, us.length = m := ⟨_, rfl⟩
  rw [hm3] at hle
  rw [hm1, hm2, hm3, hm4]
  obtain ⟨W1, hW1⟩ : ∃ W1, w.alloc (.cells #[.string f1, .int .i64 f2, .bool f3, .bool f4, .int .i64 f5, .slice xa m1 xc, .slice ya m2 yc, .slice za m3 zc, .slice ua m4 uc] 38) = W1 := ⟨_, rfl⟩
  have b1 : Below w.heap.size w W1 := by rw [← hW1]; exact lay_below
  have q1 : W1.heap[w.heap.size]? = some (.cells #[.string f1, .int .i64 f2, .bool f3, .bool f4, .int .i64 f5, .slice xa m1 xc, .slice ya m2 yc, .slice za m3 zc, .slice ua m4 uc] 38 (0, 0)) := by rw [← hW1]; exact box_new
  obtain ⟨x1, hx1⟩ : ∃ x, w.heap.size = x := ⟨_, rfl⟩
  have HB1 := Hid.mk' b1
  rw [hx1] at q1
  have hxl : x1 < W1.heap.size := (Array.getElem?_eq_some_iff.1 q1).1
  have HCF : Hid (∀ W, Below W1.heap.size W1 W → W.cell? ⟨x1, 4, none⟩ = some (.int .i64 f5) ∧ W.cell? ⟨x1, 6, none⟩ = some (.slice ya m2 yc) ∧ W.cell? ⟨x1, 7, none⟩ = some (.slice za m3 zc)) := Hid.mk' (fun W hW =>
    ⟨(hW.cell (p := ⟨x1, 4, none⟩) hxl).trans ((cell_row _ _ 4 _ _ q1).trans rfl), (hW.cell (p := ⟨x1, 6, none⟩) hxl).trans ((cell_row _ _ 6 _ _ q1).trans rfl), (hW.cell (p := ⟨x1, 7, none⟩) hxl).trans ((cell_row _ _ 7 _ _ q1).trans rfl)⟩)
  obtain ⟨A4, A6, A7⟩ := HCF.out W1 (Below.refl _ _)
  have HR := Hid.mk' (hr.below b1)
  have HI := Hid.mk' hiff
  have HN := Hid.mk' hm3
  have HM2 := Hid.mk' hm2
  have hzb : (m3 : Int) ≤ 140737488351232 := by omega
  have hzc : (m3 : Int) ≤ (zc : Int) := by omega
  clear hr b1 q1 hxl hiff hm1 hm2 hm3 hm4 hle hcl
  go_enter Tryd.func17, Tryd.ntmps17
  go_wp2_with fail
  clear A4 A6 A7 hW1
  go_loopw [12] (fun iv wr => ∃ i : Nat, iv = .int .i64 (i : Int) ∧ i ≤ m3 ∧ Hid (Below W1.heap.size W1 wr) ∧ Hid (∀ j, j < i → triB ⟨f1, f2, f3, f4, f5, cs, is, ts, us⟩ (trAt ts j) = true ∧ ∀ o, o < j → Pr ts o j)) (fun iv wr => m3 - (intOf iv).toNat)
  case atStart => exact ⟨0, rfl, Nat.zero_le _, Hid.mk' (Below.refl _ _), Hid.mk' (fun j h0 => by omega)⟩
  case round =>
    obtain ⟨i, rfl, hi, HBW, HAL⟩ := hrel
    by_cases hlt : i < m3
    · have hlq : i < ts.length := by rw [HN.out]; exact hlt
      obtain ⟨g, o, rfl, hg, hc⟩ := (HR.out.below HBW.out).at i hlq
      have i1 : (i : Int) < (m3 : Int) := by omega
      have i2 : (i : Int) < 140737488351232 := by omega
      have i3 : (i : Int) ≤ (zc : Int) := by omega
      have hta : trAt ts i = ts[i] := by unfold trAt; rw [List.getD_eq_getElem?_getD, List.getElem?_eq_getElem hlq]; rfl
      have HE : Hid (triB ⟨f1, f2, f3, f4, f5, cs, is, ts, us⟩ ts[i] = true → (∀ o, o < i → Pr ts o i) → ∀ j, j < i + 1 → triB ⟨f1, f2, f3, f4, f5, cs, is, ts, us⟩ (trAt ts j) = true ∧ ∀ o, o < j → Pr ts o j) := Hid.mk' (fun h1 h2 j hj => by
        rcases Nat.lt_or_ge j i with h | h
        · exact HAL.out j h
        · obtain rfl : j = i := by omega
          rw [hta]; exact ⟨h1, h2⟩)
      have HX1 : Hid (triB ⟨f1, f2, f3, f4, f5, cs, is, ts, us⟩ ts[i] = false → A = false) := Hid.mk' (fun h => by
        cases hh : A with
        | false => rfl
        | true => have := (HI.out.1 hh i hlq).1; rw [hta, h] at this; cases this)
      have HX2 : Hid (∀ o, o < i → ¬ Pr ts o i → A = false) := Hid.mk' (fun o ho h => by
        cases hh : A with
        | false => rfl
        | true => exact absurd ((HI.out.1 hh i hlq).2 o ho) h)
      have HPR : Hid (∀ o, Pr ts o i ↔ ((trAt ts o).to ≤ (ts[i]).fr ∨ (ts[i]).to ≤ (trAt ts o).fr ∨ ((ts[i]).fr ≤ (trAt ts o).fr ∧ (trAt ts o).to ≤ (ts[i]).to))) := Hid.mk' (fun o => by unfold Pr; rw [hta])
      generalize ts[i] = t at hc HE HX1 HPR hta
      obtain ⟨e0, e1, e2, e3⟩ := t
      dsimp only at HPR
      have d0 := hc 0 (.int .i64 e0) (by omega) rfl
      have d1 := hc 1 (.int .i64 e1) (by omega) rfl
      have d2 := hc 2 (.int .i64 e2) (by omega) rfl
      have d3 := hc 3 (.int .i64 e3) (by omega) rfl
      simp only [Nat.add_zero] at d0
      obtain ⟨W3, hW3⟩ : ∃ W3, wr.alloc (.cells #[.int .i64 e0, .int .i64 e1, .int .i64 e2, .int .i64 e3] 67) = W3 := ⟨_, rfl⟩
      have b3 : Below wr.heap.size wr W3 := by rw [← hW3]; exact lay_below
      have q3 : W3.heap[wr.heap.size]? = some (.cells #[.int .i64 e0, .int .i64 e1, .int .i64 e2, .int .i64 e3] 67 (0, 0)) := by rw [← hW3]; exact box_new
      obtain ⟨x3, hx3⟩ : ∃ x, wr.heap.size = x := ⟨_, rfl⟩
      rw [hx3] at q3
      have hyl : x3 < W3.heap.size := (Array.getElem?_eq_some_iff.1 q3).1
      have HCT : Hid (∀ W, Below W3.heap.size W3 W → W.cell? ⟨x3, 0, none⟩ = some (.int .i64 e0) ∧ W.cell? ⟨x3, 1, none⟩ = some (.int .i64 e1) ∧ W.cell? ⟨x3, 2, none⟩ = some (.int .i64 e2) ∧ W.cell? ⟨x3, 3, none⟩ = some (.int .i64 e3)) := Hid.mk' (fun W hW =>
        ⟨(hW.cell (p := ⟨x3, 0, none⟩) hyl).trans ((cell_row _ _ 0 _ _ q3).trans rfl), (hW.cell (p := ⟨x3, 1, none⟩) hyl).trans ((cell_row _ _ 1 _ _ q3).trans rfl), (hW.cell (p := ⟨x3, 2, none⟩) hyl).trans ((cell_row _ _ 2 _ _ q3).trans rfl), (hW.cell (p := ⟨x3, 3, none⟩) hyl).trans ((cell_row _ _ 3 _ _ q3).trans rfl)⟩)
      obtain ⟨y0, y1, y2, y3⟩ := HCT.out W3 (Below.refl _ _)
      have B3 := HBW.out.trans (b3.mono HBW.out.size)
      obtain ⟨A4, A6, A7⟩ := HCF.out W3 B3
      have HB3 := Hid.mk' B3
      have HR3 := Hid.mk' (HR.out.below B3)
      have HFI := Hid.mk' (HB1.out.trans (B3.mono HB1.out.size))
      have HLT := Hid.mk' hlt
      clear hc hi hlt hg hta b3 q3 hyl B3 hzb hzc
      cases t0 : decide (e0 < 0) with
      | true =>
        have e := HX1.out (by
          cases hh : triB ⟨f1, f2, f3, f4, f5, cs, is, ts, us⟩ ⟨e0, e1, e2, e3⟩ with
          | false => rfl
          | true =>
            have h1 := tri_iff.1 hh
            have h2 := of_decide_eq_true t0
            have h3 := HM2.out
            dsimp only at h1
            omega)
        subst e
        go_wp2
        all_goals
          go_ret
          exact ⟨rfl, by first | exact HFI.out | (rw [← hx1]; exact HFI.out)⟩
      | false =>
        cases t1 : decide (e1 ≤ e0) with
        | true =>
          have e := HX1.out (by
            cases hh : triB ⟨f1, f2, f3, f4, f5, cs, is, ts, us⟩ ⟨e0, e1, e2, e3⟩ with
            | false => rfl
            | true =>
              have h1 := tri_iff.1 hh
              have h2 := of_decide_eq_true t1
              have h3 := HM2.out
              dsimp only at h1
              omega)
          subst e
          go_wp2
          all_goals
            go_ret
            exact ⟨rfl, by first | exact HFI.out | (rw [← hx1]; exact HFI.out)⟩
        | false =>
          cases t2 : decide ((m2 : Int) < e1) with
          | true =>
            have e := HX1.out (by
              cases hh : triB ⟨f1, f2, f3, f4, f5, cs, is, ts, us⟩ ⟨e0, e1, e2, e3⟩ with
              | false => rfl
              | true =>
                have h1 := tri_iff.1 hh
                have h2 := of_decide_eq_true t2
                have h3 := HM2.out
                dsimp only at h1
                omega)
            subst e
            go_wp2
            all_goals
              go_ret
              exact ⟨rfl, by first | exact HFI.out | (rw [← hx1]; exact HFI.out)⟩
          | false =>
            cases t3 : decide (e2 < 0) with
            | true =>
              have e := HX1.out (by
                cases hh : triB ⟨f1, f2, f3, f4, f5, cs, is, ts, us⟩ ⟨e0, e1, e2, e3⟩ with
                | false => rfl
                | true =>
                  have h1 := tri_iff.1 hh
                  have h2 := of_decide_eq_true t3
                  have h3 := HM2.out
                  dsimp only at h1
                  omega)
              subst e
              go_wp2
              all_goals
                go_ret
                exact ⟨rfl, by first | exact HFI.out | (rw [← hx1]; exact HFI.out)⟩
            | false =>
              cases t4 : decide ((m2 : Int) ≤ e2) with
              | true =>
                have e := HX1.out (by
                  cases hh : triB ⟨f1, f2, f3, f4, f5, cs, is, ts, us⟩ ⟨e0, e1, e2, e3⟩ with
                  | false => rfl
                  | true =>
                    have h1 := tri_iff.1 hh
                    have h2 := of_decide_eq_true t4
                    have h3 := HM2.out
                    dsimp only at h1
                    omega)
                subst e
                go_wp2
                all_goals
                  go_ret
                  exact ⟨rfl, by first | exact HFI.out | (rw [← hx1]; exact HFI.out)⟩
              | false =>
                cases t5 : decide (e3 < 0) with
                | true =>
                  have e := HX1.out (by
                    cases hh : triB ⟨f1, f2, f3, f4, f5, cs, is, ts, us⟩ ⟨e0, e1, e2, e3⟩ with
                    | false => rfl
                    | true =>
                      have h1 := tri_iff.1 hh
                      have h2 := of_decide_eq_true t5
                      have h3 := HM2.out
                      dsimp only at h1
                      omega)
                  subst e
                  go_wp2
                  all_goals
                    go_ret
                    exact ⟨rfl, by first | exact HFI.out | (rw [← hx1]; exact HFI.out)⟩
                | false =>
                  cases t6 : decide (f5 ≤ e3) with
                  | true =>
                    have e := HX1.out (by
                      cases hh : triB ⟨f1, f2, f3, f4, f5, cs, is, ts, us⟩ ⟨e0, e1, e2, e3⟩ with
                      | false => rfl
                      | true =>
                        have h1 := tri_iff.1 hh
                        have h2 := of_decide_eq_true t6
                        have h3 := HM2.out
                        dsimp only at h1
                        omega)
                    subst e
                    go_wp2
                    all_goals
                      go_ret
                      exact ⟨rfl, by first | exact HFI.out | (rw [← hx1]; exact HFI.out)⟩
                  | false =>
                    have HTI : Hid (triB ⟨f1, f2, f3, f4, f5, cs, is, ts, us⟩ ⟨e0, e1, e2, e3⟩ = true) := Hid.mk' (tri_iff.2 (by
                      have h0 := of_decide_eq_false t0
                      have h1 := of_decide_eq_false t1
                      have h2 := of_decide_eq_false t2
                      have h3 := of_decide_eq_false t3
                      have h4 := of_decide_eq_false t4
                      have h5 := of_decide_eq_false t5
                      have h6 := of_decide_eq_false t6
                      have h7 := HM2.out
                      dsimp only
                      omega))
                    go_wp2_with fail
                    clear d0 d1 d2 d3 y0 y1 y2 y3 A4 A6 A7 t0 t1 t2 t3 t4 t5 t6 hW3 hx3 i1
                    go_loopw [65] (fun jv wx => ∃ j : Nat, jv = .int .i64 (j : Int) ∧ j ≤ i ∧ Hid (Below W3.heap.size W3 wx) ∧ Hid (∀ o, o < j → Pr ts o i)) (fun jv wx => i - (intOf jv).toNat)
                    case atStart => exact ⟨0, rfl, Nat.zero_le _, Hid.mk' (Below.refl _ _), Hid.mk' (fun o h => by omega)⟩
                    case round =>
                      obtain ⟨j, rfl, hj, HBX, HAJ⟩ := hrel
                      by_cases hjt : j < i
                      · have hjq : j < ts.length := by rw [HN.out]; have := HLT.out; omega
                        obtain ⟨g', o', hya, _, hc⟩ := (HR3.out.below HBX.out).at j hjq
                        simp only [Option.some.injEq, Addr.mk.injEq] at hya
                        obtain ⟨rfl, rfl, _⟩ := hya
                        have j1 : (j : Int) < (i : Int) := by omega
                        have j2 : (j : Int) < 140737488351232 := by omega
                        have hta : trAt ts j = ts[j] := by unfold trAt; rw [List.getD_eq_getElem?_getD, List.getElem?_eq_getElem hjq]; rfl
                        have HAN : Hid (Pr ts j i → ∀ o, o < j + 1 → Pr ts o i) := Hid.mk' (fun h o ho => by
                          rcases Nat.lt_or_ge o j with h1 | h1
                          · exact HAJ.out o h1
                          · obtain rfl : o = j := by omega
                            exact h)
                        have HPJ := Hid.mk' (HPR.out j)
                        rw [hta] at HPJ
                        generalize ts[j] = u at hc HPJ hta
                        obtain ⟨o0, o1, o2, o3⟩ := u
                        dsimp only at HPJ
                        have z0 := hc 0 (.int .i64 o0) (by omega) rfl
                        have z1 := hc 1 (.int .i64 o1) (by omega) rfl
                        have z2 := hc 2 (.int .i64 o2) (by omega) rfl
                        have z3 := hc 3 (.int .i64 o3) (by omega) rfl
                        simp only [Nat.add_zero] at z0
                        obtain ⟨W5, hW5⟩ : ∃ W5, wr.alloc (.cells #[.int .i64 o0, .int .i64 o1, .int .i64 o2, .int .i64 o3] 67) = W5 := ⟨_, rfl⟩
                        have b5 : Below wr.heap.size wr W5 := by rw [← hW5]; exact lay_below
                        have q5 : W5.heap[wr.heap.size]? = some (.cells #[.int .i64 o0, .int .i64 o1, .int .i64 o2, .int .i64 o3] 67 (0, 0)) := by rw [← hW5]; exact box_new
                        obtain ⟨x5, hx5⟩ : ∃ x, wr.heap.size = x := ⟨_, rfl⟩
                        rw [hx5] at q5
                        have v0 : W5.cell? ⟨x5, 0, none⟩ = some (.int .i64 o0) := (cell_row _ _ 0 _ _ q5).trans rfl
                        have v1 : W5.cell? ⟨x5, 1, none⟩ = some (.int .i64 o1) := (cell_row _ _ 1 _ _ q5).trans rfl
                        have B5 := HBX.out.trans (b5.mono HBX.out.size)
                        obtain ⟨y0, y1, y2, y3⟩ := HCT.out W5 B5
                        have HB5 := Hid.mk' B5
                        have HF5 := Hid.mk' (HB1.out.trans ((HB3.out.trans (B5.mono HB3.out.size)).mono HB1.out.size))
                        have HJL := Hid.mk' hjt
                        have HXJ := Hid.mk' (HX2.out j hjt)
                        clear hc hj hjt hta b5 q5 B5
                        cases a1 : decide (o1 ≤ e0) <;> cases a2 : decide (e1 ≤ o0) <;> cases a3 : decide (e0 ≤ o0) <;> cases a4 : decide (o1 ≤ e1)
                        all_goals
                          have HS := Hid.mk' (And.intro a1 (And.intro a2 (And.intro a3 a4)))
                          go_wp2
                          first
                            | exact ⟨⟨j + 1, by go_num, HJL.out, HB5, Hid.mk' (HAN.out (HPJ.out.2 (by obtain ⟨h1, h2, h3, h4⟩ := HS.out; simp only [decide_eq_true_eq, decide_eq_false_iff_not] at h1 h2 h3 h4; omega)))⟩, meas_up' i j HJL.out⟩
                            | (have e := HXJ.out (fun h => by have h' := HPJ.out.1 h; obtain ⟨h1, h2, h3, h4⟩ := HS.out; simp only [decide_eq_true_eq, decide_eq_false_iff_not] at h1 h2 h3 h4; omega)
                               subst e
                               go_ret
                               exact ⟨rfl, by first | exact HF5.out | (rw [← hx1]; exact HF5.out)⟩)
                      · have j1 : ¬ (j : Int) < (i : Int) := by omega
                        go_wp2
                        exact ⟨⟨i + 1, by go_num, HLT.out, Hid.mk' (HB3.out.trans (HBX.out.mono HB3.out.size)), Hid.mk' (HE.out HTI.out (fun o ho => HAJ.out o (by omega)))⟩, meas_up' m3 i HLT.out⟩
    · have i1 : ¬ (i : Int) < (m3 : Int) := by omega
      have e : A = true := HI.out.2 (fun k hk => HAL.out k (by have := HN.out; omega))
      subst e
      go_wp2
      go_ret
      exact ⟨rfl, by first | exact HB1.out.trans (HBW.out.mono HB1.out.size) | (rw [← hx1]; exact HB1.out.trans (HBW.out.mono HB1.out.size))⟩
end Go.Proofs.YtlhiedlpjefbnaaDoor
