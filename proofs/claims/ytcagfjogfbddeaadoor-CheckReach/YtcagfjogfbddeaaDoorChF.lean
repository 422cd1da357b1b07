/- Package check: what an instruction reads or writes beside what its operands name; an operand asked by its letter. -/
import Derived.Test.YtcagfjogfbddeaaDoorChD
namespace Go.Proofs.YtcagfjogfbddeaaDoor
set_option linter.unusedVariables false
set_option linter.unusedSimpArgs false
open Go.RowKit

set_option maxHeartbeats 1000000 in
set_option maxRecDepth 100000 in
theorem operandsZ (op : Int) (w : World) (hl : Hid (LaidL w)) : Calls Tryd.prog 20 #[.int .i64 op] w fun e w' => e = .returned (.string (Sb (letz op))) ∧ w' = w := by
  by_cases h : 0 ≤ op ∧ op ≤ 70
  · obtain ⟨k, rfl⟩ : ∃ k : Nat, op = (k : Int) := ⟨op.toNat, by omega⟩
    have e : letz (k : Int) = letsOf k := by unfold letz; rw [if_pos h]; simp
    rw [e]
    exact operands_any k w (by omega) hl
  · have e : letz op = [] := by unfold letz; rw [if_neg h]
    rw [e]
    have HI := Hid.mk' (fun W => isOp_any op W)
    rw [decide_eq_false h] at HI
    clear h e
    go_enter Tryd.func20, Tryd.ntmps20
    go_wp2_with (go_at_call 29; refine (HI.out _).mono ?_; rintro e w1 ⟨rfl, hw1⟩; rw [hw1]; clear hw1 w1)
    go_ret
    exact ⟨rfl, rfl⟩
/-- The letters that there are. -/
theorem letz_in (op : Int) : ∀ c ∈ letz op, c ∈ ([114, 107, 115, 110, 116, 102, 117] : List UInt8) := by
  have key : ∀ k : Fin 50, ∀ c ∈ lets.getD k.val [], c ∈ ([114, 107, 115, 110, 116, 102, 117] : List UInt8) := by decide +kernel
  intro c hc
  unfold letz at hc
  split at hc
  · exact key ⟨min op.toNat 49, by omega⟩ c hc
  · cases hc
theorem Ck.heap {w w' : World} {cb : Nat} {a : Option Addr} {n c : Nat} {vn : Value} {mp : Nat} {q : FW} (h : Ck w cb a n c vn mp q) (e : w'.heap = w.heap) : Ck w' cb a n c vn mp q := ⟨by rw [e]; exact h.blk⟩
theorem RdE.heap {α : Type} {cs : α → List Value} {sz : Nat} {w w' : World} {a : Option Addr} {c : Nat} {l : List α} (h : RdE cs sz w a c l) (e : w'.heap = w.heap) : RdE cs sz w' a c l := by
  refine ⟨h.le, h.cle, h.nil, ?_⟩
  rcases h.here with h | ⟨g, o, ha, hg, hc⟩
  · exact .inl h
  · exact .inr ⟨g, o, ha, by rw [e]; exact hg, fun j hj k u hk hu => by have := hc j hj k u hk hu; unfold World.cell? at this ⊢; rw [e]; exact this⟩
theorem KM.heap {w w' : World} {mp : Nat} (h : KM w mp) (e : w'.heap = w.heap) : KM w' mp := by
  obtain ⟨D, n, ⟨es, clock, he, rest⟩, ht⟩ := h
  exact ⟨D, n, ⟨es, clock, by rw [e]; exact he, rest⟩, ht⟩
/-- An operand is asked by its letter. -/
theorem kind_call {cb : Nat} {a : Option Addr} {n c : Nat} {vn : Value} {mp : Nat} {q : FW} (w : World) (h : Ck w cb a n c vn mp q) (km : KM w mp) (hr : RdE Cst.cs 4 w q.xa q.xc q.f.consts) (l : UInt8) (hl : l ∈ ([114, 107, 115, 110, 116, 102, 117] : List UInt8)) (z : Int) :
    ∃ K, (∀ W : World, W.heap = w.heap → (Instr.lookup 75 (.map (some mp)) (.int .u8 (l.toNat : Int)) false).run Tryd.prog W = .ok (.func (.func K) #[] #[]) W) ∧
      (∀ args W, (callFunc K args).run Tryd.prog W = .ok (.enter K args) W) ∧
      ∀ W : World, W.heap = w.heap → Calls Tryd.prog K #[.pointer (some ⟨cb, 0, none⟩), .int .i64 z] W fun e w' => e = .returned (.bool (opnB n q.f l z)) ∧ w' = W := by
  simp only [List.mem_cons, List.not_mem_nil, or_false] at hl
  rcases hl with rfl | rfl | rfl | rfl | rfl | rfl | rfl
  · exact ⟨_, fun W e => (km.heap e).look 114 _ (by simp [ktab]), enters_of Tryd.func39 (by kernel_rfl) rfl, fun W e => register_any W (h.heap e) z⟩
  · exact ⟨_, fun W e => (km.heap e).look 107 _ (by simp [ktab]), enters_of Tryd.func40 (by kernel_rfl) rfl, fun W e => constant_any' W (h.heap e) z⟩
  · exact ⟨_, fun W e => (km.heap e).look 115 _ (by simp [ktab]), enters_of Tryd.func41 (by kernel_rfl) rfl, fun W e => text_any' W (h.heap e) (hr.heap e) z⟩
  · exact ⟨_, fun W e => (km.heap e).look 110 _ (by simp [ktab]), enters_of Tryd.func42 (by kernel_rfl) rfl, fun W e => number_any' W z⟩
  · exact ⟨_, fun W e => (km.heap e).look 116 _ (by simp [ktab]), enters_of Tryd.func43 (by kernel_rfl) rfl, fun W e => target_any W (h.heap e) z⟩
  · exact ⟨_, fun W e => (km.heap e).look 102 _ (by simp [ktab]), enters_of Tryd.func44 (by kernel_rfl) rfl, fun W e => made_any W (h.heap e) z⟩
  · exact ⟨_, fun W e => (km.heap e).look 117 _ (by simp [ktab]), enters_of Tryd.func45 (by kernel_rfl) rfl, fun W e => capture_any' W (h.heap e) z⟩
theorem need_len (x : Need) : x.cs.length = 3 := rfl
theorem flat_get' {α : Type} {cs : α → List Value} {sz : Nat} (hcs : ∀ x, (cs x).length = sz) : ∀ (els : List α) (j k : Nat) (hj : j < els.length), k < sz → (els.flatMap cs)[j * sz + k]? = (cs els[j])[k]?
  | [], j, k, hj, _ => by simp at hj
  | a :: r, 0, k, hj, hk => by
    simp only [List.flatMap_cons, Nat.zero_mul, Nat.zero_add, List.getElem_cons_zero]
    rw [List.getElem?_append_left (by rw [hcs]; exact hk)]
  | a :: r, j + 1, k, hj, hk => by
    simp only [List.flatMap_cons, List.getElem_cons_succ]
    have hl := hcs a
    rw [List.getElem?_append_right (by rw [hl, Nat.succ_mul]; omega), hl, show (j + 1) * sz + k - sz = j * sz + k by rw [Nat.succ_mul]; omega]
    exact flat_get' hcs r j k (by simpa using hj) hk
theorem own_at' {α : Type} {cs : α → List Value} {sz : Nat} (hcs : ∀ x, (cs x).length = sz) {w : World} {B : Nat} {e : TypeId} {a : Option Addr} {n c : Nat} {els : List α} (h : w.ownsRow B e sz (.slice a n c) n (els.flatMap cs)) (hn : els.length = n) (j : Nat) (hj : j < els.length) : ∃ g, a = some ⟨g, 0, none⟩ ∧ ∀ k u, k < sz → (cs els[j])[k]? = some u → w.cell? ⟨g, j * sz + k, none⟩ = some u := by
  obtain ⟨g, rfl⟩ := own_some h (by omega)
  refine ⟨g, rfl, fun k u hk hu => ?_⟩
  have := h.cells (g := g) rfl (j * sz + k) u (by rw [flat_get' hcs els j k hj hk]; exact hu)
  rw [Addr.add_lit] at this
  simpa using this
set_option maxHeartbeats 2000000 in
set_option maxRecDepth 100000 in
theorem allThere_any {cb B : Nat} {a : Option Addr} {c : Nat} {vn : Value} {mp : Nat} {q : FW} {qs : List FW} (w : World) (h : Ck w cb a qs.length c vn mp q) (ho : w.ownsRow B 81 3 vn qs.length ((needs qs).flatMap Need.cs)) (i : Ins)
    (h15 : i.op = 15 → 0 ≤ i.b ∧ i.b < qs.length) (h38 : i.op = 38 → 0 ≤ i.a ∧ i.a < 9223372036854775807) (h39 : i.op = 39 → 0 ≤ i.b ∧ i.b < 9223372036854775807) :
    Calls Tryd.prog 46 #[.pointer (some ⟨cb, 0, none⟩), .agg i.cs.toArray] w fun e w' => e = .returned (.bool (allB (qs.map FW.f) q.f i)) ∧ Below w.heap.size w w' := by
  obtain ⟨op, ia, ib, ic, id⟩ := i
  simp only [Ins.cs]
  unfold allB
  dsimp only at h15 h38 h39 ⊢
  obtain ⟨W1, hW1⟩ : ∃ W1, w.alloc (.cells #[.int .i64 op, .int .i64 ia, .int .i64 ib, .int .i64 ic, .int .i64 id] 44) = W1 := ⟨_, rfl⟩
  have b1 : Below w.heap.size w W1 := by rw [← hW1]; exact lay_below
  have q1 : W1.heap[w.heap.size]? = some (.cells #[.int .i64 op, .int .i64 ia, .int .i64 ib, .int .i64 ic, .int .i64 id] 44 (0, 0)) := by rw [← hW1]; exact box_new
  have HRg := Hid.mk' (fun z => register_any W1 (h.below b1) z)
  have HB := Hid.mk' b1
  obtain ⟨b0, hb0⟩ : ∃ b0, w.heap.size = b0 := ⟨_, rfl⟩
  rw [hb0] at q1
  have A0 : W1.cell? ⟨b0, 0, none⟩ = some (.int .i64 op) := (cell_row _ _ 0 _ _ q1).trans rfl
  have A1 : W1.cell? ⟨b0, 1, none⟩ = some (.int .i64 ia) := (cell_row _ _ 1 _ _ q1).trans rfl
  have A2 : W1.cell? ⟨b0, 2, none⟩ = some (.int .i64 ib) := (cell_row _ _ 2 _ _ q1).trans rfl
  by_cases e0 : op = 0
  · subst e0
    rw [if_pos rfl]
    clear h ho h15 h38 h39 q1 b1
    go_enter Tryd.func46, Tryd.ntmps46
    go_wp2
    all_goals
      go_ret
      exact ⟨by first | rfl | (simp; omega) | (simp_all; done), by first | exact HB.out | (rw [hb0]; exact HB.out)⟩
  by_cases e1 : op = 38
  · subst e1
    rw [if_neg (by decide), if_pos rfl]
    have hh := h38 rfl
    clear h ho h15 h38 h39 q1 b1
    go_enter Tryd.func46, Tryd.ntmps46
    go_wp2_with (go_at_call 39; refine (HRg.out _).mono ?_; rintro e w1 ⟨rfl, hw1⟩; rw [hw1]; clear hw1 w1)
    all_goals
      go_ret
      exact ⟨rfl, by first | exact HB.out | (rw [hb0]; exact HB.out)⟩
  by_cases e2 : op = 39
  · subst e2
    rw [if_neg (by decide), if_neg (by decide), if_pos rfl]
    have hh := h39 rfl
    clear h ho h15 h38 h39 q1 b1
    go_enter Tryd.func46, Tryd.ntmps46
    go_wp2_with (go_at_call 39; refine (HRg.out _).mono ?_; rintro e w1 ⟨rfl, hw1⟩; rw [hw1]; clear hw1 w1)
    all_goals
      go_ret
      exact ⟨rfl, by first | exact HB.out | (rw [hb0]; exact HB.out)⟩
  by_cases e3 : op = 15
  · subst e3
    rw [if_neg (by decide), if_neg (by decide), if_neg (by decide), if_pos rfl]
    have hh := h15 rfl
    obtain ⟨k, rfl⟩ : ∃ k : Nat, ib = (k : Int) := ⟨ib.toNat, by omega⟩
    have hk : k < qs.length := by omega
    have hnl : (needs qs).length = qs.length := by simp [needs]
    have hck := h.below b1
    obtain ⟨va, vc, hv, _⟩ := own_slice' ho
    subst hv
    obtain ⟨g, rfl, hc⟩ := own_at' need_len (own_below ho b1) hnl k (by rw [hnl]; exact hk)
    have e : needOf ((qs.map FW.f).getD (k : Int).toNat noFun).caps = (needs qs)[k]'(by rw [hnl]; exact hk) := by
      simp [needs, List.getD_eq_getElem?_getD, List.getElem?_eq_getElem hk]
    rw [e]
    clear e
    generalize (needs qs)[k]'(by rw [hnl]; exact hk) = nd at hc
    have HM := Hid.mk' (fun W => metBy_any W nd q)
    obtain ⟨n1, n2, n3⟩ := nd
    have d0 : W1.cell? ⟨g, k * 3, none⟩ = some (.int .i64 n1) := by have := hc 0 (.int .i64 n1) (by omega) rfl; simpa using this
    have d1 : W1.cell? ⟨g, k * 3 + 1, none⟩ = some (.int .i64 n2) := by have := hc 1 (.int .i64 n2) (by omega) rfl; simpa using this
    have d2 : W1.cell? ⟨g, k * 3 + 2, none⟩ = some (.int .i64 n3) := by have := hc 2 (.int .i64 n3) (by omega) rfl; simpa using this
    obtain ⟨nq, hnq⟩ : ∃ nq, qs.length = nq := ⟨_, rfl⟩
    simp only [hnq] at hck hk hh
    have hk' : (k : Int) < (nq : Int) := by omega
    obtain ⟨rb, hrb⟩ : ∃ rb, (Need.mk n1 n2 n3).met q.f = rb := ⟨_, rfl⟩
    rw [hrb] at HM ⊢
    clear h ho h15 h38 h39 q1 b1 hc hnl e0 e1 e2 hnq hrb
    have c1 : W1.cell? ⟨cb, 1, none⟩ = some (.slice (some ⟨g, 0, none⟩) nq vc) := (hck.cell 1).trans rfl
    have c3 : W1.cell? ⟨cb, 3, none⟩ = _ := (hck.cell 3).trans rfl
    have c4 : W1.cell? ⟨cb, 4, none⟩ = _ := (hck.cell 4).trans rfl
    have c5 : W1.cell? ⟨cb, 5, none⟩ = _ := (hck.cell 5).trans rfl
    have c6 : W1.cell? ⟨cb, 6, none⟩ = _ := (hck.cell 6).trans rfl
    have c7 : W1.cell? ⟨cb, 7, none⟩ = _ := (hck.cell 7).trans rfl
    have c8 : W1.cell? ⟨cb, 8, none⟩ = _ := (hck.cell 8).trans rfl
    have c9 : W1.cell? ⟨cb, 9, none⟩ = _ := (hck.cell 9).trans rfl
    have c10 : W1.cell? ⟨cb, 10, none⟩ = _ := (hck.cell 10).trans rfl
    have c11 : W1.cell? ⟨cb, 11, none⟩ = _ := (hck.cell 11).trans rfl
    simp at c3 c4 c5 c6 c7 c8 c9 c10 c11
    obtain ⟨⟨f1, f2, f3, f4, f5, cs, is, ts, us⟩, xa, xc, ya, yc, za, zc, ua, uc⟩ := q
    simp only [FW.cs, Need.cs] at HM
    dsimp only at c3 c4 c5 c6 c7 c8 c9 c10 c11 HM
    obtain ⟨m1, hm1⟩ : ∃ m, cs.length = m := ⟨_, rfl⟩
    obtain ⟨m2, hm2⟩ : ∃ m, is.length = m := ⟨_, rfl⟩
    obtain ⟨m3, hm3⟩ : ∃ m, ts.length = m := ⟨_, rfl⟩
    obtain ⟨m4, hm4⟩ : ∃ m, us.length = m := ⟨_, rfl⟩
    simp only [hm1, hm2, hm3, hm4] at c8 c9 c10 c11 HM
    clear hck hm1 hm2 hm3 hm4
    go_enter Tryd.func46, Tryd.ntmps46
    go_wp2_with fail
    go_region_with (go_at_call 50; refine (HM.out _).mono ?_; rintro e w1 ⟨rfl, bw⟩)
    all_goals
      have HBn := Hid.mk' (HB.out.trans ((drewC bw).mono HB.out.size))
      clear bw
      go_wp2
      go_ret
      exact ⟨rfl, by first | exact HBn.out | (rw [hb0]; exact HBn.out)⟩
  · rw [if_neg e0, if_neg e1, if_neg e2, if_neg e3]
    have k0 : (op == 0) = false := by simp [e0]
    have k1 : (op == 38) = false := by simp [e1]
    have k2 : (op == 39) = false := by simp [e2]
    have k3 : (op == 15) = false := by simp [e3]
    clear h ho h15 h38 h39 q1 b1 e0 e1 e2 e3
    go_enter Tryd.func46, Tryd.ntmps46
    go_wp2
    all_goals
      go_ret
      exact ⟨rfl, by first | exact HB.out | (rw [hb0]; exact HB.out)⟩
end Go.Proofs.YtcagfjogfbddeaaDoor
