/- Package check: the checker in memory, its small methods. Package check: the map of method expressions, text, what a function needs. Package check: what a function needs of the one that makes it; the checker made. -/
import Derived.Test.YtcagfjogfbddeaaDoorChP
import Derived.BigQuiet
import Derived.Maps.OwnSet
import Derived.Maps.Views
import Derived.MapViews
import Derived.Deep.Cut
import Derived.Deep.CutRange
import Derived.Lib.MinMax
namespace Go.Proofs.YtcagfjogfbddeaaDoor
set_option linter.unusedVariables false
set_option linter.unusedSimpArgs false
open Go.RowKit

/-- The checker. -/
structure Ck (w : World) (cb : Nat) (a : Option Addr) (n c : Nat) (vn : Value) (mp : Nat) (q : FW) : Prop where
  blk : w.heap[cb]? = some (.cells #[.slice a n c, vn, .map (some mp), .string q.f.name, .int .i64 q.f.params, .bool q.f.rest, .bool q.f.arrow, .int .i64 q.f.regs, .slice q.xa q.f.consts.length q.xc, .slice q.ya q.f.code.length q.yc, .slice q.za q.f.tries.length q.zc, .slice q.ua q.f.caps.length q.uc] 79 (0, 0))
theorem Ck.lt {w : World} {cb : Nat} {a : Option Addr} {n c : Nat} {vn : Value} {mp : Nat} {q : FW} (h : Ck w cb a n c vn mp q) : cb < w.heap.size := (Array.getElem?_eq_some_iff.1 h.blk).1
theorem Ck.below {w w' : World} {cb : Nat} {a : Option Addr} {n c : Nat} {vn : Value} {mp : Nat} {q : FW} (h : Ck w cb a n c vn mp q) (hb : Below w.heap.size w w') : Ck w' cb a n c vn mp q := ⟨(hb.block cb h.lt).trans h.blk⟩
theorem Ck.cell {w : World} {cb : Nat} {a : Option Addr} {n c : Nat} {vn : Value} {mp : Nat} {q : FW} (h : Ck w cb a n c vn mp q) (k : Nat) : w.cell? ⟨cb, k, none⟩ = (#[.slice a n c, vn, .map (some mp), .string q.f.name, .int .i64 q.f.params, .bool q.f.rest, .bool q.f.arrow, .int .i64 q.f.regs, .slice q.xa q.f.consts.length q.xc, .slice q.ya q.f.code.length q.yc, .slice q.za q.f.tries.length q.zc, .slice q.ua q.f.caps.length q.uc] : Array Value)[k]? := cell_row _ _ _ _ _ h.blk

set_option maxHeartbeats 400000 in
theorem register_any {cb : Nat} {a : Option Addr} {n c : Nat} {vn : Value} {mp : Nat} {q : FW} (w : World) (h : Ck w cb a n c vn mp q) (z : Int) : Calls Tryd.prog 39 #[.pointer (some ⟨cb, 0, none⟩), .int .i64 z] w fun e w' => e = .returned (.bool (regB q.f z)) ∧ w' = w := by
  have c0 : w.cell? ⟨cb, 7, none⟩ = _ := h.cell 7
  simp at c0
  unfold regB
  obtain ⟨r, hr⟩ : ∃ r, q.f.regs = r := ⟨_, rfl⟩
  rw [hr] at c0 ⊢
  clear h hr
  go_enter Tryd.func39, Tryd.ntmps39
  go_wp2
  all_goals
    go_ret
    exact ⟨by first | rfl | (simp_all; done) | (simp; intros; omega) | (simp_all; intros; omega), rfl⟩
set_option maxHeartbeats 400000 in
theorem constant_any' {cb : Nat} {a : Option Addr} {n c : Nat} {vn : Value} {mp : Nat} {q : FW} (w : World) (h : Ck w cb a n c vn mp q) (z : Int) : Calls Tryd.prog 40 #[.pointer (some ⟨cb, 0, none⟩), .int .i64 z] w fun e w' => e = .returned (.bool (cstB q.f z)) ∧ w' = w := by
  have c0 : w.cell? ⟨cb, 8, none⟩ = _ := h.cell 8
  simp at c0
  unfold cstB
  obtain ⟨r, hr⟩ : ∃ r, q.f.consts.length = r := ⟨_, rfl⟩
  rw [hr] at c0 ⊢
  clear h hr
  go_enter Tryd.func40, Tryd.ntmps40
  go_wp2
  all_goals
    go_ret
    exact ⟨by first | rfl | (simp_all; done) | (simp; intros; omega) | (simp_all; intros; omega), rfl⟩
set_option maxHeartbeats 400000 in
theorem number_any' {cb : Nat} (w : World) (z : Int) : Calls Tryd.prog 42 #[.pointer (some ⟨cb, 0, none⟩), .int .i64 z] w fun e w' => e = .returned (.bool (numB z)) ∧ w' = w := by
  unfold numB
  go_enter Tryd.func42, Tryd.ntmps42
  go_wp2
  all_goals
    go_ret
    exact ⟨by first | rfl | (simp_all; done) | (simp; intros; omega) | (simp_all; intros; omega), rfl⟩
set_option maxHeartbeats 400000 in
theorem target_any {cb : Nat} {a : Option Addr} {n c : Nat} {vn : Value} {mp : Nat} {q : FW} (w : World) (h : Ck w cb a n c vn mp q) (z : Int) : Calls Tryd.prog 43 #[.pointer (some ⟨cb, 0, none⟩), .int .i64 z] w fun e w' => e = .returned (.bool (tgtB q.f z)) ∧ w' = w := by
  have c0 : w.cell? ⟨cb, 9, none⟩ = _ := h.cell 9
  simp at c0
  unfold tgtB
  obtain ⟨r, hr⟩ : ∃ r, q.f.code.length = r := ⟨_, rfl⟩
  rw [hr] at c0 ⊢
  clear h hr
  go_enter Tryd.func43, Tryd.ntmps43
  go_wp2
  all_goals
    go_ret
    exact ⟨by first | rfl | (simp_all; done) | (simp; intros; omega) | (simp_all; intros; omega), rfl⟩
set_option maxHeartbeats 400000 in
theorem made_any {cb : Nat} {a : Option Addr} {n c : Nat} {vn : Value} {mp : Nat} {q : FW} (w : World) (h : Ck w cb a n c vn mp q) (z : Int) : Calls Tryd.prog 44 #[.pointer (some ⟨cb, 0, none⟩), .int .i64 z] w fun e w' => e = .returned (.bool (madB n z)) ∧ w' = w := by
  have c0 : w.cell? ⟨cb, 0, none⟩ = _ := h.cell 0
  simp at c0
  unfold madB
  clear h
  go_enter Tryd.func44, Tryd.ntmps44
  go_wp2
  all_goals
    go_ret
    exact ⟨by first | rfl | (simp_all; done) | (simp; intros; omega) | (simp_all; intros; omega), rfl⟩
set_option maxHeartbeats 400000 in
theorem capture_any' {cb : Nat} {a : Option Addr} {n c : Nat} {vn : Value} {mp : Nat} {q : FW} (w : World) (h : Ck w cb a n c vn mp q) (z : Int) : Calls Tryd.prog 45 #[.pointer (some ⟨cb, 0, none⟩), .int .i64 z] w fun e w' => e = .returned (.bool (capB q.f z)) ∧ w' = w := by
  have c0 : w.cell? ⟨cb, 11, none⟩ = _ := h.cell 11
  simp at c0
  unfold capB
  obtain ⟨r, hr⟩ : ∃ r, q.f.caps.length = r := ⟨_, rfl⟩
  rw [hr] at c0 ⊢
  clear h hr
  go_enter Tryd.func45, Tryd.ntmps45
  go_wp2
  all_goals
    go_ret
    exact ⟨by first | rfl | (simp_all; done) | (simp; intros; omega) | (simp_all; intros; omega), rfl⟩
set_option maxHeartbeats 400000 in
theorem leaves_any (w : World) (z : Int) : Calls Tryd.prog 14 #[.int .i64 z] w fun e w' => e = .returned (.bool (leaB z)) ∧ w' = w := by
  unfold leaB
  go_enter Tryd.func14, Tryd.ntmps14
  go_wp2
  all_goals
    go_ret
    exact ⟨by first | rfl | (simp_all; done) | (simp; intros; omega) | (simp_all; intros; omega), rfl⟩
set_option maxHeartbeats 400000 in
theorem opnds_any (w : World) (o a b c d : Int) : Calls Tryd.prog 21 #[.agg #[.int .i64 o, .int .i64 a, .int .i64 b, .int .i64 c, .int .i64 d]] w fun e w' => e = .returned (.agg #[.int .i64 a, .int .i64 b, .int .i64 c, .int .i64 d]) ∧ Below w.heap.size w w' := by
  go_enter Tryd.func21, Tryd.ntmps21
  go_wp2
  refine bodyPost_ret (v := .agg #[.int .i64 a, .int .i64 b, .int .i64 c, .int .i64 d]) ?_ rfl ⟨rfl, (lay_below).alloc (by simp) _⟩
  rw [res_cell rfl]
  go_simp
set_option maxHeartbeats 400000 in
theorem isScript_any (w : World) (q : FW) : Calls Tryd.prog 33 #[.agg q.cs.toArray] w fun e w' => e = .returned (.bool (scrB q.f)) ∧ Below w.heap.size w w' := by
  unfold scrB
  simp only [FW.cs]
  obtain ⟨⟨f1, f2, f3, f4, f5, cs, is, ts, us⟩, xa, xc, ya, yc, za, zc, ua, uc⟩ := q
  dsimp only
  obtain ⟨n1, hn1⟩ : ∃ n1, cs.length = n1 := ⟨_, rfl⟩
  obtain ⟨n2, hn2⟩ : ∃ n2, is.length = n2 := ⟨_, rfl⟩
  obtain ⟨n3, hn3⟩ : ∃ n3, ts.length = n3 := ⟨_, rfl⟩
  obtain ⟨n4, hn4⟩ : ∃ n4, us.length = n4 := ⟨_, rfl⟩
  rw [hn1, hn2, hn3, hn4]
  clear hn1 hn2 hn3 hn4
  have hB : Hid (Below w.heap.size w (w.alloc (.cells #[.string f1, .int .i64 f2, .bool f3, .bool f4, .int .i64 f5, .slice xa n1 xc, .slice ya n2 yc, .slice za n3 zc, .slice ua n4 uc] 28))) := Hid.mk' lay_below
  go_enter Tryd.func33, Tryd.ntmps33
  go_wp2
  all_goals
    go_ret
    exact ⟨by first | rfl | (simp_all; done), lay_below⟩
set_option maxHeartbeats 400000 in
theorem metBy_any (w : World) (m : Need) (q : FW) : Calls Tryd.prog 50 #[.agg m.cs.toArray, .agg q.cs.toArray] w fun e w' => e = .returned (.bool (m.met q.f)) ∧ Below w.heap.size w w' := by
  unfold Need.met
  simp only [FW.cs, Need.cs]
  obtain ⟨⟨f1, f2, f3, f4, f5, cs, is, ts, us⟩, xa, xc, ya, yc, za, zc, ua, uc⟩ := q
  obtain ⟨m1, m2, m3⟩ := m
  dsimp only
  obtain ⟨n1, hn1⟩ : ∃ n1, cs.length = n1 := ⟨_, rfl⟩
  obtain ⟨n2, hn2⟩ : ∃ n2, is.length = n2 := ⟨_, rfl⟩
  obtain ⟨n3, hn3⟩ : ∃ n3, ts.length = n3 := ⟨_, rfl⟩
  obtain ⟨n4, hn4⟩ : ∃ n4, us.length = n4 := ⟨_, rfl⟩
  rw [hn1, hn2, hn3, hn4]
  clear hn1 hn2 hn3 hn4
  have hB : Hid (Below w.heap.size w ((w.alloc (.cells #[.int .i64 m1, .int .i64 m2, .int .i64 m3] 81)).alloc (.cells #[.string f1, .int .i64 f2, .bool f3, .bool f4, .int .i64 f5, .slice xa n1 xc, .slice ya n2 yc, .slice za n3 zc, .slice ua n4 uc] 28))) := Hid.mk' ((lay_below).alloc (by simp) _)
  go_enter Tryd.func50, Tryd.ntmps50
  go_wp2
  all_goals
    go_ret
    exact ⟨by first | rfl | (simp_all; done) | (simp_all; omega), hB.out⟩
end Go.Proofs.YtcagfjogfbddeaaDoor

namespace Go.Proofs.YtcagfjogfbddeaaDoor
set_option linter.unusedVariables false
set_option linter.unusedSimpArgs false
open Go.RowKit Go.Maps

/-- How a function of the program without captures reads. -/
def fnR (v : Value) : Option (DataW Unit × List MemPlace) := match v with
  | .func (.func k) x y => if x.size = 0 ∧ y.size = 0 then some (.lit (.int .i64 (k : Int)), []) else none
  | .nilFunc => some (.lit (.int .i64 (-1)), [])
  | _ => none
theorem fnR_inv {v : Value} {k : Nat} {ps : List MemPlace} (h : fnR v = some (.lit (.int .i64 (k : Int)), ps)) : v = .func (.func k) #[] #[] := by
  unfold fnR at h
  split at h
  · rename_i k' x y
    split at h
    · rename_i hs
      simp at h
      obtain ⟨h1, h2⟩ := hs
      have e1 : x = #[] := Array.eq_empty_of_size_eq_zero h1
      have e2 : y = #[] := Array.eq_empty_of_size_eq_zero h2
      have e3 : k' = k := Int.ofNat_inj.1 h.1
      rw [e1, e2, e3]
    · simp at h
  · simp at h
  · simp at h
def ktab : List (Int × Nat) := [(114, 39), (107, 40), (115, 41), (110, 42), (116, 43), (102, 44), (117, 45)]
/-- The map of what is asked by letters. -/
def KM (w : World) (mp : Nat) : Prop := ∃ D n, w.ownsMap Tryd.prog 5 fnR mp n D ∧ ∀ p ∈ ktab, D.atKey (.int .u8 p.1) (.lit (.int .i64 (-1))) = .lit (.int .i64 (p.2 : Int))
theorem KM.lt {w : World} {mp : Nat} (h : KM w mp) : mp < w.heap.size := by obtain ⟨D, n, h, _⟩ := h; exact h.lt
theorem KM.below {w w' : World} {mp : Nat} (h : KM w mp) (hb : Below w.heap.size w w') : KM w' mp := by
  obtain ⟨D, n, h, ht⟩ := h
  have hl := h.lt
  obtain ⟨es, clock, he, rest⟩ := h
  exact ⟨D, n, ⟨es, clock, (hb.block mp hl).trans he, rest⟩, ht⟩
theorem keyed8 : Keyed Tryd.prog 5 := int_keyed Tryd.underlying5
theorem zeroF (w : World) : (zeroValue 86).run Tryd.prog w = .ok .nilFunc w := Tryd.zeroValue86 w
theorem KM.look {w : World} {mp : Nat} (h : KM w mp) (c : Int) (k : Nat) (hm : (c, k) ∈ ktab) : (Instr.lookup 75 (.map (some mp)) (.int .u8 c) false).run Tryd.prog w = .ok (.func (.func k) #[] #[]) w := by
  obtain ⟨D, n, h, ht⟩ := h
  have hw : (Lit.int .u8 c).wf = true := by
    have : ∀ p ∈ ktab, (Lit.int .u8 p.1).wf = true := by decide +kernel
    exact this _ hm
  obtain ⟨v, ps, hrun, hv⟩ := h.lookup keyed8 Tryd.underlying75 (zeroF w) (zd := .lit (.int .i64 (-1))) (zp := []) rfl (keyOf_int_mk Tryd.underlying5 hw)
  rw [ht _ hm] at hv
  rw [hrun, fnR_inv hv]
set_option maxHeartbeats 1000000 in
set_option maxRecDepth 100000 in
theorem kinds_any (w : World) : Calls Tryd.prog 30 #[] w fun e w' => ∃ mp, e = .returned (.map (some mp)) ∧ w.heap.size ≤ mp ∧ KM w' mp ∧ Below w.heap.size w w' := by
  have hmm := @run_makeMap Tryd.prog
  have kw : ∀ p ∈ ktab, (Lit.int .u8 p.1).wf = true := by decide +kernel
  have m0 := World.ownsMap_made w Tryd.prog 5 fnR
  obtain ⟨w1, h1, m1, t1⟩ := m0.store keyed8 Tryd.underlying75 (by decide) (keyOf_int_mk Tryd.underlying5 (kw (114, 39) (by simp [ktab]))) (val := .func (.func 39) #[] #[]) rfl
  obtain ⟨w2, h2, m2, t2⟩ := m1.store keyed8 Tryd.underlying75 (by decide) (keyOf_int_mk Tryd.underlying5 (kw (107, 40) (by simp [ktab]))) (val := .func (.func 40) #[] #[]) rfl
  obtain ⟨w3, h3, m3, t3⟩ := m2.store keyed8 Tryd.underlying75 (by decide) (keyOf_int_mk Tryd.underlying5 (kw (115, 41) (by simp [ktab]))) (val := .func (.func 41) #[] #[]) rfl
  obtain ⟨w4, h4, m4, t4⟩ := m3.store keyed8 Tryd.underlying75 (by decide) (keyOf_int_mk Tryd.underlying5 (kw (110, 42) (by simp [ktab]))) (val := .func (.func 42) #[] #[]) rfl
  obtain ⟨w5, h5, m5, t5⟩ := m4.store keyed8 Tryd.underlying75 (by decide) (keyOf_int_mk Tryd.underlying5 (kw (116, 43) (by simp [ktab]))) (val := .func (.func 43) #[] #[]) rfl
  obtain ⟨w6, h6, m6, t6⟩ := m5.store keyed8 Tryd.underlying75 (by decide) (keyOf_int_mk Tryd.underlying5 (kw (102, 44) (by simp [ktab]))) (val := .func (.func 44) #[] #[]) rfl
  obtain ⟨w7, h7, m7, t7⟩ := m6.store keyed8 Tryd.underlying75 (by decide) (keyOf_int_mk Tryd.underlying5 (kw (117, 45) (by simp [ktab]))) (val := .func (.func 45) #[] #[]) rfl
  have hB : Hid (Below w.heap.size w w7) := Hid.mk' (by
    have g : ∀ {X Y : World}, Below w.heap.size w X → X.mapTurned Y w.heap.size → Below w.heap.size w Y := fun hX hT => hX.grown hT.grown hX.size (fun j hj => by cases hj; exact Nat.le_refl _)
    exact g (g (g (g (g (g (g lay_below t1) t2) t3) t4) t5) t6) t7)
  have hK : Hid (KM w7 w.heap.size) := Hid.mk' ⟨_, _, m7, fun p hp => by
    simp only [ktab, List.mem_cons, List.not_mem_nil, or_false] at hp
    rcases hp with rfl | rfl | rfl | rfl | rfl | rfl | rfl <;> kernel_rfl⟩
  clear m0 m1 m2 m3 m4 m5 m6 m7 t1 t2 t3 t4 t5 t6 t7 kw
  go_enter Tryd.func30, Tryd.ntmps30
  go_wp2
  go_ret
  exact ⟨_, rfl, Nat.le_refl _, hK.out, hB.out⟩
set_option maxHeartbeats 1000000 in
theorem text_any' {cb : Nat} {a : Option Addr} {n c : Nat} {vn : Value} {mp : Nat} {q : FW} (w : World) (h : Ck w cb a n c vn mp q) (hr : RdE Cst.cs 4 w q.xa q.xc q.f.consts) (z : Int) : Calls Tryd.prog 41 #[.pointer (some ⟨cb, 0, none⟩), .int .i64 z] w fun e w' => e = .returned (.bool (txtB q.f z)) ∧ w' = w := by
  have c0 : w.cell? ⟨cb, 8, none⟩ = _ := h.cell 8
  simp at c0
  have HC := Hid.mk' (constant_any' w h z)
  by_cases hb : cstB q.f z = true
  · have hb' := hb
    unfold cstB at hb'
    simp at hb'
    obtain ⟨j, rfl⟩ : ∃ j : Nat, z = (j : Int) := ⟨z.toNat, by omega⟩
    have hj : j < q.f.consts.length := by omega
    obtain ⟨g, o, hg, _, hc⟩ := hr.at j hj
    have c1 := hc 0 (.int .i64 (q.f.consts[j]).kind) (by omega) rfl
    simp only [Nat.add_zero] at c1
    have e : txtB q.f (j : Int) = decide ((q.f.consts[j]).kind = 4) := by
      unfold txtB
      rw [hb]
      simp [List.getD_eq_getElem?_getD, List.getElem?_eq_getElem hj]
    rw [e]
    rw [hb] at HC
    rw [hg] at c0
    obtain ⟨kd, hkd⟩ : ∃ kd, (q.f.consts[j]).kind = kd := ⟨_, rfl⟩
    rw [hkd] at c1 ⊢
    obtain ⟨r, hr'⟩ : ∃ r, q.f.consts.length = r := ⟨_, rfl⟩
    simp only [hr'] at c0 hj
    have hj2 : (j : Int) < (r : Int) := by omega
    clear hb hb' e hkd hc hg hr h hr'
    go_enter Tryd.func41, Tryd.ntmps41
    go_wp2_with (go_at_call 40; refine HC.out.mono ?_; rintro e w1 ⟨rfl, hw1⟩; rw [hw1]; clear hw1 w1)
    all_goals
      go_ret
      exact ⟨by first | rfl | (simp_all; done), rfl⟩
  · have hb : cstB q.f z = false := by simpa using hb
    have e : txtB q.f z = false := by unfold txtB; rw [hb]; rfl
    rw [e]
    rw [hb] at HC
    clear hb e hr h
    go_enter Tryd.func41, Tryd.ntmps41
    go_wp2_with (go_at_call 40; refine HC.out.mono ?_; rintro e w1 ⟨rfl, hw1⟩; rw [hw1]; clear hw1 w1)
    all_goals
      go_ret
      exact ⟨by first | rfl | (simp_all; done), rfl⟩
end Go.Proofs.YtcagfjogfbddeaaDoor

namespace Go.Proofs.YtcagfjogfbddeaaDoor
set_option linter.unusedVariables false
set_option linter.unusedSimpArgs false
open Go.RowKit

structure NG (w wr : World) (b b1 : Nat) (m : Need) : Prop where
  bl : Below b w wr
  r : wr.heap[b]? = some (.cells #[.int .i64 0, .int .i64 0, .int .i64 0] 81 (0, 0))
  n : wr.heap[b1]? = some (.cells m.cs.toArray 81 (0, 0))
theorem meas_up' (K j : Nat) (h : j < K) : K - (intOf (.int .i64 ((j : Int) + 1))).toNat < K - (intOf (.int .i64 (j : Int))).toNat := by simp [intOf]; omega
theorem take_snoc' {α : Type} (l : List α) (k : Nat) (h : k < l.length) : l.take (k + 1) = l.take k ++ [l[k]] := by rw [List.take_succ_eq_append_getElem h]
theorem NG.two {w wr : World} {b b1 : Nat} {m1 m2 m3 : Int} (h : NG w wr b b1 ⟨m1, m2, m3⟩) (hb : b < b1) (o : Nat) (u v : Value) (ob : Obj) (m : Need) (hm : ((#[.int .i64 m1, .int .i64 m2, .int .i64 m3] : Array Value).setIfInBounds 2 u).setIfInBounds o v = m.cs.toArray) :
    NG w (((wr.setCell ⟨b1, 2, none⟩ u).setCell ⟨b1, o, none⟩ v).alloc ob) b b1 m := by
  have hl : b1 < wr.heap.size := (Array.getElem?_eq_some_iff.1 h.n).1
  have hsz : ((wr.setCell ⟨b1, 2, none⟩ u).setCell ⟨b1, o, none⟩ v).heap.size = wr.heap.size := by simp
  refine ⟨((h.bl.setCell (by simp; omega) _).setCell (by simp; omega) _).alloc (by rw [hsz]; omega) _, ?_, ?_⟩
  · rw [(lay_below).block _ (by rw [hsz]; omega), Below.heap_setCell _ _ _ _ (show b ≠ b1 by omega), Below.heap_setCell _ _ _ _ (show b ≠ b1 by omega)]
    exact h.r
  · rw [(lay_below).block _ (by rw [hsz]; omega), ← hm]
    exact set_blk _ (set_blk _ h.n)
set_option maxHeartbeats 2000000 in
set_option maxRecDepth 100000 in
theorem needOf_any (a : Option Addr) (c : Nat) (l : List Cap) (w : World) (h : RdE Cap.cs 2 w a c l) : Calls Tryd.prog 31 #[.slice a l.length c] w fun e w' => e = .returned (.agg (needOf l).cs.toArray) ∧ Below w.heap.size w w' := by
  have hle := h.le
  have hcl : c * (2 * 8) ≤ 140737488351232 := h.cle
  have HR := Hid.mk' h
  obtain ⟨n, hn⟩ : ∃ n, l.length = n := ⟨_, rfl⟩
  rw [hn] at hle ⊢
  obtain ⟨W2, hW2⟩ : ∃ W2, (w.alloc (.cells #[.int .i64 0, .int .i64 0, .int .i64 0] 81)).alloc (.cells #[.int .i64 (-1), .int .i64 (-1), .int .i64 0] 81) = W2 := ⟨_, rfl⟩
  have HG0 : Hid (NG w W2 w.heap.size (w.heap.size + 1) (needOf (l.take 0))) := Hid.mk' (by
    rw [← hW2]
    refine ⟨(lay_below).alloc (by simp) _, ?_, ?_⟩
    · rw [(lay_below).block _ (by simp)]; exact box_new
    · have := @box_new (w.alloc (.cells #[.int .i64 0, .int .i64 0, .int .i64 0] 81)) #[.int .i64 (-1), .int .i64 (-1), .int .i64 0] 81
      rw [show (w.alloc (.cells #[.int .i64 0, .int .i64 0, .int .i64 0] 81)).heap.size = w.heap.size + 1 by simp] at this
      exact this)
  have HH := Hid.mk' hW2
  obtain ⟨b0, hb0⟩ : ∃ b0, w.heap.size = b0 := ⟨_, rfl⟩
  obtain ⟨b1, hb1⟩ : ∃ b1, b0 + 1 = b1 := ⟨_, rfl⟩
  rw [hb0, hb1] at HG0
  have HN := Hid.mk' hn
  clear h hn hW2
  go_enter Tryd.func31, Tryd.ntmps31
  go_wp2
  rw [HH.out]
  go_loopw [9] (fun iv wr => ∃ i : Nat, iv = .int .i64 (i : Int) ∧ i ≤ n ∧ Hid (NG w wr b0 b1 (needOf (l.take i)))) (fun iv wr => n - (intOf iv).toNat)
  case atStart => exact ⟨0, rfl, Nat.zero_le _, HG0⟩
  case round =>
    obtain ⟨i, rfl, hi, HG⟩ := hrel
    have hbw : Below w.heap.size w wr := by rw [hb0]; exact HG.out.bl
    by_cases hlt : i < n
    · obtain ⟨g, o, rfl, hg, hc⟩ := ((HR.out).below hbw).at i (by rw [HN.out]; exact hlt)
      have i1 : (i : Int) < (n : Int) := by omega
      have i2 : (i : Int) < 140737488351232 := by omega
      have HS : Hid (needOf (l.take (i + 1)) = (needOf (l.take i)).add (l[i]'(by rw [HN.out]; exact hlt))) := Hid.mk' (by rw [take_snoc' l i (by rw [HN.out]; exact hlt), needOf_snoc])
      have hq := HG.out.n
      obtain ⟨m, hm⟩ : ∃ m, needOf (l.take i) = m := ⟨_, rfl⟩
      rw [hm] at hq HS
      obtain ⟨m1, m2, m3⟩ := m
      cases he : (l[i]'(by rw [HN.out]; exact hlt)) with
      | mk up z =>
        rw [he] at hc HS
        have d0 := hc 0 (.bool up) (by omega) rfl
        have d1 := hc 1 (.int .i64 z) (by omega) rfl
        simp only [Nat.add_zero] at d0
        have hq' : wr.heap[b1]? = some (.cells #[.int .i64 m1, .int .i64 m2, .int .i64 m3] 81 (0, 0)) := hq
        have e0 : wr.cell? ⟨b1, 0, none⟩ = some (.int .i64 m1) := (cell_row _ _ 0 _ _ hq').trans rfl
        have e1 : wr.cell? ⟨b1, 1, none⟩ = some (.int .i64 m2) := (cell_row _ _ 1 _ _ hq').trans rfl
        have e2 : wr.cell? ⟨b1, 2, none⟩ = some (.int .i64 m3) := (cell_row _ _ 2 _ _ hq').trans rfl
        have z0 := thaw_row _ _ _ _ hq' 0
        have z1 := thaw_row _ _ _ _ hq' 1
        have z2 := thaw_row _ _ _ _ hq' 2
        have hbl : b1 < wr.heap.size := (Array.getElem?_eq_some_iff.1 hq').1
        have HQ := Hid.mk' hq'
        have hm' := Hid.mk' hm
        clear hc hq he hm hq'
        obtain ⟨y3, h3⟩ : ∃ y, min m3 z = y := ⟨_, rfl⟩
        have HY3 := Hid.mk' h3
        cases up with
        | true =>
          obtain ⟨y1, h1⟩ : ∃ y, max m1 z = y := ⟨_, rfl⟩
          have HY1 := Hid.mk' h1
          go_wp2
          refine ⟨⟨i + 1, by go_num, hlt, ?_⟩, meas_up' n i hlt⟩
          have := HS.out
          rw [this]
          refine Hid.mk' (NG.two (by rw [← hm'.out]; exact HG.out) (by omega) 0 _ _ _ _ ?_)
          rw [← HY1.out, ← HY3.out]
          rfl
        | false =>
          obtain ⟨y1, h1⟩ : ∃ y, max m2 z = y := ⟨_, rfl⟩
          have HY1 := Hid.mk' h1
          go_wp2
          refine ⟨⟨i + 1, by go_num, hlt, ?_⟩, meas_up' n i hlt⟩
          have := HS.out
          rw [this]
          refine Hid.mk' (NG.two (by rw [← hm'.out]; exact HG.out) (by omega) 1 _ _ _ _ ?_)
          rw [← HY1.out, ← HY3.out]
          rfl
    · have i1 : ¬ (i : Int) < (n : Int) := by omega
      have hin : l.take i = l := List.take_of_length_le (by rw [HN.out]; omega)
      have hq := HG.out.n
      have hr0 := HG.out.r
      rw [hin] at hq
      obtain ⟨m, hm⟩ : ∃ m, needOf l = m := ⟨_, rfl⟩
      rw [hm] at hq
      have HM := Hid.mk' hm
      obtain ⟨m1, m2, m3⟩ := m
      have hq' : wr.heap[b1]? = some (.cells #[.int .i64 m1, .int .i64 m2, .int .i64 m3] 81 (0, 0)) := hq
      have e0 : wr.cell? ⟨b1, 0, none⟩ = some (.int .i64 m1) := (cell_row _ _ 0 _ _ hq').trans rfl
      have e1 : wr.cell? ⟨b1, 1, none⟩ = some (.int .i64 m2) := (cell_row _ _ 1 _ _ hq').trans rfl
      have e2 : wr.cell? ⟨b1, 2, none⟩ = some (.int .i64 m3) := (cell_row _ _ 2 _ _ hq').trans rfl
      have r0 : wr.cell? ⟨b0, 0, none⟩ = some (.int .i64 0) := (cell_row _ _ 0 _ _ hr0).trans rfl
      have r1 : wr.cell? ⟨b0, 1, none⟩ = some (.int .i64 0) := (cell_row _ _ 1 _ _ hr0).trans rfl
      have r2 : wr.cell? ⟨b0, 2, none⟩ = some (.int .i64 0) := (cell_row _ _ 2 _ _ hr0).trans rfl
      have z0 := thaw_row _ _ _ _ hr0 0
      have z1 := thaw_row _ _ _ _ hr0 1
      have z2 := thaw_row _ _ _ _ hr0 2
      have HB := Hid.mk' HG.out.bl
      clear hq hq' hr0 hm hin
      go_wp2
      refine bodyPost_ret (v := .agg #[.int .i64 m1, .int .i64 m2, .int .i64 m3]) ?_ rfl ⟨?_, ?_⟩
      · rw [res_cell rfl]
        go_simp
      · rw [HM.out]; rfl
      · exact ((HB.out.setCell (by simp) _).setCell (by simp) _).setCell (by simp) _
end Go.Proofs.YtcagfjogfbddeaaDoor
