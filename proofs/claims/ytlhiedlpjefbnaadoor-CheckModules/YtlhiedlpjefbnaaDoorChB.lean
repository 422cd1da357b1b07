/- Package check: the map of method expressions, text, what a function needs. -/
import Derived.Test.YtlhiedlpjefbnaaDoorChA
import Derived.Maps.OwnSet
import Derived.Maps.Views
import Derived.MapViews
namespace Go.Proofs.YtlhiedlpjefbnaaDoor
set_option linter.unusedVariables false
set_option linter.unusedSimpArgs false
open Go.RowKit Go.Maps

/-- How a function of the program without captures reads. -/
def fnR (v : Value) : Option (DataW Unit × List MemPlace) := match v with
  | .func (.func k) x y => if x.size = 0 ∧ y.size = 0 then some (.lit (.int .i64 (k : Int)), []) else none
  | .nilFunc => some (.lit (.int .i64 (-1)), [])
  | _ => none
theorem fnR_inv {v : Value} {k : Nat} {ps : List MemPlace} (h : fnR v = some (.lit (.int .i64 (k : Int)), ps)) : v = .func (.func k) #[] #[] := by
  unfold fnR at h
  split at h
  · rename_i k' x y
    split at h
    · rename_i hs
      simp at h
      obtain ⟨h1, h2⟩ := hs
      have e1 : x = #[] := Array.eq_empty_of_size_eq_zero h1
      have e2 : y = #[] := Array.eq_empty_of_size_eq_zero h2
      have e3 : k' = k := Int.ofNat_inj.1 h.1
      rw [e1, e2, e3]
    · simp at h
  · simp at h
  · simp at h
def ktab : List (Int × Nat) := [(114, 43), (107, 44), (115, 45), (110, 46), (116, 47), (102, 48), (117, 49)]
/-- The map of what is asked by letters. -/
def KM (w : World) (mp : Nat) : Prop := ∃ D n, w.ownsMap Tryd.prog 5 fnR mp n D ∧ ∀ p ∈ ktab, D.atKey (.int .u8 p.1) (.lit (.int .i64 (-1))) = .lit (.int .i64 (p.2 : Int))
theorem KM.lt {w : World} {mp : Nat} (h : KM w mp) : mp < w.heap.size := by obtain ⟨D, n, h, _⟩ := h; exact h.lt
theorem KM.below {w w' : World} {mp : Nat} (h : KM w mp) (hb : Below w.heap.size w w') : KM w' mp := by
  obtain ⟨D, n, h, ht⟩ := h
  have hl := h.lt
  obtain ⟨es, clock, he, rest⟩ := h
  exact ⟨D, n, ⟨es, clock, (hb.block mp hl).trans he, rest⟩, ht⟩
theorem keyed8 : Keyed Tryd.prog 5 := int_keyed Tryd.underlying5
theorem zeroF (w : World) : (zeroValue 94).run Tryd.prog w = .ok .nilFunc w := Tryd.zeroValue94 w
theorem KM.look {w : World} {mp : Nat} (h : KM w mp) (c : Int) (k : Nat) (hm : (c, k) ∈ ktab) : (Instr.lookup 76 (.map (some mp)) (.int .u8 c) false).run Tryd.prog w = .ok (.func (.func k) #[] #[]) w := by
  obtain ⟨D, n, h, ht⟩ := h
  have hw : (Lit.int .u8 c).wf = true := by
    have : ∀ p ∈ ktab, (Lit.int .u8 p.1).wf = true := by decide +kernel
    exact this _ hm
  obtain ⟨v, ps, hrun, hv⟩ := h.lookup keyed8 Tryd.underlying76 (zeroF w) (zd := .lit (.int .i64 (-1))) (zp := []) rfl (keyOf_int_mk Tryd.underlying5 hw)
  rw [ht _ hm] at hv
  rw [hrun, fnR_inv hv]
set_option maxHeartbeats 1000000 in
set_option maxRecDepth 100000 in
theorem kinds_any (w : World) : Calls Tryd.prog 30 #[] w fun e w' => ∃ mp, e = .returned (.map (some mp)) ∧ w.heap.size ≤ mp ∧ KM w' mp ∧ Below w.heap.size w w' := by
  have hmm := @run_makeMap Tryd.prog
  have kw : ∀ p ∈ ktab, (Lit.int .u8 p.1).wf = true := by decide +kernel
  have m0 := World.ownsMap_made w Tryd.prog 5 fnR
  obtain ⟨w1, h1, m1, t1⟩ := m0.store keyed8 Tryd.underlying76 (by decide) (keyOf_int_mk Tryd.underlying5 (kw (114, 43) (by simp [ktab]))) (val := .func (.func 43) #[] #[]) rfl
  obtain ⟨w2, h2, m2, t2⟩ := m1.store keyed8 Tryd.underlying76 (by decide) (keyOf_int_mk Tryd.underlying5 (kw (107, 44) (by simp [ktab]))) (val := .func (.func 44) #[] #[]) rfl
  obtain ⟨w3, h3, m3, t3⟩ := m2.store keyed8 Tryd.underlying76 (by decide) (keyOf_int_mk Tryd.underlying5 (kw (115, 45) (by simp [ktab]))) (val := .func (.func 45) #[] #[]) rfl
  obtain ⟨w4, h4, m4, t4⟩ := m3.store keyed8 Tryd.underlying76 (by decide) (keyOf_int_mk Tryd.underlying5 (kw (110, 46) (by simp [ktab]))) (val := .func (.func 46) #[] #[]) rfl
  obtain ⟨w5, h5, m5, t5⟩ := m4.store keyed8 Tryd.underlying76 (by decide) (keyOf_int_mk Tryd.underlying5 (kw (116, 47) (by simp [ktab]))) (val := .func (.func 47) #[] #[]) rfl
  obtain ⟨w6, h6, m6, t6⟩ := m5.store keyed8 Tryd.underlying76 (by decide) (keyOf_int_mk Tryd.underlying5 (kw (102, 48) (by simp [ktab]))) (val := .func (.func 48) #[] #[]) rfl
  obtain ⟨w7, h7, m7, t7⟩ := m6.store keyed8 Tryd.underlying76 (by decide) (keyOf_int_mk Tryd.underlying5 (kw (117, 49) (by simp [ktab]))) (val := .func (.func 49) #[] #[]) rfl
  have hB : Hid (Below w.heap.size w w7) := Hid.mk' (by
    have g : ∀ {X Y : World}, Below w.heap.size w X → X.mapTurned Y w.heap.size → Below w.heap.size w Y := fun hX hT => hX.grown hT.grown hX.size (fun j hj => by cases hj; exact Nat.le_refl _)
    exact g (g (g (g (g (g (g lay_below t1) t2) t3) t4) t5) t6) t7)
  have hK : Hid (KM w7 w.heap.size) := Hid.mk' ⟨_, _, m7, fun p hp => by
    simp only [ktab, List.mem_cons, List.not_mem_nil, or_false] at hp
    rcases hp with rfl | rfl | rfl | rfl | rfl | rfl | rfl <;> kernel_rfl⟩
  clear m0 m1 m2 m3 m4 m5 m6 m7 t1 t2 t3 t4 t5 t6 t7 kw
  go_enter Tryd.func30, Tryd.ntmps30
  go_wp2
  go_ret
  exact ⟨_, rfl, Nat.le_refl _, hK.out, hB.out⟩
set_option maxHeartbeats 1000000 in
theorem text_any' {cb : Nat} {a : Option Addr} {n c : Nat} {vn : Value} {mp : Nat} {q : FW} (w : World) (h : Ck w cb a n c vn mp q) (hr : RdE Cst.cs 4 w q.xa q.xc q.f.consts) (z : Int) : Calls Tryd.prog 45 #[.pointer (some ⟨cb, 0, none⟩), .int .i64 z] w fun e w' => e = .returned (.bool (txtB q.f z)) ∧ w' = w := by
  have c0 : w.cell? ⟨cb, 8, none⟩ = _ := h.cell 8
  simp at c0
  have HC := Hid.mk' (constant_any' w h z)
  by_cases hb : cstB q.f z = true
  · have hb' := hb
    unfold cstB at hb'
    simp at hb'
    obtain ⟨j, rfl⟩ : ∃ j : Nat, z = (j : Int) := ⟨z.toNat, by omega⟩
    have hj : j < q.f.consts.length := by omega
    obtain ⟨g, o, hg, _, hc⟩ := hr.at j hj
    have c1 := hc 0 (.int .i64 (q.f.consts[j]).kind) (by omega) rfl
    simp only [Nat.add_zero] at c1
    have e : txtB q.f (j : Int) = decide ((q.f.consts[j]).kind = 4) := by
      unfold txtB
      rw [hb]
      simp [List.getD_eq_getElem?_getD, List.getElem?_eq_getElem hj]
    rw [e]
    rw [hb] at HC
    rw [hg] at c0
    obtain ⟨kd, hkd⟩ : ∃ kd, (q.f.consts[j]).kind = kd := ⟨_, rfl⟩
    rw [hkd] at c1 ⊢
    obtain ⟨r, hr'⟩ : ∃ r, q.f.consts.length = r := ⟨_, rfl⟩
    simp only [hr'] at c0 hj
    have hj2 : (j : Int) < (r : Int) := by omega
    clear hb hb' e hkd hc hg hr h hr'
    go_enter Tryd.func45, Tryd.ntmps45
    go_wp2_with (go_at_call 44; refine HC.out.mono ?_; rintro e w1 ⟨rfl, hw1⟩; rw [hw1]; clear hw1 w1)
    all_goals
      go_ret
      exact ⟨by first | rfl | (simp_all; done), rfl⟩
  · have hb : cstB q.f z = false := by simpa using hb
    have e : txtB q.f z = false := by unfold txtB; rw [hb]; rfl
    rw [e]
    rw [hb] at HC
    clear hb e hr h
    go_enter Tryd.func45, Tryd.ntmps45
    go_wp2_with (go_at_call 44; refine HC.out.mono ?_; rintro e w1 ⟨rfl, hw1⟩; rw [hw1]; clear hw1 w1)
    all_goals
      go_ret
      exact ⟨by first | rfl | (simp_all; done), rfl⟩
end Go.Proofs.YtlhiedlpjefbnaaDoor
