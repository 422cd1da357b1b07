/- The document's check: a function's own numbers. -/
import Derived.Test.YtlhiedlpjefbnaaDoorChV
namespace Go.Proofs.YtlhiedlpjefbnaaDoor
set_option linter.unusedVariables false
set_option linter.unusedSimpArgs false
open Go.RowKit Go.Shelf

def hdB (N n : Nat) (f : Fun) : Bool := decide (N ≤ 20000) && !(!headB f || (decide ((n : Int) = 0) && !scrB f))
/-- A function's own numbers, as the document asks for them. -/
def hdBad (N n : Nat) (f : Fun) : Prop := 20000 < N ∨ f.regs < 1 ∨ 4000 < f.regs ∨ f.params < 0 ∨ f.regs < (if f.rest then wrap64 (f.params + 1) else f.params) ∨ 4000 < f.params
def hdScr (n : Nat) (f : Fun) : Prop := (n = 0 ∧ (0 < f.params ∨ f.rest = true ∨ 0 < (f.caps.length : Int) ∨ f.arrow = true)) ∨ (f.code.length : Int) = 0
theorem hd_iff {N n : Nat} {f : Fun} : hdB N n f = true ↔ N ≤ 20000 ∧ headB f = true ∧ ((n : Int) = 0 → scrB f = true) := by
  unfold hdB
  cases headB f <;> cases scrB f <;> simp
theorem head_iff {f : Fun} : headB f = true ↔ ¬ f.regs < 1 ∧ ¬ 4000 < f.regs ∧ ¬ f.params < 0 ∧ ¬ (if f.rest then f.regs - 1 else f.regs) < f.params ∧ ¬ (f.code.length : Int) = 0 ∧ f.consts.all cokB = true := by
  unfold headB
  simp only [Bool.and_eq_true, Bool.not_eq_true', Bool.or_eq_false_iff, decide_eq_false_iff_not]
  constructor
  · rintro ⟨⟨h1, h2⟩, ⟨⟨h3, h4⟩, h5⟩, h6⟩
    exact ⟨h1, h2, h3, h4, h5, h6⟩
  · rintro ⟨h1, h2, h3, h4, h5, h6⟩
    exact ⟨⟨h1, h2⟩, ⟨⟨h3, h4⟩, h5⟩, h6⟩
theorem scr_iff {f : Fun} : scrB f = true ↔ f.params = 0 ∧ f.rest = false ∧ (f.caps.length : Int) = 0 ∧ f.arrow = false := by
  unfold scrB
  simp only [Bool.and_eq_true, Bool.not_eq_true', decide_eq_true_eq]
  constructor
  · rintro ⟨⟨⟨h1, h2⟩, h3⟩, h4⟩
    exact ⟨h1, h2, h3, h4⟩
  · rintro ⟨h1, h2, h3, h4⟩
    exact ⟨⟨⟨h1, h2⟩, h3⟩, h4⟩
theorem wf_i64 {z : Int} (hw : Lit.wf (.int .i64 z) = true) : -9223372036854775808 ≤ z ∧ z ≤ 9223372036854775807 := by
  simp only [Lit.wf, Bool.and_eq_true, decide_eq_true_eq] at hw
  exact hw
theorem hd_bad {N n : Nat} {f : Fun} (hw : Lit.wf (.int .i64 f.params) = true) (h : hdBad N n f) : hdB N n f = false := by
  have hw' := wf_i64 hw
  cases hh : hdB N n f with
  | false => rfl
  | true =>
    exfalso
    obtain ⟨h1, h2, _⟩ := hd_iff.1 hh
    obtain ⟨a1, a2, a3, a4, a5, _⟩ := head_iff.1 h2
    unfold hdBad wrap64 at h
    cases hr : f.rest <;> simp only [hr, if_true, if_false, Bool.false_eq_true] at h a4 <;> omega
theorem hd_scr {N n : Nat} {f : Fun} (h : hdScr n f) : hdB N n f = false := by
  cases hh : hdB N n f with
  | false => rfl
  | true =>
    exfalso
    obtain ⟨h1, h2, h3⟩ := hd_iff.1 hh
    obtain ⟨a1, a2, a3, a4, a5, _⟩ := head_iff.1 h2
    rcases h with ⟨rfl, h⟩ | h
    · obtain ⟨b1, b2, b3, b4⟩ := scr_iff.1 (h3 rfl)
      rw [b2, b4] at h
      simp only [Bool.false_eq_true, false_or, or_false] at h
      omega
    · omega
theorem hd_all {N n : Nat} {f : Fun} (hw : Lit.wf (.int .i64 f.params) = true) (h0 : ¬ hdBad N n f) (h : ¬ hdScr n f) : hdB N n f = f.consts.all cokB := by
  have hw' := wf_i64 hw
  unfold hdBad wrap64 at h0
  unfold hdScr at h
  have hs : (n : Int) = 0 → scrB f = true := fun hn => scr_iff.2 (by
    have hn' : n = 0 := by omega
    have hx : ¬ (0 < f.params ∨ f.rest = true ∨ 0 < (f.caps.length : Int) ∨ f.arrow = true) := fun hh => h (.inl ⟨hn', hh⟩)
    refine ⟨by omega, ?_, by omega, ?_⟩
    · cases hr : f.rest
      · rfl
      · exact absurd (.inr (.inl hr)) hx
    · cases hr : f.arrow
      · rfl
      · exact absurd (.inr (.inr (.inr hr))) hx)
  have hN : N ≤ 20000 := by omega
  cases hc : f.consts.all cokB with
  | true =>
    refine hd_iff.2 ⟨hN, head_iff.2 ⟨by omega, by omega, by omega, ?_, by omega, hc⟩, hs⟩
    cases hr : f.rest <;> simp only [hr, if_true, if_false, Bool.false_eq_true] at h0 ⊢ <;> omega
  | false =>
    cases hh : hdB N n f with
    | false => rfl
    | true =>
      have := (head_iff.1 (hd_iff.1 hh).2.1).2.2.2.2.2
      rw [hc] at this
      cases this
set_option maxHeartbeats 4000000 in
set_option maxRecDepth 100000 in
theorem head_any {a : Option Addr} {c : Nat} {qs : List FW} (w : World) (hm : Md w a c qs) (n : Nat) (hn : n < qs.length) :
    Calls Tryd.prog 15 #[.agg #[.slice a qs.length c], .int .i64 (n : Int)] w fun e w' => e = .returned (.bool (hdB qs.length n (qs[n]).f)) ∧ Below w.heap.size w w' := by
  have hle := hm.r.le
  have hcl : c * (9 * 8) ≤ 140737488351232 := hm.r.cle
  obtain ⟨W1, hW1⟩ : ∃ W1, w.alloc (.cells #[.slice a qs.length c] 24) = W1 := ⟨_, rfl⟩
  have b1 : Below w.heap.size w W1 := by rw [← hW1]; exact lay_below
  have q1 : W1.heap[w.heap.size]? = some (.cells #[.slice a qs.length c] 24 (0, 0)) := by rw [← hW1]; exact box_new
  have hmem := List.getElem_mem hn
  have hrd := (hm.below b1).q _ hmem
  have hfi := hm.n _ hmem
  obtain ⟨g, o, rfl, hg, hc⟩ := (hm.below b1).r.at n hn
  obtain ⟨N, hN⟩ : ∃ N, qs.length = N := ⟨_, rfl⟩
  rw [hN] at hle q1 hW1 ⊢
  have n1' : (n : Int) < (N : Int) := by omega
  have n2' : (n : Int) < 140737488351232 := by omega
  have nN : (N : Int) ≤ 140737488351232 := by omega
  generalize qs[n] = q at hc hrd hfi ⊢
  have HR0 := Hid.mk' hrd.c
  have HS := Hid.mk' hfi.c
  have hwf := hfi.p
  have hcl2 : q.xc * (4 * 8) ≤ 140737488351232 := hrd.c.cle
  have hle2 := hrd.c.le
  obtain ⟨⟨f1, f2, f3, f4, f5, cs, is, ts, us⟩, xa, xc, ya, yc, za, zc, ua, uc⟩ := q
  simp only [FW.cs] at hc
  dsimp only at hc HR0 HS hwf hcl2 hle2 ⊢
  obtain ⟨m1, hm1⟩ : ∃ m, cs.length = m := ⟨_, rfl⟩
  obtain ⟨m2, hm2⟩ : ∃ m, is.length = m := ⟨_, rfl⟩
  obtain ⟨m3, hm3⟩ : ∃ m, ts.length = m := ⟨_, rfl⟩
  obtain ⟨m4, hm4⟩ : ∃ m, us.length = m := ⟨_, rfl⟩
  rw [hm1, hm2, hm3, hm4] at hc
  rw [hm1] at hle2
  have d0 := hc 0 (.string f1) (by omega) rfl
  have d1 := hc 1 (.int .i64 f2) (by omega) rfl
  have d2 := hc 2 (.bool f3) (by omega) rfl
  have d3 := hc 3 (.bool f4) (by omega) rfl
  have d4 := hc 4 (.int .i64 f5) (by omega) rfl
  have d5 := hc 5 (.slice xa m1 xc) (by omega) rfl
  have d6 := hc 6 (.slice ya m2 yc) (by omega) rfl
  have d7 := hc 7 (.slice za m3 zc) (by omega) rfl
  have d8 := hc 8 (.slice ua m4 uc) (by omega) rfl
  simp only [Nat.add_zero] at d0
  obtain ⟨W2, hW2⟩ : ∃ W2, W1.alloc (.cells #[.string f1, .int .i64 f2, .bool f3, .bool f4, .int .i64 f5, .slice xa m1 xc, .slice ya m2 yc, .slice za m3 zc, .slice ua m4 uc] 38) = W2 := ⟨_, rfl⟩
  have b2 : Below W1.heap.size W1 W2 := by rw [← hW2]; exact lay_below
  have q2 : W2.heap[W1.heap.size]? = some (.cells #[.string f1, .int .i64 f2, .bool f3, .bool f4, .int .i64 f5, .slice xa m1 xc, .slice ya m2 yc, .slice za m3 zc, .slice ua m4 uc] 38 (0, 0)) := by rw [← hW2]; exact box_new
  have q1' := (b2.block _ (Array.getElem?_eq_some_iff.1 q1).1).trans q1
  have B2 := b1.trans (b2.mono b1.size)
  obtain ⟨x1, hx1⟩ : ∃ x, w.heap.size = x := ⟨_, rfl⟩
  obtain ⟨x2, hx2⟩ : ∃ x, W1.heap.size = x := ⟨_, rfl⟩
  have HB := Hid.mk' B2
  rw [hx1] at q1 q1'
  rw [hx2] at q2
  have c1 : W1.cell? ⟨x1, 0, none⟩ = some (.slice (some ⟨g, o, none⟩) N c) := (cell_row _ _ 0 _ _ q1).trans rfl
  have A0 : W2.cell? ⟨x1, 0, none⟩ = some (.slice (some ⟨g, o, none⟩) N c) := (cell_row _ _ 0 _ _ q1').trans rfl
  have A1 : W2.cell? ⟨x2, 1, none⟩ = some (.int .i64 f2) := (cell_row _ _ 1 _ _ q2).trans rfl
  have A2 : W2.cell? ⟨x2, 2, none⟩ = some (.bool f3) := (cell_row _ _ 2 _ _ q2).trans rfl
  have A3 : W2.cell? ⟨x2, 3, none⟩ = some (.bool f4) := (cell_row _ _ 3 _ _ q2).trans rfl
  have A4 : W2.cell? ⟨x2, 4, none⟩ = some (.int .i64 f5) := (cell_row _ _ 4 _ _ q2).trans rfl
  have A5 : W2.cell? ⟨x2, 5, none⟩ = some (.slice xa m1 xc) := (cell_row _ _ 5 _ _ q2).trans rfl
  have A6 : W2.cell? ⟨x2, 6, none⟩ = some (.slice ya m2 yc) := (cell_row _ _ 6 _ _ q2).trans rfl
  have A8 : W2.cell? ⟨x2, 8, none⟩ = some (.slice ua m4 uc) := (cell_row _ _ 8 _ _ q2).trans rfl
  have HR := Hid.mk' (HR0.out.below b2)
  have HB1 := Hid.mk' b1
  clear b1 b2 q1 q1' q2 B2 hrd hfi hc hm hmem HR0
  have HWF := Hid.mk' hwf
  have HLC := Hid.mk' (And.intro hle2 hcl2)
  clear hwf hle hcl hle2 hcl2
  cases f3 with
  | true =>
    obtain ⟨F, hF⟩ : ∃ F : Fun, (⟨f1, f2, true, f4, f5, cs, is, ts, us⟩ : Fun) = F := ⟨_, rfl⟩
    rw [hF]
    have HFF := Hid.mk' hF
    clear hF
    obtain ⟨M, hM⟩ : ∃ M, wrap64 (f2 + 1) = M := ⟨_, rfl⟩
    have HM := Hid.mk' hM
    cases t0 : decide (20000 < (N : Int)) with
    | true =>
      have e : hdB N n F = false := by have h1 := HFF.out; subst h1; exact hd_bad HWF.out (.inl (by have := of_decide_eq_true t0; omega))
      rw [e]
      clear e
      go_enter Tryd.func15, Tryd.ntmps15
      go_wp2
      all_goals
        go_ret
        exact ⟨rfl, by first | exact HB.out | (rw [← hx1]; exact HB.out)⟩
    | false =>
      cases t1 : decide (f5 < 1) with
      | true =>
        have e : hdB N n F = false := by have h1 := HFF.out; subst h1; exact hd_bad HWF.out (.inr (.inl (of_decide_eq_true t1)))
        rw [e]
        clear e
        go_enter Tryd.func15, Tryd.ntmps15
        go_wp2
        all_goals
          go_ret
          exact ⟨rfl, by first | exact HB.out | (rw [← hx1]; exact HB.out)⟩
      | false =>
        cases t2 : decide (4000 < f5) with
        | true =>
          have e : hdB N n F = false := by have h1 := HFF.out; subst h1; exact hd_bad HWF.out (.inr (.inr (.inl (of_decide_eq_true t2))))
          rw [e]
          clear e
          go_enter Tryd.func15, Tryd.ntmps15
          go_wp2
          all_goals
            go_ret
            exact ⟨rfl, by first | exact HB.out | (rw [← hx1]; exact HB.out)⟩
        | false =>
          cases t3 : decide (f2 < 0) with
          | true =>
            have e : hdB N n F = false := by have h1 := HFF.out; subst h1; exact hd_bad HWF.out (.inr (.inr (.inr (.inl (of_decide_eq_true t3)))))
            rw [e]
            clear e
            go_enter Tryd.func15, Tryd.ntmps15
            go_wp2
            all_goals
              go_ret
              exact ⟨rfl, by first | exact HB.out | (rw [← hx1]; exact HB.out)⟩
          | false =>
            cases t4 : decide (f5 < M) with
            | true =>
              have e : hdB N n F = false := by have h1 := HFF.out; subst h1; exact hd_bad HWF.out (.inr (.inr (.inr (.inr (.inl (by rw [← HM.out] at t4; exact of_decide_eq_true t4))))))
              rw [e]
              clear e
              go_enter Tryd.func15, Tryd.ntmps15
              go_wp2
              all_goals
                go_ret
                exact ⟨rfl, by first | exact HB.out | (rw [← hx1]; exact HB.out)⟩
            | false =>
              cases t5 : decide (4000 < f2) with
              | true =>
                have e : hdB N n F = false := by have h1 := HFF.out; subst h1; exact hd_bad HWF.out (.inr (.inr (.inr (.inr (.inr (of_decide_eq_true t5))))))
                rw [e]
                clear e
                go_enter Tryd.func15, Tryd.ntmps15
                go_wp2
                all_goals
                  go_ret
                  exact ⟨rfl, by first | exact HB.out | (rw [← hx1]; exact HB.out)⟩
              | false =>
                have HNB : Hid (¬ hdBad N n ⟨f1, f2, true, f4, f5, cs, is, ts, us⟩) := Hid.mk' (by rintro (h | h | h | h | h | h) <;> first | (have := of_decide_eq_false t0; omega) | exact of_decide_eq_false t1 h | exact of_decide_eq_false t2 h | exact of_decide_eq_false t3 h | exact of_decide_eq_false t4 (by first | exact h | (rw [← HM.out]; exact h)) | exact of_decide_eq_false t5 h)
                by_cases hn0 : n = 0
                · subst hn0
                  simp only [Nat.zero_mul, Nat.add_zero] at d0 d1 d2 d3 d4 d5 d6 d7 d8
                  cases s0 : decide (0 < f2) with
                  | true =>
                    have e : hdB N 0 F = false := by have h1 := HFF.out; subst h1; exact hd_scr (.inl ⟨rfl, .inr (.inl rfl)⟩)
                    rw [e]
                    clear e
                    go_enter Tryd.func15, Tryd.ntmps15
                    go_wp2
                    all_goals
                      go_ret
                      exact ⟨rfl, by first | exact HB.out | (rw [← hx1]; exact HB.out)⟩
                  | false =>
                    have e : hdB N 0 F = false := by have h1 := HFF.out; subst h1; exact hd_scr (.inl ⟨rfl, .inr (.inl rfl)⟩)
                    rw [e]
                    clear e
                    go_enter Tryd.func15, Tryd.ntmps15
                    go_wp2
                    all_goals
                      go_ret
                      exact ⟨rfl, by first | exact HB.out | (rw [← hx1]; exact HB.out)⟩
                · have hn0' : ((n : Int) == 0) = false := by simp; omega
                  cases t9 : ((m2 : Int) == 0) with
                  | true =>
                    have e : hdB N n F = false := by have h1 := HFF.out; subst h1; exact hd_scr (.inr (by dsimp only; rw [hm2]; simpa using t9))
                    rw [e]
                    clear e
                    go_enter Tryd.func15, Tryd.ntmps15
                    go_wp2
                    all_goals
                      go_ret
                      exact ⟨rfl, by first | exact HB.out | (rw [← hx1]; exact HB.out)⟩
                  | false =>
                    have HNS : Hid (¬ hdScr n ⟨f1, f2, true, f4, f5, cs, is, ts, us⟩) := Hid.mk' (by rintro (⟨h, _⟩ | h); exact hn0 h; (dsimp only at h; rw [hm2] at h; simp at t9; omega))
                    have e : hdB N n F = cs.all cokB := by have h1 := HFF.out; subst h1; exact hd_all HWF.out HNB.out HNS.out
                    rw [e]
                    clear e
                    obtain ⟨A, hA⟩ : ∃ A, cs.all cokB = A := ⟨_, rfl⟩
                    rw [hA]
                    have HA := Hid.mk' hA
                    have HN := Hid.mk' hm1
                    have hxb : (m1 : Int) ≤ 140737488351232 := by have := HLC.out; omega
                    clear hA hm1 hm2 hm3 hm4
                    go_enter Tryd.func15, Tryd.ntmps15
                    go_wp2_with fail
                    clear d0 d1 d2 d3 d4 d5 d6 d7 d8 A0 A1 A2 A3 A4 A5 A6 A8 c1 t0 t1 t2 t3 t4 t5 t9 hW1 hW2
                    go_loopw [80] (fun iv wr => ∃ i : Nat, iv = .int .i64 (i : Int) ∧ i ≤ m1 ∧ Hid (Below W2.heap.size W2 wr) ∧ Hid (∀ j (h : j < cs.length), j < i → cokB cs[j] = true)) (fun iv wr => m1 - (intOf iv).toNat)
                    case atStart => exact ⟨0, rfl, Nat.zero_le _, Hid.mk' (Below.refl _ _), Hid.mk' (fun j h h0 => by omega)⟩
                    case round =>
                      obtain ⟨i, rfl, hi, HBW, HAL⟩ := hrel
                      by_cases hlt : i < m1
                      · have hlq : i < cs.length := by rw [HN.out]; exact hlt
                        obtain ⟨g, o, rfl, hg, hc⟩ := ((HR.out).below HBW.out).at i hlq
                        have i1 : (i : Int) < (m1 : Int) := by omega
                        have i2 : (i : Int) < 140737488351232 := by omega
                        have hsz := HS.out _ (List.getElem_mem hlq)
                        have HE : Hid (∀ x, cs[i] = x → cokB x = true → ∀ j (h : j < cs.length), j < i + 1 → cokB cs[j] = true) := Hid.mk' (fun x hx hok j h hj => by
                          rcases Nat.lt_or_ge j i with h1 | h1
                          · exact HAL.out j h h1
                          · obtain rfl : j = i := by omega
                            rw [hx]; exact hok)
                        have HE2 : Hid (∀ x, cs[i] = x → cokB x = false → A = false) := Hid.mk' (fun x hx hok => by rw [← HA.out]; exact all_no _ _ i hlq (by rw [hx]; exact hok))
                        cases he : cs[i] with
                        | mk e0 e1 e2 e3 =>
                          rw [he] at hc hsz
                          have HE := Hid.mk' (HE.out _ he)
                          have HE2 := Hid.mk' (HE2.out _ he)
                          dsimp only at hsz
                          have d0 := hc 0 (.int .i64 e0) (by omega) rfl
                          have d1 := hc 1 (.float .f64 e1) (by omega) rfl
                          have d2 := hc 2 (.string e2) (by omega) rfl
                          have d3 := hc 3 (.int .i64 e3) (by omega) rfl
                          simp only [Nat.add_zero] at d0
                          have HBn : Hid (Below W2.heap.size W2 (wr.alloc (.cells #[.int .i64 e0, .float .f64 e1, .string e2, .int .i64 e3] 87))) := Hid.mk' (HBW.out.trans ((lay_below).mono HBW.out.size))
                          have HFI : Hid (Below w.heap.size w (wr.alloc (.cells #[.int .i64 e0, .float .f64 e1, .string e2, .int .i64 e3] 87))) := Hid.mk' (HB.out.trans (HBn.out.mono HB.out.size))
                          obtain ⟨z2, hz2⟩ : ∃ z : Int, (e2.size : Int) = z := ⟨_, rfl⟩
                          have HZ2 := Hid.mk' hz2
                          rw [hz2] at hsz
                          have hst : ∀ (p : Addr) (x : Nat) (md : Mode) (W : World), (store p (.float .f64 x) md).run Tryd.prog W = stored Tryd.prog W p (.float .f64 x) md := fun p x md W => run_store Tryd.prog W p _ md rfl
                          have HLT := Hid.mk' hlt
                          clear hc he hi hlt hg hxb
                          by_cases k3 : e0 = 3
                          · subst k3
                            go_wp2
                            exact ⟨⟨i + 1, by go_num, HLT.out, HBn, Hid.mk' (HE.out (by simp [cokB]))⟩, meas_up' m1 i HLT.out⟩
                          · by_cases k4 : e0 = 4
                            · subst k4
                              clear k3
                              rcases (show z2 % 2 = 0 ∨ z2 % 2 = 1 by omega) with km | km
                              · go_wp2
                                exact ⟨⟨i + 1, by go_num, HLT.out, HBn, Hid.mk' (HE.out (by have := HZ2.out; simp [cokB, this, km]))⟩, meas_up' m1 i HLT.out⟩
                              · go_wp2
                                go_ret
                                exact ⟨by rw [HE2.out (by have := HZ2.out; simp [cokB, this, km])]; rfl, by first | exact HFI.out | (rw [← hx1]; exact HFI.out)⟩
                            · have HK34 := Hid.mk' (And.intro k3 k4)
                              have k3' : (e0 != 3) = true := by simp [k3]
                              have k4' : (e0 != 4) = true := by simp [k4]
                              clear k3 k4 hz2 hsz
                              go_wp2
                              go_ret
                              obtain ⟨k3, k4⟩ := HK34.out
                              exact ⟨by rw [HE2.out (by simp [cokB, k3, k4])]; rfl, by first | exact HFI.out | (rw [← hx1]; exact HFI.out)⟩
                      · have i1 : ¬ (i : Int) < (m1 : Int) := by omega
                        have e : cs.all cokB = true := all_take _ _ (fun j h => HAL.out j h (by have := HN.out; omega))
                        have e2 := HA.out.symm.trans e
                        subst e2
                        go_wp2
                        go_ret
                        exact ⟨rfl, by first | exact HB.out.trans (HBW.out.mono HB.out.size) | (rw [← hx1]; exact HB.out.trans (HBW.out.mono HB.out.size))⟩
  | false =>
    obtain ⟨F, hF⟩ : ∃ F : Fun, (⟨f1, f2, false, f4, f5, cs, is, ts, us⟩ : Fun) = F := ⟨_, rfl⟩
    rw [hF]
    have HFF := Hid.mk' hF
    clear hF
    cases t0 : decide (20000 < (N : Int)) with
    | true =>
      have e : hdB N n F = false := by have h1 := HFF.out; subst h1; exact hd_bad HWF.out (.inl (by have := of_decide_eq_true t0; omega))
      rw [e]
      clear e
      go_enter Tryd.func15, Tryd.ntmps15
      go_wp2
      all_goals
        go_ret
        exact ⟨rfl, by first | exact HB.out | (rw [← hx1]; exact HB.out)⟩
    | false =>
      cases t1 : decide (f5 < 1) with
      | true =>
        have e : hdB N n F = false := by have h1 := HFF.out; subst h1; exact hd_bad HWF.out (.inr (.inl (of_decide_eq_true t1)))
        rw [e]
        clear e
        go_enter Tryd.func15, Tryd.ntmps15
        go_wp2
        all_goals
          go_ret
          exact ⟨rfl, by first | exact HB.out | (rw [← hx1]; exact HB.out)⟩
      | false =>
        cases t2 : decide (4000 < f5) with
        | true =>
          have e : hdB N n F = false := by have h1 := HFF.out; subst h1; exact hd_bad HWF.out (.inr (.inr (.inl (of_decide_eq_true t2))))
          rw [e]
          clear e
          go_enter Tryd.func15, Tryd.ntmps15
          go_wp2
          all_goals
            go_ret
            exact ⟨rfl, by first | exact HB.out | (rw [← hx1]; exact HB.out)⟩
        | false =>
          cases t3 : decide (f2 < 0) with
          | true =>
            have e : hdB N n F = false := by have h1 := HFF.out; subst h1; exact hd_bad HWF.out (.inr (.inr (.inr (.inl (of_decide_eq_true t3)))))
            rw [e]
            clear e
            go_enter Tryd.func15, Tryd.ntmps15
            go_wp2
            all_goals
              go_ret
              exact ⟨rfl, by first | exact HB.out | (rw [← hx1]; exact HB.out)⟩
          | false =>
            cases t4 : decide (f5 < f2) with
            | true =>
              have e : hdB N n F = false := by have h1 := HFF.out; subst h1; exact hd_bad HWF.out (.inr (.inr (.inr (.inr (.inl (by exact of_decide_eq_true t4))))))
              rw [e]
              clear e
              go_enter Tryd.func15, Tryd.ntmps15
              go_wp2
              all_goals
                go_ret
                exact ⟨rfl, by first | exact HB.out | (rw [← hx1]; exact HB.out)⟩
            | false =>
              cases t5 : decide (4000 < f2) with
              | true =>
                have e : hdB N n F = false := by have h1 := HFF.out; subst h1; exact hd_bad HWF.out (.inr (.inr (.inr (.inr (.inr (of_decide_eq_true t5))))))
                rw [e]
                clear e
                go_enter Tryd.func15, Tryd.ntmps15
                go_wp2
                all_goals
                  go_ret
                  exact ⟨rfl, by first | exact HB.out | (rw [← hx1]; exact HB.out)⟩
              | false =>
                have HNB : Hid (¬ hdBad N n ⟨f1, f2, false, f4, f5, cs, is, ts, us⟩) := Hid.mk' (by rintro (h | h | h | h | h | h) <;> first | (have := of_decide_eq_false t0; omega) | exact of_decide_eq_false t1 h | exact of_decide_eq_false t2 h | exact of_decide_eq_false t3 h | exact of_decide_eq_false t4 (by first | exact h | (rw [← HM.out]; exact h)) | exact of_decide_eq_false t5 h)
                by_cases hn0 : n = 0
                · subst hn0
                  simp only [Nat.zero_mul, Nat.add_zero] at d0 d1 d2 d3 d4 d5 d6 d7 d8
                  cases s0 : decide (0 < f2) with
                  | true =>
                    have e : hdB N 0 F = false := by have h1 := HFF.out; subst h1; exact hd_scr (.inl ⟨rfl, .inl (of_decide_eq_true s0)⟩)
                    rw [e]
                    clear e
                    go_enter Tryd.func15, Tryd.ntmps15
                    go_wp2
                    all_goals
                      go_ret
                      exact ⟨rfl, by first | exact HB.out | (rw [← hx1]; exact HB.out)⟩
                  | false =>
                    cases m4 with
                    | succ m4 =>
                      have e : hdB N 0 F = false := by have h1 := HFF.out; subst h1; exact hd_scr (.inl ⟨rfl, .inr (.inr (.inl (by dsimp only; rw [hm4]; omega)))⟩)
                      rw [e]
                      clear e
                      go_enter Tryd.func15, Tryd.ntmps15
                      go_wp2
                      all_goals
                        go_ret
                        exact ⟨rfl, by first | exact HB.out | (rw [← hx1]; exact HB.out)⟩
                    | zero =>
                      cases f4 with
                      | true =>
                        have e : hdB N 0 F = false := by have h1 := HFF.out; subst h1; exact hd_scr (.inl ⟨rfl, .inr (.inr (.inr rfl))⟩)
                        rw [e]
                        clear e
                        go_enter Tryd.func15, Tryd.ntmps15
                        go_wp2
                        all_goals
                          go_ret
                          exact ⟨rfl, by first | exact HB.out | (rw [← hx1]; exact HB.out)⟩
                      | false =>
                        cases t9 : ((m2 : Int) == 0) with
                        | true =>
                          have e : hdB N 0 F = false := by have h1 := HFF.out; subst h1; exact hd_scr (.inr (by dsimp only; rw [hm2]; simpa using t9))
                          rw [e]
                          clear e
                          go_enter Tryd.func15, Tryd.ntmps15
                          go_wp2
                          all_goals
                            go_ret
                            exact ⟨rfl, by first | exact HB.out | (rw [← hx1]; exact HB.out)⟩
                        | false =>
                          have HNS : Hid (¬ hdScr 0 ⟨f1, f2, false, false, f5, cs, is, ts, us⟩) := Hid.mk' (by rintro (⟨_, h | h | h | h⟩ | h); exact of_decide_eq_false s0 h; cases h; (dsimp only at h; rw [hm4] at h; omega); cases h; (dsimp only at h; rw [hm2] at h; simp at t9; omega))
                          have e : hdB N 0 F = cs.all cokB := by have h1 := HFF.out; subst h1; exact hd_all HWF.out HNB.out HNS.out
                          rw [e]
                          clear e
                          obtain ⟨A, hA⟩ : ∃ A, cs.all cokB = A := ⟨_, rfl⟩
                          rw [hA]
                          have HA := Hid.mk' hA
                          have HN := Hid.mk' hm1
                          have hxb : (m1 : Int) ≤ 140737488351232 := by have := HLC.out; omega
                          clear hA hm1 hm2 hm3 hm4
                          go_enter Tryd.func15, Tryd.ntmps15
                          go_wp2_with fail
                          clear d0 d1 d2 d3 d4 d5 d6 d7 d8 A0 A1 A2 A3 A4 A5 A6 A8 c1 t0 t1 t2 t3 t4 t5 t9 hW1 hW2
                          go_loopw [80] (fun iv wr => ∃ i : Nat, iv = .int .i64 (i : Int) ∧ i ≤ m1 ∧ Hid (Below W2.heap.size W2 wr) ∧ Hid (∀ j (h : j < cs.length), j < i → cokB cs[j] = true)) (fun iv wr => m1 - (intOf iv).toNat)
                          case atStart => exact ⟨0, rfl, Nat.zero_le _, Hid.mk' (Below.refl _ _), Hid.mk' (fun j h h0 => by omega)⟩
                          case round =>
                            obtain ⟨i, rfl, hi, HBW, HAL⟩ := hrel
                            by_cases hlt : i < m1
                            · have hlq : i < cs.length := by rw [HN.out]; exact hlt
                              obtain ⟨g, o, rfl, hg, hc⟩ := ((HR.out).below HBW.out).at i hlq
                              have i1 : (i : Int) < (m1 : Int) := by omega
                              have i2 : (i : Int) < 140737488351232 := by omega
                              have hsz := HS.out _ (List.getElem_mem hlq)
                              have HE : Hid (∀ x, cs[i] = x → cokB x = true → ∀ j (h : j < cs.length), j < i + 1 → cokB cs[j] = true) := Hid.mk' (fun x hx hok j h hj => by
                                rcases Nat.lt_or_ge j i with h1 | h1
                                · exact HAL.out j h h1
                                · obtain rfl : j = i := by omega
                                  rw [hx]; exact hok)
                              have HE2 : Hid (∀ x, cs[i] = x → cokB x = false → A = false) := Hid.mk' (fun x hx hok => by rw [← HA.out]; exact all_no _ _ i hlq (by rw [hx]; exact hok))
                              cases he : cs[i] with
                              | mk e0 e1 e2 e3 =>
                                rw [he] at hc hsz
                                have HE := Hid.mk' (HE.out _ he)
                                have HE2 := Hid.mk' (HE2.out _ he)
                                dsimp only at hsz
                                have d0 := hc 0 (.int .i64 e0) (by omega) rfl
                                have d1 := hc 1 (.float .f64 e1) (by omega) rfl
                                have d2 := hc 2 (.string e2) (by omega) rfl
                                have d3 := hc 3 (.int .i64 e3) (by omega) rfl
                                simp only [Nat.add_zero] at d0
                                have HBn : Hid (Below W2.heap.size W2 (wr.alloc (.cells #[.int .i64 e0, .float .f64 e1, .string e2, .int .i64 e3] 87))) := Hid.mk' (HBW.out.trans ((lay_below).mono HBW.out.size))
                                have HFI : Hid (Below w.heap.size w (wr.alloc (.cells #[.int .i64 e0, .float .f64 e1, .string e2, .int .i64 e3] 87))) := Hid.mk' (HB.out.trans (HBn.out.mono HB.out.size))
                                obtain ⟨z2, hz2⟩ : ∃ z : Int, (e2.size : Int) = z := ⟨_, rfl⟩
                                have HZ2 := Hid.mk' hz2
                                rw [hz2] at hsz
                                have hst : ∀ (p : Addr) (x : Nat) (md : Mode) (W : World), (store p (.float .f64 x) md).run Tryd.prog W = stored Tryd.prog W p (.float .f64 x) md := fun p x md W => run_store Tryd.prog W p _ md rfl
                                have HLT := Hid.mk' hlt
                                clear hc he hi hlt hg hxb
                                by_cases k3 : e0 = 3
                                · subst k3
                                  go_wp2
                                  exact ⟨⟨i + 1, by go_num, HLT.out, HBn, Hid.mk' (HE.out (by simp [cokB]))⟩, meas_up' m1 i HLT.out⟩
                                · by_cases k4 : e0 = 4
                                  · subst k4
                                    clear k3
                                    rcases (show z2 % 2 = 0 ∨ z2 % 2 = 1 by omega) with km | km
                                    · go_wp2
                                      exact ⟨⟨i + 1, by go_num, HLT.out, HBn, Hid.mk' (HE.out (by have := HZ2.out; simp [cokB, this, km]))⟩, meas_up' m1 i HLT.out⟩
                                    · go_wp2
                                      go_ret
                                      exact ⟨by rw [HE2.out (by have := HZ2.out; simp [cokB, this, km])]; rfl, by first | exact HFI.out | (rw [← hx1]; exact HFI.out)⟩
                                  · have HK34 := Hid.mk' (And.intro k3 k4)
                                    have k3' : (e0 != 3) = true := by simp [k3]
                                    have k4' : (e0 != 4) = true := by simp [k4]
                                    clear k3 k4 hz2 hsz
                                    go_wp2
                                    go_ret
                                    obtain ⟨k3, k4⟩ := HK34.out
                                    exact ⟨by rw [HE2.out (by simp [cokB, k3, k4])]; rfl, by first | exact HFI.out | (rw [← hx1]; exact HFI.out)⟩
                            · have i1 : ¬ (i : Int) < (m1 : Int) := by omega
                              have e : cs.all cokB = true := all_take _ _ (fun j h => HAL.out j h (by have := HN.out; omega))
                              have e2 := HA.out.symm.trans e
                              subst e2
                              go_wp2
                              go_ret
                              exact ⟨rfl, by first | exact HB.out.trans (HBW.out.mono HB.out.size) | (rw [← hx1]; exact HB.out.trans (HBW.out.mono HB.out.size))⟩
                · have hn0' : ((n : Int) == 0) = false := by simp; omega
                  cases t9 : ((m2 : Int) == 0) with
                  | true =>
                    have e : hdB N n F = false := by have h1 := HFF.out; subst h1; exact hd_scr (.inr (by dsimp only; rw [hm2]; simpa using t9))
                    rw [e]
                    clear e
                    go_enter Tryd.func15, Tryd.ntmps15
                    go_wp2
                    all_goals
                      go_ret
                      exact ⟨rfl, by first | exact HB.out | (rw [← hx1]; exact HB.out)⟩
                  | false =>
                    have HNS : Hid (¬ hdScr n ⟨f1, f2, false, f4, f5, cs, is, ts, us⟩) := Hid.mk' (by rintro (⟨h, _⟩ | h); exact hn0 h; (dsimp only at h; rw [hm2] at h; simp at t9; omega))
                    have e : hdB N n F = cs.all cokB := by have h1 := HFF.out; subst h1; exact hd_all HWF.out HNB.out HNS.out
                    rw [e]
                    clear e
                    obtain ⟨A, hA⟩ : ∃ A, cs.all cokB = A := ⟨_, rfl⟩
                    rw [hA]
                    have HA := Hid.mk' hA
                    have HN := Hid.mk' hm1
                    have hxb : (m1 : Int) ≤ 140737488351232 := by have := HLC.out; omega
                    clear hA hm1 hm2 hm3 hm4
                    go_enter Tryd.func15, Tryd.ntmps15
                    go_wp2_with fail
                    clear d0 d1 d2 d3 d4 d5 d6 d7 d8 A0 A1 A2 A3 A4 A5 A6 A8 c1 t0 t1 t2 t3 t4 t5 t9 hW1 hW2
                    go_loopw [80] (fun iv wr => ∃ i : Nat, iv = .int .i64 (i : Int) ∧ i ≤ m1 ∧ Hid (Below W2.heap.size W2 wr) ∧ Hid (∀ j (h : j < cs.length), j < i → cokB cs[j] = true)) (fun iv wr => m1 - (intOf iv).toNat)
                    case atStart => exact ⟨0, rfl, Nat.zero_le _, Hid.mk' (Below.refl _ _), Hid.mk' (fun j h h0 => by omega)⟩
                    case round =>
                      obtain ⟨i, rfl, hi, HBW, HAL⟩ := hrel
                      by_cases hlt : i < m1
                      · have hlq : i < cs.length := by rw [HN.out]; exact hlt
                        obtain ⟨g, o, rfl, hg, hc⟩ := ((HR.out).below HBW.out).at i hlq
                        have i1 : (i : Int) < (m1 : Int) := by omega
                        have i2 : (i : Int) < 140737488351232 := by omega
                        have hsz := HS.out _ (List.getElem_mem hlq)
                        have HE : Hid (∀ x, cs[i] = x → cokB x = true → ∀ j (h : j < cs.length), j < i + 1 → cokB cs[j] = true) := Hid.mk' (fun x hx hok j h hj => by
                          rcases Nat.lt_or_ge j i with h1 | h1
                          · exact HAL.out j h h1
                          · obtain rfl : j = i := by omega
                            rw [hx]; exact hok)
                        have HE2 : Hid (∀ x, cs[i] = x → cokB x = false → A = false) := Hid.mk' (fun x hx hok => by rw [← HA.out]; exact all_no _ _ i hlq (by rw [hx]; exact hok))
                        cases he : cs[i] with
                        | mk e0 e1 e2 e3 =>
                          rw [he] at hc hsz
                          have HE := Hid.mk' (HE.out _ he)
                          have HE2 := Hid.mk' (HE2.out _ he)
                          dsimp only at hsz
                          have d0 := hc 0 (.int .i64 e0) (by omega) rfl
                          have d1 := hc 1 (.float .f64 e1) (by omega) rfl
                          have d2 := hc 2 (.string e2) (by omega) rfl
                          have d3 := hc 3 (.int .i64 e3) (by omega) rfl
                          simp only [Nat.add_zero] at d0
                          have HBn : Hid (Below W2.heap.size W2 (wr.alloc (.cells #[.int .i64 e0, .float .f64 e1, .string e2, .int .i64 e3] 87))) := Hid.mk' (HBW.out.trans ((lay_below).mono HBW.out.size))
                          have HFI : Hid (Below w.heap.size w (wr.alloc (.cells #[.int .i64 e0, .float .f64 e1, .string e2, .int .i64 e3] 87))) := Hid.mk' (HB.out.trans (HBn.out.mono HB.out.size))
                          obtain ⟨z2, hz2⟩ : ∃ z : Int, (e2.size : Int) = z := ⟨_, rfl⟩
                          have HZ2 := Hid.mk' hz2
                          rw [hz2] at hsz
                          have hst : ∀ (p : Addr) (x : Nat) (md : Mode) (W : World), (store p (.float .f64 x) md).run Tryd.prog W = stored Tryd.prog W p (.float .f64 x) md := fun p x md W => run_store Tryd.prog W p _ md rfl
                          have HLT := Hid.mk' hlt
                          clear hc he hi hlt hg hxb
                          by_cases k3 : e0 = 3
                          · subst k3
                            go_wp2
                            exact ⟨⟨i + 1, by go_num, HLT.out, HBn, Hid.mk' (HE.out (by simp [cokB]))⟩, meas_up' m1 i HLT.out⟩
                          · by_cases k4 : e0 = 4
                            · subst k4
                              clear k3
                              rcases (show z2 % 2 = 0 ∨ z2 % 2 = 1 by omega) with km | km
                              · go_wp2
                                exact ⟨⟨i + 1, by go_num, HLT.out, HBn, Hid.mk' (HE.out (by have := HZ2.out; simp [cokB, this, km]))⟩, meas_up' m1 i HLT.out⟩
                              · go_wp2
                                go_ret
                                exact ⟨by rw [HE2.out (by have := HZ2.out; simp [cokB, this, km])]; rfl, by first | exact HFI.out | (rw [← hx1]; exact HFI.out)⟩
                            · have HK34 := Hid.mk' (And.intro k3 k4)
                              have k3' : (e0 != 3) = true := by simp [k3]
                              have k4' : (e0 != 4) = true := by simp [k4]
                              clear k3 k4 hz2 hsz
                              go_wp2
                              go_ret
                              obtain ⟨k3, k4⟩ := HK34.out
                              exact ⟨by rw [HE2.out (by simp [cokB, k3, k4])]; rfl, by first | exact HFI.out | (rw [← hx1]; exact HFI.out)⟩
                      · have i1 : ¬ (i : Int) < (m1 : Int) := by omega
                        have e : cs.all cokB = true := all_take _ _ (fun j h => HAL.out j h (by have := HN.out; omega))
                        have e2 := HA.out.symm.trans e
                        subst e2
                        go_wp2
                        go_ret
                        exact ⟨rfl, by first | exact HB.out.trans (HBW.out.mono HB.out.size) | (rw [← hx1]; exact HB.out.trans (HBW.out.mono HB.out.size))⟩
end Go.Proofs.YtlhiedlpjefbnaaDoor
