/- Package check: whether each try has what it names. -/
import Derived.Test.YtcagfjogfbddeaaDoorChG
namespace Go.Proofs.YtcagfjogfbddeaaDoor
set_option linter.unusedVariables false
set_option linter.unusedSimpArgs false
open Go.RowKit

theorem all_yes {α : Type} (p : α → Bool) (l : List α) : (∀ j (h : j < l.length), p l[j] = true) → l.all p = true := fun h => by
  rw [List.all_eq_true]
  intro x hx
  obtain ⟨j, hj, e⟩ := List.getElem_of_mem hx
  rw [← e]
  exact h j hj
theorem all_not {α : Type} (p : α → Bool) (l : List α) (j : Nat) (hj : j < l.length) (h : p l[j] = false) : l.all p = false := by
  rw [List.all_eq_false]
  exact ⟨l[j], List.getElem_mem _, by simp [h]⟩
set_option maxHeartbeats 4000000 in
set_option maxRecDepth 100000 in
theorem tries_any {cb mp : Nat} {a : Option Addr} {c n : Nat} {vn : Value} {q : FW} (w : World) (h : Ck w cb a n c vn mp q) (hr : RdE Tri.cs 4 w q.za q.zc q.f.tries) :
    Calls Tryd.prog 35 #[.pointer (some ⟨cb, 0, none⟩)] w fun e w' => e = .returned (.bool (trsB q.f)) ∧ Below w.heap.size w w' := by
  have HCk := Hid.mk' h
  have HRd := Hid.mk' hr
  have hle := hr.le
  have hcl : q.zc * (4 * 8) ≤ 140737488351232 := hr.cle
  obtain ⟨n3, hn3⟩ : ∃ n, q.f.tries.length = n := ⟨_, rfl⟩
  obtain ⟨n2, hn2⟩ : ∃ n, q.f.code.length = n := ⟨_, rfl⟩
  rw [hn3] at hle
  have HN := Hid.mk' hn3
  have HN2 := Hid.mk' hn2
  have c10 : w.cell? ⟨cb, 10, none⟩ = some (.slice q.za n3 q.zc) := by rw [h.cell 10]; simp [hn3]
  have HC9 : Hid (∀ W, Below w.heap.size w W → W.cell? ⟨cb, 9, none⟩ = some (.slice q.ya n2 q.yc)) := Hid.mk' (fun W hW => by have := (h.below hW).cell 9; rw [this]; simp [hn2])
  obtain ⟨za, hza⟩ : ∃ za, q.za = za := ⟨_, rfl⟩
  obtain ⟨zc, hzc⟩ : ∃ zc, q.zc = zc := ⟨_, rfl⟩
  obtain ⟨ya, hya⟩ : ∃ ya, q.ya = ya := ⟨_, rfl⟩
  obtain ⟨yc, hyc⟩ : ∃ yc, q.yc = yc := ⟨_, rfl⟩
  rw [hza, hzc] at c10 HRd
  rw [hya, hyc] at HC9
  rw [hzc] at hle hcl
  obtain ⟨A, hA⟩ : ∃ A, trsB q.f = A := ⟨_, rfl⟩
  rw [hA]
  have HA := Hid.mk' hA
  clear h hr hn3 hn2 hza hzc hya hyc hA
  go_enter Tryd.func35, Tryd.ntmps35
  go_wp2_with fail
  clear c10
  go_loopw [11] (fun iv wr => ∃ i : Nat, iv = .int .i64 (i : Int) ∧ i ≤ n3 ∧ Hid (Below w.heap.size w wr) ∧ Hid (∀ j (h : j < q.f.tries.length), j < i → triB q.f q.f.tries[j] = true)) (fun iv wr => n3 - (intOf iv).toNat)
  case atStart => exact ⟨0, rfl, Nat.zero_le _, Hid.mk' (Below.refl _ _), Hid.mk' (fun j h h0 => by omega)⟩
  case round =>
    obtain ⟨i, rfl, hi, HBW, HAL⟩ := hrel
    by_cases hlt : i < n3
    · have hlq : i < q.f.tries.length := by rw [HN.out]; exact hlt
      obtain ⟨g, o, rfl, hg, hc⟩ := (HRd.out.below HBW.out).at i hlq
      have i1 : (i : Int) < (n3 : Int) := by omega
      have i2 : (i : Int) < 140737488351232 := by omega
      have HE : Hid (∀ x, q.f.tries[i] = x → triB q.f x = true → ∀ j (h : j < q.f.tries.length), j < i + 1 → triB q.f q.f.tries[j] = true) := Hid.mk' (fun x hx hok j h hj => by
        rcases Nat.lt_or_ge j i with h1 | h1
        · exact HAL.out j h h1
        · obtain rfl : j = i := by omega
          rw [hx]; exact hok)
      have HE2 : Hid (∀ x, q.f.tries[i] = x → triB q.f x = false → A = false) := Hid.mk' (fun x hx hok => by rw [← HA.out]; exact all_not _ _ i hlq (by rw [hx]; exact hok))
      cases he : q.f.tries[i] with
      | mk e0 e1 e2 e3 =>
        rw [he] at hc
        have HE := Hid.mk' (HE.out _ he)
        have HE2 := Hid.mk' (HE2.out _ he)
        have d0 := hc 0 (.int .i64 e0) (by omega) rfl
        have d1 := hc 1 (.int .i64 e1) (by omega) rfl
        have d2 := hc 2 (.int .i64 e2) (by omega) rfl
        have d3 := hc 3 (.int .i64 e3) (by omega) rfl
        simp only [Nat.add_zero] at d0
        obtain ⟨W2, hW2⟩ : ∃ W2, wr.alloc (.cells #[.int .i64 e0, .int .i64 e1, .int .i64 e2, .int .i64 e3] 59) = W2 := ⟨_, rfl⟩
        have b2 : Below wr.heap.size wr W2 := by rw [← hW2]; exact lay_below
        have q2 : W2.heap[wr.heap.size]? = some (.cells #[.int .i64 e0, .int .i64 e1, .int .i64 e2, .int .i64 e3] 59 (0, 0)) := by rw [← hW2]; exact box_new
        have B2 := HBW.out.trans (b2.mono HBW.out.size)
        have HB2 := Hid.mk' B2
        have c9 := HC9.out W2 B2
        have HTg := Hid.mk' (fun k => target_any (W2.drewN k) ((HCk.out.below B2).heap (by simp)) e2)
        have HRg := Hid.mk' (fun k => register_any (W2.drewN k) ((HCk.out.below B2).heap (by simp)) e3)
        obtain ⟨bi, hbi⟩ : ∃ bi, wr.heap.size = bi := ⟨_, rfl⟩
        rw [hbi] at q2
        have f0 : W2.cell? ⟨bi, 0, none⟩ = some (.int .i64 e0) := (cell_row _ _ 0 _ _ q2).trans rfl
        have f1 : W2.cell? ⟨bi, 1, none⟩ = some (.int .i64 e1) := (cell_row _ _ 1 _ _ q2).trans rfl
        have f2 : W2.cell? ⟨bi, 2, none⟩ = some (.int .i64 e2) := (cell_row _ _ 2 _ _ q2).trans rfl
        have f3 : W2.cell? ⟨bi, 3, none⟩ = some (.int .i64 e3) := (cell_row _ _ 3 _ _ q2).trans rfl
        obtain ⟨rt, hrt⟩ : ∃ rt, tgtB q.f e2 = rt := ⟨_, rfl⟩
        obtain ⟨rr, hrr⟩ : ∃ rr, regB q.f e3 = rr := ⟨_, rfl⟩
        rw [hrt] at HTg
        rw [hrr] at HRg
        have htri : triB q.f ⟨e0, e1, e2, e3⟩ = !(decide (e0 < 0) || decide (e1 ≤ e0) || decide ((n2 : Int) < e1) || !rt || !rr) := by
          unfold triB
          rw [hrt, hrr, HN2.out]
        rw [htri] at HE HE2
        have HLT := Hid.mk' hlt
        clear hc he b2 B2 q2 hrt hrr htri hcl hle hi hg hlt
        by_cases k0 : e0 < 0
        · have e := HE2.out (by simp [k0])
          subst e
          go_upto_region 4 with fail
          go_quiet (fail)
          go_wp2
          go_ret
          exact ⟨rfl, HB2.out.trans (kept_drewN _ 0 _ _).1⟩
        by_cases k1 : e1 ≤ e0
        · have e := HE2.out (by simp [k1])
          subst e
          go_upto_region 4 with fail
          go_quiet (fail)
          go_wp2
          go_ret
          exact ⟨rfl, HB2.out.trans (kept_drewN _ 0 _ _).1⟩
        by_cases k2 : (n2 : Int) < e1
        · have e := HE2.out (by simp [k2])
          subst e
          go_upto_region 4 with fail
          go_quiet (fail)
          go_wp2
          go_ret
          exact ⟨rfl, HB2.out.trans (kept_drewN _ 0 _ _).1⟩
        cases rt with
        | false =>
          have e := HE2.out (by simp)
          subst e
          go_upto_region 4 with fail
          go_quiet ((go_at_call 43; refine Calls.quiet_of_same (HTg.out _)))
          go_wp2
          go_ret
          exact ⟨rfl, HB2.out.trans (kept_drewN _ 0 _ _).1⟩
        | true =>
          cases rr with
          | false =>
            have e := HE2.out (by simp)
            subst e
            go_upto_region 4 with fail
            go_quiet (first | (go_at_call 43; refine Calls.quiet_of_same (HTg.out _)) | (go_at_call 39; refine Calls.quiet_of_same (HRg.out _)))
            go_wp2
            go_ret
            exact ⟨rfl, HB2.out.trans (kept_drewN _ 0 _ _).1⟩
          | true =>
            have HOK := Hid.mk' (HE.out (by simp [k0, k1, k2]))
            go_upto_region 4 with fail
            go_quiet (first | (go_at_call 43; refine Calls.quiet_of_same (HTg.out _)) | (go_at_call 39; refine Calls.quiet_of_same (HRg.out _)))
            clear k0 k1 k2
            go_wp2
            exact ⟨⟨i + 1, by go_num, HLT.out, Hid.mk' (HB2.out.trans (kept_drewN _ 0 _ _).1), HOK⟩, meas_up' n3 i HLT.out⟩
    · have i1 : ¬ (i : Int) < (n3 : Int) := by omega
      have e : A = true := by rw [← HA.out]; exact all_yes _ _ (fun j h => HAL.out j h (by have := HN.out; omega))
      subst e
      go_wp2
      go_ret
      exact ⟨rfl, HBW.out⟩
end Go.Proofs.YtcagfjogfbddeaaDoor
