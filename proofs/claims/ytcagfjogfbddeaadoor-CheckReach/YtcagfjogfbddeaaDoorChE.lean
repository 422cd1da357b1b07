/- Package check: whether all is right about a function but for what names something in it. -/
import Derived.Test.YtcagfjogfbddeaaDoorChD
namespace Go.Proofs.YtcagfjogfbddeaaDoor
set_option linter.unusedVariables false
set_option linter.unusedSimpArgs false
open Go.RowKit

theorem all_take {α : Type} (p : α → Bool) (l : List α) : (∀ j (h : j < l.length), p l[j] = true) → l.all p = true := fun h => by
  rw [List.all_eq_true]
  intro x hx
  obtain ⟨j, hj, e⟩ := List.getElem_of_mem hx
  rw [← e]
  exact h j hj
theorem all_no {α : Type} (p : α → Bool) (l : List α) (j : Nat) (hj : j < l.length) (h : p l[j] = false) : l.all p = false := by
  rw [List.all_eq_false]
  exact ⟨l[j], List.getElem_mem _, by simp [h]⟩
set_option maxHeartbeats 2000000 in
set_option maxRecDepth 100000 in
theorem isFunction_any (q : FW) (w : World) (hr : RdE Cst.cs 4 w q.xa q.xc q.f.consts) (hs : ∀ c ∈ q.f.consts, (c.str.size : Int) ≤ 140737488351232) : Calls Tryd.prog 32 #[.agg q.cs.toArray] w fun e w' => e = .returned (.bool (headB q.f)) ∧ Below w.heap.size w w' := by
  unfold headB
  simp only [FW.cs]
  obtain ⟨⟨f1, f2, f3, f4, f5, cs, is, ts, us⟩, xa, xc, ya, yc, za, zc, ua, uc⟩ := q
  dsimp only at hr hs ⊢
  have HS := Hid.mk' hs
  have HR := Hid.mk' hr
  have hle := hr.le
  have hcl : xc * (4 * 8) ≤ 140737488351232 := hr.cle
  obtain ⟨n1, hn1⟩ : ∃ n1, cs.length = n1 := ⟨_, rfl⟩
  obtain ⟨n2, hn2⟩ : ∃ n2, is.length = n2 := ⟨_, rfl⟩
  obtain ⟨n3, hn3⟩ : ∃ n3, ts.length = n3 := ⟨_, rfl⟩
  obtain ⟨n4, hn4⟩ : ∃ n4, us.length = n4 := ⟨_, rfl⟩
  rw [hn1] at hle
  simp only [hn1, hn2, hn3, hn4]
  have HN := Hid.mk' hn1
  obtain ⟨W1, hW1⟩ : ∃ W1, w.alloc (.cells #[.string f1, .int .i64 f2, .bool f3, .bool f4, .int .i64 f5, .slice xa n1 xc, .slice ya n2 yc, .slice za n3 zc, .slice ua n4 uc] 28) = W1 := ⟨_, rfl⟩
  have b1 : Below w.heap.size w W1 := by rw [← hW1]; exact lay_below
  have q1 : W1.heap[w.heap.size]? = some (.cells #[.string f1, .int .i64 f2, .bool f3, .bool f4, .int .i64 f5, .slice xa n1 xc, .slice ya n2 yc, .slice za n3 zc, .slice ua n4 uc] 28 (0, 0)) := by rw [← hW1]; exact box_new
  obtain ⟨b0, hb0⟩ : ∃ b0, w.heap.size = b0 := ⟨_, rfl⟩
  rw [hb0] at q1
  have A1 : W1.cell? ⟨b0, 1, none⟩ = some (.int .i64 f2) := (cell_row _ _ 1 _ _ q1).trans rfl
  have A2 : W1.cell? ⟨b0, 2, none⟩ = some (.bool f3) := (cell_row _ _ 2 _ _ q1).trans rfl
  have A4 : W1.cell? ⟨b0, 4, none⟩ = some (.int .i64 f5) := (cell_row _ _ 4 _ _ q1).trans rfl
  have A5 : W1.cell? ⟨b0, 5, none⟩ = some (.slice xa n1 xc) := (cell_row _ _ 5 _ _ q1).trans rfl
  have A6 : W1.cell? ⟨b0, 6, none⟩ = some (.slice ya n2 yc) := (cell_row _ _ 6 _ _ q1).trans rfl
  have HB := Hid.mk' b1
  clear hn1 hn2 hn3 hn4 hr hs b1 q1
  by_cases g1 : f5 < 1 ∨ 4000 < f5
  · have e : (!(decide (f5 < 1) || decide (4000 < f5)) && (!(decide (f2 < 0) || decide ((if f3 then f5 - 1 else f5) < f2) || decide ((n2 : Int) = 0)) && cs.all cokB)) = false := by
      rcases g1 with g | g <;> simp [g]
    rw [e]
    clear e
    rcases g1 with g | g
    all_goals
      go_enter Tryd.func32, Tryd.ntmps32
      go_wp2
      all_goals
        go_ret
        exact ⟨rfl, by first | exact HB.out | (rw [← hb0]; exact HB.out)⟩
  · have r1 : ¬ f5 < 1 := fun h => g1 (.inl h)
    have r2 : ¬ 4000 < f5 := fun h => g1 (.inr h)
    cases f3 with
    | true =>
      simp only [if_true]
      by_cases g2 : f2 < 0 ∨ f5 - 1 < f2 ∨ (n2 : Int) = 0
      · have e : (!(decide (f5 < 1) || decide (4000 < f5)) && (!(decide (f2 < 0) || decide (f5 - 1 < f2) || decide ((n2 : Int) = 0)) && cs.all cokB)) = false := by
          rcases g2 with g | g | g
          · simp [g]
          · simp [g]
          · simp [show n2 = 0 by omega]
        rw [e]
        clear e g1
        rcases g2 with g | g | g
        all_goals
          go_enter Tryd.func32, Tryd.ntmps32
          go_wp2
          all_goals
            go_ret
            exact ⟨rfl, by first | exact HB.out | (rw [← hb0]; exact HB.out)⟩
      · have r3 : ¬ f2 < 0 := fun h => g2 (.inl h)
        have r4 : ¬ f5 - 1 < f2 := fun h => g2 (.inr (.inl h))
        have r5 : ¬ (n2 : Int) = 0 := fun h => g2 (.inr (.inr h))
        have e : (!(decide (f5 < 1) || decide (4000 < f5)) && (!(decide (f2 < 0) || decide (f5 - 1 < f2) || decide ((n2 : Int) = 0)) && cs.all cokB)) = cs.all cokB := by simp [r1, r2, r3, r4, show ¬ n2 = 0 by omega]
        rw [e]
        obtain ⟨A, hA⟩ : ∃ A, cs.all cokB = A := ⟨_, rfl⟩
        rw [hA]
        have HA := Hid.mk' hA
        clear e g1 g2 hA
        go_enter Tryd.func32, Tryd.ntmps32
        go_wp2
        clear A1 A2 A4 A5 A6 r1 r2 r3 r4 r5
        go_loopw [38] (fun iv wr => ∃ i : Nat, iv = .int .i64 (i : Int) ∧ i ≤ n1 ∧ Hid (Below b0 w wr) ∧ Hid (b0 ≤ wr.heap.size) ∧ Hid (∀ j (h : j < cs.length), j < i → cokB cs[j] = true)) (fun iv wr => n1 - (intOf iv).toNat)
        case atStart => exact ⟨0, rfl, Nat.zero_le _, by rw [← hb0]; exact HB, Hid.mk' (by have := HB.out.size; omega), Hid.mk' (fun j h h0 => by omega)⟩
        case round =>
          obtain ⟨i, rfl, hi, HBW, HSZ, HAL⟩ := hrel
          have hbw : Below w.heap.size w wr := by rw [hb0]; exact HBW.out
          by_cases hlt : i < n1
          · have hlq : i < cs.length := by rw [HN.out]; exact hlt
            obtain ⟨g, o, rfl, hg, hc⟩ := ((HR.out).below hbw).at i hlq
            have i1 : (i : Int) < (n1 : Int) := by omega
            have i2 : (i : Int) < 140737488351232 := by omega
            have hsz := HS.out _ (List.getElem_mem hlq)
            have HE : Hid (∀ x, cs[i] = x → cokB x = true → ∀ j (h : j < cs.length), j < i + 1 → cokB cs[j] = true) := Hid.mk' (fun x hx hok j h hj => by
              rcases Nat.lt_or_ge j i with h1 | h1
              · exact HAL.out j h h1
              · obtain rfl : j = i := by omega
                rw [hx]; exact hok)
            have HE2 : Hid (∀ x, cs[i] = x → cokB x = false → cs.all cokB = false) := Hid.mk' (fun x hx hok => all_no _ _ i hlq (by rw [hx]; exact hok))
            cases he : cs[i] with
            | mk e0 e1 e2 e3 =>
              rw [he] at hc hsz
              have HE := Hid.mk' (HE.out _ he)
              have HE2 := Hid.mk' (HE2.out _ he)
              dsimp only at hsz
              have d0 := hc 0 (.int .i64 e0) (by omega) rfl
              have d1 := hc 1 (.float .f64 e1) (by omega) rfl
              have d2 := hc 2 (.string e2) (by omega) rfl
              have d3 := hc 3 (.int .i64 e3) (by omega) rfl
              simp only [Nat.add_zero] at d0
              have HBn : Hid (Below b0 w (wr.alloc (.cells #[.int .i64 e0, .float .f64 e1, .string e2, .int .i64 e3] 91))) := Hid.mk' (HBW.out.alloc HSZ.out _)
              have HSn : Hid (b0 ≤ (wr.alloc (.cells #[.int .i64 e0, .float .f64 e1, .string e2, .int .i64 e3] 91)).heap.size) := Hid.mk' (by have := HSZ.out; simp; omega)
              obtain ⟨z2, hz2⟩ : ∃ z : Int, (e2.size : Int) = z := ⟨_, rfl⟩
              have HZ2 := Hid.mk' hz2
              rw [hz2] at hsz
              have hst : ∀ (p : Addr) (x : Nat) (md : Mode) (W : World), (store p (.float .f64 x) md).run Tryd.prog W = stored Tryd.prog W p (.float .f64 x) md := fun p x md W => run_store Tryd.prog W p _ md rfl
              have HLT := Hid.mk' hlt
              clear hc he hcl hle hi hlt hg hbw
              by_cases k3 : e0 = 3
              · subst k3
                go_wp2
                go_roundw
                case rel => exact ⟨i + 1, by go_num, HLT.out, HBn, HSn, Hid.mk' (HE.out (by simp [cokB]))⟩
                case measure => exact meas_up' n1 i HLT.out
              · by_cases k4 : e0 = 4
                · subst k4
                  clear k3
                  rcases (show z2 % 2 = 0 ∨ z2 % 2 = 1 by omega) with km | km
                  · go_wp2
                    go_roundw
                    case rel => exact ⟨i + 1, by go_num, HLT.out, HBn, HSn, Hid.mk' (HE.out (by have := HZ2.out; simp [cokB, this, km]))⟩
                    case measure => exact meas_up' n1 i HLT.out
                  · go_wp2
                    go_ret
                    exact ⟨by rw [← HA.out, HE2.out (by have := HZ2.out; simp [cokB, this, km])]; rfl, by first | exact HBn.out | (rw [hb0]; exact HBn.out)⟩
                · have HK34 := Hid.mk' (And.intro k3 k4)
                  have k3' : (e0 != 3) = true := by simp [k3]
                  have k4' : (e0 != 4) = true := by simp [k4]
                  clear k3 k4 hz2 hsz
                  go_wp2
                  go_ret
                  obtain ⟨k3, k4⟩ := HK34.out
                  exact ⟨by rw [← HA.out, HE2.out (by simp [cokB, k3, k4])]; rfl, by first | exact HBn.out | (rw [hb0]; exact HBn.out)⟩
          · have i1 : ¬ (i : Int) < (n1 : Int) := by omega
            have e : cs.all cokB = true := all_take _ _ (fun j h => HAL.out j h (by have := HN.out; omega))
            have e2 := HA.out.symm.trans e
            subst e2
            go_wp2
            go_ret
            exact ⟨rfl, HBW.out⟩
    | false =>
      simp only [Bool.false_eq_true, if_false]
      by_cases g2 : f2 < 0 ∨ f5 < f2 ∨ (n2 : Int) = 0
      · have e : (!(decide (f5 < 1) || decide (4000 < f5)) && (!(decide (f2 < 0) || decide (f5 < f2) || decide ((n2 : Int) = 0)) && cs.all cokB)) = false := by
          rcases g2 with g | g | g
          · simp [g]
          · simp [g]
          · simp [show n2 = 0 by omega]
        rw [e]
        clear e g1
        rcases g2 with g | g | g
        all_goals
          go_enter Tryd.func32, Tryd.ntmps32
          go_wp2
          all_goals
            go_ret
            exact ⟨rfl, by first | exact HB.out | (rw [← hb0]; exact HB.out)⟩
      · have r3 : ¬ f2 < 0 := fun h => g2 (.inl h)
        have r4 : ¬ f5 < f2 := fun h => g2 (.inr (.inl h))
        have r5 : ¬ (n2 : Int) = 0 := fun h => g2 (.inr (.inr h))
        have e : (!(decide (f5 < 1) || decide (4000 < f5)) && (!(decide (f2 < 0) || decide (f5 < f2) || decide ((n2 : Int) = 0)) && cs.all cokB)) = cs.all cokB := by simp [r1, r2, r3, r4, show ¬ n2 = 0 by omega]
        rw [e]
        obtain ⟨A, hA⟩ : ∃ A, cs.all cokB = A := ⟨_, rfl⟩
        rw [hA]
        have HA := Hid.mk' hA
        clear e g1 g2 hA
        go_enter Tryd.func32, Tryd.ntmps32
        go_wp2
        clear A1 A2 A4 A5 A6 r1 r2 r3 r4 r5
        go_loopw [38] (fun iv wr => ∃ i : Nat, iv = .int .i64 (i : Int) ∧ i ≤ n1 ∧ Hid (Below b0 w wr) ∧ Hid (b0 ≤ wr.heap.size) ∧ Hid (∀ j (h : j < cs.length), j < i → cokB cs[j] = true)) (fun iv wr => n1 - (intOf iv).toNat)
        case atStart => exact ⟨0, rfl, Nat.zero_le _, by rw [← hb0]; exact HB, Hid.mk' (by have := HB.out.size; omega), Hid.mk' (fun j h h0 => by omega)⟩
        case round =>
          obtain ⟨i, rfl, hi, HBW, HSZ, HAL⟩ := hrel
          have hbw : Below w.heap.size w wr := by rw [hb0]; exact HBW.out
          by_cases hlt : i < n1
          · have hlq : i < cs.length := by rw [HN.out]; exact hlt
            obtain ⟨g, o, rfl, hg, hc⟩ := ((HR.out).below hbw).at i hlq
            have i1 : (i : Int) < (n1 : Int) := by omega
            have i2 : (i : Int) < 140737488351232 := by omega
            have hsz := HS.out _ (List.getElem_mem hlq)
            have HE : Hid (∀ x, cs[i] = x → cokB x = true → ∀ j (h : j < cs.length), j < i + 1 → cokB cs[j] = true) := Hid.mk' (fun x hx hok j h hj => by
              rcases Nat.lt_or_ge j i with h1 | h1
              · exact HAL.out j h h1
              · obtain rfl : j = i := by omega
                rw [hx]; exact hok)
            have HE2 : Hid (∀ x, cs[i] = x → cokB x = false → cs.all cokB = false) := Hid.mk' (fun x hx hok => all_no _ _ i hlq (by rw [hx]; exact hok))
            cases he : cs[i] with
            | mk e0 e1 e2 e3 =>
              rw [he] at hc hsz
              have HE := Hid.mk' (HE.out _ he)
              have HE2 := Hid.mk' (HE2.out _ he)
              dsimp only at hsz
              have d0 := hc 0 (.int .i64 e0) (by omega) rfl
              have d1 := hc 1 (.float .f64 e1) (by omega) rfl
              have d2 := hc 2 (.string e2) (by omega) rfl
              have d3 := hc 3 (.int .i64 e3) (by omega) rfl
              simp only [Nat.add_zero] at d0
              have HBn : Hid (Below b0 w (wr.alloc (.cells #[.int .i64 e0, .float .f64 e1, .string e2, .int .i64 e3] 91))) := Hid.mk' (HBW.out.alloc HSZ.out _)
              have HSn : Hid (b0 ≤ (wr.alloc (.cells #[.int .i64 e0, .float .f64 e1, .string e2, .int .i64 e3] 91)).heap.size) := Hid.mk' (by have := HSZ.out; simp; omega)
              obtain ⟨z2, hz2⟩ : ∃ z : Int, (e2.size : Int) = z := ⟨_, rfl⟩
              have HZ2 := Hid.mk' hz2
              rw [hz2] at hsz
              have hst : ∀ (p : Addr) (x : Nat) (md : Mode) (W : World), (store p (.float .f64 x) md).run Tryd.prog W = stored Tryd.prog W p (.float .f64 x) md := fun p x md W => run_store Tryd.prog W p _ md rfl
              have HLT := Hid.mk' hlt
              clear hc he hcl hle hi hlt hg hbw
              by_cases k3 : e0 = 3
              · subst k3
                go_wp2
                go_roundw
                case rel => exact ⟨i + 1, by go_num, HLT.out, HBn, HSn, Hid.mk' (HE.out (by simp [cokB]))⟩
                case measure => exact meas_up' n1 i HLT.out
              · by_cases k4 : e0 = 4
                · subst k4
                  clear k3
                  rcases (show z2 % 2 = 0 ∨ z2 % 2 = 1 by omega) with km | km
                  · go_wp2
                    go_roundw
                    case rel => exact ⟨i + 1, by go_num, HLT.out, HBn, HSn, Hid.mk' (HE.out (by have := HZ2.out; simp [cokB, this, km]))⟩
                    case measure => exact meas_up' n1 i HLT.out
                  · go_wp2
                    go_ret
                    exact ⟨by rw [← HA.out, HE2.out (by have := HZ2.out; simp [cokB, this, km])]; rfl, by first | exact HBn.out | (rw [hb0]; exact HBn.out)⟩
                · have HK34 := Hid.mk' (And.intro k3 k4)
                  have k3' : (e0 != 3) = true := by simp [k3]
                  have k4' : (e0 != 4) = true := by simp [k4]
                  clear k3 k4 hz2 hsz
                  go_wp2
                  go_ret
                  obtain ⟨k3, k4⟩ := HK34.out
                  exact ⟨by rw [← HA.out, HE2.out (by simp [cokB, k3, k4])]; rfl, by first | exact HBn.out | (rw [hb0]; exact HBn.out)⟩
          · have i1 : ¬ (i : Int) < (n1 : Int) := by omega
            have e : cs.all cokB = true := all_take _ _ (fun j h => HAL.out j h (by have := HN.out; omega))
            have e2 := HA.out.symm.trans e
            subst e2
            go_wp2
            go_ret
            exact ⟨rfl, HBW.out⟩
end Go.Proofs.YtcagfjogfbddeaaDoor
