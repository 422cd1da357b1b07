/- (*checker).kidsFit: as many kids as must be, each in a place for its kind. -/
import Derived.Test.YtkiofkppdpkboaaDoorTFit
import Derived.Shelf.Abstract
namespace Go.Proofs.YtkiofkppdpkboaaDoor
set_option linter.unusedVariables false
open Go.RowKit

theorem tstep2 {P : Program} {ops : Array Oper} {o : Oper} {a : Act} {w : World} {K : Act → World → Prop} {Q : Exit → Act → World → Prop} {E : Prop}
    (hg : o.guard = none) (f : FuncId) (x y : Operand) (t u : TypeId) (hop : o.op = Op.call { callee := Callee.value (Operand.func f), args := #[x, y], argTypes := #[t, u] })
    (he : ∀ args w, (callFunc f args).run P w = .ok (.enter f args) w) (vx vy : Value) (hx : a.eval x = vx) (hy : a.eval y = vy) {R : Ending → World → Prop} (hC : Calls P f #[vx, vy] w R)
    (hK : ∀ e w', R e w' → ∃ v, e = .returned v ∧ K (a.put o.dst v) w') :
    if Region.wanted o (yielded ops a.tmps) = true then Oper.wp P o a w K Q else E := by
  have hw : Region.wanted o (yielded ops a.tmps) = true := by simp [Region.wanted, hg]
  rw [if_pos hw]
  unfold Oper.wp
  have hf : a.eval (Operand.func f) = .func (.func f) #[] #[] := rfl
  simp [execOp, hop, resolve, invoke, Deferred.ofValue, hx, hy, hf, he]
  rw [Oper.upon_enter]
  exact hC.mono (fun e w' h => by obtain ⟨v, rfl, hk⟩ := hK e w' h; exact hk)
theorem tstep3 {P : Program} {ops : Array Oper} {o : Oper} {a : Act} {w : World} {K : Act → World → Prop} {Q : Exit → Act → World → Prop} {E : Prop}
    (hg : o.guard = none) (f : FuncId) (x y z : Operand) (t u s : TypeId) (hop : o.op = Op.call { callee := Callee.value (Operand.func f), args := #[x, y, z], argTypes := #[t, u, s] })
    (he : ∀ args w, (callFunc f args).run P w = .ok (.enter f args) w) (vx vy vz : Value) (hx : a.eval x = vx) (hy : a.eval y = vy) (hz : a.eval z = vz) {R : Ending → World → Prop} (hC : Calls P f #[vx, vy, vz] w R)
    (hK : ∀ e w', R e w' → ∃ v, e = .returned v ∧ K (a.put o.dst v) w') :
    if Region.wanted o (yielded ops a.tmps) = true then Oper.wp P o a w K Q else E := by
  have hw : Region.wanted o (yielded ops a.tmps) = true := by simp [Region.wanted, hg]
  rw [if_pos hw]
  unfold Oper.wp
  have hf : a.eval (Operand.func f) = .func (.func f) #[] #[] := rfl
  simp [execOp, hop, resolve, invoke, Deferred.ofValue, hx, hy, hz, hf, he]
  rw [Oper.upon_enter]
  exact hC.mono (fun e w' h => by obtain ⟨v, rfl, hk⟩ := hK e w' h; exact hk)

/-- A node's box and a row's box, laid above w0. -/
structure NRB (w0 : World) (C D : Array Value) (W : World) : Prop where
  hn : ∀ j v, C[j]? = some v → W.cell? ⟨w0.heap.size, j, none⟩ = some v
  hr : ∀ j v, D[j]? = some v → W.cell? ⟨w0.heap.size + 1, j, none⟩ = some v
  sz : w0.heap.size + 1 < W.heap.size
  b : Below w0.heap.size w0 W
theorem NRB.grow {w0 W W' : World} {C D : Array Value} (h : NRB w0 C D W) (hb : Below W.heap.size W W') : NRB w0 C D W' :=
  ⟨fun j v hv => (hb.cell (p := ⟨w0.heap.size, j, none⟩) (Nat.lt_of_succ_lt h.sz)).trans (h.hn j v hv), fun j v hv => (hb.cell (p := ⟨w0.heap.size + 1, j, none⟩) h.sz).trans (h.hr j v hv), Nat.lt_of_lt_of_le h.sz hb.size, h.b.trans (hb.mono (Nat.le_of_lt (Nat.lt_of_succ_lt h.sz)))⟩
theorem NRB.drew {w0 W : World} {C D : Array Value} (h : NRB w0 C D W) : NRB w0 C D W.drew := h.grow ((Below.refl _ _).drew)
theorem NRB.start (w : World) (C D : Array Value) (t u : TypeId) : NRB w C D ((w.alloc (.cells C t)).alloc (.cells D u)) :=
  ⟨fun j v hv => ((((Below.refl (w.heap.size + 1) (w.alloc (.cells C t))).alloc (by simp) _)).cell (p := ⟨w.heap.size, j, none⟩) (Nat.lt_succ_self _)).trans ((World.cell?_alloc_new w C t j).trans hv),
   fun j v hv => by
    have e : (w.alloc (.cells C t)).heap.size = w.heap.size + 1 := by simp
    have := World.cell?_alloc_new (w.alloc (.cells C t)) D u j
    rw [e] at this
    exact this.trans hv, by simp, ((Below.refl _ _).alloc (Nat.le_refl _) _).alloc (by simp) _⟩
theorem placeN_lt (ms : List Nat) (pe mo i : Nat) (h : (∀ m ∈ ms, m < 18446744073709551616) ∧ pe < 18446744073709551616 ∧ mo < 18446744073709551616) : placeN ms pe mo i < 18446744073709551616 := by
  unfold placeN
  split
  · exact h.1 _ (List.getElem_mem _)
  · split
    · exact h.2.1
    · exact h.2.2

/-- Whether kids of these kinds fit. -/
def kidsN (ms : List Nat) (pe mo : Nat) (kinds : List Nat) : Bool := (List.range kinds.length).all (fun j => hasN (placeN ms pe mo j) (kinds.getD j 0)) && decide (ms.length ≤ kinds.length)

set_option maxHeartbeats 4000000 in
set_option maxRecDepth 100000 in
theorem kidsFit_any (q : Nat) (n : Nd) (k : Nat) (t : Int) (mx : Option Addr) (mc : Nat) (ms : List Nat) (pe mo : Nat) (nb no N cap : Nat) (kinds : List Nat) (w : World)
    (hk : n.kind = (k : Int)) (hk57 : k < 57) (hq : q < w.heap.size) (hnb : nb < w.heap.size)
    (h0 : w.cell? ⟨q, 0, none⟩ = some (.slice (some ⟨nb, no, none⟩) N cap))
    (r0 : w.cell? ⟨q, 1 + k * 4, none⟩ = some (.int .i64 t)) (r1 : w.cell? ⟨q, 1 + k * 4 + 1, none⟩ = some (.slice mx ms.length mc)) (r2 : w.cell? ⟨q, 1 + k * 4 + 2, none⟩ = some (.int .u64 pe)) (r3 : w.cell? ⟨q, 1 + k * 4 + 3, none⟩ = some (.int .u64 mo))
    (hms : ∀ j (h : j < ms.length), ∃ g o, mx = some ⟨g, o, none⟩ ∧ g < w.heap.size ∧ w.cell? ⟨g, o + j, none⟩ = some (.int .u64 (ms[j] : Nat)))
    (hsz : (∀ m ∈ ms, m < 18446744073709551616) ∧ pe < 18446744073709551616 ∧ mo < 18446744073709551616) (hml : ms.length ≤ 1000)
    (hkl : kinds.length = n.kids.length) (hkb : (n.kids.length : Int) * 8 ≤ 140737488351232) (hkd : KidsAt w n)
    (hkid : ∀ j (h : j < n.kids.length), ∃ (u : Nat) (m : Nd), n.kids[j] = (u : Int) ∧ u < N ∧ w.rangeAt nb (no + u * 6) m.cells ∧ m.kind = ((kinds.getD j 0 : Nat) : Int) ∧ kinds.getD j 0 < 64) :
    Calls Tryd.prog 45 #[.pointer (some ⟨q, 0, none⟩), n.val] w fun e w' => e = .returned (.bool (kidsN ms pe mo kinds)) ∧ Below w.heap.size w w' := by
  obtain ⟨kl, hkl2⟩ : ∃ kl, n.kids.length = kl := ⟨_, rfl⟩
  have HMS := Hid.mk' hms
  have HSZ := Hid.mk' hsz
  have HKD := Hid.mk' hkd
  have HKID := Hid.mk' hkid
  have H0 := Hid.mk' h0
  obtain ⟨nk, nt, ns, nn, kp, ks, kc, pl⟩ := n
  dsimp only [Nd.val] at hk hkl hkb hkl2 ⊢
  subst hk
  rw [hkl2] at hkb hkl ⊢
  obtain ⟨ml, hml2⟩ : ∃ ml, ms.length = ml := ⟨_, rfl⟩
  rw [hml2] at r1 hml
  have z1 : (0 : Int) ≤ (k : Int) := by omega
  have z2 : (k : Int) < 57 := by omega
  clear hms hsz hkd hkid
  have HS : Hid (NRB w #[.int .i64 (k : Int), .string nt, .string ns, .float .f64 nn, .slice kp kl kc, .int .i64 pl] #[.int .i64 t, .slice mx ml mc, .int .u64 (pe : Nat), .int .u64 (mo : Nat)] ((w.alloc (.cells #[.int .i64 (k : Int), .string nt, .string ns, .float .f64 nn, .slice kp kl kc, .int .i64 pl] 39)).alloc (.cells #[.int .i64 t, .slice mx ml mc, .int .u64 (pe : Nat), .int .u64 (mo : Nat)] 58)).drew) := Hid.mk' (NRB.start ..).drew
  obtain ⟨A, hA⟩ : ∃ A : Bool, kidsN ms pe mo kinds = A := ⟨_, rfl⟩
  have HA := Hid.mk' hA
  rw [hA]
  clear hA
  go_enter Tryd.func45, Tryd.ntmps45
  go_wp2_with fail
  go_region
  all_goals go_wp2_with fail
  all_goals
    go_loopw [17] (fun vj wr => ∃ (j : Nat), vj = .int .i64 j ∧ j ≤ kl ∧ Hid (∀ i, i < j → hasN (placeN ms pe mo i) (kinds.getD i 0) = true) ∧ Hid (NRB w #[.int .i64 (k : Int), .string nt, .string ns, .float .f64 nn, .slice kp kl kc, .int .i64 pl] #[.int .i64 t, .slice mx ml mc, .int .u64 (pe : Nat), .int .u64 (mo : Nat)] wr)) (fun vj _ => kl - (intOf vj).toNat)
    case atStart => exact ⟨0, rfl, Nat.zero_le _, Hid.mk' (fun i h => absurd h (Nat.not_lt_zero _)), HS⟩
    case round =>
      clear HS r0 r1 r2 r3 h0
      obtain ⟨j, rfl, hj, HP, HN⟩ := hrel
      have dn0 := HN.out.hn 0 _ rfl; have dn1 := HN.out.hn 1 _ rfl; have dn2 := HN.out.hn 2 _ rfl; have dn3 := HN.out.hn 3 _ rfl; have dn4 := HN.out.hn 4 _ rfl; have dn5 := HN.out.hn 5 _ rfl; have dr0 := HN.out.hr 0 _ rfl; have dr1 := HN.out.hr 1 _ rfl; have dr2 := HN.out.hr 2 _ rfl; have dr3 := HN.out.hr 3 _ rfl
      by_cases hlt : j < kl
      · have zj : (j : Int) < (kl : Int) := by omega
        obtain ⟨u, m, hu, huN, hm, hmk, hk64⟩ := HKID.out j (by omega)
        obtain ⟨kg, ko, hkp, hkg, hkc⟩ := HKD.out j (by dsimp only; omega)
        obtain ⟨kd, hkd⟩ : ∃ kd, kinds.getD j 0 = kd := ⟨_, rfl⟩
        obtain ⟨pj, hpj⟩ : ∃ pj, placeN ms pe mo j = pj := ⟨_, rfl⟩
        have hpl := placeN_lt ms pe mo j HSZ.out
        rw [hkd] at hmk hk64
        rw [hpj] at hpl
        have HPl : Hid (Calls Tryd.prog 63 #[.agg #[.int .i64 t, .slice mx ml mc, .int .u64 (pe : Nat), .int .u64 (mo : Nat)], .int .i64 j] wr.drew fun e w' => e = .returned (.int .u64 pj) ∧ NRB w #[.int .i64 (k : Int), .string nt, .string ns, .float .f64 nn, .slice kp kl kc, .int .i64 pl] #[.int .i64 t, .slice mx ml mc, .int .u64 (pe : Nat), .int .u64 (mo : Nat)] w') := Hid.mk' (by
          have := place_any t mx mc ms pe mo j wr.drew (fun i hi => by
            obtain ⟨g, o, e, hg, hc⟩ := HMS.out i hi
            exact ⟨g, o, e, Nat.lt_of_lt_of_le hg HN.out.drew.b.size, (HN.out.drew.b.cell (p := ⟨g, o + i, none⟩) hg).trans hc⟩)
          rw [hml2, hpj] at this
          exact this.mono (fun e w' h => ⟨h.1, HN.out.drew.grow h.2⟩))
        have HKi0 : ∀ W, NRB w #[.int .i64 (k : Int), .string nt, .string ns, .float .f64 nn, .slice kp kl kc, .int .i64 pl] #[.int .i64 t, .slice mx ml mc, .int .u64 (pe : Nat), .int .u64 (mo : Nat)] W → Calls Tryd.prog 65 #[.pointer (some ⟨q, 0, none⟩), .agg #[.int .i64 (k : Int), .string nt, .string ns, .float .f64 nn, .slice kp kl kc, .int .i64 pl], .int .i64 j] W fun e w' => e = .returned m.val ∧ NRB w #[.int .i64 (k : Int), .string nt, .string ns, .float .f64 nn, .slice kp kl kc, .int .i64 pl] #[.int .i64 t, .slice mx ml mc, .int .u64 (pe : Nat), .int .u64 (mo : Nat)] w' := fun W hW => by
          have := kid_any q nb no N cap ⟨k, nt, ns, nn, kp, ks, kc, pl⟩ m kg ko j u W (Nat.lt_of_lt_of_le hq hW.b.size) (Nat.lt_of_lt_of_le hkg hW.b.size) (Nat.lt_of_lt_of_le hnb hW.b.size) ((hW.b.cell (p := ⟨q, 0, none⟩) hq).trans H0.out) hkp (by dsimp only; omega) ((hW.b.cell (p := ⟨kg, ko + j, none⟩) hkg).trans (by rw [hkc]; dsimp only; rw [hu])) huN (fun i v hv => (hW.b.cell (p := ⟨nb, no + u * 6 + i, none⟩) hnb).trans (hm i v hv))
          dsimp only [Nd.val] at this
          rw [hkl2] at this
          exact this.mono (fun e w' h => ⟨h.1, hW.grow h.2⟩)
        obtain ⟨mk, mt, mss, mn, mkp, mks, mkc, mpl⟩ := m
        dsimp only [Nd.val] at hmk HKi0
        obtain ⟨mkl, hmkl⟩ : ∃ kl, mks.length = kl := ⟨_, rfl⟩
        rw [hmkl] at HKi0
        subst hmk
        have HKi := Hid.mk' HKi0
        have HHa0 := fun W => has_any pj kd W hk64 hpl
        obtain ⟨r, hr⟩ : ∃ r, hasN pj kd = r := ⟨_, rfl⟩
        rw [hr] at HHa0
        have HHa := Hid.mk' HHa0
        have hfd : ∀ W : World, (Instr.field 39 (.agg #[.int .i64 (kd : Int), .string mt, .string mss, .float .f64 mn, .slice mkp mkl mkc, .int .i64 mpl]) 0).run Tryd.prog W = .ok (.int .i64 (kd : Int)) W := fun _ => by kernel_rfl
        clear HKi0 HHa0 hm hu hkp hkg hkc hmkl hpl hk64 huN
        cases r
        · have HAF : Hid (A = false) := Hid.mk' (by
            rw [← HA.out]
            unfold kidsN
            rw [Bool.and_eq_false_iff]
            left
            rw [List.all_eq_false]
            exact ⟨j, List.mem_range.2 (by omega), by rw [hpj, hkd, hr]; simp⟩)
          clear hr hpj hkd
          go_wp2_with fail
          go_region_law (first
          | (refine tstep2 rfl 63 (.tmp 20) (.tmp 21) 58 3 rfl (enters_of Tryd.func63 (by kernel_rfl) rfl) _ _ rfl rfl HPl.out ?_; rintro e w2 ⟨rfl, N2⟩; refine ⟨_, rfl, ?_⟩; have en0 := N2.hn 0 _ rfl; have en1 := N2.hn 1 _ rfl; have en2 := N2.hn 2 _ rfl; have en3 := N2.hn 3 _ rfl; have en4 := N2.hn 4 _ rfl; have en5 := N2.hn 5 _ rfl; have er0 := N2.hr 0 _ rfl; have er1 := N2.hr 1 _ rfl; have er2 := N2.hr 2 _ rfl; have er3 := N2.hr 3 _ rfl)
          | (refine tstep3 rfl 65 (.tmp 23) (.tmp 24) (.tmp 25) 72 39 3 rfl (enters_of Tryd.func65 (by kernel_rfl) rfl) _ _ _ rfl rfl rfl (HKi.out _ N2) ?_; rintro e w3 ⟨rfl, N3⟩; refine ⟨_, rfl, ?_⟩)
          | (refine tstep2 rfl 64 (.tmp 22) (.tmp 27) 56 3 rfl (enters_of Tryd.func64 (by kernel_rfl) rfl) _ _ rfl rfl (HHa.out _) ?_; rintro e w4 ⟨rfl, hw4⟩; refine ⟨_, rfl, ?_⟩; rw [hw4]; clear hw4 w4))
          all_goals go_wp2_with fail
          all_goals go_ret
          all_goals exact ⟨by rw [HAF.out]; rfl, N3.b⟩
        · have HP2 : Hid (∀ i, i < j + 1 → hasN (placeN ms pe mo i) (kinds.getD i 0) = true) := Hid.mk' (fun i hi => by
            rcases Nat.lt_succ_iff_lt_or_eq.1 hi with h | rfl
            · exact HP.out i h
            · rw [hpj, hkd, hr])
          clear hr hpj hkd
          go_wp2_with fail
          go_region_law (first
          | (refine tstep2 rfl 63 (.tmp 20) (.tmp 21) 58 3 rfl (enters_of Tryd.func63 (by kernel_rfl) rfl) _ _ rfl rfl HPl.out ?_; rintro e w2 ⟨rfl, N2⟩; refine ⟨_, rfl, ?_⟩; have en0 := N2.hn 0 _ rfl; have en1 := N2.hn 1 _ rfl; have en2 := N2.hn 2 _ rfl; have en3 := N2.hn 3 _ rfl; have en4 := N2.hn 4 _ rfl; have en5 := N2.hn 5 _ rfl; have er0 := N2.hr 0 _ rfl; have er1 := N2.hr 1 _ rfl; have er2 := N2.hr 2 _ rfl; have er3 := N2.hr 3 _ rfl)
          | (refine tstep3 rfl 65 (.tmp 23) (.tmp 24) (.tmp 25) 72 39 3 rfl (enters_of Tryd.func65 (by kernel_rfl) rfl) _ _ _ rfl rfl rfl (HKi.out _ N2) ?_; rintro e w3 ⟨rfl, N3⟩; refine ⟨_, rfl, ?_⟩)
          | (refine tstep2 rfl 64 (.tmp 22) (.tmp 27) 56 3 rfl (enters_of Tryd.func64 (by kernel_rfl) rfl) _ _ rfl rfl (HHa.out _) ?_; rintro e w4 ⟨rfl, hw4⟩; refine ⟨_, rfl, ?_⟩; rw [hw4]; clear hw4 w4))
          all_goals go_wp2_with fail
          all_goals
            go_roundw
            case rel => exact ⟨j + 1, by go_num, by omega, HP2, Hid.mk' N3⟩
            case measure => simp [intOf]; omega
      · obtain rfl : j = kl := by omega
        have zj : ¬ (j : Int) < (j : Int) := by omega
        have HAE : Hid (A = decide (ml ≤ j)) := Hid.mk' (by
          rw [← HA.out]
          unfold kidsN
          rw [show (List.range kinds.length).all (fun j => hasN (placeN ms pe mo j) (kinds.getD j 0)) = true from List.all_eq_true.2 (fun i hi => HP.out i (by have := List.mem_range.1 hi; omega)), hml2, hkl]
          rfl)
        go_wp2_with fail
        go_ret
        exact ⟨by rw [HAE.out]; rfl, HN.out.b⟩
end Go.Proofs.YtkiofkppdpkboaaDoor
