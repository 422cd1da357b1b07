/- The document's shapes: Add in a shape that there is, with flags that may be. -/
import Derived.Test.YtoonaljmdiideaaSrH
import Derived.Test.YtoonaljmdiideaaRgU
namespace Go.Proofs.Ytoonaljmdiideaa
set_option linter.unusedVariables false
set_option linter.unusedSimpArgs false
open Go.RowKit Go.Maps Go.ChangeShapes
section
variable {B rb : Nat} {vL vW : Value} {sv : List Value} {S : List (List SlR)} {W : List WyR} {w w' : World}
/-- What the document's Add comes to. -/
def RAdd (B rb : Nat) (vL vW : Value) (sv : List Value) (S : List (List SlR)) (W : List WyR) (i : Nat) (k : Kb) (s : ByteArray) (z f : Int) (w : World) (e : Ending) (w' : World) : Prop :=
  ((∃ j : Nat, ixB ((S.getD i []).map SlR.kb) k = (j : Int)) ∧ e = .returned (.tuple #[.int .i64 0, .int .i64 141]) ∧ Below w.heap.size w w') ∨
  ((∀ x ∈ (S.getD i []).map SlR.kb, x ≠ k) ∧
    ((128 ≤ (S.getD i []).length ∧ e = .returned (.tuple #[.int .i64 0, .int .i64 2]) ∧ Below w.heap.size w w') ∨
     ((S.getD i []).length < 128 ∧
      ((0 ≤ wyF W i false k f ∧ e = .returned (.tuple #[.int .i64 (wyF W i false k f), .int .i64 0]) ∧ Below w.heap.size w w') ∨
       (wyF W i false k f = -1 ∧ 100000 ≤ sv.length ∧ e = .returned (.tuple #[.int .i64 0, .int .i64 2]) ∧ Below w.heap.size w w') ∨
       (wyF W i false k f = -1 ∧ sv.length < 100000 ∧ e = .returned (.tuple #[.int .i64 (sv.length : Nat), .int .i64 0]) ∧ ∃ lv w1, Below w.heap.size w w1 ∧ (∀ b, lv.ownBlock = some b → w.heap.size ≤ b) ∧ LayW B rb vL vW sv S W ⟨i, false, s, z, f, (sv.length : Nat)⟩ lv (S.getD i [] ++ [⟨s, z, f⟩]) w1 w')))))
/-- A row of slots, one that is empty too, in a row of its own. -/
theorem app_sl0 {a : Option Addr} {c : Nat} : (Builtin.append_ #[79, 79] 79 #[.slice none 0 0, .slice a 0 c]).run Try.prog w = .ok (.slice none 0 0) w := by
  obtain ⟨i0, hif, hz0, hz1, hz2⟩ := sh_parts sr_infoS
  cases a <;> simp [Builtin.append_, run_underlying Try.underlying79, sizeOf, typeInfo, hif, Builtin.lenOf, Builtin.firstCells, storeCells, loadCells, loadCellsFrom, Result.andThen]
theorem app_sl' {a : Option Addr} {c : Nat} {l : List SlR} (hl : l.length < 1000) (hr : RdR SlR.cs 3 w a l) :
    ∃ a' cap w', (Builtin.append_ #[79, 79] 79 #[.slice none 0 0, .slice a l.length c]).run Try.prog w = .ok (.slice a' l.length cap) w' ∧ w'.ownsRow w.heap.size 81 3 (.slice a' l.length cap) l.length (slC l) ∧ Below w.heap.size w w' := by
  by_cases h1 : 1 ≤ l.length
  · obtain ⟨b, cap, w', hrun, _, ho, hb⟩ := app_sl (c := c) hl hr h1
    exact ⟨_, cap, w', hrun, ho, hb⟩
  · obtain rfl : l = [] := List.eq_nil_of_length_eq_zero (by omega)
    exact ⟨none, 0, w, app_sl0, World.ownsRow_nil _ _ _ _, Below.refl _ _⟩
theorem row_at {w : World} {g : Nat} {l : List Value} {t : TypeId} (h : w.heap[g]? = some (.cells l.toArray t (0, 0))) : ∀ (j : Nat) (u : Value), l[j]? = some u → w.cell? ((⟨g, 0, none⟩ : Addr).add j) = some u := fun j u hj => by
  rw [Addr.add_lit]
  simp [World.cell?, h, hj]
theorem own_base {w : World} {B B' : Nat} {e : TypeId} {sz : Nat} {v : Value} {n : Nat} {xs : List Value} (h : w.ownsRow B' e sz v n xs) (hle : B ≤ B') : w.ownsRow B e sz v n xs := by
  refine ⟨h.1, ?_⟩
  rcases h.2 with hn | ⟨g, cap, cur, rfl, hB, rest⟩
  · exact .inl hn
  · exact .inr ⟨g, cap, cur, rfl, Nat.le_trans hle hB, rest⟩
theorem step_call5 {P : Program} {ops : Array Oper} {o : Oper} {a : Act} {w : World} {K : Act → World → Prop} {Q : Exit → Act → World → Prop} {E : Prop}
    (hg : o.guard = none) (f : FuncId) (x1 x2 x3 x4 x5 : Operand) (ts : Array TypeId) (hop : o.op = Op.call { callee := Callee.value (Operand.func f), args := #[x1, x2, x3, x4, x5], argTypes := ts })
    (he : ∀ args w, (callFunc f args).run P w = .ok (.enter f args) w) (v1 v2 v3 v4 v5 : Value) (h1 : a.eval x1 = v1) (h2 : a.eval x2 = v2) (h3 : a.eval x3 = v3) (h4 : a.eval x4 = v4) (h5 : a.eval x5 = v5) {R : Ending → World → Prop} (hC : Calls P f #[v1, v2, v3, v4, v5] w R)
    (hK : ∀ e w', R e w' → ∃ v, e = .returned v ∧ K (a.put o.dst v) w') :
    if Region.wanted o (yielded ops a.tmps) = true then Oper.wp P o a w K Q else E := by
  have hw : Region.wanted o (yielded ops a.tmps) = true := by simp [Region.wanted, hg]
  rw [if_pos hw]
  unfold Oper.wp
  have hf : a.eval (Operand.func f) = .func (.func f) #[] #[] := rfl
  simp [execOp, hop, resolve, invoke, Deferred.ofValue, h1, h2, h3, h4, h5, hf, he]
  rw [Oper.upon_enter]
  exact hC.mono (fun e w' h => by obtain ⟨v, rfl, hk⟩ := hK e w' h; exact hk)
set_option maxHeartbeats 4000000 in
set_option maxRecDepth 100000 in
theorem radd_in (i : Nat) (s : ByteArray) (z f : Int) (w : World) (h : R1 B rb vL vW sv S W w) (hi : i < sv.length) (hSl : S.length = sv.length) (hok : slOk S) (hwk : wyOk W) (hs : (s.size : Int) ≤ 140737488351232) (hn : sv.length ≤ 100000) (f0 : 0 ≤ f) (f1 : f ≤ 15) :
    Calls Try.prog 12 #[.pointer (some ⟨rb, 0, none⟩), .int .i64 (i : Nat), .agg #[.string s, .int .i64 z], .int .i64 f] w fun e w' => RAdd B rb vL vW sv S W i (kbOf (s, z)) s z f w e w' := by
  have hBw : B ≤ w.heap.size := by have := h.ge; have := (Array.getElem?_eq_some_iff.1 h.row).1; omega
  obtain ⟨hlen, hsz⟩ := hok.at i
  obtain ⟨W1, hW1⟩ : ∃ W1, w.alloc (.cells #[.string s, .int .i64 z] 31) = W1 := ⟨_, rfl⟩
  have b1 : Below w.heap.size w W1 := by rw [← hW1]; exact sr_lay
  have q1 : W1.heap[w.heap.size]? = some (.cells #[.string s, .int .i64 z] 31 (0, 0)) := by rw [← hW1]; exact World.alloc_heap_new _ _
  obtain ⟨b0, hb0⟩ : ∃ b0, w.heap.size = b0 := ⟨_, rfl⟩
  rw [hb0] at q1
  have h1 := h.below b1
  obtain ⟨c0, c1, _, _⟩ := h1.cells
  obtain ⟨gs, sc, a, ca, hvL, d0, _, hrd⟩ := h1.at i hi
  obtain ⟨ya, yc, hvW, hrw⟩ := own_rd wy_len h1.m
  have HVL := Hid.mk' hvL
  rw [hvL] at c0
  rw [hvW] at c1
  obtain ⟨l, hl⟩ : ∃ l, S.getD i [] = l := ⟨_, rfl⟩
  rw [hl] at d0 hrd hlen hsz
  obtain ⟨m, hm⟩ : ∃ m, l.length = m := ⟨_, rfl⟩
  have HFD := Hid.mk' (fun (Wx : World) (hb : Below W1.heap.size W1 Wx) => rfind_any a ca l s z Wx (hrd.below hb) (by omega) hsz hs)
  rw [hm] at HFD d0
  obtain ⟨px, hpx⟩ : ∃ px, ixB (l.map SlR.kb) (kbOf (s, z)) = px := ⟨_, rfl⟩
  rw [hpx] at HFD
  have HPX := Hid.mk' hpx
  have HWY := Hid.mk' (fun (Wx : World) (hb : Below W1.heap.size W1 Wx) => rway_any rb ya yc W (i : Int) false s z f Wx ((hb.cell (p := ⟨rb, 1, none⟩) (World.block_lt_of_cell? _ _ c1)).trans c1) (hrw.below hb) (by have := hwk.1; omega) (fun x hx => (hwk.2 x hx).2) hs)
  have HWC := Hid.mk' (wyF_cases W (i : Int) false (kbOf (s, z)) f hwk)
  obtain ⟨wx, hwx⟩ : ∃ wx, wyF W (i : Int) false (kbOf (s, z)) f = wx := ⟨_, rfl⟩
  rw [hwx] at HWY HWC
  have HWX := Hid.mk' hwx
  obtain ⟨n, hnn⟩ : ∃ n, sv.length = n := ⟨_, rfl⟩
  have HNN := Hid.mk' hnn
  have HHI := Hid.mk' hi
  rw [hnn] at c0 hi hn
  have e0 : decide ((i : Int) < 0) = false := decide_eq_false (by omega)
  have e1 : decide ((i : Int) ≥ (n : Int)) = false := decide_eq_false (by omega)
  have e2 : decide (f < 0) = false := decide_eq_false (by omega)
  have e3 : decide (f > 15) = false := decide_eq_false (by omega)
  have i1 : (i : Int) < (n : Int) := by omega
  obtain ⟨_, _, g0, g1⟩ := pair_facts q1
  have gl1 : rb < W1.heap.size := (Array.getElem?_eq_some_iff.1 h1.row).1
  have gl2 : gs < W1.heap.size := World.block_lt_of_cell? _ _ d0
  have gl3 : b0 < W1.heap.size := (Array.getElem?_eq_some_iff.1 q1).1
  have HKP : Hid (∀ Wx, Below W1.heap.size W1 Wx → Wx.cell? ⟨rb, 0, none⟩ = some (.slice (some ⟨gs, 0, none⟩) n sc) ∧ Wx.cell? ⟨gs, i, none⟩ = some (.slice a m ca) ∧ Wx.cell? ⟨b0, 0, none⟩ = some (.string s) ∧ Wx.cell? ⟨b0, 1, none⟩ = some (.int .i64 z)) := Hid.mk' (fun Wx hW => ⟨(hW.cell (p := ⟨rb, 0, none⟩) gl1).trans c0, (hW.cell (p := ⟨gs, i, none⟩) gl2).trans d0, (hW.cell (p := ⟨b0, 0, none⟩) gl3).trans g0, (hW.cell (p := ⟨b0, 1, none⟩) gl3).trans g1⟩)
  have HRD := Hid.mk' hrd
  have HB1 := Hid.mk' b1
  have HR := Hid.mk' h
  have HSL := Hid.mk' hSl
  have HBW := Hid.mk' hBw
  have HH1 := Hid.mk' hW1
  have HM := Hid.mk' hm
  have HS0 := Hid.mk' hb0
  have HLL := Hid.mk' hl
  have HLN : Hid (m < 1000) := Hid.mk' (by omega)
  have HWL : Hid (W.length < 1000000) := Hid.mk' hwk.1
  clear h h1 hok hs hvL hvW hrd hrw hl hpx hwx hW1 b1 q1 hnn hlen hsz hm hi hn hb0 hBw c1 hwk hSl f0 f1
  go_enter Try.func12, Try.ntmps12
  go_upto_region 1 with fail
  rw [HH1.out]
  rw [HS0.out]
  go_upto_region 5 with fail
  go_cut [38] from 12 (fun v10 wc => v10 = .bool (decide (0 ≤ px)) ∧ Hid (Below W1.heap.size W1 wc))
  case first =>
    go_region_held3 (fun w' => w'.cell? ⟨rb, 0, none⟩ = some (.slice (some ⟨gs, 0, none⟩) n sc) ∧ w'.cell? ⟨gs, i, none⟩ = some (.slice a m ca) ∧ w'.cell? ⟨b0, 0, none⟩ = some (.string s) ∧ w'.cell? ⟨b0, 1, none⟩ = some (.int .i64 z)) (first | exact HKP.out _ HB3.out | go_keep) (first
      | (go_at_call 30; refine (HFD.out _ (by exact (Below.refl _ _).drew)).mono ?_; rintro e w3 ⟨rfl, b3⟩; have HB3 : Hid (Below W1.heap.size W1 w3) := Hid.mk' (below_from_drew b3); clear b3))
    all_goals
      go_wp2_with fail
      go_meet
      exact ⟨rfl, HB3⟩
  case rest =>
    obtain ⟨rfl, HB5⟩ := hcut
    have HBw5 : Hid (Below w.heap.size w wc) := Hid.mk' (HB1.out.trans (HB5.out.mono HB1.out.size))
    obtain ⟨r0, r1, r2, r3⟩ := HKP.out wc HB5.out
    clear c0 d0 g0 g1 gl1 gl2 gl3 e0 e1 e2 e3
    rcases ixB_cases (l.map SlR.kb) (kbOf (s, z)) with ⟨hp, hno⟩ | ⟨j, hj, hp, hjk⟩
    case inr =>
      rw [HPX.out] at hp
      subst hp
      have j2 : decide ((0 : Int) ≤ (j : Int)) = true := decide_eq_true (by omega)
      clear hj hjk r0 r1 r2 r3
      go_wp2
      go_ret2
      unfold RAdd
      rw [HLL.out]
      exact .inl ⟨⟨j, HPX.out⟩, rfl, HBw5.out⟩
    rw [HPX.out] at hp
    subst hp
    have HNO := Hid.mk' hno
    clear hno
    by_cases hm8 : m < 128
    case neg =>
      have e7 : decide ((m : Int) ≥ 128) = true := decide_eq_true (by omega)
      have HM8 : Hid (128 ≤ m) := Hid.mk' (by omega)
      clear hm8 r2 r3
      go_wp2
      go_ret2
      unfold RAdd
      rw [HLL.out, HM.out]
      exact .inr ⟨HNO.out, .inl ⟨HM8.out, rfl, HBw5.out⟩⟩
    have e7 : decide ((m : Int) ≥ 128) = false := decide_eq_false (by omega)
    have HM8 := Hid.mk' hm8
    clear hm8
    obtain ⟨W6, hW6⟩ : ∃ W6, wc.alloc (.cells #[.string s, .int .i64 z, .int .i64 f] 81) = W6 := ⟨_, rfl⟩
    have b6 : Below wc.heap.size wc W6 := by rw [← hW6]; exact sr_lay
    have q6 : W6.heap[wc.heap.size]? = some (.cells #[.string s, .int .i64 z, .int .i64 f] 81 (0, 0)) := by rw [← hW6]; exact World.alloc_heap_new _ _
    have HB6 : Hid (Below W1.heap.size W1 W6) := Hid.mk' (HB5.out.trans (b6.mono HB5.out.size))
    have HWA := Hid.mk' (HWY.out W6 HB6.out)
    obtain ⟨xb, hxb⟩ : ∃ xb, wc.heap.size = xb := ⟨_, rfl⟩
    have HXB := Hid.mk' hxb
    have HWCL : Hid (W1.heap.size ≤ xb) := Hid.mk' (by rw [← hxb]; exact HB5.out.size)
    have HQ6 : Hid (W6.heap[xb]? = some (.cells #[.string s, .int .i64 z, .int .i64 f] 81 (0, 0))) := Hid.mk' (by rw [← hxb]; exact q6)
    have n0 : W6.cell? ⟨wc.heap.size, 0, none⟩ = some (.string s) := by simp [World.cell?, q6]
    have n1 : W6.cell? ⟨wc.heap.size, 1, none⟩ = some (.int .i64 z) := by simp [World.cell?, q6]
    have n2 : W6.cell? ⟨wc.heap.size, 2, none⟩ = some (.int .i64 f) := by simp [World.cell?, q6]
    have HH6 := Hid.mk' hW6
    clear b6 q6 hxb
    go_upto_region 10 with fail
    clear r0 r1 r2 r3 e7
    go_wp2_with fail
    refine HWA.out.mono ?_
    rintro e w7 ⟨rfl, b7⟩
    have HB7 : Hid (Below W1.heap.size W1 w7) := Hid.mk' (HB6.out.trans (b7.mono HB6.out.size))
    have HBw7 : Hid (Below w.heap.size w w7) := Hid.mk' (HB1.out.trans (HB7.out.mono HB1.out.size))
    have HQ7 := Hid.mk' ((b7.block xb (Array.getElem?_eq_some_iff.1 HQ6.out).1).trans HQ6.out)
    rw [HXB.out]
    clear b7 n0 n1 n2
    rcases HWC.out with ⟨rfl, hnw⟩ | ⟨hw0, _⟩
    case inr =>
      have e5 : decide (wx ≥ 0) = true := decide_eq_true hw0
      have HW0 := Hid.mk' hw0
      clear hw0
      go_wp2
      go_ret2
      unfold RAdd
      rw [HLL.out, HM.out, HWX.out]
      exact .inr ⟨HNO.out, .inr ⟨HM8.out, .inl ⟨HW0.out, rfl, HBw7.out⟩⟩⟩
    clear hnw
    have HLAY : Hid (∀ (lv : Value) (Wx : World), Below w7.heap.size w7 Wx → Wx.ownsRow w7.heap.size 81 3 lv (m + 1) (slC l ++ [.string s, .int .i64 z, .int .i64 f]) → Calls Try.prog 32 #[.pointer (some ⟨rb, 0, none⟩), .int .i64 (i : Nat), .bool false, .agg #[.string s, .int .i64 z, .int .i64 f], lv] Wx fun e w' => ∃ x er : Int, e = .returned (.tuple #[.int .i64 x, .int .i64 er]) ∧ RAdd B rb vL vW sv S W i (kbOf (s, z)) s z f w (.returned (.tuple #[.int .i64 x, .int .i64 er])) w') := Hid.mk' (fun lv Wx hb ho => by
      have hBw' : B ≤ w7.heap.size := Nat.le_trans HBW.out HBw7.out.size
      have hbw : Below w.heap.size w Wx := HBw7.out.trans (hb.mono HBw7.out.size)
      have hRx := HR.out.below hbw
      have hsl : (l ++ [⟨s, z, f⟩] : List SlR).length = m + 1 := by rw [List.length_append, HM.out]; rfl
      have hsc : slC (l ++ [⟨s, z, f⟩]) = slC l ++ [.string s, .int .i64 z, .int .i64 f] := by simp [slC, List.flatMap_append, SlR.cs]
      by_cases hfull : sv.length < 100000
      · refine (rlay_any (i : Int) false s z f lv (l ++ [⟨s, z, f⟩]) Wx hRx HSL.out (by rw [hsl, hsc]; exact own_base ho hBw') hfull HWL.out).mono ?_
        rintro e w' ⟨rfl, hL⟩
        refine ⟨_, _, rfl, ?_⟩
        unfold RAdd
        rw [HLL.out, HM.out, HWX.out]
        exact .inr ⟨HNO.out, .inr ⟨HM8.out, .inr (.inr ⟨rfl, hfull, rfl, lv, Wx, hbw, fun b hb' => Nat.le_trans HBw7.out.size (ho.lt b hb').1, hL⟩)⟩⟩
      · refine (rlay_full (i : Int) false s z f lv Wx hRx hfull).mono ?_
        rintro e w' ⟨rfl, hb2⟩
        refine ⟨_, _, rfl, ?_⟩
        unfold RAdd
        rw [HLL.out, HM.out, HWX.out]
        exact .inr ⟨HNO.out, .inr ⟨HM8.out, .inr (.inl ⟨rfl, by omega, rfl, hbw.trans (hb2.mono hbw.size)⟩)⟩⟩)
    obtain ⟨iS, hiS, hS0, hS1, hS2⟩ := sh_parts sr_infoS
    obtain ⟨r0, r1, _, _⟩ := HKP.out w7 HB7.out
    have HO7 := HRD.out.below HB7.out
    have HD7 : Hid (Below w7.heap.size w7 w7.drew) := Hid.mk' ((Below.refl _ _).drew)
    have HD8 : Hid (Below w7.heap.size w7 (w7.drew.alloc (.cells #[.string s, .int .i64 z, .int .i64 f] 81))) := Hid.mk' (((Below.refl _ _).drew).alloc (Nat.le_refl _) _)
    obtain ⟨a8, c8, w8, hrun8, o8, b8⟩ := app_sl' (c := ca) (by rw [HM.out]; exact HLN.out) (HO7.below HD7.out)
    obtain ⟨a9, c9, w9, hrun9, o9, b9⟩ := app_sl' (c := ca) (by rw [HM.out]; exact HLN.out) (HO7.below HD8.out)
    rw [HM.out] at hrun8 o8 hrun9 o9
    have HB8 : Hid (Below w7.heap.size w7 w8) := Hid.mk' (HD7.out.trans (b8.mono HD7.out.size))
    have HB9 : Hid (Below w7.heap.size w7 w9) := Hid.mk' (HD8.out.trans (b9.mono HD8.out.size))
    have hQ9 : w9.heap[w7.heap.size]? = some (.cells #[.string s, .int .i64 z, .int .i64 f] 81 (0, 0)) := (b9.block w7.heap.size (by simp)).trans (World.alloc_heap_new _ _)
    have HQ9 := Hid.mk' hQ9
    have HO8 := Hid.mk' o8
    have HO9 := Hid.mk' o9
    have HKX : Hid (∀ Wx, Below w7.heap.size w7 Wx → Wx.cell? ⟨rb, 0, none⟩ = some (.slice (some ⟨gs, 0, none⟩) n sc) ∧ Wx.cell? ⟨gs, i, none⟩ = some (.slice a m ca) ∧ Wx.cell? ⟨xb, 0, none⟩ = some (.string s) ∧ Wx.cell? ⟨xb, 1, none⟩ = some (.int .i64 z) ∧ Wx.cell? ⟨xb, 2, none⟩ = some (.int .i64 f)) := Hid.mk' (fun Wx hW => by
      have q := (hW.block xb (Array.getElem?_eq_some_iff.1 HQ7.out).1).trans HQ7.out
      obtain ⟨k0, k1, _, _⟩ := HKP.out Wx (HB7.out.trans (hW.mono HB7.out.size))
      exact ⟨k0, k1, by simp [World.cell?, q], by simp [World.cell?, q], by simp [World.cell?, q]⟩)
    clear o8 b8 o9 b9 hQ9 HO7
    go_upto_region 13 with fail
    clear r0 r1
    refine wp_region_until (fun w' => w'.cell? ⟨rb, 0, none⟩ = some (.slice (some ⟨gs, 0, none⟩) n sc) ∧ w'.cell? ⟨gs, i, none⟩ = some (.slice a m ca) ∧ w'.cell? ⟨xb, 0, none⟩ = some (.string s) ∧ w'.cell? ⟨xb, 1, none⟩ = some (.int .i64 z) ∧ w'.cell? ⟨xb, 2, none⟩ = some (.int .i64 f)) 14 (by kernel_rfl) ?_
    have hS := HKX.out _ HD7.out
    refine wpAnyU_take (i := 0) (v := ?_) [] 14 (by kernel_rfl) (by rfl) (by decide) rfl (by kernel_rfl) (by kernel_rfl) (by kernel_rfl) (by kernel_rfl) (fun _ _ _ h => h) (Or.inl ⟨by rfl, ?_⟩) hS ?_
    rotate_left
    · (intro w hSw; obtain ⟨s0, s1, s2, s3, s4⟩ := hSw; go_simp; try with_reducible rfl)
    simp only [List.getElem_toArray, List.getElem_cons_succ, List.getElem_cons_zero, Act.put, List.setIfInBounds_toArray, List.set_cons_zero, List.set_cons_succ]
    refine wpAnyU_take (i := 1) (v := ?_) [] 14 (by kernel_rfl) (by rfl) (by decide) rfl (by kernel_rfl) (by kernel_rfl) (by kernel_rfl) (by kernel_rfl) (fun _ _ _ h => h) (Or.inl ⟨by rfl, ?_⟩) hS ?_
    rotate_left
    · (intro w hSw; obtain ⟨s0, s1, s2, s3, s4⟩ := hSw; go_simp; try with_reducible rfl)
    simp only [List.getElem_toArray, List.getElem_cons_succ, List.getElem_cons_zero, Act.put, List.setIfInBounds_toArray, List.set_cons_zero, List.set_cons_succ]
    refine wpAnyU_take (i := 2) (v := ?_) [] 14 (by kernel_rfl) (by rfl) (by decide) rfl (by kernel_rfl) (by kernel_rfl) (by kernel_rfl) (by kernel_rfl) (fun _ _ _ h => h) (Or.inl ⟨by rfl, ?_⟩) hS ?_
    rotate_left
    · (intro w hSw; obtain ⟨s0, s1, s2, s3, s4⟩ := hSw; go_simp; try with_reducible rfl)
    simp only [List.getElem_toArray, List.getElem_cons_succ, List.getElem_cons_zero, Act.put, List.setIfInBounds_toArray, List.set_cons_zero, List.set_cons_succ]
    refine wpAnyU_take (i := 3) (v := ?_) [5, 6, 8, 9, 10, 13, 14] 4 (by kernel_rfl) (by rfl) (by decide) rfl (by kernel_rfl) (by kernel_rfl) (by kernel_rfl) (by kernel_rfl) (fun _ _ _ h => h) (Or.inl ⟨by rfl, ?_⟩) hS ?_
    rotate_left
    · (intro w hSw; obtain ⟨s0, s1, s2, s3, s4⟩ := hSw; go_simp; try with_reducible rfl)
    simp only [List.getElem_toArray, List.getElem_cons_succ, List.getElem_cons_zero, Act.put, List.setIfInBounds_toArray, List.set_cons_zero, List.set_cons_succ]
    refine wpAnyU_take (i := 4) (v := ?_) [6, 8, 9, 10, 13, 14] 5 (by kernel_rfl) (by rfl) (by decide) rfl (by kernel_rfl) (by kernel_rfl) (by kernel_rfl) (by kernel_rfl) (fun _ _ _ h => h) (Or.inl ⟨by rfl, ?_⟩) hS ?_
    rotate_left
    · (intro w hSw; obtain ⟨s0, s1, s2, s3, s4⟩ := hSw; go_simp; try with_reducible rfl)
    simp only [List.getElem_toArray, List.getElem_cons_succ, List.getElem_cons_zero, Act.put, List.setIfInBounds_toArray, List.set_cons_zero, List.set_cons_succ]
    refine wpAnyU_take (i := 5) (v := ?_) [8, 9, 10, 13, 14] 6 (by kernel_rfl) (by rfl) (by decide) rfl (by kernel_rfl) (by kernel_rfl) (by kernel_rfl) (by kernel_rfl) (fun _ _ _ h => h) (Or.inl ⟨by rfl, ?_⟩) hS ?_
    rotate_left
    · (intro w hSw; obtain ⟨s0, s1, s2, s3, s4⟩ := hSw; go_simp; try with_reducible rfl)
    simp only [List.getElem_toArray, List.getElem_cons_succ, List.getElem_cons_zero, Act.put, List.setIfInBounds_toArray, List.set_cons_zero, List.set_cons_succ]
    refine wpAnyU_take (i := 6) (v := ?_) [9, 10, 13, 14] 8 (by kernel_rfl) (by rfl) (by decide) rfl (by kernel_rfl) (by kernel_rfl) (by kernel_rfl) (by kernel_rfl) (fun _ _ _ h => h) (Or.inl ⟨by rfl, ?_⟩) hS ?_
    rotate_left
    · (intro w hSw; obtain ⟨s0, s1, s2, s3, s4⟩ := hSw; go_simp; try with_reducible rfl)
    simp only [List.getElem_toArray, List.getElem_cons_succ, List.getElem_cons_zero, Act.put, List.setIfInBounds_toArray, List.set_cons_zero, List.set_cons_succ]
    refine wpAnyU_take (i := 7) (v := ?_) [9, 10, 13, 14] 8 (by kernel_rfl) (by rfl) (by decide) rfl (by kernel_rfl) (by kernel_rfl) (by kernel_rfl) (by kernel_rfl) (fun _ _ _ h => h) (Or.inl ⟨by rfl, ?_⟩) hS ?_
    rotate_left
    · (intro w hSw; obtain ⟨s0, s1, s2, s3, s4⟩ := hSw; go_simp; try with_reducible rfl)
    simp only [List.getElem_toArray, List.getElem_cons_succ, List.getElem_cons_zero, Act.put, List.setIfInBounds_toArray, List.set_cons_zero, List.set_cons_succ]
    refine wpAnyU_take (i := 8) (v := ?_) [10, 13, 14] 9 (by kernel_rfl) (by rfl) (by decide) rfl (by kernel_rfl) (by kernel_rfl) (by kernel_rfl) (by kernel_rfl) (fun _ _ _ h => h) (Or.inl ⟨by rfl, ?_⟩) hS ?_
    rotate_left
    · (intro w hSw; obtain ⟨s0, s1, s2, s3, s4⟩ := hSw; go_simp; try with_reducible rfl)
    simp only [List.getElem_toArray, List.getElem_cons_succ, List.getElem_cons_zero, Act.put, List.setIfInBounds_toArray, List.set_cons_zero, List.set_cons_succ]
    refine wpAnyU_take (i := 9) (v := ?_) [13, 14] 10 (by kernel_rfl) (by rfl) (by decide) rfl (by kernel_rfl) (by kernel_rfl) (by kernel_rfl) (by kernel_rfl) (fun _ _ _ h => h) (Or.inl ⟨by rfl, ?_⟩) hS ?_
    rotate_left
    · (intro w hSw; obtain ⟨s0, s1, s2, s3, s4⟩ := hSw; go_simp; try with_reducible rfl)
    simp only [List.getElem_toArray, List.getElem_cons_succ, List.getElem_cons_zero, Act.put, List.setIfInBounds_toArray, List.set_cons_zero, List.set_cons_succ]
    refine wpAnyU_take (i := 11) (v := ?_) [13, 14] 12 (by kernel_rfl) (by rfl) (by decide) rfl (by kernel_rfl) (by kernel_rfl) (by kernel_rfl) (by kernel_rfl) (fun _ _ _ h => h) (Or.inl ⟨by rfl, ?_⟩) hS ?_
    rotate_left
    · (intro w hSw; obtain ⟨s0, s1, s2, s3, s4⟩ := hSw; go_simp; try with_reducible rfl)
    simp only [List.getElem_toArray, List.getElem_cons_succ, List.getElem_cons_zero, Act.put, List.setIfInBounds_toArray, List.set_cons_zero, List.set_cons_succ]
    refine wpAnyU_ready (rs := [10, 12]) (by kernel_rfl) (by simp) ?_
    refine AllReadyU.cons rfl (by decide) (fun K hK => ?_) ?_
    · refine step_append_run ?_ (.const (.slice none 0 0)) (.tmp 67) 79 ?_ (.slice none 0 0) (.slice a m ca) (.slice a8 m c8) ?_ ?_ 79 ?_ hrun8 ?_
      · rfl
      · rfl
      · rfl
      · rfl
      · rfl
      go_simp
      refine hK.out _ _ (HKX.out _ HB8.out) ?_
      clear hK K
      refine wpAnyU_ready (rs := [12]) (by kernel_rfl) (by simp) ?_
      refine AllReadyU.cons rfl (by decide) (fun K hK => ?_) AllReadyU.nil
      go_simp
      refine hK.out _ _ (HKX.out _ (HB8.out.alloc HB8.out.size _)) ?_
      clear hK K
      refine wpAnyU_ready (rs := [13]) (by kernel_rfl) (by simp) ?_
      refine AllReadyU.cons rfl (by decide) (fun K hK => ?_) AllReadyU.nil
      refine sh_append rfl (.tmp 68) (.tmp 70) 79 rfl w7.heap.size 81 iS (.agg #[.string ⟨#[]⟩, .int .i64 0, .int .i64 0]) 3 32 Try.underlying79 hiS hS0 hS1 hS2 rfl (by decide) (.slice a8 m c8) m (slC l) rfl (World.ownsRow.alloc (show w8.ownsRow w7.heap.size _ _ _ _ _ from HO8.out) _) _ 1 1 [.string s, .int .i64 z, .int .i64 f] rfl (by rfl) (cells_new w8 [.string s, .int .i64 z, .int .i64 f] 81) (by simp [Value.oneCell']) (by have := HLN.out; unfold maxLen; omega) (by have := HLN.out; omega) (by have := HB8.out.size; simp; omega) ?_
      intro v10 w10 o10 g10 _
      have HB10 : Hid (Below w7.heap.size w7 w10) := Hid.mk' ((HB8.out.alloc HB8.out.size (.cells #[.string s, .int .i64 z, .int .i64 f] 81)).grown g10 (by have := HB8.out.size; simp; omega) (fun j hj => (show w7.heap.size ≤ j from (HO8.out.lt j hj).1)))
      have HL10 := Hid.mk' (HLAY.out v10 w10 HB10.out o10)
      clear o10 g10
      go_simp
      refine hK.out _ _ (HKX.out _ HB10.out) ?_
      clear hK K
      refine wpAnyU_ready (rs := [14]) (by kernel_rfl) (by simp) ?_
      refine AllReadyU.last rfl (fun K hK => ?_) AllReadyU.nil
      refine step_call5 rfl 32 (.tmp 58) (.tmp 59) (.const (.bool false)) (.tmp 60) (.tmp 71) _ rfl (enters_of Try.func32 (by kernel_rfl) rfl) _ _ _ _ _ rfl rfl rfl rfl rfl HL10.out ?_
      rintro e w11 ⟨x, er, rfl, hres⟩
      have HRES := Hid.mk' hres
      clear hres
      refine ⟨_, rfl, ?_⟩
      go_simp
      refine hK.out _ _ ?_
      clear hK K
      refine wpAny_take (i := 15) (v := .int .i64 x) rfl (by kernel_rfl) (by kernel_rfl) (by kernel_rfl) (fun _ _ _ h => h) (Or.inl ⟨by rfl, by intro w; go_simp⟩) ?_
      refine wpAny_take (i := 16) (v := .int .i64 er) rfl (by kernel_rfl) (by kernel_rfl) (by kernel_rfl) (fun _ _ _ h => h) (Or.inl ⟨by rfl, by intro w; go_simp⟩) ?_
      refine wpAny_take (i := 17) (v := .int .i64 x) rfl (by kernel_rfl) (by kernel_rfl) (by kernel_rfl) (fun _ _ _ h => h) (Or.inl ⟨by rfl, by intro w; go_simp⟩) ?_
      refine wpAny_take (i := 18) (v := .int .i64 er) rfl (by kernel_rfl) (by kernel_rfl) (by kernel_rfl) (fun _ _ _ h => h) (Or.inl ⟨by rfl, by intro w; go_simp⟩) ?_
      refine wpAny_done (by kernel_rfl) ?_ _
      go_wp2
      go_ret2
      exact HRES.out
    refine AllReadyU.cons rfl (by decide) (fun K hK => ?_) AllReadyU.nil
    go_simp
    refine hK.out _ _ (HKX.out _ HD8.out) ?_
    clear hK K
    refine wpAnyU_ready (rs := [10]) (by kernel_rfl) (by simp) ?_
    refine AllReadyU.cons rfl (by decide) (fun K hK => ?_) AllReadyU.nil
    refine step_append_run ?_ (.const (.slice none 0 0)) (.tmp 67) 79 ?_ (.slice none 0 0) (.slice a m ca) (.slice a9 m c9) ?_ ?_ 79 ?_ hrun9 ?_
    · rfl
    · rfl
    · rfl
    · rfl
    · rfl
    go_simp
    refine hK.out _ _ (HKX.out _ HB9.out) ?_
    clear hK K
    refine wpAnyU_ready (rs := [13]) (by kernel_rfl) (by simp) ?_
    refine AllReadyU.cons rfl (by decide) (fun K hK => ?_) AllReadyU.nil
    refine sh_append rfl (.tmp 68) (.tmp 70) 79 rfl w7.heap.size 81 iS (.agg #[.string ⟨#[]⟩, .int .i64 0, .int .i64 0]) 3 32 Try.underlying79 hiS hS0 hS1 hS2 rfl (by decide) (.slice a9 m c9) m (slC l) rfl (own_base HO9.out (by simp)) _ 1 1 [.string s, .int .i64 z, .int .i64 f] rfl (by rfl) (fun j u hj => row_at HQ9.out j u hj) (by simp [Value.oneCell']) (by have := HLN.out; unfold maxLen; omega) (by have := HLN.out; omega) (HB9.out.size) ?_
    intro v10 w10 o10 g10 _
    have HB10 : Hid (Below w7.heap.size w7 w10) := Hid.mk' ((HB9.out).grown g10 (HB9.out.size) (fun j hj => ((own_base HO9.out (by simp)).lt j hj).1))
    have HL10 := Hid.mk' (HLAY.out v10 w10 HB10.out o10)
    clear o10 g10
    go_simp
    refine hK.out _ _ (HKX.out _ HB10.out) ?_
    clear hK K
    refine wpAnyU_ready (rs := [14]) (by kernel_rfl) (by simp) ?_
    refine AllReadyU.last rfl (fun K hK => ?_) AllReadyU.nil
    refine step_call5 rfl 32 (.tmp 58) (.tmp 59) (.const (.bool false)) (.tmp 60) (.tmp 71) _ rfl (enters_of Try.func32 (by kernel_rfl) rfl) _ _ _ _ _ rfl rfl rfl rfl rfl HL10.out ?_
    rintro e w11 ⟨x, er, rfl, hres⟩
    have HRES := Hid.mk' hres
    clear hres
    refine ⟨_, rfl, ?_⟩
    go_simp
    refine hK.out _ _ ?_
    clear hK K
    refine wpAny_take (i := 15) (v := .int .i64 x) rfl (by kernel_rfl) (by kernel_rfl) (by kernel_rfl) (fun _ _ _ h => h) (Or.inl ⟨by rfl, by intro w; go_simp⟩) ?_
    refine wpAny_take (i := 16) (v := .int .i64 er) rfl (by kernel_rfl) (by kernel_rfl) (by kernel_rfl) (fun _ _ _ h => h) (Or.inl ⟨by rfl, by intro w; go_simp⟩) ?_
    refine wpAny_take (i := 17) (v := .int .i64 x) rfl (by kernel_rfl) (by kernel_rfl) (by kernel_rfl) (fun _ _ _ h => h) (Or.inl ⟨by rfl, by intro w; go_simp⟩) ?_
    refine wpAny_take (i := 18) (v := .int .i64 er) rfl (by kernel_rfl) (by kernel_rfl) (by kernel_rfl) (fun _ _ _ h => h) (Or.inl ⟨by rfl, by intro w; go_simp⟩) ?_
    refine wpAny_done (by kernel_rfl) ?_ _
    go_wp2
    go_ret2
    exact HRES.out
end
end Go.Proofs.Ytoonaljmdiideaa
