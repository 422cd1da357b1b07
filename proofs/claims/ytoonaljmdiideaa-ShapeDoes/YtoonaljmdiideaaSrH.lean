/- The document's shapes: Change in a shape that there is, with flags that may be. -/
import Derived.Test.YtoonaljmdiideaaSrG
import Derived.Lib.AppendZerosOnto
namespace Go.Proofs.Ytoonaljmdiideaa
set_option linter.unusedVariables false
set_option linter.unusedSimpArgs false
open Go.RowKit Go.Maps Go.ChangeShapes
section
variable {B rb : Nat} {vL vW : Value} {sv : List Value} {S : List (List SlR)} {W : List WyR} {w w' : World}
/-- What the document's Change comes to. -/
def RChg (B rb : Nat) (vL vW : Value) (sv : List Value) (S : List (List SlR)) (W : List WyR) (i : Nat) (k : Kb) (s : ByteArray) (z f : Int) (w : World) (e : Ending) (w' : World) : Prop :=
  ((∀ x ∈ (S.getD i []).map SlR.kb, x ≠ k) ∧ e = .returned (.tuple #[.int .i64 0, .int .i64 3]) ∧ Below w.heap.size w w') ∨
  (∃ j x, ixB ((S.getD i []).map SlR.kb) k = ((j : Nat) : Int) ∧ (S.getD i [])[j]? = some x ∧
    ((x.f = f ∧ e = .returned (.tuple #[.int .i64 (i : Nat), .int .i64 0]) ∧ Below w.heap.size w w') ∨
     (x.f ≠ f ∧
      ((0 ≤ wyF W i true k f ∧ e = .returned (.tuple #[.int .i64 (wyF W i true k f), .int .i64 0]) ∧ Below w.heap.size w w') ∨
       (wyF W i true k f = -1 ∧ 100000 ≤ sv.length ∧ e = .returned (.tuple #[.int .i64 0, .int .i64 2]) ∧ Below w.heap.size w w') ∨
       (wyF W i true k f = -1 ∧ sv.length < 100000 ∧ e = .returned (.tuple #[.int .i64 (sv.length : Nat), .int .i64 0]) ∧ ∃ lv w1, Below w.heap.size w w1 ∧ (∀ b, lv.ownBlock = some b → w.heap.size ≤ b) ∧ LayW B rb vL vW sv S W ⟨i, true, s, z, f, (sv.length : Nat)⟩ lv ((S.getD i []).set j ⟨x.s, x.z, f⟩) w1 w')))))
set_option maxHeartbeats 8000000 in
set_option maxRecDepth 100000 in
theorem rchg_in (i : Nat) (s : ByteArray) (z f : Int) (w : World) (h : R1 B rb vL vW sv S W w) (hi : i < sv.length) (hSl : S.length = sv.length) (hok : slOk S) (hwk : wyOk W) (hs : (s.size : Int) ≤ 140737488351232) (hn : sv.length ≤ 100000) (f0 : 0 ≤ f) (f1 : f ≤ 15) :
    Calls Try.prog 10 #[.pointer (some ⟨rb, 0, none⟩), .int .i64 (i : Nat), .agg #[.string s, .int .i64 z], .int .i64 f] w fun e w' => RChg B rb vL vW sv S W i (kbOf (s, z)) s z f w e w' := by
  have hBw : B ≤ w.heap.size := by have := h.ge; have := (Array.getElem?_eq_some_iff.1 h.row).1; omega
  obtain ⟨hlen, hsz⟩ := hok.at i
  obtain ⟨W1, hW1⟩ : ∃ W1, w.alloc (.cells #[.string s, .int .i64 z] 31) = W1 := ⟨_, rfl⟩
  have b1 : Below w.heap.size w W1 := by rw [← hW1]; exact sr_lay
  have q1 : W1.heap[w.heap.size]? = some (.cells #[.string s, .int .i64 z] 31 (0, 0)) := by rw [← hW1]; exact World.alloc_heap_new _ _
  obtain ⟨b0, hb0⟩ : ∃ b0, w.heap.size = b0 := ⟨_, rfl⟩
  rw [hb0] at q1
  have h1 := h.below b1
  obtain ⟨c0, c1, _, _⟩ := h1.cells
  obtain ⟨gs, sc, a, ca, hvL, d0, _, hrd⟩ := h1.at i hi
  obtain ⟨ya, yc, hvW, hrw⟩ := own_rd wy_len h1.m
  have HVL := Hid.mk' hvL
  rw [hvL] at c0
  rw [hvW] at c1
  obtain ⟨l, hl⟩ : ∃ l, S.getD i [] = l := ⟨_, rfl⟩
  rw [hl] at d0 hrd hlen hsz
  obtain ⟨m, hm⟩ : ∃ m, l.length = m := ⟨_, rfl⟩
  have HFD := Hid.mk' (fun (Wx : World) (hb : Below W1.heap.size W1 Wx) => rfind_any a ca l s z Wx (hrd.below hb) (by omega) hsz hs)
  rw [hm] at HFD d0
  obtain ⟨px, hpx⟩ : ∃ px, ixB (l.map SlR.kb) (kbOf (s, z)) = px := ⟨_, rfl⟩
  rw [hpx] at HFD
  have HPX := Hid.mk' hpx
  have HWY := Hid.mk' (fun (Wx : World) (hb : Below W1.heap.size W1 Wx) => rway_any rb ya yc W (i : Int) true s z f Wx ((hb.cell (p := ⟨rb, 1, none⟩) (World.block_lt_of_cell? _ _ c1)).trans c1) (hrw.below hb) (by have := hwk.1; omega) (fun x hx => (hwk.2 x hx).2) hs)
  have HWC := Hid.mk' (wyF_cases W (i : Int) true (kbOf (s, z)) f hwk)
  obtain ⟨wx, hwx⟩ : ∃ wx, wyF W (i : Int) true (kbOf (s, z)) f = wx := ⟨_, rfl⟩
  rw [hwx] at HWY HWC
  have HWX := Hid.mk' hwx
  obtain ⟨n, hnn⟩ : ∃ n, sv.length = n := ⟨_, rfl⟩
  have HNN := Hid.mk' hnn
  have HHI := Hid.mk' hi
  rw [hnn] at c0 hi hn
  have e0 : decide ((i : Int) < 0) = false := decide_eq_false (by omega)
  have e1 : decide ((i : Int) ≥ (n : Int)) = false := decide_eq_false (by omega)
  have e2 : decide (f < 0) = false := decide_eq_false (by omega)
  have e3 : decide (f > 15) = false := decide_eq_false (by omega)
  have i1 : (i : Int) < (n : Int) := by omega
  obtain ⟨_, _, g0, g1⟩ := pair_facts q1
  have gl1 : rb < W1.heap.size := (Array.getElem?_eq_some_iff.1 h1.row).1
  have gl2 : gs < W1.heap.size := World.block_lt_of_cell? _ _ d0
  have gl3 : b0 < W1.heap.size := (Array.getElem?_eq_some_iff.1 q1).1
  have HKP : Hid (∀ Wx, Below W1.heap.size W1 Wx → Wx.cell? ⟨rb, 0, none⟩ = some (.slice (some ⟨gs, 0, none⟩) n sc) ∧ Wx.cell? ⟨gs, i, none⟩ = some (.slice a m ca) ∧ Wx.cell? ⟨b0, 0, none⟩ = some (.string s) ∧ Wx.cell? ⟨b0, 1, none⟩ = some (.int .i64 z)) := Hid.mk' (fun Wx hW => ⟨(hW.cell (p := ⟨rb, 0, none⟩) gl1).trans c0, (hW.cell (p := ⟨gs, i, none⟩) gl2).trans d0, (hW.cell (p := ⟨b0, 0, none⟩) gl3).trans g0, (hW.cell (p := ⟨b0, 1, none⟩) gl3).trans g1⟩)
  have HRD := Hid.mk' hrd
  have HB1 := Hid.mk' b1
  have HR := Hid.mk' h
  have HSL := Hid.mk' hSl
  have HBW := Hid.mk' hBw
  have HH1 := Hid.mk' hW1
  have HM := Hid.mk' hm
  have HS0 := Hid.mk' hb0
  have HLL := Hid.mk' hl
  have HLN : Hid (m < 1000) := Hid.mk' (by omega)
  have HWL : Hid (W.length < 1000000) := Hid.mk' hwk.1
  clear h h1 hok hs hvL hvW hrd hrw hl hpx hwx hW1 b1 q1 hnn hlen hsz hm hi hn hb0 hBw c1 hwk hSl f0 f1
  go_enter Try.func10, Try.ntmps10
  go_upto_region 1 with fail
  rw [HH1.out]
  rw [HS0.out]
  go_upto_region 5 with fail
  go_cut [10] from 14 (fun v10 wc => v10 = .int .i64 px ∧ Hid (Below W1.heap.size W1 wc))
  case first =>
    go_region_held3 (fun w' => w'.cell? ⟨rb, 0, none⟩ = some (.slice (some ⟨gs, 0, none⟩) n sc) ∧ w'.cell? ⟨gs, i, none⟩ = some (.slice a m ca) ∧ w'.cell? ⟨b0, 0, none⟩ = some (.string s) ∧ w'.cell? ⟨b0, 1, none⟩ = some (.int .i64 z)) (first | exact HKP.out _ HB3.out | go_keep) (first
      | (go_at_call 30; refine (HFD.out _ (by exact (Below.refl _ _).drew)).mono ?_; rintro e w3 ⟨rfl, b3⟩; have HB3 : Hid (Below W1.heap.size W1 w3) := Hid.mk' (below_from_drew b3); clear b3))
    all_goals
      go_wp2_with fail
      go_meet
      exact ⟨rfl, HB3⟩
  case rest =>
    obtain ⟨rfl, HB5⟩ := hcut
    have HBw5 : Hid (Below w.heap.size w wc) := Hid.mk' (HB1.out.trans (HB5.out.mono HB1.out.size))
    obtain ⟨r0, r1, r2, r3⟩ := HKP.out wc HB5.out
    clear c0 d0 g0 g1 gl1 gl2 gl3 e0 e1 e2 e3
    rcases ixB_cases (l.map SlR.kb) (kbOf (s, z)) with ⟨hp, hno⟩ | ⟨j, hj, hp, hjk⟩
    · rw [HPX.out] at hp
      subst hp
      have HNO := Hid.mk' hno
      clear hno r0 r1 r2 r3
      go_wp2
      go_ret2
      unfold RChg
      rw [HLL.out]
      exact .inl ⟨HNO.out, rfl, HBw5.out⟩
    · rw [HPX.out] at hp
      subst hp
      have hjl : j < l.length := by rw [List.length_map] at hj; exact hj
      obtain ⟨gr, hga, hc⟩ := (HRD.out.below HB5.out) j hjl
      subst hga
      obtain ⟨x, hx⟩ : ∃ x, l[j] = x := ⟨_, rfl⟩
      rw [hx] at hc
      have HX : Hid (l[j]? = some x) := Hid.mk' (by rw [List.getElem?_eq_getElem hjl, hx])
      obtain ⟨xs, xz, xf⟩ := x
      have d2 := hc 2 (.int .i64 xf) (by omega) rfl
      have j1 : (j : Int) < (m : Int) := by rw [← HM.out]; omega
      have j2 : decide ((j : Int) < 0) = false := decide_eq_false (by omega)
      have j3 : (j : Int) < 1000 := by have := HLN.out; omega
      have HJL := Hid.mk' hjl
      clear hc hjk hj hjl hx
      by_cases hxf : xf = f
      · subst hxf
        clear r2 r3
        go_wp2
        go_ret2
        unfold RChg
        rw [HLL.out]
        exact .inr ⟨j, ⟨xs, xz, xf⟩, HPX.out, HX.out, .inl ⟨rfl, rfl, HBw5.out⟩⟩
      · have e4 : (xf == f) = false := by simpa using hxf
        have HXF := Hid.mk' hxf
        obtain ⟨W6, hW6⟩ : ∃ W6, wc.alloc (.cells #[.string s, .int .i64 z, .int .i64 f] 81) = W6 := ⟨_, rfl⟩
        have b6 : Below wc.heap.size wc W6 := by rw [← hW6]; exact sr_lay
        have q6 : W6.heap[wc.heap.size]? = some (.cells #[.string s, .int .i64 z, .int .i64 f] 81 (0, 0)) := by rw [← hW6]; exact World.alloc_heap_new _ _
        have HB6 : Hid (Below W1.heap.size W1 W6) := Hid.mk' (HB5.out.trans (b6.mono HB5.out.size))
        have HWA := Hid.mk' (HWY.out W6 HB6.out)
        have HQ6 := Hid.mk' q6
        have n0 : W6.cell? ⟨wc.heap.size, 0, none⟩ = some (.string s) := by simp [World.cell?, q6]
        have n1 : W6.cell? ⟨wc.heap.size, 1, none⟩ = some (.int .i64 z) := by simp [World.cell?, q6]
        have n2 : W6.cell? ⟨wc.heap.size, 2, none⟩ = some (.int .i64 f) := by simp [World.cell?, q6]
        have HH6 := Hid.mk' hW6
        clear hxf b6 q6
        go_upto_region 11 with fail
        clear r0 r1 r2 r3 d2 e4 j2
        go_wp2_with fail
        refine HWA.out.mono ?_
        rintro e w7 ⟨rfl, b7⟩
        have HB7 : Hid (Below W1.heap.size W1 w7) := Hid.mk' (HB6.out.trans (b7.mono HB6.out.size))
        have HBw7 : Hid (Below w.heap.size w w7) := Hid.mk' (HB1.out.trans (HB7.out.mono HB1.out.size))
        have HQ7 := Hid.mk' ((b7.block wc.heap.size (Array.getElem?_eq_some_iff.1 HQ6.out).1).trans HQ6.out)
        clear b7 n0 n1 n2
        rcases HWC.out with ⟨rfl, hnw⟩ | ⟨hw0, _⟩
        case inr =>
          have e5 : decide (wx ≥ 0) = true := decide_eq_true hw0
          have HW0 := Hid.mk' hw0
          clear hw0
          go_wp2
          go_ret2
          unfold RChg
          rw [HLL.out, HWX.out]
          exact .inr ⟨j, ⟨xs, xz, xf⟩, HPX.out, HX.out, .inr ⟨HXF.out, .inl ⟨HW0.out, rfl, HBw7.out⟩⟩⟩
        obtain ⟨b, cap, w8, hrun, hbg, ho8, b8⟩ := app_sl (c := ca) (by rw [HM.out]; exact HLN.out) (HRD.out.below HB7.out) (by have := HJL.out; omega)
        rw [HM.out] at hrun ho8
        obtain ⟨r0, r1, _, _⟩ := HKP.out w7 HB7.out
        have HB8 : Hid (Below W1.heap.size W1 w8) := Hid.mk' (HB7.out.trans (b8.mono HB7.out.size))
        have q8 := (b8.block wc.heap.size (Array.getElem?_eq_some_iff.1 HQ7.out).1).trans HQ7.out
        have hbne : wc.heap.size ≠ b := by have := (Array.getElem?_eq_some_iff.1 HQ7.out).1; omega
        have hjm : j < m := by rw [← HM.out]; exact HJL.out
        have hset := own_set3 (u := .int .i64 f) (j := j * 3 + 2) ho8 rfl (by omega)
        obtain ⟨cc, hk8, hcs⟩ : ∃ cc : Array Value, w8.heap[b]? = some (.cells cc 81 (0, 0)) ∧ m * 3 ≤ cc.size := by
          rcases ho8.2 with ⟨e, _⟩ | ⟨g', cap', cur, e, _, hg', h1, _, h3, _⟩
          · cases e
          · simp only [Value.slice.injEq, Option.some.injEq, Addr.mk.injEq, and_true, true_and] at e
            obtain ⟨rfl, rfl⟩ := e
            exact ⟨cur, hg', by rw [h3]; exact Nat.mul_le_mul_right _ h1⟩
        obtain ⟨u, hcu⟩ : ∃ u, w8.cell? ⟨b, j * 3 + 2, none⟩ = some u := by
          have hlt : j * 3 + 2 < cc.size := by omega
          exact ⟨cc[j * 3 + 2], by simp [World.cell?, hk8, hlt]⟩
        have hfz : w8.frozen? ⟨b, j * 3 + 2, none⟩ = false := by simp [World.frozen?, hk8]
        obtain ⟨W9, hW9⟩ : ∃ W9, w8.setCell ⟨b, j * 3 + 2, none⟩ (.int .i64 f) = W9 := ⟨_, rfl⟩
        rw [hW9] at hset
        have q9 : W9.heap[wc.heap.size]? = some (.cells #[.string s, .int .i64 z, .int .i64 f] 81 (0, 0)) := by rw [← hW9]; exact (Below.heap_setCell _ _ _ _ (show wc.heap.size ≠ b from hbne)).trans q8
        have n0 : W9.cell? ⟨wc.heap.size, 0, none⟩ = some (.string s) := by simp [World.cell?, q9]
        have n1 : W9.cell? ⟨wc.heap.size, 1, none⟩ = some (.int .i64 z) := by simp [World.cell?, q9]
        have n2 : W9.cell? ⟨wc.heap.size, 2, none⟩ = some (.int .i64 f) := by simp [World.cell?, q9]
        have HBw9 : Hid (Below w.heap.size w W9) := Hid.mk' (by
          rw [← hW9]
          exact (HB1.out.trans (HB8.out.mono HB1.out.size)).setCell (p := ⟨b, j * 3 + 2, none⟩) (by have := HBw7.out.size; show w.heap.size ≤ b; omega) _)
        have HOW : Hid (W9.ownsRow B 81 3 (.slice (some ⟨b, 0, none⟩) m cap) (l.set j ⟨xs, xz, f⟩).length (slC (l.set j ⟨xs, xz, f⟩))) := Hid.mk' (by
          rw [List.length_set, HM.out, slC_set l j ⟨xs, xz, xf⟩ f HX.out]
          refine ⟨hset.1, ?_⟩
          rcases hset.2 with hn' | ⟨g', cap', cur, hv, hB', rest⟩
          · exact .inl hn'
          · exact .inr ⟨g', cap', cur, hv, Nat.le_trans HBW.out (Nat.le_trans HBw7.out.size hB'), rest⟩)
        have HFR : Hid (w.heap.size ≤ b) := Hid.mk' (Nat.le_trans HBw7.out.size hbg)
        have HR9 := Hid.mk' (HR.out.below HBw9.out)
        have HH9 := Hid.mk' hW9
        clear ho8 b8 q8 hbne hjm hset hk8 hcs q9 hnw hbg
        go_upto_region 14 with fail
        go_wp2_with (at_builtin; refine Lib.wpList_append_run _ rfl _ _ _ _ rfl _ _ rfl rfl _ _ hrun ?_)
        clear hrun r0 r1 hcu hfz
        by_cases hfull : n < 100000
        case neg =>
          have HLF := Hid.mk' (rlay_full (i : Int) true s z f (.slice (some ⟨b, 0, none⟩) m cap) W9 HR9.out (by rw [HNN.out]; exact hfull))
          have HFU : Hid (100000 ≤ n) := Hid.mk' (by omega)
          clear hfull
          refine HLF.out.mono ?_
          rintro e w10 ⟨rfl, b10⟩
          have HB10 : Hid (Below w.heap.size w w10) := Hid.mk' (HBw9.out.trans (b10.mono HBw9.out.size))
          clear b10
          go_wp2
          go_ret2
          unfold RChg
          rw [HLL.out, HWX.out, HNN.out]
          exact .inr ⟨j, ⟨xs, xz, xf⟩, HPX.out, HX.out, .inr ⟨HXF.out, .inr (.inl ⟨rfl, HFU.out, rfl, HB10.out⟩)⟩⟩
        have HLY := Hid.mk' (rlay_any (i : Int) true s z f (.slice (some ⟨b, 0, none⟩) m cap) (l.set j ⟨xs, xz, f⟩) W9 HR9.out HSL.out HOW.out (by rw [HNN.out]; exact hfull) HWL.out)
        rw [HNN.out] at HLY
        have HFU := Hid.mk' hfull
        clear hfull
        refine HLY.out.mono ?_
        rintro e w10 ⟨rfl, hL⟩
        have HL := Hid.mk' hL
        clear hL
        go_wp2
        go_ret2
        unfold RChg
        rw [HLL.out, HWX.out, HNN.out]
        exact .inr ⟨j, ⟨xs, xz, xf⟩, HPX.out, HX.out, .inr ⟨HXF.out, .inr (.inr ⟨rfl, HFU.out, rfl, _, W9, HBw9.out, fun x hx => by simp [Value.ownBlock] at hx; rw [← hx]; exact HFR.out, HL.out⟩)⟩⟩
end
end Go.Proofs.Ytoonaljmdiideaa
