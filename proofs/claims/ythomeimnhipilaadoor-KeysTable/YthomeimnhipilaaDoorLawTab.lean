/- KeysTable: the law's walk. -/
import Derived.Test.YthomeimnhipilaaDoorKTb3
import Derived.Test.YthomeimnhipilaaDoorLawSym
import Derived.Test.YthomeimnhipilaaDoorKRng2
namespace Go.Proofs.YthomeimnhipilaaDoor
set_option linter.unusedVariables false
open Go.RowKit Go.Maps Go.ChangeShapes Go.Shelf
attribute [local go_sem] Oper.semAt_some

theorem region_plain {P : Program} {c : Code} {K : Act → World → Prop} {Q : Exit → Act → World → Prop} {a : Act} {w : World} (h : c.wp P (Exit.then K (fun _ _ _ => False)) a w) : c.wp P (Exit.then K Q) a w := (wpIn_wide (n := 0)).1 (region_only (wpIn_wide.2 h))
/-- The law's answer lies in a cell. -/
theorem tab_result {n : Nat} {tmps : Array Value} {w w' : World} (h4 : tmps[4]? = some (.pointer (some ⟨w.heap.size, 0, none⟩))) (hc : w'.cell? ⟨w.heap.size, 0, none⟩ = some (.bool true)) (hb : Below w.heap.size w w') :
    LeavesInM Fence.wide n Tryd.prog Tryd.f5 tmps (fun e w' => e = .returned (.bool true) ∧ Below w.heap.size w w') [] .returning w' := by
  have ht : tmps[4]?.getD undef = .pointer (some ⟨w.heap.size, 0, none⟩) := by rw [h4]; rfl
  refine ⟨.bool true, ?_, rfl, hb⟩
  simp [results, Tryd.results5, go_sem, ht, hc]

theorem kf_set {B b : Nat} (W : World) (v : Value) (h : b < B) : KF B W (W.setCell ⟨b, 0, none⟩ v) := ⟨by simp [World.setCell], fun k o hk ho => (Below.heap_setCell _ _ _ _ (by show k ≠ b; omega)).trans ho⟩
/-- A round that is handed something else than the list's next. -/
theorem pre_next {kn : List ByteArray} {hz : ∀ t ∈ kn, (t.size : Int) ≤ 140737488351232} {pre : List NS} {y : NS} (hlt : pre.length < kn.length) (h : (pre ++ [y]) <+: (prs kn hz kn.length).map evN) : y.1.1 = pre.length ∧ y.1.2 = evenS kn[pre.length] := by
  have h2 : (prs kn hz (pre.length + 1)).map evN <+: (prs kn hz kn.length).map evN := (prs_prefix kn hz _ _ (by omega)).map _
  have hl : (pre ++ [y]).length = ((prs kn hz (pre.length + 1)).map evN).length := by rw [List.length_map, prs_length _ _ _ (by omega), List.length_append]; rfl
  have e := List.IsPrefix.eq_of_length (List.prefix_of_prefix_length_le h h2 (by omega)) hl
  rw [prs_succ kn hz _ hlt, List.map_append] at e
  have e2 := (List.append_inj' e rfl).2
  simp at e2
  rw [e2]
  exact ⟨rfl, rfl⟩
theorem tab_ends {tmps : Array Value} {w U : World} {E E2 : Nat} (h4 : tmps[4]? = some (.pointer (some ⟨w.heap.size, 0, none⟩))) (hr : Boxed U w.heap.size 4 (.bool true)) (hb : Below w.heap.size w U) (k2 : U.heap[E2]? = some (.deferred (some []))) (k1 : U.heap[E]? = some (.deferred (some []))) (hE : w.heap.size < E) (hE2 : E < E2) :
    LeavesInM Fence.wide 8 Tryd.prog Tryd.f5 tmps (fun e w' => e = .returned (.bool true) ∧ Below w.heap.size w w') [{ target := .collected E2, args := #[] }, { target := .collected E, args := #[] }] .returning U := by
  have r2 : Boxed (U.putObj E2 (.deferred none)) w.heap.size 4 (.bool true) := (World.putObj_heap_other (by omega)).trans hr
  have r1 : Boxed ((U.putObj E2 (.deferred none)).putObj E (.deferred none)) w.heap.size 4 (.bool true) := (World.putObj_heap_other (by omega)).trans r2
  have kd : (U.putObj E2 (.deferred none)).heap[E]? = some (.deferred (some [])) := (World.putObj_heap_other (by omega)).trans k1
  refine ⟨by simp, .inl ⟨_, _, rfl, run_takeDeferred k2, ?_⟩⟩
  refine ⟨by simp, .inl ⟨_, _, rfl, run_takeDeferred kd, ?_⟩⟩
  exact tab_result h4 r1.cell ((hb.trans (belowK_b (w := w) (Nat.le_refl _) U E2 _ _ (by omega) k2 rfl rfl)).trans (belowK_b (w := w) (Nat.le_refl _) _ E _ _ (by omega) kd rfl rfl))

/-- What stands behind the law's second loop. -/
structure TabEnd (w : World) (B g mb bk : Nat) (kn : List ByteArray) (wr : World) : Prop where
  st : ∃ vt vk D, TabS B g mb bk vt vk D kn kn wr
  res : Boxed wr w.heap.size 4 (.bool false)
  be : Below w.heap.size w wr
  bk : w.heap.size < bk

set_option maxHeartbeats 40000000 in
set_option maxRecDepth 100000 in
theorem table_walk (x : Option Addr) (c : Nat) (ss : List ByteArray) (z : Int) (w : World) (hv : RdT w (.slice x ss.length c) ss) (hz : ∀ s ∈ ss, (s.size : Int) ≤ 140737488351232) (hl : (ss.length : Int) * 16 ≤ 140737488351232) (hwz : Lit.wf (.int .i64 z) = true) (hP : P10 w) :
    Calls Tryd.prog 5 #[.slice x ss.length c, .int .i64 z] w fun e w' => e = .returned (.bool true) ∧ Below w.heap.size w w' := by
  obtain ⟨i0, hi, hz0, hz1, hz2⟩ := info_parts infoS
  have B0 : Below w.heap.size w (w.alloc (.cells #[.bool false] 4)) := (Below.refl _ _).alloc (Nat.le_refl _) _
  have HA := Hid.mk' (awake_any _ (hP.below B0))
  have HV := Hid.mk' (hv.below B0)
  have bR := Boxed.new w 4 (.bool false)
  have HZ := Hid.mk' hz
  have HL := Hid.mk' hl
  have s0 : w.heap.size < (w.alloc (.cells #[.bool false] 4)).heap.size := by simp
  clear hv hz hP
  refine (callsIn_wide (n := 8)).1 ?_
  refine callsIn_of_wp_marks Tryd.func5 rfl trivial ?_ rfl
  refine wpIn_wide.2 ?_
  simp only [Tryd.ntmps5, List.size_toArray, List.length_cons, List.length_nil, Nat.reduceAdd, Nat.reduceSub, Array.replicate_succ, Array.replicate_zero, List.push_toArray, List.append_toArray, List.nil_append, List.cons_append]
  go_wp2_with fail
  refine (HA.out).mono ?_
  rintro e w1 ⟨rfl, b1⟩
  have HV1 := Hid.mk' (HV.out.below b1)
  have bR1 : Boxed w1 w.heap.size 4 (.bool false) := (b1.block w.heap.size s0).trans bR
  have B1 : Below w.heap.size w w1 := B0.trans (b1.mono B0.size)
  have s1 : w.heap.size < w1.heap.size := Nat.lt_of_lt_of_le s0 b1.size
  clear HA HV b1 B0 s0 bR
  go_wp2
  go_loop [5, 25] (fun t i => ∃ (k : Nat) (T : Int), i = .int .i64 k ∧ t = .int .i64 T ∧ k ≤ ss.length) (fun _ i => ss.length - (intOf i).toNat)
  case atStart => exact ⟨0, 0, rfl, rfl, Nat.zero_le _⟩
  case round =>
    obtain ⟨k, T, rfl, rfl, hk⟩ := hrel
    by_cases hlt : k < ss.length
    · obtain ⟨gx, ox, rfl, hc, hcl⟩ := HV1.out.at k hlt
      generalize ss[k] = s at hc
      have i1 : (k : Int) < (ss.length : Int) := by omega
      go_wp2
      go_round
      case rel => exact ⟨k + 1, _, by go_num, rfl, by omega⟩
      case measure => simp [intOf]; omega
    · obtain rfl : k = ss.length := by omega
      have rc := bR1.cell
      have rf := bR1.frozen
      by_cases hT : 3000 < T
      · go_wp2
        exact tab_result rfl (World.cell?_setCell_same _ _ _ rc) (B1.setCell (p := ⟨w.heap.size, 0, none⟩) (Nat.le_refl _) _)
      · go_wp2_with fail
        refine (new_any _).mono ?_
        rintro e w3 ⟨g, mb, rfl, hT0, b3⟩
        have HS0 := Hid.mk' (TabS.new hT0)
        have bR3 : Boxed w3 w.heap.size 4 (.bool false) := (b3.block w.heap.size s1).trans bR1
        have l3 : w1.heap.size ≤ w3.heap.size := b3.size
        clear hT0 rc rf
        go_wp2
        go_loopw [42] (fun vi wr => ∃ (k : Nat) (kn : List ByteArray) (vt vk : Value) (D : DataW Unit), vi = .int .i64 k ∧ k ≤ ss.length ∧ kn.length ≤ k ∧ Hid (TabS w1.heap.size g mb w3.heap.size vt vk D kn kn wr) ∧ Below w1.heap.size w1 wr) (fun vi _ => ss.length - (intOf vi).toNat)
        case atStart => exact ⟨0, [], _, _, _, rfl, Nat.zero_le _, Nat.le_refl _, HS0, b3.alloc l3 _⟩
        case round =>
          obtain ⟨k, kn, vt, vk, D, rfl, hk, hkn, HS, bk⟩ := hrel
          by_cases hlt : k < ss.length
          · obtain ⟨gx, ox, rfl, hc, hcl⟩ := (HV1.out.below bk).at k hlt
            have hsz := HZ.out _ (List.getElem_mem hlt)
            generalize ss[k] = s at hc hsz
            have i1 : (k : Int) < (ss.length : Int) := by omega
            have hbc := HS.out.box.cell
            obtain ⟨xk, ck, rfl⟩ := own_slice' HS.out.row |>.imp fun _ h => h.imp fun _ h => h.1
            have hl' := HL.out
            go_wp2
            go_loopw [12, 48] (fun va vj wq => ∃ (j : Nat) (at_ : Int), vj = .int .i64 j ∧ va = .int .i64 at_ ∧ j ≤ kn.length ∧ Hid (AtJ kn (evenS s) j at_) ∧ Below wr.heap.size wr wq) (fun _ vj _ => kn.length - (intOf vj).toNat)
            case atStart => exact ⟨0, -1, rfl, rfl, Nat.zero_le _, Hid.mk' (.inl ⟨rfl, fun i hi => by omega⟩), Below.refl _ _⟩
            case round =>
              rename_i wo
              obtain ⟨j, at_, rfl, rfl, hj, HJ, bq⟩ := hrel
              have HSq := Hid.mk' (HS.out.below bq)
              by_cases hjl : j < kn.length
              · obtain ⟨gk, rfl⟩ := own_some HSq.out.row (by omega)
                have hcj : wr.cell? ⟨gk, j, none⟩ = some (.string kn[j]) := own_cell HSq.out.row (by simp [sC, hjl])
                obtain ⟨ev1, ev2⟩ := HSq.out.ev _ (List.getElem_mem hjl)
                have HC := Hid.mk' (fun W => rcompare_wide kn[j] s W ev2 hsz)
                have HZq : Hid (cmpK kn[j] s 0 = 0 ↔ kn[j]? = some (evenS s)) := Hid.mk' (by rw [cmp_zero, ev1, List.getElem?_eq_getElem hjl, Option.some.injEq])
                have i2 : (j : Int) < (kn.length : Int) := by omega
                have i3 : (kn.length : Int) ≤ (ss.length : Int) := by omega
                have hckl : kn.length ≤ ck := by
                  rcases HSq.out.row.2 with ⟨e, _⟩ | ⟨g', cap', cur', e, _, _, hcap, _⟩
                  · simp at e
                  · simp at e; omega
                generalize cmpK kn[j] s 0 = r at HC HZq
                generalize kn[j] = u at HC hcj
                clear ev1 ev2 HS HSq hbc
                go_wp2_with fail
                refine (HC.out _).mono ?_
                rintro e w5 ⟨rfl, b5⟩
                by_cases hr0 : r = 0
                · have HYes := Hid.mk' (HZq.out.1 hr0)
                  clear HZq
                  subst hr0
                  go_wp2
                  go_roundw
                  case rel => exact ⟨j + 1, j, by go_num, rfl, by omega, Hid.mk' (AtJ.hit HYes.out), bq.trans (b5.mono bq.size)⟩
                  case measure => simp [intOf]; omega
                · have hrb : (r == 0) = false := by simpa using hr0
                  have HNo := Hid.mk' (fun h => hr0 (HZq.out.2 h))
                  clear HZq
                  go_wp2
                  go_roundw
                  case rel => exact ⟨j + 1, at_, by go_num, rfl, by omega, Hid.mk' (HJ.out.next HNo.out), bq.trans (b5.mono bq.size)⟩
                  case measure => simp [intOf]; omega
              · obtain rfl : j = kn.length := by omega
                have Bq : Below w1.heap.size w1 wr := bk.trans (bq.mono bk.size)
                have hbl := HSq.out.box.lt
                have hbq := HSq.out.box.cell
                have hfq := HSq.out.box.frozen
                by_cases hneg : at_ < 0
                · obtain rfl : at_ = -1 := by
                    rcases HJ.out with ⟨h, _⟩ | ⟨i, _, h, _⟩ <;> omega
                  have HNO := Hid.mk' HJ.out.none
                  have HE := Hid.mk' (fun W => reven_wide s W hsz)
                  have HRow := Hid.mk' HSq.out.row
                  have HBox := Hid.mk' HSq.out.box
                  have HNE : Hid (some w3.heap.size ≠ (Value.slice xk kn.length ck).ownBlock) := Hid.mk' (fun e => box_ne HSq.out.row HSq.out.box (by decide) _ e.symm rfl)
                  have HQ : Hid (evenS (evenS s) = evenS s ∧ ((evenS s).size : Int) ≤ 140737488351232) := Hid.mk' ⟨even_even s, by rw [even_size']; omega⟩
                  have hBs := Bq.size
                  have i5 : (kn.length : Int) ≤ (k : Int) := by omega
                  generalize hq : evenS s = q at HE HQ HNO
                  have HQQ := Hid.mk' hq
                  clear hq HJ HS hbc
                  go_wp2
                  refine region_plain ?_
                  go_region_law (first | (refine step_call rfl 16 (.tmp 64) 23 rfl (enters_of Tryd.func16 (by kernel_rfl) rfl) _ rfl (HE.out _) ?_; rintro e w4 ⟨rfl, hw4⟩; refine ⟨_, rfl, ?_⟩; rw [hw4]; clear hw4 w4) | (refine step_append_own_at rfl (.tmp 63) (.tmp 66) 33 rfl w1.heap.size 23 i0 (.string ⟨#[]⟩) 1 16 Tryd.underlying33 hi hz0 hz1 hz2 rfl (by decide) _ _ _ rfl (World.ownsRow.alloc (show wr.drew.ownsRow _ _ _ _ _ _ from HRow.out) _) _ 1 1 _ rfl (by rfl) (cells_new _ _ _) (by simp [Value.oneCell']) (by unfold maxLen; omega) (by omega) (by simp <;> omega) ?_; intro v5 w5 o5 g5 hl5; obtain ⟨y5, c5, hv5, _⟩ := own_slice' o5; subst hv5; have b5 : Boxed w5 w3.heap.size 33 (.slice xk kn.length ck) := (Boxed.alloc (show Boxed wr.drew w3.heap.size 33 (.slice xk kn.length ck) from HBox.out) _).kept g5 HNE.out; have e5 := b5.cell; have z5 := b5.frozen))
                  all_goals
                    have HS5 := Hid.mk' (HSq.out.app (((Below.refl wr.heap.size wr).drew).alloc (by simp) _) g5 o5 hl5 HQ.out)
                    have B5 : Below w1.heap.size w1 w5 := ((Bq.drew).alloc (by simp <;> omega) _).trans ((Below.refl _ _).grown g5 (by simp <;> omega) (fun i hi => (HRow.out.lt i hi).1))
                    clear g5 o5 hl5 b5
                    go_wp2
                    obtain ⟨w6, hw6⟩ : ∃ w6, w5.setCell ⟨w3.heap.size, 0, none⟩ (.slice y5 (kn.length + 1) c5) = w6 := ⟨_, rfl⟩
                    have B6 : Below w1.heap.size w1 w6 := by rw [← hw6]; exact B5.setCell (p := ⟨w3.heap.size, 0, none⟩) l3 _
                    rw [hw6] at HS5 ⊢
                    have HI := Hid.mk' (intern_tabS w6.drew (HS5.out.below ((Below.refl _ _).drew)) s kn.length hsz (by omega) (.inl ⟨rfl, by rw [HQQ.out], by rw [HQQ.out]; exact HNO.out⟩))
                    have hl6 := HS5.out.box.lt
                    have hbc6 := HS5.out.box.cell
                    clear HS5 hw6 e5 z5 B5
                    refine region_plain ?_
                    go_region_law (first | (refine step_call2 rfl 17 (.tmp 68) (.tmp 69) 34 23 rfl (enters_of Tryd.func17 (by kernel_rfl) rfl) _ _ rfl rfl HI.out ?_; rintro e w7 ⟨rfl, ⟨vt7, D7, HS7⟩, b7⟩; refine ⟨_, rfl, ?_⟩; have hbc7 := HS7.box.cell) | (refine step_callG (by rfl) 18 (.tmp 74) 34 rfl (enters_of Tryd.func18 (by kernel_rfl) rfl) _ rfl (len_yes _ HS7.tab) ?_; rintro e w8 ⟨rfl, hw8⟩; refine ⟨_, rfl, ?_⟩; rw [hw8]; clear hw8 w8))
                    all_goals
                      have HS7' := Hid.mk' HS7
                      have B7 : Below w1.heap.size w1 w7 := B6.trans (((Below.refl _ _).drew).trans b7)
                      clear HS7 b7
                      go_wp2
                      go_roundw
                      case rel => exact ⟨k + 1, kn ++ [q], vt7, _, D7, by go_num, by omega, by simp; omega, HS7', B7⟩
                      case measure => simp [intOf]; omega
                · obtain ⟨N, rfl, hN⟩ : ∃ N : Nat, at_ = N ∧ kn[N]? = some (evenS s) := by
                    rcases HJ.out with ⟨h, _⟩ | ⟨i, _, h1, h2⟩
                    · omega
                    · exact ⟨i, h1, h2⟩
                  have hNl : N < kn.length := (List.getElem?_eq_some_iff.1 hN).1
                  have B6 := Bq
                  have HI := Hid.mk' (intern_tabS wr.drew (HSq.out.below ((Below.refl _ _).drew)) s N hsz (by omega) (.inr ⟨rfl, hN⟩))
                  have hl6 := HSq.out.box.lt
                  have hbc6 := HSq.out.box.cell
                  have i9 : (N : Int) ≤ (ss.length : Int) := by omega
                  clear HSq HS HJ hN hneg hbc
                  go_wp2
                  refine region_plain ?_
                  go_region_law (first | (refine step_call2 rfl 17 (.tmp 68) (.tmp 69) 34 23 rfl (enters_of Tryd.func17 (by kernel_rfl) rfl) _ _ rfl rfl HI.out ?_; rintro e w7 ⟨rfl, ⟨vt7, D7, HS7⟩, b7⟩; refine ⟨_, rfl, ?_⟩; have hbc7 := HS7.box.cell) | (refine step_callG (by rfl) 18 (.tmp 74) 34 rfl (enters_of Tryd.func18 (by kernel_rfl) rfl) _ rfl (len_yes _ HS7.tab) ?_; rintro e w8 ⟨rfl, hw8⟩; refine ⟨_, rfl, ?_⟩; rw [hw8]; clear hw8 w8))
                  all_goals
                    have HS7' := Hid.mk' HS7
                    have B7 : Below w1.heap.size w1 w7 := B6.trans (((Below.refl _ _).drew).trans b7)
                    clear HS7 b7
                    go_wp2
                    go_roundw
                    case rel => exact ⟨k + 1, kn, vt7, _, D7, by go_num, by omega, by omega, HS7', B7⟩
                    case measure => simp [intOf]; omega
          · obtain rfl : k = ss.length := by omega
            have hl' := HL.out
            have HZK : Hid (∀ t ∈ kn, (t.size : Int) ≤ 140737488351232) := Hid.mk' (fun t ht => (HS.out.ev t ht).2)
            have bR4 : Boxed wr w.heap.size 4 (.bool false) := (bk.block w.heap.size s1).trans bR1
            have B4 : Below w.heap.size w wr := B1.trans (bk.mono B1.size)
            have hbc := HS.out.box.cell
            obtain ⟨xk, ck, rfl⟩ := own_slice' HS.out.row |>.imp fun _ h => h.imp fun _ h => h.1
            have i3 : (kn.length : Int) ≤ 140737488351232 := by omega
            have hnil := eqf_nil
            clear HL HZ HV1 bR1 B1 bR3 HS0
            by_cases hz1' : z < 0
            · go_wp2_with fail
              refine (name_far z _ HS.out.tab (.inl hz1')).mono ?_
              rintro e w5 ⟨rfl, b5⟩
              have HS5 := Hid.mk' (HS.out.below b5)
              have hbc5 := HS5.out.box.cell
              clear hbc HS
              go_wp2_with (go_at_call 20; refine (each_any _ _).mono ?_; rintro e w6 ⟨rfl, hw6⟩; rw [hw6]; clear hw6 w6)
              obtain ⟨W0, hW0⟩ : ∃ W0, w5.alloc (.cells #[.pointer (some ⟨g, 0, none⟩)] 34) = W0 := ⟨_, rfl⟩
              have b50 : Below w5.heap.size w5 W0 := by rw [← hW0]; exact (Below.refl _ _).alloc (Nat.le_refl _) _
              have bT : Boxed W0 w5.heap.size 34 (.pointer (some ⟨g, 0, none⟩)) := by rw [← hW0]; exact Boxed.new _ _ _
              rw [hW0]
              have bW : Below wr.heap.size wr W0 := b5.trans (b50.mono b5.size)
              have HSW := Hid.mk' (HS5.out.below b50)
              have bRW : Boxed W0 w.heap.size 4 (.bool false) := (bW.block w.heap.size bR4.lt).trans bR4
              have BW : Below w.heap.size w W0 := B4.trans (bW.mono B4.size)
              have sW : w.heap.size < W0.heap.size := bRW.lt
              have nRes : Hid (vt.ownBlock ≠ some w.heap.size) := Hid.mk' (fun e => by have := (HSW.out.tab.t.lt _ e).1; omega)
              clear hW0 b50 b5 bW bR4 B4 HS5 hbc5
              refine (wpIn_wide (n := 8)).1 ?_
              refine range_p (by omega) (gf := 38) (lb := #[.pointer (some ⟨w5.heap.size, 0, none⟩)]) rfl (enters_of Tryd.func38 (by kernel_rfl) rfl)
                (each_tab (8 - 1) (by omega) w5.heap.size w.heap.size i3 HZK.out W0 HSW.out.tab bT sW nRes.out) sW (Below.refl _ _) (fun _ => rfl)
                (fun _ V => Below W0.heap.size W0 V) (fun cd _ V => cd = .exit 6 ∧ Below W0.heap.size W0 V) (ownFrom_below (Nat.le_refl _) (Nat.le_refl _))
                (fun cd s A C row hs hgr hr => ⟨hs.1, ownFrom_below (β := Unit) (Nat.le_refl _) (Nat.le_refl _) () A C row hs.2 hgr hr⟩) (Below.refl _ _) ?round1 ?done1 ?stop1
              case round1 =>
                intro l pre y V Vb _ hIb _
                gi_wp2
                refine ⟨trivial, ?_⟩
                gi_wp2
                exact ⟨KF.refl _ _, rfl, hIb⟩
              case stop1 =>
                rintro E cd pre V hE _ ⟨rfl, bV⟩ hK
                refine wpIn_wide.2 ?_
                have bTV : Boxed V w5.heap.size 34 (.pointer (some ⟨g, 0, none⟩)) := (bV.block _ bT.lt).trans bT
                have HSV := Hid.mk' (HSW.out.below bV)
                have bRV : Boxed V w.heap.size 4 (.bool false) := (bV.block _ sW).trans bRW
                have BV : Below w.heap.size w V := BW.trans (bV.mono BW.size)
                have lE : E < V.heap.size := (Array.getElem?_eq_some_iff.1 hK).1
                clear HSW bRW BW bT bV
                go_wp2
                obtain ⟨Wk, hWk⟩ : ∃ Wk, V.alloc (.cells #[.int .i64 0] 3) = Wk := ⟨_, rfl⟩
                have bk0 : Below V.heap.size V Wk := by rw [← hWk]; exact (Below.refl _ _).alloc (Nat.le_refl _) _
                have bI : Boxed Wk V.heap.size 3 (.int .i64 0) := by rw [← hWk]; exact Boxed.new _ _ _
                rw [hWk]
                have lk : V.heap.size < Wk.heap.size := bI.lt
                have nK : Hid (vt.ownBlock ≠ some V.heap.size) := Hid.mk' (fun e => by have := (HSV.out.tab.t.lt _ e).2; omega)
                clear hWk
                refine (wpIn_wide (n := 8)).1 ?_
                refine range_p (by omega) (gf := 38) (lb := #[.pointer (some ⟨w5.heap.size, 0, none⟩)]) rfl (enters_of Tryd.func38 (by kernel_rfl) rfl)
                  (each_tab (8 - 1) (by omega) w5.heap.size V.heap.size i3 HZK.out Wk (HSV.out.tab.below bk0) ((bk0.block _ bTV.lt).trans bTV) lk nK.out) lk (Below.refl _ _) (fun _ => rfl)
                  (fun pre U => Boxed U V.heap.size 3 (.int .i64 (pre.length : Nat)) ∧ Below V.heap.size V U) (fun cd pre U => ¬ pre <+: (prs kn HZK.out kn.length).map evN)
                  (OwnFrom.and (Own.from (boxed_own _ _ (fun pre : List NS => .int .i64 (pre.length : Nat))) _) (ownFrom_below (Nat.le_refl _) (Nat.le_of_lt lk)))
                  (fun cd => ownFrom_pure _ (fun pre => ¬ pre <+: (prs kn HZK.out kn.length).map evN)) ⟨bI, bk0⟩ ?round2 ?done2 ?stop2
                case round2 =>
                  rintro l pre y U Ub _ ⟨hb, hB⟩ hlen
                  have hkc := hb.cell
                  have hkf := hb.frozen
                  have HSU := Hid.mk' (HSV.out.below hB)
                  have hbx := HSU.out.box.cell
                  obtain ⟨gk, rfl⟩ := own_some HSU.out.row (by omega)
                  have hcj : Ub.cell? ⟨gk, pre.length, none⟩ = some (.string kn[pre.length]) := own_cell HSU.out.row (by simp [sC, hlen])
                  have hckl : kn.length ≤ ck := by
                    rcases HSU.out.row.2 with ⟨e, _⟩ | ⟨g', cap', cur', e, _, _, hcap, _⟩
                    · simp at e
                    · simp at e; omega
                  have HC := Hid.mk' (fun W => rcompare_wide y.1.2 kn[pre.length] W y.2 (HZK.out _ (List.getElem_mem hlen)))
                  have HBad : Hid ((y.1.1 ≠ pre.length ∨ cmpK y.1.2 kn[pre.length] 0 ≠ 0) → ¬ (pre ++ [y]) <+: (prs kn HZK.out kn.length).map evN) := Hid.mk' (fun h hp => by
                    obtain ⟨e1, e2⟩ := pre_next hlen hp
                    rcases h with h | h
                    · exact h e1
                    · exact h ((cmp_zero _ _).2 (by rw [e2, even_even])))
                  have bRU : Boxed Ub w.heap.size 4 (.bool false) := (hB.block _ bRV.lt).trans bRV
                  have rc := bRU.cell
                  have rf := bRU.frozen
                  have lU : V.heap.size < Ub.heap.size := hb.lt
                  have lr : w.heap.size < V.heap.size := bRV.lt
                  have lrU : w.heap.size < Ub.heap.size := by omega
                  have i7 : (pre.length : Int) < (kn.length : Int) := by omega
                  have HB := Hid.mk' hB
                  have Hb := Hid.mk' hb
                  generalize cmpK y.1.2 kn[pre.length] 0 = r at HC HBad
                  generalize kn[pre.length] = u at HC hcj
                  obtain ⟨⟨yi, ys⟩, hy⟩ := y
                  simp only [encS, List.zip_toArray, List.zip_cons_cons, List.zip_nil_right, List.size_toArray, List.length_cons, List.length_nil, List.foldl_toArray', List.foldl_cons, List.foldl_nil]
                  dsimp only at HC HBad
                  clear HSU hb hB bRU
                  gi_wp2
                  refine ⟨trivial, ?_⟩
                  by_cases e1 : yi = pre.length
                  · subst e1
                    by_cases hr0 : r = 0
                    · subst hr0
                      clear HBad
                      gi_wp2_with (first | (refine ⟨trivial, ?_⟩; gi_at_call 15; refine (CallsIn.inRound l (callsIn_wide.2 (HC.out _))).mono ?_; rintro e U1 ⟨rfl, bU⟩; have kc1 := (bU.cell (p := ⟨V.heap.size, 0, none⟩) lU).trans hkc; have kf1 := (bU.frozen (p := ⟨V.heap.size, 0, none⟩) lU).trans hkf; have rc1 := (bU.cell (p := ⟨w.heap.size, 0, none⟩) lrU).trans rc; have rf1 := (bU.frozen (p := ⟨w.heap.size, 0, none⟩) lrU).trans rf))
                      have hbn : Boxed (U1.setCell ⟨V.heap.size, 0, none⟩ (.int .i64 ((pre.length : Int) + 1))) V.heap.size 3 (.int .i64 ((pre.length : Int) + 1)) := Boxed.set _ ((bU.block _ lU).trans Hb.out)
                      refine ⟨(KN.of_below bU).trans (KN.set _ _ _ _), ?_, (HB.out.trans (bU.mono HB.out.size)).setCell (p := ⟨V.heap.size, 0, none⟩) (Nat.le_refl _) _⟩
                      have el : (((pre ++ [(⟨(pre.length, ys), hy⟩ : NS)]).length : Nat) : Int) = (pre.length : Int) + 1 := by simp
                      rw [el]
                      exact hbn
                    · have hrb : (r != 0) = true := by simpa using hr0
                      have HNo := Hid.mk' (HBad.out (.inr hr0))
                      clear HBad
                      gi_wp2_with (first | (refine ⟨trivial, ?_⟩; gi_at_call 15; refine (CallsIn.inRound l (callsIn_wide.2 (HC.out _))).mono ?_; rintro e U1 ⟨rfl, bU⟩; have kc1 := (bU.cell (p := ⟨V.heap.size, 0, none⟩) lU).trans hkc; have kf1 := (bU.frozen (p := ⟨V.heap.size, 0, none⟩) lU).trans hkf; have rc1 := (bU.cell (p := ⟨w.heap.size, 0, none⟩) lrU).trans rc; have rf1 := (bU.frozen (p := ⟨w.heap.size, 0, none⟩) lrU).trans rf))
                      exact ⟨(KF.of_below bU).trans (kf_set _ _ (by omega)), HNo.out⟩
                  · have HNo := Hid.mk' (HBad.out (.inl e1))
                    clear HBad
                    have e1' : ¬ (yi : Int) = (pre.length : Int) := by omega
                    generalize (yi : Int) = zi at e1' ⊢
                    generalize (pre.length : Int) = pl at e1' hkc i7 ⊢
                    have n1 : (zi != pl) = true := by simpa using e1'
                    gi_wp2
                    refine ⟨trivial, ?_⟩
                    gi_wp2
                    exact ⟨kf_set _ _ (by omega), HNo.out⟩
                case stop2 =>
                  rintro E2 cd pre U _ hSp hIx _
                  exact absurd hSp hIx
                case done2 =>
                  rintro E2 ys U hE2 rfl ⟨hb, hB⟩ hK2
                  have hlen : ((prs kn HZK.out kn.length).map evN).length = kn.length := by rw [List.length_map, prs_length _ _ _ (Nat.le_refl _)]
                  rw [hlen] at hb
                  have hkc := hb.cell
                  have hbx := (HSV.out.below hB).box.cell
                  have bRU : Boxed U w.heap.size 4 (.bool false) := (hB.block _ bRV.lt).trans bRV
                  have rc := bRU.cell
                  have rf := bRU.frozen
                  have HRU := Hid.mk' bRU
                  have HKE := Hid.mk' ((hB.block E lE).trans hK)
                  have HK2 := Hid.mk' hK2
                  have HBU := Hid.mk' (BV.trans (hB.mono BV.size))
                  clear hlen hb hB bRU hK2
                  go_wp2
                  exact tab_ends rfl (HRU.out.set (.bool true)) (HBU.out.setCell (p := ⟨w.heap.size, 0, none⟩) (Nat.le_refl _) _) ((KeepsOthers.setCell U ⟨w.heap.size, 0, none⟩ (.bool true)).same E2 _ HK2.out rfl) ((KeepsOthers.setCell U ⟨w.heap.size, 0, none⟩ (.bool true)).same E _ HKE.out rfl) (by omega) (by omega)
              case done1 =>
                intro E ys V hE _ bV hK
                have bTV : Boxed V w5.heap.size 34 (.pointer (some ⟨g, 0, none⟩)) := (bV.block _ bT.lt).trans bT
                have HSV := Hid.mk' (HSW.out.below bV)
                have bRV : Boxed V w.heap.size 4 (.bool false) := (bV.block _ sW).trans bRW
                have BV : Below w.heap.size w V := BW.trans (bV.mono BW.size)
                have lE : E < V.heap.size := (Array.getElem?_eq_some_iff.1 hK).1
                clear HSW bRW BW bT bV
                go_wp2
                obtain ⟨Wk, hWk⟩ : ∃ Wk, V.alloc (.cells #[.int .i64 0] 3) = Wk := ⟨_, rfl⟩
                have bk0 : Below V.heap.size V Wk := by rw [← hWk]; exact (Below.refl _ _).alloc (Nat.le_refl _) _
                have bI : Boxed Wk V.heap.size 3 (.int .i64 0) := by rw [← hWk]; exact Boxed.new _ _ _
                rw [hWk]
                have lk : V.heap.size < Wk.heap.size := bI.lt
                have nK : Hid (vt.ownBlock ≠ some V.heap.size) := Hid.mk' (fun e => by have := (HSV.out.tab.t.lt _ e).2; omega)
                clear hWk
                refine (wpIn_wide (n := 8)).1 ?_
                refine range_p (by omega) (gf := 38) (lb := #[.pointer (some ⟨w5.heap.size, 0, none⟩)]) rfl (enters_of Tryd.func38 (by kernel_rfl) rfl)
                  (each_tab (8 - 1) (by omega) w5.heap.size V.heap.size i3 HZK.out Wk (HSV.out.tab.below bk0) ((bk0.block _ bTV.lt).trans bTV) lk nK.out) lk (Below.refl _ _) (fun _ => rfl)
                  (fun pre U => Boxed U V.heap.size 3 (.int .i64 (pre.length : Nat)) ∧ Below V.heap.size V U) (fun cd pre U => ¬ pre <+: (prs kn HZK.out kn.length).map evN)
                  (OwnFrom.and (Own.from (boxed_own _ _ (fun pre : List NS => .int .i64 (pre.length : Nat))) _) (ownFrom_below (Nat.le_refl _) (Nat.le_of_lt lk)))
                  (fun cd => ownFrom_pure _ (fun pre => ¬ pre <+: (prs kn HZK.out kn.length).map evN)) ⟨bI, bk0⟩ ?round2 ?done2 ?stop2
                case round2 =>
                  rintro l pre y U Ub _ ⟨hb, hB⟩ hlen
                  have hkc := hb.cell
                  have hkf := hb.frozen
                  have HSU := Hid.mk' (HSV.out.below hB)
                  have hbx := HSU.out.box.cell
                  obtain ⟨gk, rfl⟩ := own_some HSU.out.row (by omega)
                  have hcj : Ub.cell? ⟨gk, pre.length, none⟩ = some (.string kn[pre.length]) := own_cell HSU.out.row (by simp [sC, hlen])
                  have hckl : kn.length ≤ ck := by
                    rcases HSU.out.row.2 with ⟨e, _⟩ | ⟨g', cap', cur', e, _, _, hcap, _⟩
                    · simp at e
                    · simp at e; omega
                  have HC := Hid.mk' (fun W => rcompare_wide y.1.2 kn[pre.length] W y.2 (HZK.out _ (List.getElem_mem hlen)))
                  have HBad : Hid ((y.1.1 ≠ pre.length ∨ cmpK y.1.2 kn[pre.length] 0 ≠ 0) → ¬ (pre ++ [y]) <+: (prs kn HZK.out kn.length).map evN) := Hid.mk' (fun h hp => by
                    obtain ⟨e1, e2⟩ := pre_next hlen hp
                    rcases h with h | h
                    · exact h e1
                    · exact h ((cmp_zero _ _).2 (by rw [e2, even_even])))
                  have bRU : Boxed Ub w.heap.size 4 (.bool false) := (hB.block _ bRV.lt).trans bRV
                  have rc := bRU.cell
                  have rf := bRU.frozen
                  have lU : V.heap.size < Ub.heap.size := hb.lt
                  have lr : w.heap.size < V.heap.size := bRV.lt
                  have lrU : w.heap.size < Ub.heap.size := by omega
                  have i7 : (pre.length : Int) < (kn.length : Int) := by omega
                  have HB := Hid.mk' hB
                  have Hb := Hid.mk' hb
                  generalize cmpK y.1.2 kn[pre.length] 0 = r at HC HBad
                  generalize kn[pre.length] = u at HC hcj
                  obtain ⟨⟨yi, ys⟩, hy⟩ := y
                  simp only [encS, List.zip_toArray, List.zip_cons_cons, List.zip_nil_right, List.size_toArray, List.length_cons, List.length_nil, List.foldl_toArray', List.foldl_cons, List.foldl_nil]
                  dsimp only at HC HBad
                  clear HSU hb hB bRU
                  gi_wp2
                  refine ⟨trivial, ?_⟩
                  by_cases e1 : yi = pre.length
                  · subst e1
                    by_cases hr0 : r = 0
                    · subst hr0
                      clear HBad
                      gi_wp2_with (first | (refine ⟨trivial, ?_⟩; gi_at_call 15; refine (CallsIn.inRound l (callsIn_wide.2 (HC.out _))).mono ?_; rintro e U1 ⟨rfl, bU⟩; have kc1 := (bU.cell (p := ⟨V.heap.size, 0, none⟩) lU).trans hkc; have kf1 := (bU.frozen (p := ⟨V.heap.size, 0, none⟩) lU).trans hkf; have rc1 := (bU.cell (p := ⟨w.heap.size, 0, none⟩) lrU).trans rc; have rf1 := (bU.frozen (p := ⟨w.heap.size, 0, none⟩) lrU).trans rf))
                      have hbn : Boxed (U1.setCell ⟨V.heap.size, 0, none⟩ (.int .i64 ((pre.length : Int) + 1))) V.heap.size 3 (.int .i64 ((pre.length : Int) + 1)) := Boxed.set _ ((bU.block _ lU).trans Hb.out)
                      refine ⟨(KN.of_below bU).trans (KN.set _ _ _ _), ?_, (HB.out.trans (bU.mono HB.out.size)).setCell (p := ⟨V.heap.size, 0, none⟩) (Nat.le_refl _) _⟩
                      have el : (((pre ++ [(⟨(pre.length, ys), hy⟩ : NS)]).length : Nat) : Int) = (pre.length : Int) + 1 := by simp
                      rw [el]
                      exact hbn
                    · have hrb : (r != 0) = true := by simpa using hr0
                      have HNo := Hid.mk' (HBad.out (.inr hr0))
                      clear HBad
                      gi_wp2_with (first | (refine ⟨trivial, ?_⟩; gi_at_call 15; refine (CallsIn.inRound l (callsIn_wide.2 (HC.out _))).mono ?_; rintro e U1 ⟨rfl, bU⟩; have kc1 := (bU.cell (p := ⟨V.heap.size, 0, none⟩) lU).trans hkc; have kf1 := (bU.frozen (p := ⟨V.heap.size, 0, none⟩) lU).trans hkf; have rc1 := (bU.cell (p := ⟨w.heap.size, 0, none⟩) lrU).trans rc; have rf1 := (bU.frozen (p := ⟨w.heap.size, 0, none⟩) lrU).trans rf))
                      exact ⟨(KF.of_below bU).trans (kf_set _ _ (by omega)), HNo.out⟩
                  · have HNo := Hid.mk' (HBad.out (.inl e1))
                    clear HBad
                    have e1' : ¬ (yi : Int) = (pre.length : Int) := by omega
                    generalize (yi : Int) = zi at e1' ⊢
                    generalize (pre.length : Int) = pl at e1' hkc i7 ⊢
                    have n1 : (zi != pl) = true := by simpa using e1'
                    gi_wp2
                    refine ⟨trivial, ?_⟩
                    gi_wp2
                    exact ⟨kf_set _ _ (by omega), HNo.out⟩
                case stop2 =>
                  rintro E2 cd pre U _ hSp hIx _
                  exact absurd hSp hIx
                case done2 =>
                  rintro E2 ys U hE2 rfl ⟨hb, hB⟩ hK2
                  have hlen : ((prs kn HZK.out kn.length).map evN).length = kn.length := by rw [List.length_map, prs_length _ _ _ (Nat.le_refl _)]
                  rw [hlen] at hb
                  have hkc := hb.cell
                  have hbx := (HSV.out.below hB).box.cell
                  have bRU : Boxed U w.heap.size 4 (.bool false) := (hB.block _ bRV.lt).trans bRV
                  have rc := bRU.cell
                  have rf := bRU.frozen
                  have HRU := Hid.mk' bRU
                  have HKE := Hid.mk' ((hB.block E lE).trans hK)
                  have HK2 := Hid.mk' hK2
                  have HBU := Hid.mk' (BV.trans (hB.mono BV.size))
                  clear hlen hb hB bRU hK2
                  go_wp2
                  exact tab_ends rfl (HRU.out.set (.bool true)) (HBU.out.setCell (p := ⟨w.heap.size, 0, none⟩) (Nat.le_refl _) _) ((KeepsOthers.setCell U ⟨w.heap.size, 0, none⟩ (.bool true)).same E2 _ HK2.out rfl) ((KeepsOthers.setCell U ⟨w.heap.size, 0, none⟩ (.bool true)).same E _ HKE.out rfl) (by omega) (by omega)
            · by_cases hz2' : (kn.length : Int) ≤ z
              · go_wp2_with fail
                refine (name_far z _ HS.out.tab (.inr hz2')).mono ?_
                rintro e w5 ⟨rfl, b5⟩
                have HS5 := Hid.mk' (HS.out.below b5)
                have hbc5 := HS5.out.box.cell
                clear hbc HS
                go_wp2_with (go_at_call 20; refine (each_any _ _).mono ?_; rintro e w6 ⟨rfl, hw6⟩; rw [hw6]; clear hw6 w6)
                obtain ⟨W0, hW0⟩ : ∃ W0, w5.alloc (.cells #[.pointer (some ⟨g, 0, none⟩)] 34) = W0 := ⟨_, rfl⟩
                have b50 : Below w5.heap.size w5 W0 := by rw [← hW0]; exact (Below.refl _ _).alloc (Nat.le_refl _) _
                have bT : Boxed W0 w5.heap.size 34 (.pointer (some ⟨g, 0, none⟩)) := by rw [← hW0]; exact Boxed.new _ _ _
                rw [hW0]
                have bW : Below wr.heap.size wr W0 := b5.trans (b50.mono b5.size)
                have HSW := Hid.mk' (HS5.out.below b50)
                have bRW : Boxed W0 w.heap.size 4 (.bool false) := (bW.block w.heap.size bR4.lt).trans bR4
                have BW : Below w.heap.size w W0 := B4.trans (bW.mono B4.size)
                have sW : w.heap.size < W0.heap.size := bRW.lt
                have nRes : Hid (vt.ownBlock ≠ some w.heap.size) := Hid.mk' (fun e => by have := (HSW.out.tab.t.lt _ e).1; omega)
                clear hW0 b50 b5 bW bR4 B4 HS5 hbc5
                refine (wpIn_wide (n := 8)).1 ?_
                refine range_p (by omega) (gf := 38) (lb := #[.pointer (some ⟨w5.heap.size, 0, none⟩)]) rfl (enters_of Tryd.func38 (by kernel_rfl) rfl)
                  (each_tab (8 - 1) (by omega) w5.heap.size w.heap.size i3 HZK.out W0 HSW.out.tab bT sW nRes.out) sW (Below.refl _ _) (fun _ => rfl)
                  (fun _ V => Below W0.heap.size W0 V) (fun cd _ V => cd = .exit 6 ∧ Below W0.heap.size W0 V) (ownFrom_below (Nat.le_refl _) (Nat.le_refl _))
                  (fun cd s A C row hs hgr hr => ⟨hs.1, ownFrom_below (β := Unit) (Nat.le_refl _) (Nat.le_refl _) () A C row hs.2 hgr hr⟩) (Below.refl _ _) ?round1 ?done1 ?stop1
                case round1 =>
                  intro l pre y V Vb _ hIb _
                  gi_wp2
                  refine ⟨trivial, ?_⟩
                  gi_wp2
                  exact ⟨KF.refl _ _, rfl, hIb⟩
                case stop1 =>
                  rintro E cd pre V hE _ ⟨rfl, bV⟩ hK
                  refine wpIn_wide.2 ?_
                  have bTV : Boxed V w5.heap.size 34 (.pointer (some ⟨g, 0, none⟩)) := (bV.block _ bT.lt).trans bT
                  have HSV := Hid.mk' (HSW.out.below bV)
                  have bRV : Boxed V w.heap.size 4 (.bool false) := (bV.block _ sW).trans bRW
                  have BV : Below w.heap.size w V := BW.trans (bV.mono BW.size)
                  have lE : E < V.heap.size := (Array.getElem?_eq_some_iff.1 hK).1
                  clear HSW bRW BW bT bV
                  go_wp2
                  obtain ⟨Wk, hWk⟩ : ∃ Wk, V.alloc (.cells #[.int .i64 0] 3) = Wk := ⟨_, rfl⟩
                  have bk0 : Below V.heap.size V Wk := by rw [← hWk]; exact (Below.refl _ _).alloc (Nat.le_refl _) _
                  have bI : Boxed Wk V.heap.size 3 (.int .i64 0) := by rw [← hWk]; exact Boxed.new _ _ _
                  rw [hWk]
                  have lk : V.heap.size < Wk.heap.size := bI.lt
                  have nK : Hid (vt.ownBlock ≠ some V.heap.size) := Hid.mk' (fun e => by have := (HSV.out.tab.t.lt _ e).2; omega)
                  clear hWk
                  refine (wpIn_wide (n := 8)).1 ?_
                  refine range_p (by omega) (gf := 38) (lb := #[.pointer (some ⟨w5.heap.size, 0, none⟩)]) rfl (enters_of Tryd.func38 (by kernel_rfl) rfl)
                    (each_tab (8 - 1) (by omega) w5.heap.size V.heap.size i3 HZK.out Wk (HSV.out.tab.below bk0) ((bk0.block _ bTV.lt).trans bTV) lk nK.out) lk (Below.refl _ _) (fun _ => rfl)
                    (fun pre U => Boxed U V.heap.size 3 (.int .i64 (pre.length : Nat)) ∧ Below V.heap.size V U) (fun cd pre U => ¬ pre <+: (prs kn HZK.out kn.length).map evN)
                    (OwnFrom.and (Own.from (boxed_own _ _ (fun pre : List NS => .int .i64 (pre.length : Nat))) _) (ownFrom_below (Nat.le_refl _) (Nat.le_of_lt lk)))
                    (fun cd => ownFrom_pure _ (fun pre => ¬ pre <+: (prs kn HZK.out kn.length).map evN)) ⟨bI, bk0⟩ ?round2 ?done2 ?stop2
                  case round2 =>
                    rintro l pre y U Ub _ ⟨hb, hB⟩ hlen
                    have hkc := hb.cell
                    have hkf := hb.frozen
                    have HSU := Hid.mk' (HSV.out.below hB)
                    have hbx := HSU.out.box.cell
                    obtain ⟨gk, rfl⟩ := own_some HSU.out.row (by omega)
                    have hcj : Ub.cell? ⟨gk, pre.length, none⟩ = some (.string kn[pre.length]) := own_cell HSU.out.row (by simp [sC, hlen])
                    have hckl : kn.length ≤ ck := by
                      rcases HSU.out.row.2 with ⟨e, _⟩ | ⟨g', cap', cur', e, _, _, hcap, _⟩
                      · simp at e
                      · simp at e; omega
                    have HC := Hid.mk' (fun W => rcompare_wide y.1.2 kn[pre.length] W y.2 (HZK.out _ (List.getElem_mem hlen)))
                    have HBad : Hid ((y.1.1 ≠ pre.length ∨ cmpK y.1.2 kn[pre.length] 0 ≠ 0) → ¬ (pre ++ [y]) <+: (prs kn HZK.out kn.length).map evN) := Hid.mk' (fun h hp => by
                      obtain ⟨e1, e2⟩ := pre_next hlen hp
                      rcases h with h | h
                      · exact h e1
                      · exact h ((cmp_zero _ _).2 (by rw [e2, even_even])))
                    have bRU : Boxed Ub w.heap.size 4 (.bool false) := (hB.block _ bRV.lt).trans bRV
                    have rc := bRU.cell
                    have rf := bRU.frozen
                    have lU : V.heap.size < Ub.heap.size := hb.lt
                    have lr : w.heap.size < V.heap.size := bRV.lt
                    have lrU : w.heap.size < Ub.heap.size := by omega
                    have i7 : (pre.length : Int) < (kn.length : Int) := by omega
                    have HB := Hid.mk' hB
                    have Hb := Hid.mk' hb
                    generalize cmpK y.1.2 kn[pre.length] 0 = r at HC HBad
                    generalize kn[pre.length] = u at HC hcj
                    obtain ⟨⟨yi, ys⟩, hy⟩ := y
                    simp only [encS, List.zip_toArray, List.zip_cons_cons, List.zip_nil_right, List.size_toArray, List.length_cons, List.length_nil, List.foldl_toArray', List.foldl_cons, List.foldl_nil]
                    dsimp only at HC HBad
                    clear HSU hb hB bRU
                    gi_wp2
                    refine ⟨trivial, ?_⟩
                    by_cases e1 : yi = pre.length
                    · subst e1
                      by_cases hr0 : r = 0
                      · subst hr0
                        clear HBad
                        gi_wp2_with (first | (refine ⟨trivial, ?_⟩; gi_at_call 15; refine (CallsIn.inRound l (callsIn_wide.2 (HC.out _))).mono ?_; rintro e U1 ⟨rfl, bU⟩; have kc1 := (bU.cell (p := ⟨V.heap.size, 0, none⟩) lU).trans hkc; have kf1 := (bU.frozen (p := ⟨V.heap.size, 0, none⟩) lU).trans hkf; have rc1 := (bU.cell (p := ⟨w.heap.size, 0, none⟩) lrU).trans rc; have rf1 := (bU.frozen (p := ⟨w.heap.size, 0, none⟩) lrU).trans rf))
                        have hbn : Boxed (U1.setCell ⟨V.heap.size, 0, none⟩ (.int .i64 ((pre.length : Int) + 1))) V.heap.size 3 (.int .i64 ((pre.length : Int) + 1)) := Boxed.set _ ((bU.block _ lU).trans Hb.out)
                        refine ⟨(KN.of_below bU).trans (KN.set _ _ _ _), ?_, (HB.out.trans (bU.mono HB.out.size)).setCell (p := ⟨V.heap.size, 0, none⟩) (Nat.le_refl _) _⟩
                        have el : (((pre ++ [(⟨(pre.length, ys), hy⟩ : NS)]).length : Nat) : Int) = (pre.length : Int) + 1 := by simp
                        rw [el]
                        exact hbn
                      · have hrb : (r != 0) = true := by simpa using hr0
                        have HNo := Hid.mk' (HBad.out (.inr hr0))
                        clear HBad
                        gi_wp2_with (first | (refine ⟨trivial, ?_⟩; gi_at_call 15; refine (CallsIn.inRound l (callsIn_wide.2 (HC.out _))).mono ?_; rintro e U1 ⟨rfl, bU⟩; have kc1 := (bU.cell (p := ⟨V.heap.size, 0, none⟩) lU).trans hkc; have kf1 := (bU.frozen (p := ⟨V.heap.size, 0, none⟩) lU).trans hkf; have rc1 := (bU.cell (p := ⟨w.heap.size, 0, none⟩) lrU).trans rc; have rf1 := (bU.frozen (p := ⟨w.heap.size, 0, none⟩) lrU).trans rf))
                        exact ⟨(KF.of_below bU).trans (kf_set _ _ (by omega)), HNo.out⟩
                    · have HNo := Hid.mk' (HBad.out (.inl e1))
                      clear HBad
                      have e1' : ¬ (yi : Int) = (pre.length : Int) := by omega
                      generalize (yi : Int) = zi at e1' ⊢
                      generalize (pre.length : Int) = pl at e1' hkc i7 ⊢
                      have n1 : (zi != pl) = true := by simpa using e1'
                      gi_wp2
                      refine ⟨trivial, ?_⟩
                      gi_wp2
                      exact ⟨kf_set _ _ (by omega), HNo.out⟩
                  case stop2 =>
                    rintro E2 cd pre U _ hSp hIx _
                    exact absurd hSp hIx
                  case done2 =>
                    rintro E2 ys U hE2 rfl ⟨hb, hB⟩ hK2
                    have hlen : ((prs kn HZK.out kn.length).map evN).length = kn.length := by rw [List.length_map, prs_length _ _ _ (Nat.le_refl _)]
                    rw [hlen] at hb
                    have hkc := hb.cell
                    have hbx := (HSV.out.below hB).box.cell
                    have bRU : Boxed U w.heap.size 4 (.bool false) := (hB.block _ bRV.lt).trans bRV
                    have rc := bRU.cell
                    have rf := bRU.frozen
                    have HRU := Hid.mk' bRU
                    have HKE := Hid.mk' ((hB.block E lE).trans hK)
                    have HK2 := Hid.mk' hK2
                    have HBU := Hid.mk' (BV.trans (hB.mono BV.size))
                    clear hlen hb hB bRU hK2
                    go_wp2
                    exact tab_ends rfl (HRU.out.set (.bool true)) (HBU.out.setCell (p := ⟨w.heap.size, 0, none⟩) (Nat.le_refl _) _) ((KeepsOthers.setCell U ⟨w.heap.size, 0, none⟩ (.bool true)).same E2 _ HK2.out rfl) ((KeepsOthers.setCell U ⟨w.heap.size, 0, none⟩ (.bool true)).same E _ HKE.out rfl) (by omega) (by omega)
                case done1 =>
                  intro E ys V hE _ bV hK
                  have bTV : Boxed V w5.heap.size 34 (.pointer (some ⟨g, 0, none⟩)) := (bV.block _ bT.lt).trans bT
                  have HSV := Hid.mk' (HSW.out.below bV)
                  have bRV : Boxed V w.heap.size 4 (.bool false) := (bV.block _ sW).trans bRW
                  have BV : Below w.heap.size w V := BW.trans (bV.mono BW.size)
                  have lE : E < V.heap.size := (Array.getElem?_eq_some_iff.1 hK).1
                  clear HSW bRW BW bT bV
                  go_wp2
                  obtain ⟨Wk, hWk⟩ : ∃ Wk, V.alloc (.cells #[.int .i64 0] 3) = Wk := ⟨_, rfl⟩
                  have bk0 : Below V.heap.size V Wk := by rw [← hWk]; exact (Below.refl _ _).alloc (Nat.le_refl _) _
                  have bI : Boxed Wk V.heap.size 3 (.int .i64 0) := by rw [← hWk]; exact Boxed.new _ _ _
                  rw [hWk]
                  have lk : V.heap.size < Wk.heap.size := bI.lt
                  have nK : Hid (vt.ownBlock ≠ some V.heap.size) := Hid.mk' (fun e => by have := (HSV.out.tab.t.lt _ e).2; omega)
                  clear hWk
                  refine (wpIn_wide (n := 8)).1 ?_
                  refine range_p (by omega) (gf := 38) (lb := #[.pointer (some ⟨w5.heap.size, 0, none⟩)]) rfl (enters_of Tryd.func38 (by kernel_rfl) rfl)
                    (each_tab (8 - 1) (by omega) w5.heap.size V.heap.size i3 HZK.out Wk (HSV.out.tab.below bk0) ((bk0.block _ bTV.lt).trans bTV) lk nK.out) lk (Below.refl _ _) (fun _ => rfl)
                    (fun pre U => Boxed U V.heap.size 3 (.int .i64 (pre.length : Nat)) ∧ Below V.heap.size V U) (fun cd pre U => ¬ pre <+: (prs kn HZK.out kn.length).map evN)
                    (OwnFrom.and (Own.from (boxed_own _ _ (fun pre : List NS => .int .i64 (pre.length : Nat))) _) (ownFrom_below (Nat.le_refl _) (Nat.le_of_lt lk)))
                    (fun cd => ownFrom_pure _ (fun pre => ¬ pre <+: (prs kn HZK.out kn.length).map evN)) ⟨bI, bk0⟩ ?round2 ?done2 ?stop2
                  case round2 =>
                    rintro l pre y U Ub _ ⟨hb, hB⟩ hlen
                    have hkc := hb.cell
                    have hkf := hb.frozen
                    have HSU := Hid.mk' (HSV.out.below hB)
                    have hbx := HSU.out.box.cell
                    obtain ⟨gk, rfl⟩ := own_some HSU.out.row (by omega)
                    have hcj : Ub.cell? ⟨gk, pre.length, none⟩ = some (.string kn[pre.length]) := own_cell HSU.out.row (by simp [sC, hlen])
                    have hckl : kn.length ≤ ck := by
                      rcases HSU.out.row.2 with ⟨e, _⟩ | ⟨g', cap', cur', e, _, _, hcap, _⟩
                      · simp at e
                      · simp at e; omega
                    have HC := Hid.mk' (fun W => rcompare_wide y.1.2 kn[pre.length] W y.2 (HZK.out _ (List.getElem_mem hlen)))
                    have HBad : Hid ((y.1.1 ≠ pre.length ∨ cmpK y.1.2 kn[pre.length] 0 ≠ 0) → ¬ (pre ++ [y]) <+: (prs kn HZK.out kn.length).map evN) := Hid.mk' (fun h hp => by
                      obtain ⟨e1, e2⟩ := pre_next hlen hp
                      rcases h with h | h
                      · exact h e1
                      · exact h ((cmp_zero _ _).2 (by rw [e2, even_even])))
                    have bRU : Boxed Ub w.heap.size 4 (.bool false) := (hB.block _ bRV.lt).trans bRV
                    have rc := bRU.cell
                    have rf := bRU.frozen
                    have lU : V.heap.size < Ub.heap.size := hb.lt
                    have lr : w.heap.size < V.heap.size := bRV.lt
                    have lrU : w.heap.size < Ub.heap.size := by omega
                    have i7 : (pre.length : Int) < (kn.length : Int) := by omega
                    have HB := Hid.mk' hB
                    have Hb := Hid.mk' hb
                    generalize cmpK y.1.2 kn[pre.length] 0 = r at HC HBad
                    generalize kn[pre.length] = u at HC hcj
                    obtain ⟨⟨yi, ys⟩, hy⟩ := y
                    simp only [encS, List.zip_toArray, List.zip_cons_cons, List.zip_nil_right, List.size_toArray, List.length_cons, List.length_nil, List.foldl_toArray', List.foldl_cons, List.foldl_nil]
                    dsimp only at HC HBad
                    clear HSU hb hB bRU
                    gi_wp2
                    refine ⟨trivial, ?_⟩
                    by_cases e1 : yi = pre.length
                    · subst e1
                      by_cases hr0 : r = 0
                      · subst hr0
                        clear HBad
                        gi_wp2_with (first | (refine ⟨trivial, ?_⟩; gi_at_call 15; refine (CallsIn.inRound l (callsIn_wide.2 (HC.out _))).mono ?_; rintro e U1 ⟨rfl, bU⟩; have kc1 := (bU.cell (p := ⟨V.heap.size, 0, none⟩) lU).trans hkc; have kf1 := (bU.frozen (p := ⟨V.heap.size, 0, none⟩) lU).trans hkf; have rc1 := (bU.cell (p := ⟨w.heap.size, 0, none⟩) lrU).trans rc; have rf1 := (bU.frozen (p := ⟨w.heap.size, 0, none⟩) lrU).trans rf))
                        have hbn : Boxed (U1.setCell ⟨V.heap.size, 0, none⟩ (.int .i64 ((pre.length : Int) + 1))) V.heap.size 3 (.int .i64 ((pre.length : Int) + 1)) := Boxed.set _ ((bU.block _ lU).trans Hb.out)
                        refine ⟨(KN.of_below bU).trans (KN.set _ _ _ _), ?_, (HB.out.trans (bU.mono HB.out.size)).setCell (p := ⟨V.heap.size, 0, none⟩) (Nat.le_refl _) _⟩
                        have el : (((pre ++ [(⟨(pre.length, ys), hy⟩ : NS)]).length : Nat) : Int) = (pre.length : Int) + 1 := by simp
                        rw [el]
                        exact hbn
                      · have hrb : (r != 0) = true := by simpa using hr0
                        have HNo := Hid.mk' (HBad.out (.inr hr0))
                        clear HBad
                        gi_wp2_with (first | (refine ⟨trivial, ?_⟩; gi_at_call 15; refine (CallsIn.inRound l (callsIn_wide.2 (HC.out _))).mono ?_; rintro e U1 ⟨rfl, bU⟩; have kc1 := (bU.cell (p := ⟨V.heap.size, 0, none⟩) lU).trans hkc; have kf1 := (bU.frozen (p := ⟨V.heap.size, 0, none⟩) lU).trans hkf; have rc1 := (bU.cell (p := ⟨w.heap.size, 0, none⟩) lrU).trans rc; have rf1 := (bU.frozen (p := ⟨w.heap.size, 0, none⟩) lrU).trans rf))
                        exact ⟨(KF.of_below bU).trans (kf_set _ _ (by omega)), HNo.out⟩
                    · have HNo := Hid.mk' (HBad.out (.inl e1))
                      clear HBad
                      have e1' : ¬ (yi : Int) = (pre.length : Int) := by omega
                      generalize (yi : Int) = zi at e1' ⊢
                      generalize (pre.length : Int) = pl at e1' hkc i7 ⊢
                      have n1 : (zi != pl) = true := by simpa using e1'
                      gi_wp2
                      refine ⟨trivial, ?_⟩
                      gi_wp2
                      exact ⟨kf_set _ _ (by omega), HNo.out⟩
                  case stop2 =>
                    rintro E2 cd pre U _ hSp hIx _
                    exact absurd hSp hIx
                  case done2 =>
                    rintro E2 ys U hE2 rfl ⟨hb, hB⟩ hK2
                    have hlen : ((prs kn HZK.out kn.length).map evN).length = kn.length := by rw [List.length_map, prs_length _ _ _ (Nat.le_refl _)]
                    rw [hlen] at hb
                    have hkc := hb.cell
                    have hbx := (HSV.out.below hB).box.cell
                    have bRU : Boxed U w.heap.size 4 (.bool false) := (hB.block _ bRV.lt).trans bRV
                    have rc := bRU.cell
                    have rf := bRU.frozen
                    have HRU := Hid.mk' bRU
                    have HKE := Hid.mk' ((hB.block E lE).trans hK)
                    have HK2 := Hid.mk' hK2
                    have HBU := Hid.mk' (BV.trans (hB.mono BV.size))
                    clear hlen hb hB bRU hK2
                    go_wp2
                    exact tab_ends rfl (HRU.out.set (.bool true)) (HBU.out.setCell (p := ⟨w.heap.size, 0, none⟩) (Nat.le_refl _) _) ((KeepsOthers.setCell U ⟨w.heap.size, 0, none⟩ (.bool true)).same E2 _ HK2.out rfl) ((KeepsOthers.setCell U ⟨w.heap.size, 0, none⟩ (.bool true)).same E _ HKE.out rfl) (by omega) (by omega)
              · obtain ⟨N, rfl⟩ : ∃ N : Nat, z = N := ⟨z.toNat, by omega⟩
                have hNl : N < kn.length := by omega
                have HNm := Hid.mk' (name_in N _ HS.out.tab hNl HZK.out)
                have HC := Hid.mk' (fun W => rcompare_wide (evenS kn[N]) kn[N] W (by rw [even_size']; have := HZK.out _ (List.getElem_mem hNl); omega) (HZK.out _ (List.getElem_mem hNl)))
                rw [(cmp_zero (evenS kn[N]) kn[N]).2 (even_even _)] at HC
                obtain ⟨gk, hgk⟩ := own_some HS.out.row (by omega)
                have HG := Hid.mk' hgk
                clear hgk
                have hckl : kn.length ≤ ck := by
                  rcases HS.out.row.2 with ⟨e, _⟩ | ⟨g', cap', cur', e, _, _, hcap, _⟩
                  · rw [HG.out] at e; simp at e
                  · rw [HG.out] at e; simp at e; omega
                go_wp2_with fail
                refine (HNm.out).mono ?_
                rintro e w4 ⟨rfl, b4⟩
                have HS4 := Hid.mk' (HS.out.below b4)
                have hbc4 := HS4.out.box.cell
                rw [HG.out] at hbc4
                have hr4 := HS4.out.row
                rw [HG.out] at hr4
                have hcN : w4.cell? ⟨gk, N, none⟩ = some (.string kn[N]) := own_cell hr4 (by simp [sC, hNl])
                clear hr4
                generalize evenS kn[N] = q at HC
                generalize kn[N] = u at HC hcN
                clear hbc HNm
                go_wp2_with fail
                refine (HC.out _).mono ?_
                rintro e w5 ⟨rfl, b45⟩
                have b5 : Below wr.heap.size wr w5 := b4.trans (b45.mono b4.size)
                have HS5 := Hid.mk' (HS.out.below b5)
                have hbc5 := HS5.out.box.cell
                clear HS4 hbc4 hcN b4 b45 HS HC HG
                go_wp2_with (go_at_call 20; refine (each_any _ _).mono ?_; rintro e w6 ⟨rfl, hw6⟩; rw [hw6]; clear hw6 w6)
                obtain ⟨W0, hW0⟩ : ∃ W0, w5.alloc (.cells #[.pointer (some ⟨g, 0, none⟩)] 34) = W0 := ⟨_, rfl⟩
                have b50 : Below w5.heap.size w5 W0 := by rw [← hW0]; exact (Below.refl _ _).alloc (Nat.le_refl _) _
                have bT : Boxed W0 w5.heap.size 34 (.pointer (some ⟨g, 0, none⟩)) := by rw [← hW0]; exact Boxed.new _ _ _
                rw [hW0]
                have bW : Below wr.heap.size wr W0 := b5.trans (b50.mono b5.size)
                have HSW := Hid.mk' (HS5.out.below b50)
                have bRW : Boxed W0 w.heap.size 4 (.bool false) := (bW.block w.heap.size bR4.lt).trans bR4
                have BW : Below w.heap.size w W0 := B4.trans (bW.mono B4.size)
                have sW : w.heap.size < W0.heap.size := bRW.lt
                have nRes : Hid (vt.ownBlock ≠ some w.heap.size) := Hid.mk' (fun e => by have := (HSW.out.tab.t.lt _ e).1; omega)
                clear hW0 b50 b5 bW bR4 B4 HS5 hbc5
                refine (wpIn_wide (n := 8)).1 ?_
                refine range_p (by omega) (gf := 38) (lb := #[.pointer (some ⟨w5.heap.size, 0, none⟩)]) rfl (enters_of Tryd.func38 (by kernel_rfl) rfl)
                  (each_tab (8 - 1) (by omega) w5.heap.size w.heap.size i3 HZK.out W0 HSW.out.tab bT sW nRes.out) sW (Below.refl _ _) (fun _ => rfl)
                  (fun _ V => Below W0.heap.size W0 V) (fun cd _ V => cd = .exit 6 ∧ Below W0.heap.size W0 V) (ownFrom_below (Nat.le_refl _) (Nat.le_refl _))
                  (fun cd s A C row hs hgr hr => ⟨hs.1, ownFrom_below (β := Unit) (Nat.le_refl _) (Nat.le_refl _) () A C row hs.2 hgr hr⟩) (Below.refl _ _) ?round1 ?done1 ?stop1
                case round1 =>
                  intro l pre y V Vb _ hIb _
                  gi_wp2
                  refine ⟨trivial, ?_⟩
                  gi_wp2
                  exact ⟨KF.refl _ _, rfl, hIb⟩
                case stop1 =>
                  rintro E cd pre V hE _ ⟨rfl, bV⟩ hK
                  refine wpIn_wide.2 ?_
                  have bTV : Boxed V w5.heap.size 34 (.pointer (some ⟨g, 0, none⟩)) := (bV.block _ bT.lt).trans bT
                  have HSV := Hid.mk' (HSW.out.below bV)
                  have bRV : Boxed V w.heap.size 4 (.bool false) := (bV.block _ sW).trans bRW
                  have BV : Below w.heap.size w V := BW.trans (bV.mono BW.size)
                  have lE : E < V.heap.size := (Array.getElem?_eq_some_iff.1 hK).1
                  clear HSW bRW BW bT bV
                  go_wp2
                  obtain ⟨Wk, hWk⟩ : ∃ Wk, V.alloc (.cells #[.int .i64 0] 3) = Wk := ⟨_, rfl⟩
                  have bk0 : Below V.heap.size V Wk := by rw [← hWk]; exact (Below.refl _ _).alloc (Nat.le_refl _) _
                  have bI : Boxed Wk V.heap.size 3 (.int .i64 0) := by rw [← hWk]; exact Boxed.new _ _ _
                  rw [hWk]
                  have lk : V.heap.size < Wk.heap.size := bI.lt
                  have nK : Hid (vt.ownBlock ≠ some V.heap.size) := Hid.mk' (fun e => by have := (HSV.out.tab.t.lt _ e).2; omega)
                  clear hWk
                  refine (wpIn_wide (n := 8)).1 ?_
                  refine range_p (by omega) (gf := 38) (lb := #[.pointer (some ⟨w5.heap.size, 0, none⟩)]) rfl (enters_of Tryd.func38 (by kernel_rfl) rfl)
                    (each_tab (8 - 1) (by omega) w5.heap.size V.heap.size i3 HZK.out Wk (HSV.out.tab.below bk0) ((bk0.block _ bTV.lt).trans bTV) lk nK.out) lk (Below.refl _ _) (fun _ => rfl)
                    (fun pre U => Boxed U V.heap.size 3 (.int .i64 (pre.length : Nat)) ∧ Below V.heap.size V U) (fun cd pre U => ¬ pre <+: (prs kn HZK.out kn.length).map evN)
                    (OwnFrom.and (Own.from (boxed_own _ _ (fun pre : List NS => .int .i64 (pre.length : Nat))) _) (ownFrom_below (Nat.le_refl _) (Nat.le_of_lt lk)))
                    (fun cd => ownFrom_pure _ (fun pre => ¬ pre <+: (prs kn HZK.out kn.length).map evN)) ⟨bI, bk0⟩ ?round2 ?done2 ?stop2
                  case round2 =>
                    rintro l pre y U Ub _ ⟨hb, hB⟩ hlen
                    have hkc := hb.cell
                    have hkf := hb.frozen
                    have HSU := Hid.mk' (HSV.out.below hB)
                    have hbx := HSU.out.box.cell
                    obtain ⟨gk, rfl⟩ := own_some HSU.out.row (by omega)
                    have hcj : Ub.cell? ⟨gk, pre.length, none⟩ = some (.string kn[pre.length]) := own_cell HSU.out.row (by simp [sC, hlen])
                    have hckl : kn.length ≤ ck := by
                      rcases HSU.out.row.2 with ⟨e, _⟩ | ⟨g', cap', cur', e, _, _, hcap, _⟩
                      · simp at e
                      · simp at e; omega
                    have HC := Hid.mk' (fun W => rcompare_wide y.1.2 kn[pre.length] W y.2 (HZK.out _ (List.getElem_mem hlen)))
                    have HBad : Hid ((y.1.1 ≠ pre.length ∨ cmpK y.1.2 kn[pre.length] 0 ≠ 0) → ¬ (pre ++ [y]) <+: (prs kn HZK.out kn.length).map evN) := Hid.mk' (fun h hp => by
                      obtain ⟨e1, e2⟩ := pre_next hlen hp
                      rcases h with h | h
                      · exact h e1
                      · exact h ((cmp_zero _ _).2 (by rw [e2, even_even])))
                    have bRU : Boxed Ub w.heap.size 4 (.bool false) := (hB.block _ bRV.lt).trans bRV
                    have rc := bRU.cell
                    have rf := bRU.frozen
                    have lU : V.heap.size < Ub.heap.size := hb.lt
                    have lr : w.heap.size < V.heap.size := bRV.lt
                    have lrU : w.heap.size < Ub.heap.size := by omega
                    have i7 : (pre.length : Int) < (kn.length : Int) := by omega
                    have HB := Hid.mk' hB
                    have Hb := Hid.mk' hb
                    generalize cmpK y.1.2 kn[pre.length] 0 = r at HC HBad
                    generalize kn[pre.length] = u at HC hcj
                    obtain ⟨⟨yi, ys⟩, hy⟩ := y
                    simp only [encS, List.zip_toArray, List.zip_cons_cons, List.zip_nil_right, List.size_toArray, List.length_cons, List.length_nil, List.foldl_toArray', List.foldl_cons, List.foldl_nil]
                    dsimp only at HC HBad
                    clear HSU hb hB bRU
                    gi_wp2
                    refine ⟨trivial, ?_⟩
                    by_cases e1 : yi = pre.length
                    · subst e1
                      by_cases hr0 : r = 0
                      · subst hr0
                        clear HBad
                        gi_wp2_with (first | (refine ⟨trivial, ?_⟩; gi_at_call 15; refine (CallsIn.inRound l (callsIn_wide.2 (HC.out _))).mono ?_; rintro e U1 ⟨rfl, bU⟩; have kc1 := (bU.cell (p := ⟨V.heap.size, 0, none⟩) lU).trans hkc; have kf1 := (bU.frozen (p := ⟨V.heap.size, 0, none⟩) lU).trans hkf; have rc1 := (bU.cell (p := ⟨w.heap.size, 0, none⟩) lrU).trans rc; have rf1 := (bU.frozen (p := ⟨w.heap.size, 0, none⟩) lrU).trans rf))
                        have hbn : Boxed (U1.setCell ⟨V.heap.size, 0, none⟩ (.int .i64 ((pre.length : Int) + 1))) V.heap.size 3 (.int .i64 ((pre.length : Int) + 1)) := Boxed.set _ ((bU.block _ lU).trans Hb.out)
                        refine ⟨(KN.of_below bU).trans (KN.set _ _ _ _), ?_, (HB.out.trans (bU.mono HB.out.size)).setCell (p := ⟨V.heap.size, 0, none⟩) (Nat.le_refl _) _⟩
                        have el : (((pre ++ [(⟨(pre.length, ys), hy⟩ : NS)]).length : Nat) : Int) = (pre.length : Int) + 1 := by simp
                        rw [el]
                        exact hbn
                      · have hrb : (r != 0) = true := by simpa using hr0
                        have HNo := Hid.mk' (HBad.out (.inr hr0))
                        clear HBad
                        gi_wp2_with (first | (refine ⟨trivial, ?_⟩; gi_at_call 15; refine (CallsIn.inRound l (callsIn_wide.2 (HC.out _))).mono ?_; rintro e U1 ⟨rfl, bU⟩; have kc1 := (bU.cell (p := ⟨V.heap.size, 0, none⟩) lU).trans hkc; have kf1 := (bU.frozen (p := ⟨V.heap.size, 0, none⟩) lU).trans hkf; have rc1 := (bU.cell (p := ⟨w.heap.size, 0, none⟩) lrU).trans rc; have rf1 := (bU.frozen (p := ⟨w.heap.size, 0, none⟩) lrU).trans rf))
                        exact ⟨(KF.of_below bU).trans (kf_set _ _ (by omega)), HNo.out⟩
                    · have HNo := Hid.mk' (HBad.out (.inl e1))
                      clear HBad
                      have e1' : ¬ (yi : Int) = (pre.length : Int) := by omega
                      generalize (yi : Int) = zi at e1' ⊢
                      generalize (pre.length : Int) = pl at e1' hkc i7 ⊢
                      have n1 : (zi != pl) = true := by simpa using e1'
                      gi_wp2
                      refine ⟨trivial, ?_⟩
                      gi_wp2
                      exact ⟨kf_set _ _ (by omega), HNo.out⟩
                  case stop2 =>
                    rintro E2 cd pre U _ hSp hIx _
                    exact absurd hSp hIx
                  case done2 =>
                    rintro E2 ys U hE2 rfl ⟨hb, hB⟩ hK2
                    have hlen : ((prs kn HZK.out kn.length).map evN).length = kn.length := by rw [List.length_map, prs_length _ _ _ (Nat.le_refl _)]
                    rw [hlen] at hb
                    have hkc := hb.cell
                    have hbx := (HSV.out.below hB).box.cell
                    have bRU : Boxed U w.heap.size 4 (.bool false) := (hB.block _ bRV.lt).trans bRV
                    have rc := bRU.cell
                    have rf := bRU.frozen
                    have HRU := Hid.mk' bRU
                    have HKE := Hid.mk' ((hB.block E lE).trans hK)
                    have HK2 := Hid.mk' hK2
                    have HBU := Hid.mk' (BV.trans (hB.mono BV.size))
                    clear hlen hb hB bRU hK2
                    go_wp2
                    exact tab_ends rfl (HRU.out.set (.bool true)) (HBU.out.setCell (p := ⟨w.heap.size, 0, none⟩) (Nat.le_refl _) _) ((KeepsOthers.setCell U ⟨w.heap.size, 0, none⟩ (.bool true)).same E2 _ HK2.out rfl) ((KeepsOthers.setCell U ⟨w.heap.size, 0, none⟩ (.bool true)).same E _ HKE.out rfl) (by omega) (by omega)
                case done1 =>
                  intro E ys V hE _ bV hK
                  have bTV : Boxed V w5.heap.size 34 (.pointer (some ⟨g, 0, none⟩)) := (bV.block _ bT.lt).trans bT
                  have HSV := Hid.mk' (HSW.out.below bV)
                  have bRV : Boxed V w.heap.size 4 (.bool false) := (bV.block _ sW).trans bRW
                  have BV : Below w.heap.size w V := BW.trans (bV.mono BW.size)
                  have lE : E < V.heap.size := (Array.getElem?_eq_some_iff.1 hK).1
                  clear HSW bRW BW bT bV
                  go_wp2
                  obtain ⟨Wk, hWk⟩ : ∃ Wk, V.alloc (.cells #[.int .i64 0] 3) = Wk := ⟨_, rfl⟩
                  have bk0 : Below V.heap.size V Wk := by rw [← hWk]; exact (Below.refl _ _).alloc (Nat.le_refl _) _
                  have bI : Boxed Wk V.heap.size 3 (.int .i64 0) := by rw [← hWk]; exact Boxed.new _ _ _
                  rw [hWk]
                  have lk : V.heap.size < Wk.heap.size := bI.lt
                  have nK : Hid (vt.ownBlock ≠ some V.heap.size) := Hid.mk' (fun e => by have := (HSV.out.tab.t.lt _ e).2; omega)
                  clear hWk
                  refine (wpIn_wide (n := 8)).1 ?_
                  refine range_p (by omega) (gf := 38) (lb := #[.pointer (some ⟨w5.heap.size, 0, none⟩)]) rfl (enters_of Tryd.func38 (by kernel_rfl) rfl)
                    (each_tab (8 - 1) (by omega) w5.heap.size V.heap.size i3 HZK.out Wk (HSV.out.tab.below bk0) ((bk0.block _ bTV.lt).trans bTV) lk nK.out) lk (Below.refl _ _) (fun _ => rfl)
                    (fun pre U => Boxed U V.heap.size 3 (.int .i64 (pre.length : Nat)) ∧ Below V.heap.size V U) (fun cd pre U => ¬ pre <+: (prs kn HZK.out kn.length).map evN)
                    (OwnFrom.and (Own.from (boxed_own _ _ (fun pre : List NS => .int .i64 (pre.length : Nat))) _) (ownFrom_below (Nat.le_refl _) (Nat.le_of_lt lk)))
                    (fun cd => ownFrom_pure _ (fun pre => ¬ pre <+: (prs kn HZK.out kn.length).map evN)) ⟨bI, bk0⟩ ?round2 ?done2 ?stop2
                  case round2 =>
                    rintro l pre y U Ub _ ⟨hb, hB⟩ hlen
                    have hkc := hb.cell
                    have hkf := hb.frozen
                    have HSU := Hid.mk' (HSV.out.below hB)
                    have hbx := HSU.out.box.cell
                    obtain ⟨gk, rfl⟩ := own_some HSU.out.row (by omega)
                    have hcj : Ub.cell? ⟨gk, pre.length, none⟩ = some (.string kn[pre.length]) := own_cell HSU.out.row (by simp [sC, hlen])
                    have hckl : kn.length ≤ ck := by
                      rcases HSU.out.row.2 with ⟨e, _⟩ | ⟨g', cap', cur', e, _, _, hcap, _⟩
                      · simp at e
                      · simp at e; omega
                    have HC := Hid.mk' (fun W => rcompare_wide y.1.2 kn[pre.length] W y.2 (HZK.out _ (List.getElem_mem hlen)))
                    have HBad : Hid ((y.1.1 ≠ pre.length ∨ cmpK y.1.2 kn[pre.length] 0 ≠ 0) → ¬ (pre ++ [y]) <+: (prs kn HZK.out kn.length).map evN) := Hid.mk' (fun h hp => by
                      obtain ⟨e1, e2⟩ := pre_next hlen hp
                      rcases h with h | h
                      · exact h e1
                      · exact h ((cmp_zero _ _).2 (by rw [e2, even_even])))
                    have bRU : Boxed Ub w.heap.size 4 (.bool false) := (hB.block _ bRV.lt).trans bRV
                    have rc := bRU.cell
                    have rf := bRU.frozen
                    have lU : V.heap.size < Ub.heap.size := hb.lt
                    have lr : w.heap.size < V.heap.size := bRV.lt
                    have lrU : w.heap.size < Ub.heap.size := by omega
                    have i7 : (pre.length : Int) < (kn.length : Int) := by omega
                    have HB := Hid.mk' hB
                    have Hb := Hid.mk' hb
                    generalize cmpK y.1.2 kn[pre.length] 0 = r at HC HBad
                    generalize kn[pre.length] = u at HC hcj
                    obtain ⟨⟨yi, ys⟩, hy⟩ := y
                    simp only [encS, List.zip_toArray, List.zip_cons_cons, List.zip_nil_right, List.size_toArray, List.length_cons, List.length_nil, List.foldl_toArray', List.foldl_cons, List.foldl_nil]
                    dsimp only at HC HBad
                    clear HSU hb hB bRU
                    gi_wp2
                    refine ⟨trivial, ?_⟩
                    by_cases e1 : yi = pre.length
                    · subst e1
                      by_cases hr0 : r = 0
                      · subst hr0
                        clear HBad
                        gi_wp2_with (first | (refine ⟨trivial, ?_⟩; gi_at_call 15; refine (CallsIn.inRound l (callsIn_wide.2 (HC.out _))).mono ?_; rintro e U1 ⟨rfl, bU⟩; have kc1 := (bU.cell (p := ⟨V.heap.size, 0, none⟩) lU).trans hkc; have kf1 := (bU.frozen (p := ⟨V.heap.size, 0, none⟩) lU).trans hkf; have rc1 := (bU.cell (p := ⟨w.heap.size, 0, none⟩) lrU).trans rc; have rf1 := (bU.frozen (p := ⟨w.heap.size, 0, none⟩) lrU).trans rf))
                        have hbn : Boxed (U1.setCell ⟨V.heap.size, 0, none⟩ (.int .i64 ((pre.length : Int) + 1))) V.heap.size 3 (.int .i64 ((pre.length : Int) + 1)) := Boxed.set _ ((bU.block _ lU).trans Hb.out)
                        refine ⟨(KN.of_below bU).trans (KN.set _ _ _ _), ?_, (HB.out.trans (bU.mono HB.out.size)).setCell (p := ⟨V.heap.size, 0, none⟩) (Nat.le_refl _) _⟩
                        have el : (((pre ++ [(⟨(pre.length, ys), hy⟩ : NS)]).length : Nat) : Int) = (pre.length : Int) + 1 := by simp
                        rw [el]
                        exact hbn
                      · have hrb : (r != 0) = true := by simpa using hr0
                        have HNo := Hid.mk' (HBad.out (.inr hr0))
                        clear HBad
                        gi_wp2_with (first | (refine ⟨trivial, ?_⟩; gi_at_call 15; refine (CallsIn.inRound l (callsIn_wide.2 (HC.out _))).mono ?_; rintro e U1 ⟨rfl, bU⟩; have kc1 := (bU.cell (p := ⟨V.heap.size, 0, none⟩) lU).trans hkc; have kf1 := (bU.frozen (p := ⟨V.heap.size, 0, none⟩) lU).trans hkf; have rc1 := (bU.cell (p := ⟨w.heap.size, 0, none⟩) lrU).trans rc; have rf1 := (bU.frozen (p := ⟨w.heap.size, 0, none⟩) lrU).trans rf))
                        exact ⟨(KF.of_below bU).trans (kf_set _ _ (by omega)), HNo.out⟩
                    · have HNo := Hid.mk' (HBad.out (.inl e1))
                      clear HBad
                      have e1' : ¬ (yi : Int) = (pre.length : Int) := by omega
                      generalize (yi : Int) = zi at e1' ⊢
                      generalize (pre.length : Int) = pl at e1' hkc i7 ⊢
                      have n1 : (zi != pl) = true := by simpa using e1'
                      gi_wp2
                      refine ⟨trivial, ?_⟩
                      gi_wp2
                      exact ⟨kf_set _ _ (by omega), HNo.out⟩
                  case stop2 =>
                    rintro E2 cd pre U _ hSp hIx _
                    exact absurd hSp hIx
                  case done2 =>
                    rintro E2 ys U hE2 rfl ⟨hb, hB⟩ hK2
                    have hlen : ((prs kn HZK.out kn.length).map evN).length = kn.length := by rw [List.length_map, prs_length _ _ _ (Nat.le_refl _)]
                    rw [hlen] at hb
                    have hkc := hb.cell
                    have hbx := (HSV.out.below hB).box.cell
                    have bRU : Boxed U w.heap.size 4 (.bool false) := (hB.block _ bRV.lt).trans bRV
                    have rc := bRU.cell
                    have rf := bRU.frozen
                    have HRU := Hid.mk' bRU
                    have HKE := Hid.mk' ((hB.block E lE).trans hK)
                    have HK2 := Hid.mk' hK2
                    have HBU := Hid.mk' (BV.trans (hB.mono BV.size))
                    clear hlen hb hB bRU hK2
                    go_wp2
                    exact tab_ends rfl (HRU.out.set (.bool true)) (HBU.out.setCell (p := ⟨w.heap.size, 0, none⟩) (Nat.le_refl _) _) ((KeepsOthers.setCell U ⟨w.heap.size, 0, none⟩ (.bool true)).same E2 _ HK2.out rfl) ((KeepsOthers.setCell U ⟨w.heap.size, 0, none⟩ (.bool true)).same E _ HKE.out rfl) (by omega) (by omega)

end Go.Proofs.YthomeimnhipilaaDoor
