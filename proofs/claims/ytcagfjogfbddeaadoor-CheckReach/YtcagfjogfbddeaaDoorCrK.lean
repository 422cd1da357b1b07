/- The document's check: which instructions can come to run. -/
import Derived.Test.YtcagfjogfbddeaaDoorCrJ
import Derived.Deep.DeepCutAuto
import Derived.Deep.LoopGhost
import Derived.WalkMore
import Derived.Laws.MakeOwn
namespace Go.Proofs.YtcagfjogfbddeaaDoor
set_option linter.unusedVariables false
set_option linter.unusedSimpArgs false
open Go.RowKit Go.Shelf

theorem infoBool : (Tryd.prog.info? 4).map (fun i => (i.zero, i.size, i.bytes)) = some (some (.bool false), 1, 1) := by kernel_rfl
theorem infoSl : (Tryd.prog.info? 36).map (fun i => (i.zero, i.size, i.bytes)) = some (some (.slice none 0 0), 1, 24) := by kernel_rfl
/-- A row that is made. -/
theorem made_row {t e : TypeId} {z : Value} {bytes n : Nat} (ht : Tryd.prog.underlying t = some (.slice e)) (hi : (Tryd.prog.info? e).map (fun i => (i.zero, i.size, i.bytes)) = some (some z, 1, bytes)) (hz : z.cells = #[z]) (hb : (bytes : Int) * (n : Int) ≤ 281474976710656) (hn : n < 100000000000000) (W : World) :
    ∃ A, (Instr.makeSlice t (.int .i64 (n : Int)) (.int .i64 (n : Int))).run Tryd.prog W = .ok (.slice (some ⟨W.heap.size, 0, none⟩) n n) (W.alloc (.cells A e)) ∧ RowF (W.alloc (.cells A e)) W.heap.size e n (fun _ => z) := by
  obtain ⟨i0, hif, hz0, hz1, hz2⟩ := info_parts hi
  have hr := run_make (P := Tryd.prog) W t e i0 z ht hif hz0 .i64 .i64 (n : Int) (n : Int) (by omega) (by omega) (by rw [hz2]; exact hb) (by omega)
  simp only [Int.toNat_natCast, hz1, Nat.mul_one] at hr
  refine ⟨_, hr, _, World.alloc_heap_new W _, size_madeCells _ _, fun i hi => ?_⟩
  unfold madeCells
  rw [hz]
  simp [hi, Nat.mod_one]
theorem pass_less {a b x : Nat} {m : Bool} (h1 : x = 2 * a + (if true = true then 1 else 0)) (c : b ≤ a) (m1 : m = true → b < a) : 2 * b + (if m = true then 1 else 0) < x := by
  rw [h1, if_pos rfl]
  cases m with
  | false => rw [if_neg (by simp)]; omega
  | true => have := m1 rfl; rw [if_pos rfl]; omega
set_option maxHeartbeats 8000000 in
set_option maxRecDepth 100000 in
theorem rreach_any (q : FW) (w : World) (hrd : q.rd w) :
    Calls Tryd.prog 7 #[.agg q.cs.toArray] w fun e w' => ∃ (br : Nat) (R : Nat → Bool), e = .returned (.slice (some ⟨br, 0, none⟩) q.f.code.length q.f.code.length) ∧ RowF w' br 4 q.f.code.length (fun i => .bool (R i)) ∧ (∀ i, i < q.f.code.length → (R i = true ↔ Rch q.f i)) ∧ Below w.heap.size w w' := by
  obtain ⟨i0, hif, hz0, hz1, hz2⟩ := info_parts infoInt
  have hr := hrd.i
  have htr := hrd.t
  have hile := hr.le
  have hicl : q.yc * (5 * 8) ≤ 140737488351232 := hr.cle
  have htle := htr.le
  have htcl : q.zc * (4 * 8) ≤ 140737488351232 := htr.cle
  have HRD := Hid.mk' hr
  have HRT := Hid.mk' htr
  obtain ⟨f, hf⟩ : ∃ f, q.f = f := ⟨_, rfl⟩
  obtain ⟨n, hn⟩ : ∃ n, q.f.code.length = n := ⟨_, rfl⟩
  have HN : Hid (f.code.length = n) := Hid.mk' (by rw [← hf]; exact hn)
  rw [hn] at hile
  rw [hn]
  simp only [hf]
  rw [hf] at HRD HRT htle
  obtain ⟨⟨f1, f2, f3, f4, f5, cs, is, ts, us⟩, xa, xc, ya, yc, za, zc, ua, uc⟩ := q
  simp only [FW.cs]
  dsimp only at hile hicl htle htcl HRD HRT hn hf
  obtain ⟨m1, hm1⟩ : ∃ m, cs.length = m := ⟨_, rfl⟩
  obtain ⟨m3, hm3⟩ : ∃ m, ts.length = m := ⟨_, rfl⟩
  obtain ⟨m4, hm4⟩ : ∃ m, us.length = m := ⟨_, rfl⟩
  have hft : f.tries.length = m3 := by rw [← hf]; exact hm3
  have HFT := Hid.mk' hft
  rw [hft] at htle
  rw [hn, hm1, hm3, hm4]
  obtain ⟨W1, hW1⟩ : ∃ W1, w.alloc (.cells #[.string f1, .int .i64 f2, .bool f3, .bool f4, .int .i64 f5, .slice xa m1 xc, .slice ya n yc, .slice za m3 zc, .slice ua m4 uc] 28) = W1 := ⟨_, rfl⟩
  have b1 : Below w.heap.size w W1 := by rw [← hW1]; exact lay_below
  have q1 : W1.heap[w.heap.size]? = some (.cells #[.string f1, .int .i64 f2, .bool f3, .bool f4, .int .i64 f5, .slice xa m1 xc, .slice ya n yc, .slice za m3 zc, .slice ua m4 uc] 28 (0, 0)) := by rw [← hW1]; exact box_new
  have HR1 := Hid.mk' (HRD.out.below b1)
  have HT1 := Hid.mk' (HRT.out.below b1)
  obtain ⟨b0, hb0⟩ : ∃ b0, w.heap.size = b0 := ⟨_, rfl⟩
  rw [hb0] at q1
  have hb1 : b0 < W1.heap.size := (Array.getElem?_eq_some_iff.1 q1).1
  have HCF : Hid (∀ W, Below W1.heap.size W1 W → W.cell? ⟨b0, 6, none⟩ = some (.slice ya n yc) ∧ W.cell? ⟨b0, 7, none⟩ = some (.slice za m3 zc)) := Hid.mk' (fun W hW => ⟨(hW.cell (p := ⟨b0, 6, none⟩) hb1).trans ((cell_row _ _ 6 _ _ q1).trans rfl), (hW.cell (p := ⟨b0, 7, none⟩) hb1).trans ((cell_row _ _ 7 _ _ q1).trans rfl)⟩)
  obtain ⟨a6, _⟩ := HCF.out W1 (Below.refl _ _)
  have HB1 := Hid.mk' b1
  have HEN := Hid.mk' ends_any
  have HNB : Hid ((n : Int) < 3600000000000) := Hid.mk' (by omega)
  have HMB : Hid ((m3 : Int) < 4400000000000) := Hid.mk' (by omega)
  obtain ⟨A, hmk, hrow⟩ := made_row (t := 34) (e := 4) (n := n) Tryd.underlying34 infoBool rfl (by omega) (by omega) W1
  obtain ⟨br, hbr⟩ : ∃ br, W1.heap.size = br := ⟨_, rfl⟩
  have HBR := Hid.mk' hbr
  obtain ⟨W2, hW2⟩ : ∃ W2, W1.alloc (.cells A 4) = W2 := ⟨_, rfl⟩
  have b2 : Below W1.heap.size W1 W2 := by rw [← hW2]; exact lay_below
  rw [hW2] at hmk hrow
  rw [hbr] at hmk hrow
  have HB2 := Hid.mk' b2
  have HRW := Hid.mk' hrow
  clear hbr hrd hr htr b1 q1 hb1 b2 hrow hm1 hm3 hm4 hft hile hicl htle htcl hn hf
  by_cases h0 : n = 0
  · have hn0 : ((n : Int) == 0) = true := by simp [h0]
    have H0 := Hid.mk' h0
    clear h0
    go_enter Tryd.func7, Tryd.ntmps7
    go_wp2
    go_ret
    exact ⟨br, fun _ => false, rfl, HRW.out, (fun i hi => by have := H0.out; omega), HB1.out.trans (HB2.out.mono HB1.out.size)⟩
  have HN0 := Hid.mk' (Nat.pos_of_ne_zero h0)
  have hn0 : ((n : Int) == 0) = false := by simp [h0]
  have hn1 : (0 : Int) < (n : Int) := by omega
  have z0 := HRW.out.thaw 0
  have y0 := HRW.out.cell HN0.out
  have HR2 : Hid (RowF (W2.setCell ⟨br, 0, none⟩ (.bool true)) br 4 n (fun i => .bool (upd (fun _ => false) 0 i)) ∧ Below W1.heap.size W1 (W2.setCell ⟨br, 0, none⟩ (.bool true))) := Hid.mk' ⟨(HRW.out.set 0 (.bool true)).cong (fun i _ => by unfold upd; split <;> rfl), HB2.out.setCell (Nat.le_of_eq HBR.out) _⟩
  clear h0
  go_enter Tryd.func7, Tryd.ntmps7
  go_wp2_with fail
  clear a6 z0 y0 hn0 hn1 hmk
  go_loopg [4] (2 * cnt n (upd (fun _ => false) 0) + 1) (fun gh v4 wr => ∃ (m : Bool) (R0 R : Nat → Bool), v4 = .bool m ∧ gh = 2 * cnt n R + (if m then 1 else 0) ∧ Hid (RowF wr br 4 n (fun i => .bool (R i)) ∧ Below W1.heap.size W1 wr ∧ (∀ i, i < n → R i = true → Rch f i) ∧ R 0 = true ∧ (m = false → Ps f n n R0 m R)))
  case atStart => exact ⟨true, fun _ => false, upd (fun _ => false) 0, rfl, rfl, Hid.mk' ⟨HR2.out.1, HR2.out.2, (fun i hi h => by
    unfold upd at h
    split at h
    · rename_i e; subst e; exact .zero (by rw [HN.out]; exact hi)
    · cases h), rfl, (fun e => by cases e)⟩⟩
  case round =>
    obtain ⟨m, R0, R, rfl, hg, HW⟩ := hrel
    have HG := Hid.mk' hg
    clear hg
    cases m with
    | false =>
      have HP := Hid.mk' (HW.out.2.2.2.2 rfl)
      go_wp2
      (try rw [Exit.noGoto_ret])
      go_ret
      exact ⟨br, rfl, R, HW.out.1, closed_all HN.out.symm (fun _ => HW.out.2.2.2.1) HW.out.2.2.1 (fun i hi hr => HP.out.m0 rfl i hi hi hr), by have h := HB1.out.trans (HW.out.2.1.mono HB1.out.size); first | exact h | (rw [← hb0]; exact h)⟩
    | true =>
      obtain ⟨a6, a7⟩ := HCF.out wr HW.out.2.1
      have HP0 : Hid (Ps f n 0 R false R) := Hid.mk' ⟨HW.out.2.2.2.1, HW.out.2.2.1, Nat.le_refl _, (fun e => by cases e), (fun _ i hi => by omega)⟩
      go_wp2_with fail
      clear a6 a7
      go_loopw [4, 26] (fun v4 v26 wr => ∃ (j : Nat) (m : Bool) (R' : Nat → Bool), v4 = .bool m ∧ v26 = .int .i64 (j : Int) ∧ j ≤ n ∧ Hid (RowF wr br 4 n (fun i => .bool (R' i)) ∧ Below W1.heap.size W1 wr ∧ Ps f n j R m R')) (fun v4 v26 wr => n - (intOf v26).toNat)
      case atStart => exact ⟨0, false, R, rfl, rfl, Nat.zero_le _, Hid.mk' ⟨HW.out.1, HW.out.2.1, HP0.out⟩⟩
      case round =>
        obtain ⟨j, m, R', rfl, rfl, hj, HQ⟩ := hrel
        by_cases hjt : j < n
        · have hjl : j < f.code.length := by rw [HN.out]; exact hjt
          have hia : insAt f j = f.code[j] := by simp [insAt, List.getD_eq_getElem?_getD, List.getElem?_eq_getElem hjl]
          obtain ⟨g, o, rfl, hg, hc⟩ := (HR1.out.below HQ.out.2.1).at j hjl
          rw [← hia] at hc
          obtain ⟨ii, hii⟩ : ∃ ii, insAt f j = ii := ⟨_, rfl⟩
          have HII := Hid.mk' hii
          rw [hii] at hc
          obtain ⟨op, ia, ib, ic, id⟩ := ii
          have d0 := hc 0 (.int .i64 op) (by omega) rfl
          have d1 := hc 1 (.int .i64 ia) (by omega) rfl
          have d2 := hc 2 (.int .i64 ib) (by omega) rfl
          have d3 := hc 3 (.int .i64 ic) (by omega) rfl
          have d4 := hc 4 (.int .i64 id) (by omega) rfl
          simp only [Nat.add_zero] at d0
          have j1 : (j : Int) < (n : Int) := by omega
          have j2 : (j : Int) < 3600000000000 := by have := HNB.out; omega
          obtain ⟨W3, hW3⟩ : ∃ W3, wr.alloc (.cells #[.int .i64 op, .int .i64 ia, .int .i64 ib, .int .i64 ic, .int .i64 id] 44) = W3 := ⟨_, rfl⟩
          have b3 : Below wr.heap.size wr W3 := by rw [← hW3]; exact lay_below
          have q3 : W3.heap[wr.heap.size]? = some (.cells #[.int .i64 op, .int .i64 ia, .int .i64 ib, .int .i64 ic, .int .i64 id] 44 (0, 0)) := by rw [← hW3]; exact box_new
          obtain ⟨x6, hx6⟩ : ∃ x, wr.heap.size = x := ⟨_, rfl⟩
          rw [hx6] at q3
          have HRS : Hid (Rs W1 W3 br x6 n #[.int .i64 op, .int .i64 ia, .int .i64 ib, .int .i64 ic, .int .i64 id] R' (.slice none 0 0) []) := Hid.mk' ⟨HQ.out.2.1.trans (b3.mono HQ.out.2.1.size), HQ.out.1.keep (b3.block _ HQ.out.1.lt), q3, World.ownsRow_nil _ _ _ _, Nat.le_of_eq HBR.out⟩
          have yj := HRS.out.r.cell hjt
          obtain ⟨rj, hrj⟩ : ∃ rj, R' j = rj := ⟨_, rfl⟩
          simp only [hrj] at yj
          have HRJ := Hid.mk' hrj
          have HJT := Hid.mk' hjt
          clear hjl hia hg hc hii b3 q3 hrj hj hjt
          cases rj with
          | false =>
            have HPS := Hid.mk' (HQ.out.2.2.skip HRJ.out)
            go_wp2
            exact ⟨⟨j + 1, m, R', rfl, by go_num, HJT.out, Hid.mk' ⟨HRS.out.r, HRS.out.bl, HPS.out⟩⟩, meas_up' n j HJT.out⟩
          | true =>
            have HEO := Hid.mk' (fun W => ends_any W op)
            have E0 : W3.cell? ⟨x6, 0, none⟩ = some (.int .i64 op) := (cell_row _ _ 0 _ _ HRS.out.ix).trans rfl
            obtain ⟨lb, hlb⟩ : ∃ lb, leaB op = lb := ⟨_, rfl⟩
            rw [hlb] at HEO
            have HLB := Hid.mk' hlb
            clear hlb
            go_upto_if 39 with (go_at_call 16; refine (HEO.out _).mono ?_; rintro e w5 ⟨rfl, hw5⟩; rw [hw5]; clear hw5 w5)
            clear d0 d1 d2 d3 d4 E0 yj hW3 hx6
            go_cut [7, 26] from 26 to 100 (fun v7 v26 wc => v26 = .int .i64 (j : Int) ∧ Hid (Rs W1 wc br x6 n #[.int .i64 op, .int .i64 ia, .int .i64 ib, .int .i64 ic, .int .i64 id] R' v7 (if leaB op then [] else [(j : Int) + 1])))
            case first =>
              clear j1
              cases lb with
              | true =>
                clear j2
                simp only [Bool.not_true]
                go_wp2_with fail
                go_meet
                exact ⟨rfl, by rw [HLB.out, if_pos rfl]; exact HRS⟩
              | false =>
                simp only [Bool.not_false]
                have HLL : Hid ((0 : Nat) ≤ 5) := Hid.mk' (by omega)
                obtain ⟨WX, hWX⟩ : ∃ WX, W3.alloc (.cells #[.int .i64 ((j : Int) + 1)] 3) = WX := ⟨_, rfl⟩
                have bX : Below W3.heap.size W3 WX := by rw [← hWX]; exact lay_below
                have HCX : Hid (∀ (jj : Nat) (u : Value), ([.int .i64 ((j : Int) + 1)] : List Value)[jj]? = some u → WX.cell? (Addr.add ⟨W3.heap.size, 0, none⟩ jj) = some u) := Hid.mk' (by rw [← hWX]; exact cells_new _ _ _)
                have HOX : Hid (WX.ownsRow W1.heap.size 3 1 (.slice none 0 0) 0 []) := Hid.mk' (World.ownsRow_nil _ _ _ _)
                have HBX := Hid.mk' bX
                have HSX : Hid (W1.heap.size ≤ WX.heap.size) := Hid.mk' ((HRS.out.below bX).bl.size)
                obtain ⟨bq, hbq⟩ : ∃ b, W3.heap.size = b := ⟨_, rfl⟩
                rw [hbq] at HCX
                clear bX
                go_wp2_with (at_builtin; refine wpList_append_own_at _ rfl _ _ 36 rfl W1.heap.size 3 i0 (.int .i64 0) 1 8 Tryd.underlying36 hif hz0 hz1 hz2 rfl (by decide) _ _ _ rfl HOX.out ⟨bq, 0, none⟩ 1 1 [.int .i64 ((j : Int) + 1)] rfl rfl HCX.out ?c2 (by have := HLL.out; unfold maxLen; omega) (by have := HLL.out; omega) HSX.out ?_)
                case c2 => first | rfl | (intro u hu; rw [List.mem_singleton.1 hu]; rfl)
                intro v' w5 ho5 hg5 _ hl5
                have HR5 := Hid.mk' (HRS.out.app HBX.out ho5 hg5)
                obtain ⟨y5, c5, hv5, _⟩ := own_slice' ho5
                subst hv5
                clear ho5 hg5 hl5
                go_wp2_with fail
                go_meet
                exact ⟨rfl, by rw [HLB.out, if_neg (by simp)]; exact HR5⟩
            case rest =>
              obtain ⟨rfl, HRA⟩ := hcut
              obtain ⟨LA, hLA⟩ : ∃ LA, (if leaB op then [] else [(j : Int) + 1]) = LA := ⟨_, rfl⟩
              rw [hLA] at HRA
              have HLA := Hid.mk' hLA
              have HLL0 : Hid (LA.length ≤ 1) := Hid.mk' (by rw [← hLA]; split <;> simp)
              clear hLA
              obtain ⟨la, hla⟩ : ∃ la, LA.length = la := ⟨_, rfl⟩
              have HLL : Hid (la ≤ 1) := Hid.mk' (by rw [← hla]; exact HLL0.out)
              have HLAL := Hid.mk' hla
              obtain ⟨ya7, yc7, hv7, _⟩ := own_slice' HRA.out.own
              rw [hla] at hv7
              subst hv7
              clear hla
              have E0 : wc.cell? ⟨x6, 0, none⟩ = some (.int .i64 op) := (cell_row _ _ 0 _ _ HRA.out.ix).trans rfl
              have E1 : wc.cell? ⟨x6, 1, none⟩ = some (.int .i64 ia) := (cell_row _ _ 1 _ _ HRA.out.ix).trans rfl
              have E2 : wc.cell? ⟨x6, 2, none⟩ = some (.int .i64 ib) := (cell_row _ _ 2 _ _ HRA.out.ix).trans rfl
              have E3 : wc.cell? ⟨x6, 3, none⟩ = some (.int .i64 ic) := (cell_row _ _ 3 _ _ HRA.out.ix).trans rfl
              have E4 : wc.cell? ⟨x6, 4, none⟩ = some (.int .i64 id) := (cell_row _ _ 4 _ _ HRA.out.ix).trans rfl
              have HHA := Hid.mk' (has_any op ia ib ic id wc)
              obtain ⟨TB, hTB⟩ : ∃ TB, decide (tgK op < (letz op).length) = TB := ⟨_, rfl⟩
              rw [hTB] at HHA
              obtain ⟨TL, hTL⟩ : ∃ TL, (match tgO ⟨op, ia, ib, ic, id⟩ with | some z => [z] | none => []) = TL := ⟨_, rfl⟩
              have HTL := Hid.mk' hTL
              have HTB := Hid.mk' hTB
              clear hTB hTL
              go_upto_if 46 with (go_at_call 17; refine HHA.out.mono ?_; rintro e w8 ⟨rfl, b8⟩; have HR8 := Hid.mk' (HRA.out.below b8); clear b8)
              clear E0 E1 E2 E3 E4
              go_cut [7, 26] from 26 to 100 (fun v7 v26 wc => v26 = .int .i64 (j : Int) ∧ Hid (Rs W1 wc br x6 n #[.int .i64 op, .int .i64 ia, .int .i64 ib, .int .i64 ic, .int .i64 id] R' v7 (LA ++ TL)))
              case first =>
                clear j1 j2
                cases TB with
                | false =>
                  have HT0 : Hid (TL = []) := Hid.mk' (by rw [← HTL.out]; unfold tgO; dsimp only; rw [if_neg (of_decide_eq_false HTB.out)])
                  go_wp2_with fail
                  go_meet
                  exact ⟨rfl, by rw [HT0.out, List.append_nil]; exact HR8⟩
                | true =>
                  obtain ⟨tv, htv⟩ : ∃ tv, opx ⟨op, ia, ib, ic, id⟩ (tgK op) = tv := ⟨_, rfl⟩
                  have HT0 : Hid (TL = [tv]) := Hid.mk' (by rw [← HTL.out, ← htv]; unfold tgO; dsimp only; rw [if_pos (of_decide_eq_true HTB.out)])
                  have HTA := Hid.mk' (rtarget_any op ia ib ic id w8)
                  have etv : (tgO ⟨op, ia, ib, ic, id⟩).getD (-1) = tv := by rw [← htv]; unfold tgO; dsimp only; rw [if_pos (of_decide_eq_true HTB.out)]; rfl
                  rw [etv] at HTA
                  clear etv htv
                  have E0 : w8.cell? ⟨x6, 0, none⟩ = some (.int .i64 op) := (cell_row _ _ 0 _ _ HR8.out.ix).trans rfl
                  have E1 : w8.cell? ⟨x6, 1, none⟩ = some (.int .i64 ia) := (cell_row _ _ 1 _ _ HR8.out.ix).trans rfl
                  have E2 : w8.cell? ⟨x6, 2, none⟩ = some (.int .i64 ib) := (cell_row _ _ 2 _ _ HR8.out.ix).trans rfl
                  have E3 : w8.cell? ⟨x6, 3, none⟩ = some (.int .i64 ic) := (cell_row _ _ 3 _ _ HR8.out.ix).trans rfl
                  have E4 : w8.cell? ⟨x6, 4, none⟩ = some (.int .i64 id) := (cell_row _ _ 4 _ _ HR8.out.ix).trans rfl
                  go_wp2_with fail
                  refine HTA.out.mono ?_
                  rintro e w9 ⟨rfl, b9⟩
                  have HR9 := Hid.mk' (HR8.out.below b9)
                  clear b9 E0 E1 E2 E3 E4
                  obtain ⟨WX, hWX⟩ : ∃ WX, w9.alloc (.cells #[.int .i64 tv] 3) = WX := ⟨_, rfl⟩
                  have bX : Below w9.heap.size w9 WX := by rw [← hWX]; exact lay_below
                  have HCX : Hid (∀ (jj : Nat) (u : Value), ([.int .i64 tv] : List Value)[jj]? = some u → WX.cell? (Addr.add ⟨w9.heap.size, 0, none⟩ jj) = some u) := Hid.mk' (by rw [← hWX]; exact cells_new _ _ _)
                  have HOX : Hid (WX.ownsRow W1.heap.size 3 1 (.slice ya7 la yc7) la (zs LA)) := Hid.mk' (by have h := (HR9.out.below bX).own; rwa [HLAL.out] at h)
                  have HBX := Hid.mk' bX
                  have HSX : Hid (W1.heap.size ≤ WX.heap.size) := Hid.mk' ((HR9.out.below bX).bl.size)
                  obtain ⟨bq, hbq⟩ : ∃ b, w9.heap.size = b := ⟨_, rfl⟩
                  rw [hbq] at HCX
                  clear bX
                  go_wp2_with (at_builtin; refine wpList_append_own_at _ rfl _ _ 36 rfl W1.heap.size 3 i0 (.int .i64 0) 1 8 Tryd.underlying36 hif hz0 hz1 hz2 rfl (by decide) _ _ _ rfl HOX.out ⟨bq, 0, none⟩ 1 1 [.int .i64 tv] rfl rfl HCX.out ?c2 (by have := HLL.out; unfold maxLen; omega) (by have := HLL.out; omega) HSX.out ?_)
                  case c2 => first | rfl | (intro u hu; rw [List.mem_singleton.1 hu]; rfl)
                  intro v' w5 ho5 hg5 _ hl5
                  have HR5 := Hid.mk' (HR9.out.app HBX.out (by rw [HLAL.out]; exact ho5) hg5)
                  obtain ⟨y5, c5, hv5, _⟩ := own_slice' ho5
                  subst hv5
                  clear ho5 hg5 hl5
                  go_wp2_with fail
                  go_meet
                  exact ⟨rfl, by rw [HT0.out]; exact HR5⟩
              case rest =>
                obtain ⟨rfl, HRB⟩ := hcut
                have HLB2 : Hid ((LA ++ TL).length ≤ 2) := Hid.mk' (by
                  rw [List.length_append]
                  have h1 := HLL0.out
                  have h2 : TL.length ≤ 1 := by rw [← HTL.out]; cases tgO ⟨op, ia, ib, ic, id⟩ <;> simp
                  omega)
                have HST : Hid (stL f j = (LA ++ TL) ++ (f.tries.filter (fun t => decide (t.fr ≤ (j : Int)) && decide ((j : Int) < t.to))).map Tri.at') := Hid.mk' (by
                  unfold stL
                  rw [HII.out, ← HLA.out, ← HTL.out, List.append_assoc]
                  rfl)
                obtain ⟨L2, hL2⟩ : ∃ L2, LA ++ TL = L2 := ⟨_, rfl⟩
                rw [hL2] at HRB HLB2 HST
                clear hL2
                obtain ⟨y2, c2, hv2, _⟩ := own_slice' HRB.out.own
                subst hv2
                obtain ⟨_, a7⟩ := HCF.out _ HRB.out.bl
                clear j1
                go_wp2_with fail
                clear a7
                go_loopw [7, 55] (fun v7 v55 wr => ∃ k : Nat, v55 = .int .i64 (k : Int) ∧ k ≤ m3 ∧ Hid (Rs W1 wr br x6 n #[.int .i64 op, .int .i64 ia, .int .i64 ib, .int .i64 ic, .int .i64 id] R' v7 (L2 ++ ((f.tries.take k).filter (fun t => decide (t.fr ≤ (j : Int)) && decide ((j : Int) < t.to))).map Tri.at'))) (fun v7 v55 wr => m3 - (intOf v55).toNat)
                case atStart => exact ⟨0, rfl, Nat.zero_le _, by simpa using HRB⟩
                case round =>
                  obtain ⟨k, rfl, hk, HRC⟩ := hrel
                  by_cases hkt : k < m3
                  · have hkl : k < f.tries.length := by rw [HFT.out]; exact hkt
                    obtain ⟨g3, o3, rfl, hg3, hc3⟩ := (HT1.out.below HRC.out.bl).at k hkl
                    obtain ⟨tk, htk⟩ : ∃ tk, f.tries[k] = tk := ⟨_, rfl⟩
                    have htake : f.tries.take (k + 1) = f.tries.take k ++ [tk] := by rw [List.take_succ_eq_append_getElem hkl, htk]
                    rw [htk] at hc3
                    obtain ⟨tf, tt, ta, tr⟩ := tk
                    have d0 := hc3 0 (.int .i64 tf) (by omega) rfl
                    have d1 := hc3 1 (.int .i64 tt) (by omega) rfl
                    have d2 := hc3 2 (.int .i64 ta) (by omega) rfl
                    have d3 := hc3 3 (.int .i64 tr) (by omega) rfl
                    simp only [Nat.add_zero] at d0
                    obtain ⟨LC, hLC⟩ : ∃ LC, L2 ++ ((f.tries.take k).filter (fun t => decide (t.fr ≤ (j : Int)) && decide ((j : Int) < t.to))).map Tri.at' = LC := ⟨_, rfl⟩
                    have HNX : Hid (L2 ++ ((f.tries.take (k + 1)).filter (fun t => decide (t.fr ≤ (j : Int)) && decide ((j : Int) < t.to))).map Tri.at' = LC ++ (if (decide (tf ≤ (j : Int)) && decide ((j : Int) < tt)) = true then [ta] else [])) := Hid.mk' (by
                      rw [htake, ← hLC, List.filter_append, List.map_append, List.append_assoc]
                      congr 2
                      cases hh : (decide (tf ≤ (j : Int)) && decide ((j : Int) < tt)) <;> simp [List.filter_cons, hh])
                    have HLEN : Hid (LC.length ≤ 2 + k) := Hid.mk' (by
                      rw [← hLC, List.length_append, List.length_map]
                      have h1 := HLB2.out
                      have h2 := List.length_filter_le (fun t => decide (t.fr ≤ (j : Int)) && decide ((j : Int) < t.to)) (f.tries.take k)
                      rw [List.length_take] at h2
                      omega)
                    rw [hLC] at HRC
                    obtain ⟨lc, hlc⟩ : ∃ lc, LC.length = lc := ⟨_, rfl⟩
                    have HLC := Hid.mk' hlc
                    have HLL : Hid (lc ≤ 4400000000002) := Hid.mk' (by have := HLEN.out; have := HMB.out; omega)
                    obtain ⟨y3, c3, hv3, _⟩ := own_slice' HRC.out.own
                    rw [hlc] at hv3
                    subst hv3
                    obtain ⟨W4, hW4⟩ : ∃ W4, wr.alloc (.cells #[.int .i64 tf, .int .i64 tt, .int .i64 ta, .int .i64 tr] 59) = W4 := ⟨_, rfl⟩
                    have b4 : Below wr.heap.size wr W4 := by rw [← hW4]; exact lay_below
                    have q4 : W4.heap[wr.heap.size]? = some (.cells #[.int .i64 tf, .int .i64 tt, .int .i64 ta, .int .i64 tr] 59 (0, 0)) := by rw [← hW4]; exact box_new
                    obtain ⟨x4, hx4⟩ : ∃ x, wr.heap.size = x := ⟨_, rfl⟩
                    rw [hx4] at q4
                    have z0 : W4.cell? ⟨x4, 0, none⟩ = some (.int .i64 tf) := (cell_row _ _ 0 _ _ q4).trans rfl
                    have z1 : W4.cell? ⟨x4, 1, none⟩ = some (.int .i64 tt) := (cell_row _ _ 1 _ _ q4).trans rfl
                    have z2 : W4.cell? ⟨x4, 2, none⟩ = some (.int .i64 ta) := (cell_row _ _ 2 _ _ q4).trans rfl
                    have HR4 := Hid.mk' (HRC.out.below b4)
                    have k1 : (k : Int) < (m3 : Int) := by omega
                    have k2 : (k : Int) < 4400000000000 := by have := HMB.out; omega
                    have HKT := Hid.mk' hkt
                    clear hkl hg3 hc3 htk htake hLC hlc b4 q4 hk hkt j2
                    cases u0 : decide (tf ≤ (j : Int)) with
                    | false =>
                      have HE : Hid (LC = L2 ++ ((f.tries.take (k + 1)).filter (fun t => decide (t.fr ≤ (j : Int)) && decide ((j : Int) < t.to))).map Tri.at') := Hid.mk' (by rw [HNX.out, u0]; simp)
                      go_wp2_with fail
                      go_roundw
                      case rel => exact ⟨k + 1, by go_num, HKT.out, by rw [← HE.out]; exact HR4⟩
                      case measure => exact meas_up' m3 k HKT.out
                    | true =>
                      cases u1 : decide ((j : Int) < tt) with
                      | false =>
                        have HE : Hid (LC = L2 ++ ((f.tries.take (k + 1)).filter (fun t => decide (t.fr ≤ (j : Int)) && decide ((j : Int) < t.to))).map Tri.at') := Hid.mk' (by rw [HNX.out, u0, u1]; simp)
                        go_wp2_with fail
                        go_roundw
                        case rel => exact ⟨k + 1, by go_num, HKT.out, by rw [← HE.out]; exact HR4⟩
                        case measure => exact meas_up' m3 k HKT.out
                      | true =>
                        have HE : Hid (LC ++ [ta] = L2 ++ ((f.tries.take (k + 1)).filter (fun t => decide (t.fr ≤ (j : Int)) && decide ((j : Int) < t.to))).map Tri.at') := Hid.mk' (by rw [HNX.out, u0, u1]; simp)
                        obtain ⟨WX, hWX⟩ : ∃ WX, W4.alloc (.cells #[.int .i64 ta] 3) = WX := ⟨_, rfl⟩
                        have bX : Below W4.heap.size W4 WX := by rw [← hWX]; exact lay_below
                        have HCX : Hid (∀ (jj : Nat) (u : Value), ([.int .i64 ta] : List Value)[jj]? = some u → WX.cell? (Addr.add ⟨W4.heap.size, 0, none⟩ jj) = some u) := Hid.mk' (by rw [← hWX]; exact cells_new _ _ _)
                        have HOX : Hid (WX.ownsRow W1.heap.size 3 1 (.slice y3 lc c3) lc (zs LC)) := Hid.mk' (by have h := (HR4.out.below bX).own; rwa [HLC.out] at h)
                        have HBX := Hid.mk' bX
                        have HSX : Hid (W1.heap.size ≤ WX.heap.size) := Hid.mk' ((HR4.out.below bX).bl.size)
                        obtain ⟨bq, hbq⟩ : ∃ b, W4.heap.size = b := ⟨_, rfl⟩
                        rw [hbq] at HCX
                        clear bX
                        go_wp2_with (at_builtin; refine wpList_append_own_at _ rfl _ _ 36 rfl W1.heap.size 3 i0 (.int .i64 0) 1 8 Tryd.underlying36 hif hz0 hz1 hz2 rfl (by decide) _ _ _ rfl HOX.out ⟨bq, 0, none⟩ 1 1 [.int .i64 ta] rfl rfl HCX.out ?c2 (by have := HLL.out; unfold maxLen; omega) (by have := HLL.out; omega) HSX.out ?_)
                        case c2 => first | rfl | (intro u hu; rw [List.mem_singleton.1 hu]; rfl)
                        intro v' w5 ho5 hg5 _ hl5
                        have HR5 := Hid.mk' (HR4.out.app HBX.out (by rw [HLC.out]; exact ho5) hg5)
                        obtain ⟨y5, c5, hv5, _⟩ := own_slice' ho5
                        subst hv5
                        clear ho5 hg5 hl5
                        go_wp2_with fail
                        go_roundw
                        case rel => exact ⟨k + 1, by go_num, HKT.out, by rw [← HE.out]; exact HR5⟩
                        case measure => exact meas_up' m3 k HKT.out
                  · have k1 : ¬ (k : Int) < (m3 : Int) := by omega
                    obtain rfl : k = m3 := by omega
                    have HFL : Hid (L2 ++ ((f.tries.take k).filter (fun t => decide (t.fr ≤ (j : Int)) && decide ((j : Int) < t.to))).map Tri.at' = stL f j) := Hid.mk' (by rw [HST.out, List.take_of_length_le (by rw [HFT.out]; exact Nat.le_refl _)])
                    rw [HFL.out] at HRC
                    obtain ⟨SL, hSL⟩ : ∃ SL, stL f j = SL := ⟨_, rfl⟩
                    have HSL := Hid.mk' hSL
                    rw [hSL] at HRC
                    obtain ⟨ls, hls⟩ : ∃ ls, SL.length = ls := ⟨_, rfl⟩
                    have HLS := Hid.mk' hls
                    have HLM : Hid (ls ≤ 4400000000002) := Hid.mk' (by
                      rw [← hls, ← hSL, ← HFL.out, List.length_append, List.length_map]
                      have h1 := HLB2.out
                      have h2 := List.length_filter_le (fun t => decide (t.fr ≤ (j : Int)) && decide ((j : Int) < t.to)) (f.tries.take k)
                      rw [List.length_take] at h2
                      have h3 := HMB.out
                      omega)
                    obtain ⟨y3, c3, hv3, _⟩ := own_slice' HRC.out.own
                    rw [hls] at hv3
                    subst hv3
                    have HCE : Hid (∀ (jj : Nat), jj < ls → ∃ gg, y3 = some ⟨gg, 0, none⟩ ∧ ∃ z, SL[jj]? = some z ∧ ∀ W R2, Rs W1 W br x6 n #[.int .i64 op, .int .i64 ia, .int .i64 ib, .int .i64 ic, .int .i64 id] R2 (.slice y3 ls c3) SL → W.cell? ⟨gg, jj, none⟩ = some (.int .i64 z)) := Hid.mk' (fun jj hjj => by
                      have ho := HRC.out.own
                      rw [HLS.out] at ho
                      obtain ⟨gg, rfl⟩ := own_some ho (by omega)
                      refine ⟨gg, rfl, SL[jj]'(by have := HLS.out; omega), List.getElem?_eq_getElem _, fun W R2 hq => ?_⟩
                      have ho2 := hq.own
                      have := ho2.cells (g := gg) rfl jj (.int .i64 (SL[jj]'(by have := HLS.out; omega))) (by simp [zs, List.getElem?_eq_getElem (show jj < SL.length by have := HLS.out; omega)])
                      rw [Addr.add_lit] at this
                      simpa using this)
                    clear hkt hk hSL hls j2
                    go_wp2_with fail
                    go_loopw [4, 77] (fun v4 v77 wr => ∃ (e : Nat) (m' : Bool) (R2 : Nat → Bool), v4 = .bool m' ∧ v77 = .int .i64 (e : Int) ∧ e ≤ ls ∧ Hid (Rs W1 wr br x6 n #[.int .i64 op, .int .i64 ia, .int .i64 ib, .int .i64 ic, .int .i64 id] R2 (.slice y3 ls c3) SL ∧ Tk n R' m (SL.take e) R2 m')) (fun v4 v77 wr => ls - (intOf v77).toNat)
                    case atStart => exact ⟨0, m, R', rfl, rfl, Nat.zero_le _, Hid.mk' ⟨HRC.out, by simpa using Tk.start⟩⟩
                    case round =>
                      obtain ⟨e, m', R2, rfl, rfl, he, HRE⟩ := hrel
                      by_cases het : e < ls
                      · obtain ⟨gg, rfl, z, hz, hcz⟩ := HCE.out e het
                        have ce := hcz _ _ HRE.out.1
                        have HTK : Hid (SL.take (e + 1) = SL.take e ++ [z]) := Hid.mk' (by rw [List.take_add_one, hz]; rfl)
                        have e1 : (e : Int) < (ls : Int) := by omega
                        have e2 : (e : Int) < 4400000000003 := by have := HLM.out; omega
                        have HET := Hid.mk' het
                        clear hz hcz het he
                        cases u0 : decide (0 ≤ z) with
                        | false =>
                          have HN2 : Hid (Tk n R' m (SL.take (e + 1)) R2 m') := Hid.mk' (by rw [HTK.out]; exact HRE.out.2.skip (fun i hi hh => by have := of_decide_eq_false u0; omega))
                          go_wp2_with fail
                          go_roundw
                          case rel => exact ⟨e + 1, m', R2, rfl, by go_num, HET.out, Hid.mk' ⟨HRE.out.1, HN2.out⟩⟩
                          case measure => exact meas_up' ls e HET.out
                        | true =>
                          cases u1 : decide (z < (n : Int)) with
                          | false =>
                            have HN2 : Hid (Tk n R' m (SL.take (e + 1)) R2 m') := Hid.mk' (by rw [HTK.out]; exact HRE.out.2.skip (fun i hi hh => by have := of_decide_eq_false u1; omega))
                            go_wp2_with fail
                            go_roundw
                            case rel => exact ⟨e + 1, m', R2, rfl, by go_num, HET.out, Hid.mk' ⟨HRE.out.1, HN2.out⟩⟩
                            case measure => exact meas_up' ls e HET.out
                          | true =>
                            obtain ⟨zn, rfl⟩ : ∃ zn : Nat, z = (zn : Int) := ⟨z.toNat, by have := of_decide_eq_true u0; omega⟩
                            have hzn : zn < n := by have := of_decide_eq_true u1; omega
                            have yz := HRE.out.1.r.cell hzn
                            have tz := HRE.out.1.r.thaw zn
                            obtain ⟨rz, hrz⟩ : ∃ rz, R2 zn = rz := ⟨_, rfl⟩
                            simp only [hrz] at yz
                            have z1 : (zn : Int) < (n : Int) := by omega
                            have z2 : (zn : Int) < 3600000000000 := by have := HNB.out; omega
                            cases rz with
                            | true =>
                              have HN2 : Hid (Tk n R' m (SL.take (e + 1)) R2 m') := Hid.mk' (by rw [HTK.out]; exact HRE.out.2.skip (fun i hi hh => by rw [show i = zn by omega]; exact hrz))
                              clear hzn hrz u0 u1
                              go_wp2_with fail
                              go_roundw
                              case rel => exact ⟨e + 1, m', R2, rfl, by go_num, HET.out, Hid.mk' ⟨HRE.out.1, HN2.out⟩⟩
                              case measure => exact meas_up' ls e HET.out
                            | false =>
                              have HN2 : Hid (Tk n R' m (SL.take (e + 1)) (upd R2 zn) true) := Hid.mk' (by rw [HTK.out]; exact HRE.out.2.add hzn hrz)
                              have HRN := Hid.mk' (HRE.out.1.setR zn)
                              clear hzn hrz u0 u1
                              go_wp2_with fail
                              go_roundw
                              case rel => exact ⟨e + 1, true, upd R2 zn, rfl, by go_num, HET.out, Hid.mk' ⟨HRN.out, HN2.out⟩⟩
                              case measure => exact meas_up' ls e HET.out
                      · have e1 : ¬ (e : Int) < (ls : Int) := by omega
                        have HPN : Hid (Ps f n (j + 1) R m' R2) := Hid.mk' (by
                          have ht := HRE.out.2
                          rw [List.take_of_length_le (by have := HLS.out; omega), ← HSL.out] at ht
                          exact HQ.out.2.2.go HN.out.symm HJT.out HRJ.out ht)
                        have j2 : (j : Int) < 3600000000000 := by have := HNB.out; have := HJT.out; omega
                        clear het he
                        go_wp2_with fail
                        go_roundw
                        case rel => exact ⟨j + 1, m', R2, rfl, by go_num, HJT.out, Hid.mk' ⟨HRE.out.1.r, HRE.out.1.bl, HPN.out⟩⟩
                        case measure => exact meas_up' n j HJT.out
        · have j1 : ¬ (j : Int) < (n : Int) := by omega
          obtain rfl : j = n := by omega
          clear hjt hj
          go_wp2_with fail
          go_roundg (2 * cnt j R' + (if m then 1 else 0))
          case measure => exact pass_less HG.out HQ.out.2.2.c HQ.out.2.2.m1
          case rel => exact ⟨m, R, R', rfl, rfl, Hid.mk' ⟨HQ.out.1, HQ.out.2.1, HQ.out.2.2.s, HQ.out.2.2.z, (fun _ => HQ.out.2.2)⟩⟩
end Go.Proofs.YtcagfjogfbddeaaDoor
