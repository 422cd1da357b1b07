/- Package code: what an instruction takes. -/
import Derived.Test.YtkgjmiadgfcbnaaGreatDoorCdE
namespace Go.Proofs.YtkgjmiadgfcbnaaGreatDoor
set_option linter.unusedVariables false
set_option linter.unusedSimpArgs false
open Go.RowKit

/-- The table of letters lies there. -/
def LaidL (w : World) : Prop := ∀ k, k < 50 → w.cell? ⟨1, k, none⟩ = some (.string (Sb (lets.getD k [])))
theorem LaidL.fr {rb : Nat} {W W' : World} (h : LaidL W) (f : Fr rb W W') (hr : 1 ≠ rb) : LaidL W' := fun k hk => f.cell hr (h k hk)
theorem isOp_any (z : Int) (w : World) : Calls Tryz.prog 21 #[.int .i64 z] w fun e w' => e = .returned (.bool (decide (0 ≤ z ∧ z ≤ 70))) ∧ w' = w := by
  by_cases h0 : 0 ≤ z <;> by_cases h1 : z ≤ 70
  all_goals
    first
      | rw [decide_eq_true (show 0 ≤ z ∧ z ≤ 70 from ⟨h0, h1⟩)]
      | rw [decide_eq_false (fun q => h1 q.2)]
      | rw [decide_eq_false (fun q => h0 q.1)]
    go_enter Tryz.func21, Tryz.ntmps21
    go_wp2
    go_ret
    exact ⟨by first | rfl | simp_all, rfl⟩
set_option maxHeartbeats 1000000 in
set_option maxRecDepth 100000 in
theorem operands_any (op : Nat) (w : World) (h : op ≤ 70) (hl : Hid (LaidL w)) : Calls Tryz.prog 24 #[.int .i64 (op : Int)] w fun e w' => e = .returned (.string (Sb (letsOf op))) ∧ w' = w := by
  have HI := Hid.mk' (fun W => isOp_any (op : Int) W)
  rw [decide_eq_true (show 0 ≤ (op : Int) ∧ (op : Int) ≤ 70 by omega)] at HI
  by_cases h9 : (49 : Int) < (op : Int)
  · have c0 := hl.out 49 (by omega)
    have e : letsOf op = lets.getD 49 [] := by unfold letsOf; rw [show min op 49 = 49 by omega]
    rw [← e] at c0
    clear e
    go_enter Tryz.func24, Tryz.ntmps24
    go_wp2_with (go_at_call 21; refine (HI.out _).mono ?_; rintro e w1 ⟨rfl, hw1⟩; rw [hw1]; clear hw1 w1)
    go_ret
    exact ⟨rfl, rfl⟩
  · have c0 := hl.out op (by omega)
    have e : letsOf op = lets.getD op [] := by unfold letsOf; rw [show min op 49 = op by omega]
    rw [← e] at c0
    have h50 : (op : Int) < 50 := by omega
    clear e
    go_enter Tryz.func24, Tryz.ntmps24
    go_wp2_with (go_at_call 21; refine (HI.out _).mono ?_; rintro e w1 ⟨rfl, hw1⟩; rw [hw1]; clear hw1 w1)
    go_ret
    exact ⟨rfl, rfl⟩
theorem lets_ok (op : Nat) : (letsOf op).length ≤ 4 ∧ ∀ b ∈ letsOf op, b.toNat < 128 := by
  have key : ∀ k : Fin 50, (lets.getD k.val []).length ≤ 4 ∧ ∀ b ∈ lets.getD k.val [], b.toNat < 128 := by decide +kernel
  exact key ⟨min op 49, by omega⟩
/-- Room for four operands, some of them read. -/
def arr4 (l : List Nat) : Array Value := #[.int .i64 (l.getD 0 0 : Nat), .int .i64 (l.getD 1 0 : Nat), .int .i64 (l.getD 2 0 : Nat), .int .i64 (l.getD 3 0 : Nat)]
theorem arr4_set (l : List Nat) (n : Nat) (h : l.length < 4) : (arr4 l).setIfInBounds l.length (.int .i64 (n : Int)) = arr4 (l ++ [n]) := by
  match l, h with
  | [], _ => rfl
  | [a], _ => rfl
  | [a, b], _ => rfl
  | [a, b, c], _ => rfl
theorem arr4_get (l : List Nat) (j : Nat) (h : j < 4) : (arr4 l)[j]? = some (.int .i64 ((l.getD j 0 : Nat) : Int)) := by
  have : j = 0 ∨ j = 1 ∨ j = 2 ∨ j = 3 := by omega
  rcases this with rfl | rfl | rfl | rfl <;> rfl
theorem Fr.iter {rb k : Nat} {w X : World} (h : Fr rb w X) (hk : w.heap.size ≤ k) (s : ByteArray) (p : Nat) : Fr rb w (X.iterAt k s p) :=
  ⟨h.os, h.tape, h.output, by rw [Lib.iterAt_size]; exact h.size, fun j ob hj ho => by
    have hlt := (Array.getElem?_eq_some_iff.1 ho).1
    rw [Lib.iterAt_other _ _ _ _ _ (show j ≠ k by omega)]
    exact h.same j ob hj ho⟩
theorem Fr.iterSelf {k : Nat} {X : World} (s : ByteArray) (p : Nat) : Fr k X (X.iterAt k s p) :=
  ⟨rfl, rfl, rfl, by rw [Lib.iterAt_size]; exact Nat.le_refl _, fun j ob hj ho => by
    rw [Lib.iterAt_other _ _ _ _ _ hj]
    exact ho⟩
theorem Rc.iter {W : World} {rb g k : Nat} {L : List UInt8} (h : Rc W rb g L) (s : ByteArray) (p : Nat) (h1 : rb ≠ k) (h2 : g ≠ k) : Rc (W.iterAt k s p) rb g L := by
  obtain ⟨o, c, h⟩ := h
  exact ⟨o, c, (Lib.iterAt_other _ _ _ _ _ h1).trans h.blk, h.bs.fr (Fr.iterSelf s p) h2, h.le, h.cle, h.ne, by rw [Lib.iterAt_size]; exact h.glt⟩
set_option maxHeartbeats 2000000 in
set_option maxRecDepth 100000 in
theorem instruction_any {rb g : Nat} {L : List UInt8} (w : World) (h : Rc w rb g L) (hl : Hid (LaidL w)) (hr : 1 ≠ rb) :
    Calls Tryz.prog 49 #[.pointer (some ⟨rb, 0, none⟩)] w fun e w' => Rds insP rb g (fun _ x v => v = .agg x.cs.toArray) L w e w' := by
  obtain ⟨W1, bx, hW1, hbx, hR1, hF1, hX, n1, n2⟩ := res_box h #[.int .i64 0, .int .i64 0, .int .i64 0, .int .i64 0, .int .i64 0] 35
  have HN := Hid.mk' (number_any W1 hR1)
  have HF0 := Hid.mk' hF1
  have HX := Hid.mk' hX
  have HM := Hid.mk' (fun L' W (hR : Rc W rb g L') => number_any W hR)
  have HBX := Hid.mk' hbx
  have HNE := Hid.mk' (And.intro n1 n2)
  have HH := Hid.mk' hold_ok
  have HO := Hid.mk' hold_no
  have HRL := Hid.mk' hr
  clear h hR1 hF1 hX n1 n2 hr
  go_enter Tryz.func49, Tryz.ntmps49
  go_wp2_with fail
  refine HN.out.mono ?_
  rintro e w1 (⟨op, L1, v1, p1, rfl, rfl, hR, hF⟩ | ⟨p1, rfl, hF⟩)
  · have HFa := Hid.mk' (HF0.out.trans hF)
    have HFx := Hid.mk' hF
    have HP1 := Hid.mk' p1
    have HR := Hid.mk' hR
    have HI := Hid.mk' (fun W => isOp_any (op : Int) W)
    clear hF p1 hR
    by_cases h70 : op ≤ 70
    · rw [decide_eq_true (show 0 ≤ (op : Int) ∧ (op : Int) ≤ 70 by omega)] at HI
      have HLL := Hid.mk' (hl.out.fr HFa.out HRL.out)
      have HOP := Hid.mk' (fun W hW => operands_any op W h70 hW)
      obtain ⟨w2, hw2⟩ : ∃ w2, w1.alloc (.cells #[.int .i64 0, .int .i64 0, .int .i64 0, .int .i64 0] 68) = w2 := ⟨_, rfl⟩
      have hbw : Below w1.heap.size w1 w2 := by rw [← hw2]; exact lay_below
      have HL2 := Hid.mk' (HLL.out.fr (rb := rb) (Fr.of_below hbw) HRL.out)
      have hy : w2.heap[w1.heap.size]? = some (.cells #[.int .i64 0, .int .i64 0, .int .i64 0, .int .i64 0] 68 (0, 0)) := by rw [← hw2]; exact box_new
      have hR2 := HR.out.below hbw
      have hz2 : w2.heap.size = w1.heap.size + 1 := by rw [← hw2]; simp
      have hF2 := HFa.out.trans (Fr.of_below (rb := rb) hbw)
      have hX2 := (HFx.out.trans (Fr.of_below (rb := rb) hbw)).same bx _ HNE.out.1 HX.out
      have hle1 := HFa.out.size
      have hrl := HR.out.lt
      have hgl := HR.out.glt
      obtain ⟨k4, kA⟩ := lets_ok op
      have HEX : Hid (insP L = (lst numP (letsOf op).length L1).map (fun y => (insOf op y.1, y.2))) := Hid.mk' (by
        unfold insP
        rw [HP1.out]
        simp only [Option.bind_some]
        rw [if_pos h70])
      obtain ⟨l, hlt⟩ : ∃ l, letsOf op = l := ⟨_, rfl⟩
      simp only [hlt] at k4 kA HEX HOP
      have HK := Hid.mk' kA
      have hsz : (Sb l).size = l.length := Sb_size l
      have HSZ := Hid.mk' hsz
      obtain ⟨s, hs⟩ : ∃ s, Sb l = s := ⟨_, rfl⟩
      simp only [hs] at HOP HSZ
      have HS := Hid.mk' hs
      obtain ⟨ar, har⟩ : ∃ ar, w1.heap.size = ar := ⟨_, rfl⟩
      rw [har] at hy hz2 hle1 hrl hgl
      have HY := Hid.mk' hy
      have HR2 := Hid.mk' hR2
      have HF2 := Hid.mk' hF2
      have HX2 := Hid.mk' hX2
      have HZ2 := Hid.mk' hz2
      have HNA : Hid (bx < ar ∧ rb < ar ∧ g < ar ∧ w.heap.size ≤ ar) := Hid.mk' ⟨by have := HBX.out; have := (Array.getElem?_eq_some_iff.1 (HFx.out.same bx _ HNE.out.1 HX.out)).1; omega, hrl, hgl, hle1⟩
      clear hlt kA hsz hs HLL hy hR2 hF2 hX2 hz2 hle1 hrl hgl hbw
      go_wp2_with (first | (go_at_call 28; refine (HH.out _).mono ?_; rintro e w1 ⟨rfl, hw1⟩; rw [hw1]; clear hw1 w1) | (go_at_call 21; refine (HI.out _).mono ?_; rintro e w1 ⟨rfl, hw1⟩; rw [hw1]; clear hw1 w1))
      refine (HOP.out _ HL2).mono ?_
      rintro e w3 ⟨rfl, hw3⟩
      rw [hw3]
      clear hw3 w3
      go_wp2_with fail
      have HBI : Hid (Below w2.heap.size w2 (w2.iter s 0)) := Hid.mk' ((Below.refl _ _).alloc (Nat.le_refl _) _)
      have HIT := Hid.mk' (World.iter_heap w2 s 0)
      obtain ⟨it, hit⟩ : ∃ it, w2.heap.size = it := ⟨_, rfl⟩
      rw [hit] at HBI HIT
      have HITE : Hid (it = ar + 1) := Hid.mk' (by rw [← hit]; exact HZ2.out)
      have HIW := Hid.mk' hit
      simp only [hit]
      clear hit
      go_loopw [5] (fun v wr => ∃ (l' : List Nat) (R : List UInt8), l'.length ≤ l.length ∧ Hid (wr.heap[it]? = some (.stringIter s l'.length)) ∧ Hid (wr.heap[ar]? = some (.cells (arr4 l') 68 (0, 0))) ∧ Hid (wr.heap[bx]? = some (.cells #[.int .i64 0, .int .i64 0, .int .i64 0, .int .i64 0, .int .i64 0] 35 (0, 0))) ∧ Hid (lst numP l.length L1 = (lst numP (l.length - l'.length) R).map fun y => (l' ++ y.1, y.2)) ∧ Hid (Rc wr rb g R) ∧ Hid (Fr rb w wr)) (fun _ wr => l.length - wr.iterPos it)
      case atStart =>
        have hna := HNA.out
        have hie := HITE.out
        refine ⟨[], L1, by simp, HIT, Hid.mk' ((HBI.out.block ar (by omega)).trans HY.out), Hid.mk' ((HBI.out.block bx (by omega)).trans HX2.out), Hid.mk' (by simp), Hid.mk' (HR2.out.below (by rw [HIW.out]; exact HBI.out)), Hid.mk' (HF2.out.trans (Fr.of_below (by rw [HIW.out]; exact HBI.out)))⟩
      case round =>
        obtain ⟨l', R, hle, HI1, HA1, HB1, HE1, HR1, HFw⟩ := hrel
        by_cases hlt : l'.length < l.length
        · have hs1 : l'.length < s.size := by rw [HSZ.out]; exact hlt
          have hbt : (s[l'.length]'hs1).toNat < 128 := by
            have e1 : s.data.toList = l := by rw [← HS.out, Sb_list]
            have e2 : s[l'.length]'hs1 ∈ s.data.toList := by
              show s.data[l'.length] ∈ _
              rw [← Array.getElem_toList]
              exact List.getElem_mem _
            rw [e1] at e2
            exact HK.out _ e2
          have hnx : ∀ ty, (Instr.next (.pointer (some ⟨it, 0, none⟩)) true ty).run Tryz.prog wr = _ := fun ty => Lib.run_next_ascii_at wr it s l'.length ty HI1.out hs1 hbt
          obtain ⟨cb, hcb⟩ : ∃ cb : Nat, (s[l'.length]'hs1).toNat = cb := ⟨_, rfl⟩
          rw [hcb] at hnx
          have hR3 := HR1.out.iter (k := it) s (l'.length + 1) (by have := HNA.out; have := HITE.out; omega) (by have := HNA.out; have := HITE.out; omega)
          have HN3 := Hid.mk' (HM.out R _ hR3)
          have HF3 := Hid.mk' (HFw.out.iter (k := it) (by have := HNA.out; have := HITE.out; omega) s (l'.length + 1))
          have HA3 : Hid ((wr.iterAt it s (l'.length + 1)).heap[ar]? = some (.cells (arr4 l') 68 (0, 0))) := Hid.mk' ((Lib.iterAt_other _ _ _ _ _ (by have := HNA.out; have := HITE.out; omega)).trans HA1.out)
          have HB3 := Hid.mk' ((Lib.iterAt_other wr it bx s (l'.length + 1) (by have := HNA.out; have := HITE.out; omega)).trans HB1.out)
          have HI3 := Hid.mk' (Lib.iterAt_heap wr it s l'.length (l'.length + 1) HI1.out)
          have HPS : Hid (wr.iterPos it = l'.length) := Hid.mk' (by simp only [World.iterPos, HI1.out])
          obtain ⟨X, hX⟩ : ∃ X, wr.iterAt it s (l'.length + 1) = X := ⟨_, rfl⟩
          rw [hX] at HN3 HF3 HA3 HB3 HI3
          simp only [hX] at hnx
          have i4 : (l'.length : Int) < 4 := by omega
          have i0 : (0 : Int) ≤ (l'.length : Int) := by omega
          clear hR3 hX hcb
          go_wp2_with fail
          refine HN3.out.mono ?_
          rintro e w4 (⟨n4, L4, v4, p4, rfl, rfl, hR4, hF4⟩ | ⟨p4, rfl, hF4⟩)
          · have hA4 := hF4.same ar _ (by have := HNA.out; have := HITE.out; omega) HA3.out
            have z0 := (cell_row _ ar l'.length _ _ hA4).trans (arr4_get l' l'.length (by have := HNA.out; have := HITE.out; omega))
            have y2 := thaw_row _ _ _ _ hA4
            have HA5 : Hid ((w4.setCell ⟨ar, l'.length, none⟩ (.int .i64 (n4 : Int))).heap[ar]? = some (.cells (arr4 (l' ++ [n4])) 68 (0, 0))) := Hid.mk' (by
              rw [set_blk _ hA4, arr4_set l' n4 (by have := HNA.out; have := HITE.out; omega)])
            have HB5 : Hid ((w4.setCell ⟨ar, l'.length, none⟩ (.int .i64 (n4 : Int))).heap[bx]? = _) := Hid.mk' ((Below.heap_setCell _ _ _ _ (show bx ≠ ar by have := HNA.out; omega)).trans (hF4.same bx _ HNE.out.1 HB3.out))
            have HI5 : Hid ((w4.setCell ⟨ar, l'.length, none⟩ (.int .i64 (n4 : Int))).heap[it]? = _) := Hid.mk' ((Below.heap_setCell _ _ _ _ (show it ≠ ar by have := HITE.out; omega)).trans (hF4.same it _ (by have := HNA.out; have := HITE.out; omega) HI3.out))
            have HR5 := Hid.mk' (hR4.setNew (k := ar) (j := l'.length) (.int .i64 (n4 : Int)) (by have := HNA.out; have := HITE.out; omega) (by have := HNA.out; have := HITE.out; omega))
            have HF5 := Hid.mk' (Fr.setNew (HF3.out.trans hF4) (k := ar) (o := l'.length) (by have := HNA.out; have := HITE.out; omega) (.int .i64 (n4 : Int)))
            have HP4 := Hid.mk' p4
            clear hA4 hR4 hF4 p4
            go_wp2
            go_roundw
            case rel =>
              refine ⟨l' ++ [n4], L4, by simp; omega, ?_, HA5, HB5, Hid.mk' ?_, HR5, HF5⟩
              · rw [List.length_append]
                exact HI5
              · rw [HE1.out, show l.length - l'.length = (l.length - (l' ++ [n4]).length) + 1 by simp; omega, lst_snoc, HP4.out]
                simp only [Option.bind_some, Option.map_map]
                congr 1
                funext y
                simp
            case measure =>
              have e5 : (w4.setCell ⟨ar, l'.length, none⟩ (.int .i64 (n4 : Int))).iterPos it = l'.length + 1 := by simp only [World.iterPos, HI5.out]
              rw [HPS.out, e5]
              omega
          · go_wp2
            refine ⟨rfl, .inr ⟨?_, rfl, HF3.out.trans hF4⟩⟩
            rw [HEX.out, HE1.out, show l.length - l'.length = (l.length - l'.length - 1) + 1 by omega, lst_snoc, p4]
            rfl
        · have hnx : ∀ ty, (Instr.next (.pointer (some ⟨it, 0, none⟩)) true ty).run Tryz.prog wr = _ := fun ty => Lib.run_next_end_at wr it s l'.length ty HI1.out (by rw [HSZ.out]; exact hlt)
          have z0 := (cell_row _ ar 0 _ _ HA1.out).trans (arr4_get l' 0 (by have := HNA.out; have := HITE.out; omega))
          have z1 := (cell_row _ ar 1 _ _ HA1.out).trans (arr4_get l' 1 (by have := HNA.out; have := HITE.out; omega))
          have z2 := (cell_row _ ar 2 _ _ HA1.out).trans (arr4_get l' 2 (by have := HNA.out; have := HITE.out; omega))
          have z3 := (cell_row _ ar 3 _ _ HA1.out).trans (arr4_get l' 3 (by have := HNA.out; have := HITE.out; omega))
          have x0 := (cell_row _ bx 0 _ _ HB1.out).trans rfl
          have x1 := (cell_row _ bx 1 _ _ HB1.out).trans rfl
          have x2 := (cell_row _ bx 2 _ _ HB1.out).trans rfl
          have x3 := (cell_row _ bx 3 _ _ HB1.out).trans rfl
          have x4 := (cell_row _ bx 4 _ _ HB1.out).trans rfl
          have y2 := thaw_row _ _ _ _ HB1.out
          have HEN : Hid (insP L = some (insOf op l', R)) := Hid.mk' (by
            rw [HEX.out, HE1.out, show l.length - l'.length = 0 by omega]
            simp [lst])
          obtain ⟨q0, hq0⟩ : ∃ q0 : Nat, l'.getD 0 0 = q0 := ⟨_, rfl⟩
          obtain ⟨q1, hq1⟩ : ∃ q1 : Nat, l'.getD 1 0 = q1 := ⟨_, rfl⟩
          obtain ⟨q2, hq2⟩ : ∃ q2 : Nat, l'.getD 2 0 = q2 := ⟨_, rfl⟩
          obtain ⟨q3, hq3⟩ : ∃ q3 : Nat, l'.getD 3 0 = q3 := ⟨_, rfl⟩
          rw [hq0] at z0
          rw [hq1] at z1
          rw [hq2] at z2
          rw [hq3] at z3
          have HQ : Hid (insOf op l' = ⟨op, q0, q1, q2, q3⟩) := Hid.mk' (by unfold insOf; rw [hq0, hq1, hq2, hq3])
          clear hq0 hq1 hq2 hq3
          go_wp2
          refine bodyPost_ret (v := .agg #[.int .i64 op, .int .i64 q0, .int .i64 q1, .int .i64 q2, .int .i64 q3]) ?_ rfl (.inl ⟨⟨op, q0, q1, q2, q3⟩, R, _, by rw [HEN.out, HQ.out], rfl, rfl, ?_, ?_⟩)
          · rw [res_cell rfl]
            go_simp
          · repeat (refine Rc.setNew ?_ _ (Ne.symm HNE.out.1) (Ne.symm HNE.out.2))
            exact HR1.out
          · repeat (refine Fr.setNew ?_ (by rw [HBX.out]; exact Nat.le_refl _) _)
            exact HFw.out
    · rw [decide_eq_false (show ¬ (0 ≤ (op : Int) ∧ (op : Int) ≤ 70) by omega)] at HI
      go_wp2_with (first | (go_at_call 28; refine (HO.out _).mono ?_; rintro e w1 ⟨rfl, hw1⟩; rw [hw1]; clear hw1 w1) | (go_at_call 21; refine (HI.out _).mono ?_; rintro e w1 ⟨rfl, hw1⟩; rw [hw1]; clear hw1 w1))
      refine ⟨rfl, .inr ⟨?_, rfl, HFa.out⟩⟩
      unfold insP
      rw [HP1.out]
      simp only [Option.bind_some]
      rw [if_neg h70]
  · go_wp2
    refine ⟨rfl, .inr ⟨?_, rfl, HF0.out.trans hF⟩⟩
    unfold insP
    simp only [p1, Option.bind_none]
end Go.Proofs.YtkgjmiadgfcbnaaGreatDoor
