/- The document's reader of modules: instructions. -/
import Derived.Test.YtkgjmiadgfcbnaaGreatDoorCdV
import Derived.BigRegion
namespace Go.Proofs.YtkgjmiadgfcbnaaGreatDoor
set_option linter.unusedVariables false
set_option linter.unusedSimpArgs false
open Go.RowKit

theorem St.iter {W : World} {rb g k : Nat} {s : Option (List UInt8)} (h : St W rb g s) (t : ByteArray) (p : Nat) (h1 : rb ≠ k) (h2 : g ≠ k) : St (W.iterAt k t p) rb g s := by
  obtain ⟨a, n, c, h3, h4⟩ := h.blk
  exact ⟨⟨a, n, c, (Lib.iterAt_other _ _ _ _ _ h1).trans h3, fun L e => by
    obtain ⟨q1, o, q2, q3, q4⟩ := h4 L e
    exact ⟨q1, o, q2, q3.fr (Fr.iterSelf t p) h2, q4⟩⟩, h.ne, by rw [Lib.iterAt_size]; exact h.glt⟩
/-- Operands that are still to be read. -/
def Pend (op n : Nat) (s0 : Option (List UInt8)) (l' : List Nat) (s : Option (List UInt8)) : Prop :=
  (s = none ∧ aft insP s0 = none) ∨ ∃ R, s = some R ∧ aft insP s0 = (lst numP (n - l'.length) R).map fun y => (insOf op (l' ++ y.1), y.2)
theorem Pend.step {op n : Nat} {s0 s s' : Option (List UInt8)} {l' : List Nat} {x : Nat} (h : Pend op n s0 l' s) (hA : After numP s x s') (hn : l'.length < n) : Pend op n s0 (l' ++ [x]) s' := by
  rcases h with ⟨rfl, h⟩ | ⟨R, rfl, h⟩
  · rcases hA with ⟨L, h1, h2⟩ | ⟨h1, h2⟩
    · cases h1
    · exact .inl ⟨h2, h⟩
  · rw [show n - l'.length = (n - (l' ++ [x]).length) + 1 by simp; omega, lst_snoc] at h
    rcases hA with ⟨L, h1, h2⟩ | ⟨h1, h2⟩
    · have h1' : numP R = some (x, L) := h1
      refine .inr ⟨L, h2, ?_⟩
      rw [h, h1']
      simp only [Option.bind_some, Option.map_map]
      congr 1
      funext y
      simp
    · have h1' : numP R = none := h1
      refine .inl ⟨h2, ?_⟩
      rw [h, h1']
      rfl
theorem Pend.done {op n : Nat} {s0 s : Option (List UInt8)} {l' : List Nat} (h : Pend op n s0 l' s) (hn : ¬ l'.length < n) : After insP s0 (insOf op l') s := by
  rcases h with ⟨rfl, h⟩ | ⟨R, rfl, h⟩
  · exact .inr ⟨h, rfl⟩
  · refine .inl ⟨R, ?_, rfl⟩
    rw [h, show n - l'.length = 0 by omega]
    simp [lst]
theorem make4 (W : World) : (Instr.makeSlice 106 (.int .i64 4) (.int .i64 4)).run Tryz.prog W = .ok (.slice (some ⟨W.heap.size, 0, none⟩) 4 4) (W.alloc (.cells #[.int .i64 0, .int .i64 0, .int .i64 0, .int .i64 0] 3)) := by
  kernel_rfl
set_option maxHeartbeats 4000000 in
set_option maxRecDepth 100000 in
theorem rins_any {rb g : Nat} {s : Option (List UInt8)} (w : World) (h : St w rb g s) :
    Calls Tryz.prog 35 #[.pointer (some ⟨rb, 0, none⟩)] w fun e w' => Rrs insP rb g (fun _ x v => v = .agg x.cs.toArray) s w e w' := by
  obtain ⟨W1, bx, hW1, hbx, hS1, hF1, hX, n1, n2⟩ := res_boxS h #[.int .i64 0, .int .i64 0, .int .i64 0, .int .i64 0, .int .i64 0] 35
  have HN := Hid.mk' (rnum_any W1 hS1)
  have HF0 := Hid.mk' hF1
  have HX := Hid.mk' hX
  have HM := Hid.mk' (fun s' W (hR : St W rb g s') => rnum_any W hR)
  have HBX := Hid.mk' hbx
  have HNE := Hid.mk' (And.intro n1 n2)
  have HE := Hid.mk' (aft_bind (p := insP) (q := numP) (fun L => rfl) s)
  have hmk := make4
  clear h hS1 hF1 hX n1 n2
  go_enter Tryz.func35, Tryz.ntmps35
  go_wp2_with fail
  refine HN.out.mono ?_
  rintro e w1 ⟨op, v1, s1, rfl, rfl, hA, hS, hF⟩
  have HFa := Hid.mk' (HF0.out.trans hF)
  have HFx := Hid.mk' hF
  have HA := Hid.mk' hA
  obtain ⟨y1, y2⟩ := hF.box HNE.out.1 HX.out
  have z0 := y1 0 _ rfl
  have z1 := y1 1 _ rfl
  have z2 := y1 2 _ rfl
  have z3 := y1 3 _ rfl
  have z4 := y1 4 _ rfl
  have hnr : rb ≠ bx := Ne.symm HNE.out.1
  have hnr2 : bx ≠ rb := HNE.out.1
  have hlb : bx < w1.heap.size := World.block_lt_of_cell? _ _ z0
  have hlr := hS.lt
  have hlg := hS.glt
  obtain ⟨c1, cf⟩ := hS.flag
  have HS := Hid.mk' hS
  clear hF hA y1
  by_cases h70 : op ≤ 70
  · have i70 : ¬ (70 : Int) < (op : Int) := by omega
    obtain ⟨X1, hX1⟩ : ∃ X1, w1.alloc (.cells #[.int .i64 op, .int .i64 0, .int .i64 0, .int .i64 0, .int .i64 0] 35) = X1 := ⟨_, rfl⟩
    obtain ⟨X2, hX2⟩ : ∃ X2, X1.alloc (.cells #[.int .i64 0, .int .i64 0, .int .i64 0, .int .i64 0] 3) = X2 := ⟨_, rfl⟩
    have b1 : Below w1.heap.size w1 X1 := by rw [← hX1]; exact lay_below
    have b2 : Below X1.heap.size X1 X2 := by rw [← hX2]; exact lay_below
    have q1 : X1.heap[w1.heap.size]? = some (.cells #[.int .i64 op, .int .i64 0, .int .i64 0, .int .i64 0, .int .i64 0] 35 (0, 0)) := by rw [← hX1]; exact box_new
    have q2 : X2.heap[X1.heap.size]? = some (.cells #[.int .i64 0, .int .i64 0, .int .i64 0, .int .i64 0] 3 (0, 0)) := by rw [← hX2]; exact box_new
    have t1 : X1.heap.size = w1.heap.size + 1 := by rw [← hX1]; simp
    have t2 : X2.heap.size = w1.heap.size + 2 := by rw [← hX2]; simp; omega
    have HF2 := Hid.mk' ((HFa.out.trans (Fr.of_below (rb := rb) b1)).trans (Fr.of_below b2))
    have HS2 := Hid.mk' ((HS.out.below b1).below b2)
    have HQ1 := Hid.mk' ((b2.block w1.heap.size (by omega)).trans q1)
    have HX2 := Hid.mk' ((b2.block bx (by omega)).trans ((b1.block bx hlb).trans (HFx.out.same bx _ HNE.out.1 HX.out)))
    rw [t1] at q2
    have HQ2 := Hid.mk' q2
    have HO := Hid.mk' (rOperands_any op h70 X2)
    obtain ⟨bi, hbi⟩ : ∃ bi, w1.heap.size = bi := ⟨_, rfl⟩
    rw [hbi] at t2 HQ1 HQ2 hlb hlr hlg
    have HT2 := Hid.mk' t2
    have HLT : Hid (bx < bi ∧ rb < bi ∧ g < bi ∧ w.heap.size ≤ bi) := Hid.mk' ⟨hlb, hlr, hlg, by have := HFa.out.size; omega⟩
    obtain ⟨k4, kA⟩ := lets_ok op
    have HPD : Hid (Pend op (letsOf op).length s [] s1) := Hid.mk' (by
      cases s1 with
      | none => exact .inl ⟨rfl, by rw [HE.out, HA.out.no]; rfl⟩
      | some R =>
        refine .inr ⟨R, rfl, ?_⟩
        rw [HE.out, HA.out.yes]
        simp only [Option.bind_some]
        rw [if_pos h70]
        rfl)
    obtain ⟨l, hlt⟩ : ∃ l, letsOf op = l := ⟨_, rfl⟩
    simp only [hlt] at k4 kA HPD HO
    have HK := Hid.mk' kA
    have hsz : (Sb l).size = l.length := Sb_size l
    have HSZ := Hid.mk' hsz
    obtain ⟨t, ht⟩ : ∃ t, Sb l = t := ⟨_, rfl⟩
    simp only [ht] at HO HSZ
    have HTT := Hid.mk' ht
    have HH1 := Hid.mk' hX1
    have HH2 := Hid.mk' hX2
    have HH3 := Hid.mk' hbi
    clear hS b1 b2 q1 q2 t1 hlt kA hsz ht z0 z1 z2 z3 z4 c1 cf y2 t2 hX1 hX2 hbi
    go_wp2_with fail
    simp only [HH1.out, HH2.out, HH3.out]
    refine HO.out.mono ?_
    rintro e w2 ⟨rfl, hb2⟩
    have HB2 := Hid.mk' hb2
    clear hb2
    go_wp2_with fail
    have HBI : Hid (Below w2.heap.size w2 (w2.iter t 0)) := Hid.mk' ((Below.refl _ _).alloc (Nat.le_refl _) _)
    have HIT := Hid.mk' (World.iter_heap w2 t 0)
    have hit0 : bi + 2 ≤ w2.heap.size := by have := HB2.out.size; have := HT2.out; omega
    obtain ⟨it, hit⟩ : ∃ it, w2.heap.size = it := ⟨_, rfl⟩
    have HB3 := Hid.mk' (HB2.out.trans (HBI.out.mono HB2.out.size))
    rw [hit] at hit0 HBI HIT
    have HITE := Hid.mk' hit0
    have HIW := Hid.mk' hit
    simp only [hit]
    clear hit hit0
    go_loopw [5] (fun v wr => ∃ (l' : List Nat) (s' : Option (List UInt8)), l'.length ≤ l.length ∧ Hid (wr.heap[it]? = some (.stringIter t l'.length)) ∧ Hid (wr.heap[bi + 1]? = some (.cells (arr4 l') 3 (0, 0))) ∧ Hid (wr.heap[bi]? = some (.cells #[.int .i64 op, .int .i64 0, .int .i64 0, .int .i64 0, .int .i64 0] 35 (0, 0))) ∧ Hid (wr.heap[bx]? = some (.cells #[.int .i64 0, .int .i64 0, .int .i64 0, .int .i64 0, .int .i64 0] 35 (0, 0))) ∧ Hid (Pend op l.length s l' s') ∧ Hid (St wr rb g s') ∧ Hid (Fr rb w wr)) (fun _ wr => l.length - wr.iterPos it)
    case atStart =>
      have h1 := HLT.out
      have h2 := HT2.out
      exact ⟨[], s1, by simp, HIT, Hid.mk' ((HB3.out.block (bi + 1) (by omega)).trans HQ2.out), Hid.mk' ((HB3.out.block bi (by omega)).trans HQ1.out), Hid.mk' ((HB3.out.block bx (by omega)).trans HX2.out), HPD, Hid.mk' (HS2.out.below HB3.out), Hid.mk' (HF2.out.trans (Fr.of_below HB3.out))⟩
    case round =>
      obtain ⟨l', s', hle, HI1, HA1, HQ1', HB1, HP1, HS1, HFw⟩ := hrel
      by_cases hlt : l'.length < l.length
      · have hs1 : l'.length < t.size := by rw [HSZ.out]; exact hlt
        have hbt : (t[l'.length]'hs1).toNat < 128 := by
          have e1 : t.data.toList = l := by rw [← HTT.out, Sb_list]
          have e2 : t[l'.length]'hs1 ∈ t.data.toList := by
            show t.data[l'.length] ∈ _
            rw [← Array.getElem_toList]
            exact List.getElem_mem _
          rw [e1] at e2
          exact HK.out _ e2
        have hnx : ∀ ty, (Instr.next (.pointer (some ⟨it, 0, none⟩)) true ty).run Tryz.prog wr = _ := fun ty => Lib.run_next_ascii_at wr it t l'.length ty HI1.out hs1 hbt
        obtain ⟨cb, hcb⟩ : ∃ cb : Nat, (t[l'.length]'hs1).toNat = cb := ⟨_, rfl⟩
        rw [hcb] at hnx
        have hR3 := HS1.out.iter (k := it) t (l'.length + 1) (by have := HLT.out; have := HITE.out; omega) (by have := HLT.out; have := HITE.out; omega)
        have HN3 := Hid.mk' (HM.out s' _ hR3)
        have HF3 := Hid.mk' (HFw.out.iter (k := it) (by have := HLT.out; have := HITE.out; omega) t (l'.length + 1))
        have HA3 := Hid.mk' ((Lib.iterAt_other wr it (bi + 1) t (l'.length + 1) (by have := HITE.out; omega)).trans HA1.out)
        have HQ3 := Hid.mk' ((Lib.iterAt_other wr it bi t (l'.length + 1) (by have := HITE.out; omega)).trans HQ1'.out)
        have HB3' := Hid.mk' ((Lib.iterAt_other wr it bx t (l'.length + 1) (by have := HLT.out; have := HITE.out; omega)).trans HB1.out)
        have HI3 := Hid.mk' (Lib.iterAt_heap wr it t l'.length (l'.length + 1) HI1.out)
        have HPS : Hid (wr.iterPos it = l'.length) := Hid.mk' (by simp only [World.iterPos, HI1.out])
        obtain ⟨X, hX⟩ : ∃ X, wr.iterAt it t (l'.length + 1) = X := ⟨_, rfl⟩
        rw [hX] at HN3 HF3 HA3 HB3' HI3 HQ3
        simp only [hX] at hnx
        have i4 : (l'.length : Int) < 4 := by omega
        have i0 : (0 : Int) ≤ (l'.length : Int) := by omega
        clear hR3 hX hcb
        go_wp2_with fail
        refine HN3.out.mono ?_
        rintro e w4 ⟨n4, v4, s4, rfl, rfl, hA4, hS4, hF4⟩
        have hC4 := hF4.same (bi + 1) _ (by have := HLT.out; omega) HA3.out
        have z0 := (cell_row _ (bi + 1) l'.length _ _ hC4).trans (arr4_get l' l'.length (by omega))
        have y2 := thaw_row _ _ _ _ hC4
        have HA5 : Hid ((w4.setCell ⟨bi + 1, l'.length, none⟩ (.int .i64 (n4 : Int))).heap[bi + 1]? = some (.cells (arr4 (l' ++ [n4])) 3 (0, 0))) := Hid.mk' (by
          rw [set_blk _ hC4, arr4_set l' n4 (by omega)])
        have HB5 : Hid ((w4.setCell ⟨bi + 1, l'.length, none⟩ (.int .i64 (n4 : Int))).heap[bx]? = _) := Hid.mk' ((Below.heap_setCell _ _ _ _ (show bx ≠ bi + 1 by have := HLT.out; omega)).trans (hF4.same bx _ HNE.out.1 HB3'.out))
        have HQ5 : Hid ((w4.setCell ⟨bi + 1, l'.length, none⟩ (.int .i64 (n4 : Int))).heap[bi]? = _) := Hid.mk' ((Below.heap_setCell _ _ _ _ (show bi ≠ bi + 1 by omega)).trans (hF4.same bi _ (by have := HLT.out; omega) HQ3.out))
        have HI5 : Hid ((w4.setCell ⟨bi + 1, l'.length, none⟩ (.int .i64 (n4 : Int))).heap[it]? = _) := Hid.mk' ((Below.heap_setCell _ _ _ _ (show it ≠ bi + 1 by have := HITE.out; omega)).trans (hF4.same it _ (by have := HLT.out; have := HITE.out; omega) HI3.out))
        have HS5 := Hid.mk' (hS4.setNew (k := bi + 1) (j := l'.length) (.int .i64 (n4 : Int)) (by have := HLT.out; omega) (by have := HLT.out; omega))
        have HF5 := Hid.mk' (Fr.setNew (HF3.out.trans hF4) (k := bi + 1) (o := l'.length) (by have := HLT.out; omega) (.int .i64 (n4 : Int)))
        have HP4 := Hid.mk' (HP1.out.step hA4 hlt)
        clear hC4 hS4 hF4 hA4
        go_wp2
        go_roundw
        case rel =>
          refine ⟨l' ++ [n4], s4, by simp; omega, ?_, HA5, HQ5, HB5, HP4, HS5, HF5⟩
          rw [List.length_append]
          exact HI5
        case measure =>
          have e5 : (w4.setCell ⟨bi + 1, l'.length, none⟩ (.int .i64 (n4 : Int))).iterPos it = l'.length + 1 := by simp only [World.iterPos, HI5.out]
          rw [HPS.out, e5]
          omega
      · have hnx : ∀ ty, (Instr.next (.pointer (some ⟨it, 0, none⟩)) true ty).run Tryz.prog wr = _ := fun ty => Lib.run_next_end_at wr it t l'.length ty HI1.out (by rw [HSZ.out]; exact hlt)
        have z0 := (cell_row _ (bi + 1) 0 _ _ HA1.out).trans (arr4_get l' 0 (by omega))
        have z1 := (cell_row _ (bi + 1) 1 _ _ HA1.out).trans (arr4_get l' 1 (by omega))
        have z2 := (cell_row _ (bi + 1) 2 _ _ HA1.out).trans (arr4_get l' 2 (by omega))
        have z3 := (cell_row _ (bi + 1) 3 _ _ HA1.out).trans (arr4_get l' 3 (by omega))
        have x0 := (cell_row _ bx 0 _ _ HB1.out).trans rfl
        have x1 := (cell_row _ bx 1 _ _ HB1.out).trans rfl
        have x2 := (cell_row _ bx 2 _ _ HB1.out).trans rfl
        have x3 := (cell_row _ bx 3 _ _ HB1.out).trans rfl
        have x4 := (cell_row _ bx 4 _ _ HB1.out).trans rfl
        have xf := thaw_row _ _ _ _ HB1.out
        have r0 := (cell_row _ bi 0 _ _ HQ1'.out).trans rfl
        have r1 := (cell_row _ bi 1 _ _ HQ1'.out).trans rfl
        have r2 := (cell_row _ bi 2 _ _ HQ1'.out).trans rfl
        have r3 := (cell_row _ bi 3 _ _ HQ1'.out).trans rfl
        have r4 := (cell_row _ bi 4 _ _ HQ1'.out).trans rfl
        have rf := thaw_row _ _ _ _ HQ1'.out
        obtain ⟨q0, hq0⟩ : ∃ q0 : Nat, l'.getD 0 0 = q0 := ⟨_, rfl⟩
        obtain ⟨q1, hq1⟩ : ∃ q1 : Nat, l'.getD 1 0 = q1 := ⟨_, rfl⟩
        obtain ⟨q2, hq2⟩ : ∃ q2 : Nat, l'.getD 2 0 = q2 := ⟨_, rfl⟩
        obtain ⟨q3, hq3⟩ : ∃ q3 : Nat, l'.getD 3 0 = q3 := ⟨_, rfl⟩
        rw [hq0] at z0
        rw [hq1] at z1
        rw [hq2] at z2
        rw [hq3] at z3
        have HQ : Hid (insOf op l' = ⟨op, q0, q1, q2, q3⟩) := Hid.mk' (by unfold insOf; rw [hq0, hq1, hq2, hq3])
        have hn1 : bx ≠ bi := by have := HLT.out; omega
        have hn2 : bi ≠ bx := Ne.symm hn1
        have HDN := Hid.mk' (HP1.out.done hlt)
        clear hq0 hq1 hq2 hq3
        go_wp2_with fail
        go_region
        go_wp2
        refine bodyPost_ret (v := .agg #[.int .i64 op, .int .i64 q0, .int .i64 q1, .int .i64 q2, .int .i64 q3]) ?_ rfl ⟨⟨op, q0, q1, q2, q3⟩, _, s', rfl, rfl, by rw [← HQ.out]; exact HDN.out, ?_, ?_⟩
        · rw [res_cell rfl]
          go_simp
        · refine St.below ?_ ((Below.refl _ _).drew)
          repeat (refine St.setNew ?_ _ (Ne.symm HNE.out.1) (Ne.symm HNE.out.2))
          repeat (refine St.setNew ?_ _ (by have := HLT.out; omega) (by have := HLT.out; omega))
          exact HS1.out
        · refine Fr.trans ?_ (Fr.of_below ((Below.refl _ _).drew))
          repeat (refine Fr.setNew ?_ (by rw [HBX.out]; exact Nat.le_refl _) _)
          repeat (refine Fr.setNew ?_ (by have := HLT.out; omega) _)
          exact HFw.out
  · have i70 : (70 : Int) < (op : Int) := by omega
    clear hS
    go_wp2
    refine bodyPost_ret (v := .agg #[.int .i64 op, .int .i64 0, .int .i64 0, .int .i64 0, .int .i64 0]) ?_ rfl ⟨⟨op, 0, 0, 0, 0⟩, _, none, rfl, rfl, .inr ⟨?_, rfl⟩, ?_, ?_⟩
    · rw [res_cell rfl]
      go_simp
    · cases s1 with
      | none => rw [HE.out, HA.out.no]; rfl
      | some R =>
        rw [HE.out, HA.out.yes]
        simp only [Option.bind_some]
        rw [if_neg h70]
    · refine St.below ?_ lay_below
      repeat (refine St.setNew ?_ _ (Ne.symm HNE.out.1) (Ne.symm HNE.out.2))
      exact HS.out.bad
    · refine Fr.trans ?_ (Fr.of_below lay_below)
      repeat (refine Fr.setNew ?_ (by rw [HBX.out]; exact Nat.le_refl _) _)
      exact HFa.out.trans (Fr.set _)
end Go.Proofs.YtkgjmiadgfcbnaaGreatDoor
