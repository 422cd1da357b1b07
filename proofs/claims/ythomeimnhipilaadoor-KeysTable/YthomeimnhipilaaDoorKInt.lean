/- keys.Table: Intern, with the table behind it. -/
import Derived.Test.YthomeimnhipilaaDoorKSym
namespace Go.Proofs.YthomeimnhipilaaDoor
set_option linter.unusedVariables false
open Go.RowKit Go.Maps Go.ChangeShapes

theorem Tab.setT {B g mb : Nat} {vt vs v' : Value} {ts ss : List ByteArray} {D D' : DataW Unit} {w W3 w4 W4 w5 : World} {q : ByteArray} (h : Tab B g mb vt vs ts ss D w) (hb : Below w.heap.size w W3) (g4 : W3.grownBy w4 (some mb))
    (m4 : w4.ownsMap Tryd.prog 25 (plainElem Tryd.prog 3) mb (ts.length + 1) D') (hok : MapOk D' (ts ++ [q])) (b5 : Below w4.heap.size w4 W4) (g5 : W4.grownBy w5 vt.ownBlock) (o5 : w5.ownsRow B 23 1 v' (ts.length + 1) (sC ts ++ [.string q])) (hl : v'.ownBlock = vt.ownBlock ∨ v'.ownBlock = some W4.heap.size) :
    Tab B g mb v' vs (ts ++ [q]) ss D' (w5.setCell ⟨g, 2, none⟩ v') := by
  have hW := h.below hb
  have mg : some g ≠ some mb := fun e => by
    cases e
    obtain ⟨es, clock, he, _⟩ := hW.m
    rw [hW.row] at he
    cases he
  have ng : some g ≠ vt.ownBlock := fun e => row_ne hW.t hW.row (by decide) g e.symm rfl
  have nm : some mb ≠ vt.ownBlock := fun e => own_ne_map hW.t hW.m _ e.symm rfl
  have l3 := hW.lt
  have l4 : g < w4.heap.size ∧ mb < w4.heap.size := ⟨Nat.lt_of_lt_of_le l3.1 g4.size, Nat.lt_of_lt_of_le l3.2 g4.size⟩
  have r4 := ((g4.block g l3.1 mg).trans hW.row)
  have s4 := own_other hW.s g4 (own_ne_map hW.s hW.m)
  have r5 := (g5.block g (Nat.lt_of_lt_of_le l4.1 b5.size) ng).trans ((b5.block g l4.1).trans r4)
  have s4' := own_below s4 b5
  have s5 := own_other s4' g5 hW.ap.symm
  have m5 := (own_map_below m4 b5).kept g5 nm
  have gs := grown_set w5 ⟨g, 2, none⟩ v'
  refine ⟨hW.gB, hW.mB, heap_set w5 g 2 v' _ _ _ r5, ?_, own_other s5 gs (row_ne s5 r5 (by decide)), ?_, hok, (apart_new s4' hW.ap.symm hl (Nat.le_refl _)).symm⟩
  · rw [List.length_append, sC_append]
    exact own_other o5 gs (row_ne o5 r5 (by decide))
  · rw [List.length_append]
    refine m5.kept gs (fun e => ?_)
    cases e
    exact mg rfl

/-- What Intern leaves as it was: all but the table, its map and its row of texts. -/
structure Off (w w' : World) (g mb : Nat) (vt : Value) : Prop where
  size : w.heap.size ≤ w'.heap.size
  block : ∀ k, k < w.heap.size → k ≠ g → k ≠ mb → vt.ownBlock ≠ some k → w'.heap[k]? = w.heap[k]?
theorem off_mk {w W3 w4 W4 w5 : World} {g mb o : Nat} {vt : Value} (hb : Below w.heap.size w W3) (g4 : W3.grownBy w4 (some mb)) (b5 : Below w4.heap.size w4 W4) (g5 : W4.grownBy w5 vt.ownBlock) (v : Value) : Off w (w5.setCell ⟨g, o, none⟩ v) g mb vt := by
  have q1 := hb.size; have q2 := g4.size; have q3 := b5.size; have q4 := g5.size
  refine ⟨by simp [World.setCell]; omega, fun k hk n1 n2 n3 => ?_⟩
  have e1 : (w5.setCell ⟨g, o, none⟩ v).heap[k]? = w5.heap[k]? := Below.heap_setCell _ _ _ _ n1
  rw [e1, g5.block k (by omega) (fun e => n3 e.symm), b5.block k (by omega), g4.block k (by omega) (fun e => n2 (by cases e; rfl)), hb.block k hk]

set_option maxHeartbeats 4000000 in
set_option maxRecDepth 100000 in
theorem intern_tab {B g mb : Nat} {vt vs : Value} {ts ss : List ByteArray} {D : DataW Unit} (s : ByteArray) (w : World) (h : Tab B g mb vt vs ts ss D w) (hs : (s.size : Int) ≤ 140737488351232) (hno : evenS s ∉ ts) (hzt : ∀ t ∈ ts, t.size ≤ maxLen) (hn : (ts.length : Int) * 16 + 16 ≤ 140737488351232) :
    Calls Tryd.prog 17 #[.pointer (some ⟨g, 0, none⟩), .string s] w fun e w' => e = .returned (.int .i64 ts.length) ∧ (∃ vt' D', Tab B g mb vt' vs (ts ++ [evenS s]) ss D' w' ∧ (vt'.ownBlock = vt.ownBlock ∨ ∃ r, w.heap.size ≤ r ∧ vt'.ownBlock = some r)) ∧ Off w w' g mb vt ∧ Below B w w' := by
  obtain ⟨i0, hi, hz0, hz1, hz2⟩ := info_parts infoS
  obtain ⟨c0, c1, c2, c3⟩ := h.cell
  have hes : (evenS s).size ≤ maxLen := by rw [even_size']; unfold maxLen; omega
  have HM := Hid.mk' (isMade_yes w h)
  have HBr := Hid.mk' (fun W => bare_text s 0 W hs (by omega))
  have HOw := Hid.mk' (fun W => own_any s W hs)
  have hhas : has D (kl (evenS s)) = false := h.ok.no _ hes hno
  have HK := Hid.mk' (key_mk (evenS s) hes)
  have HT := Hid.mk' h
  have HOK := Hid.mk' (h.ok.put (evenS s) hes hzt hno)
  obtain ⟨q, hq⟩ : ∃ q, evenS s = q := ⟨_, rfl⟩
  rw [hq] at HBr HOw hhas HK HOK ⊢
  obtain ⟨xt, ct, rfl⟩ := own_slice' h.t |>.imp fun _ h => h.imp fun _ h => h.1
  have hlt := h.lt
  clear h hq hno hes hzt
  go_enter Tryd.func17, Tryd.ntmps17
  go_wp2_with (first | (go_at_call 37; refine (HM.out).mono ?_; rintro e w1 ⟨rfl, hw1⟩; rw [hw1]; clear hw1 w1) | (go_at_call 27; refine (HBr.out _).mono ?_; rintro e w1 ⟨rfl, b1⟩))
  have s1 := b1.size
  have m1 := own_map_below HT.out.m b1
  have k0 := (b1.cell (p := ⟨g, 0, none⟩) hlt.1).trans c0
  have k1 := (b1.cell (p := ⟨g, 1, none⟩) hlt.1).trans c1
  have k2 := (b1.cell (p := ⟨g, 2, none⟩) hlt.1).trans c2
  have g1 : g < w1.heap.size := by omega
  have hrun : ∀ n, (Instr.lookup 50 (.map (some mb)) (.agg #[.string q, .int .i64 0]) true).run Tryd.prog ((w1.alloc (.cells #[.string q, .int .i64 0] 25)).drewN n) = .ok (.tuple #[.int .i64 0, .bool false]) ((w1.alloc (.cells #[.string q, .int .i64 0] 25)).drewN n) := fun n => look_no (show ((w1.alloc (.cells #[.string q, .int .i64 0] 25)).drewN n).ownsMap Tryd.prog 25 (plainElem Tryd.prog 3) mb ts.length D from m1.alloc _) HK.out hhas
  go_quiet (fail)
  clear hrun
  have HM1 := Hid.mk' m1
  have HH := Hid.mk' hhas
  have hg0 := HT.out.frozen 2
  have fz2 := (b1.frozen (p := ⟨g, 2, none⟩) hlt.1).trans hg0
  have HN := Hid.mk' hn
  have hmb : mb < w1.heap.size := by omega
  have HT1 := Hid.mk' (own_below HT.out.t b1)
  have HS1 := Hid.mk' (own_below HT.out.s b1)
  have hB1 : B ≤ w1.heap.size := Nat.le_trans HT.out.gB (by omega)
  have HB0 := Hid.mk' b1
  have HB1 := Hid.mk' (b1.mono (show B ≤ w.heap.size from Nat.le_trans HT.out.gB (by omega)))
  clear m1 hhas hn s1 c0 c1 c2 c3 hlt hg0
  go_wp2_with (first | (go_at_call 29; refine (HOw.out _).mono ?_; rintro e w2 ⟨rfl, b2⟩; have d0 := (b2.cell (p := ⟨w1.heap.size, 0, none⟩) (by simp)).trans (World.cell?_alloc_new _ _ _ _); have d1 := (b2.cell (p := ⟨w1.heap.size, 1, none⟩) (by simp)).trans (World.cell?_alloc_new _ _ _ _); have f0 := (b2.frozen (p := ⟨w1.heap.size, 0, none⟩) (by simp)).trans (World.frozen?_alloc_new _ _ _ _); have s2 : w1.heap.size < w2.heap.size := Nat.lt_of_lt_of_le (by simp) b2.size; simp only [List.getElem?_toArray, List.getElem?_cons_zero, List.getElem?_cons_succ] at d0 d1))
  have B2 : Below w1.heap.size w1 w2 := Below.trans (below_drewN ((Below.refl _ _).alloc (Nat.le_refl _) _) _) (b2.mono (by simp))
  have e1 := (B2.cell (p := ⟨g, 1, none⟩) g1).trans k1
  have e2 := (B2.cell (p := ⟨g, 2, none⟩) g1).trans k2
  have z2 := (B2.frozen (p := ⟨g, 2, none⟩) g1).trans fz2
  have m2 : ((w2.setCell ⟨w1.heap.size, 0, none⟩ (.string q)).drew).ownsMap Tryd.prog 25 (plainElem Tryd.prog 3) mb ts.length D := (own_map_below HM1.out B2).setCell (by simp; omega) _
  obtain ⟨w4, hupd, m4, t4⟩ := m2.store keyLaw Tryd.underlying50 (by have := HN.out; unfold maxLen; omega) HK.out (plainElem_int Tryd.underlying3 (a := (ts.length : Int)) (by have := HN.out; simp [Lit.wf, IntKind.min, IntKind.max, IntKind.bits, IntKind.signed]; omega))
  have hne : g ≠ w1.heap.size := by omega
  clear b2 m2 k1 k2 fz2
  have gt := t4.grown
  have B3 : Below w1.heap.size w1 (w2.setCell ⟨w1.heap.size, 0, none⟩ (.string q)).drew := (B2.setCell (by simp) _).drew
  have s3 : w1.heap.size ≤ ((w2.setCell ⟨w1.heap.size, 0, none⟩ (.string q)).drew).heap.size := B3.size
  have s4 : w1.heap.size ≤ w4.heap.size := Nat.le_trans s3 gt.size
  have s2' : w1.heap.size < ((w2.setCell ⟨w1.heap.size, 0, none⟩ (.string q)).drew).heap.size := by simpa [World.setCell] using s2
  have mlt : mb ≠ g := fun e => by
    obtain ⟨es, clock, he, _⟩ := HM1.out
    have := k0
    rw [← e] at this
    simp [World.cell?, he] at this
  have e4 : w4.cell? ⟨g, 2, none⟩ = some (.slice xt ts.length ct) := (grown_cell gt (p := ⟨g, 2, none⟩) (by show g < _; omega) (by simp <;> omega)).trans (by rw [World.cell?_drew, World.cell?_setCell_other _ _ _ _ (by simp <;> omega)]; exact e2)
  have z4 : w4.frozen? ⟨g, 2, none⟩ = false := (grown_frozen gt (p := ⟨g, 2, none⟩) (by show g < _; omega) (by simp <;> omega)).trans (by rw [World.frozen?_drew, World.frozen?_setCell]; exact z2)
  have n4 : w4.cell? ⟨w1.heap.size, 0, none⟩ = some (.string q) := (grown_cell gt (p := ⟨w1.heap.size, 0, none⟩) s2' (by simp <;> omega)).trans (by rw [World.cell?_drew]; exact World.cell?_setCell_same _ _ _ d0)
  have g4 : g < w4.heap.size := by omega
  have l4 : w1.heap.size < w4.heap.size := Nat.lt_of_lt_of_le s2' gt.size
  have o4 := own_other (own_below HT1.out B3) gt (own_ne_map HT1.out HM1.out)
  have B4 : Below B w w4 := (HB1.out.trans (B3.mono hB1)).trans ((Below.refl _ _).grown gt (Nat.le_trans hB1 s3) (fun j hj => by cases hj; exact HT.out.mB))
  have HO4 := Hid.mk' o4
  have HW3 := Hid.mk' (HB0.out.trans (B3.mono HB0.out.size))
  have GT := Hid.mk' gt
  have M4 := Hid.mk' m4
  have HB4 := Hid.mk' B4
  have hgB := HT.out.gB
  have hB4 : B ≤ w4.heap.size := Nat.le_trans hB1 s4
  have hn := HN.out
  have HNE : Hid (∀ r, (Value.slice xt ts.length ct).ownBlock = some r → r ≠ g) := Hid.mk' (fun r hr e => by
    have h1 := HT.out.t; have h2 := HT.out.row
    rcases h1.2 with ⟨e1, _⟩ | ⟨g', cap, cur, e1, _, hg', _⟩
    · rw [e1] at hr; cases hr
    · rw [e1] at hr
      simp [Value.ownBlock] at hr
      subst hr; subst e
      rw [h2] at hg'
      simp at hg')
  go_region
  clear B4 o4 gt B3 hupd t4 m4 e1 e2 z2 B2 s2 s2' s3 hmb mlt d0 d1 f0 k0
  go_wp2_with fail
  go_region_law (refine step_append_own_at rfl (.tmp 44) (.tmp 47) 33 rfl B 23 i0 (.string ⟨#[]⟩) 1 16 Tryd.underlying33 hi hz0 hz1 hz2 rfl (by decide) _ _ _ rfl (World.ownsRow.alloc (show w4.drew.ownsRow _ _ _ _ _ _ from HO4.out) _) _ 1 1 _ rfl (by rfl) (cells_new _ _ _) (by simp [Value.oneCell']) (by unfold maxLen; omega) (by omega) (by simp <;> omega) ?_; intro v5 w5 o5 g5 hl5; have e5 : w5.cell? ⟨g, 2, none⟩ = some (.slice xt ts.length ct) := ((grown_cell g5 (p := ⟨g, 2, none⟩) (by simp <;> omega) (fun e => HNE.out g e.symm rfl)).trans ((((Below.refl w4.heap.size w4).drew).alloc (by simp) _).cell (p := ⟨g, 2, none⟩) g4)).trans e4; have z5 : w5.frozen? ⟨g, 2, none⟩ = false := ((grown_frozen g5 (p := ⟨g, 2, none⟩) (by simp <;> omega) (fun e => HNE.out g e.symm rfl)).trans ((((Below.refl w4.heap.size w4).drew).alloc (by simp) _).frozen (p := ⟨g, 2, none⟩) g4)).trans z4; have x5 : Below B w w5 := (((HB4.out).drew).alloc (by simp <;> omega) _).trans ((Below.refl _ _).grown g5 (by simp <;> omega) (fun k hk => (HO4.out.lt k hk).1)); obtain ⟨y5, c5, hv5, _⟩ := own_slice' o5; subst hv5)
  all_goals
    have HT5 := Hid.mk' (HT.out.setT HW3.out GT.out M4.out HOK.out (((Below.refl w4.heap.size w4).drew).alloc (by simp) _) g5 o5 hl5)
    have HF5 := Hid.mk' (off_mk (g := g) (o := 2) HW3.out GT.out (((Below.refl w4.heap.size w4).drew).alloc (by simp) _) g5 (.slice y5 (ts.length + 1) c5))
    have HL : Hid ((Value.slice y5 (ts.length + 1) c5).ownBlock = (Value.slice xt ts.length ct).ownBlock ∨ ∃ r, w.heap.size ≤ r ∧ (Value.slice y5 (ts.length + 1) c5).ownBlock = some r) := Hid.mk' (hl5.imp id fun e => ⟨_, Nat.le_trans (Nat.le_trans HW3.out.size GT.out.size) (by simp), e⟩)
    clear o5 g5 hl5
    go_wp2
    go_ret
    exact ⟨rfl, ⟨_, _, HT5.out, HL.out⟩, HF5.out, x5.setCell (show B ≤ g from hgB) _⟩

end Go.Proofs.YthomeimnhipilaaDoor
