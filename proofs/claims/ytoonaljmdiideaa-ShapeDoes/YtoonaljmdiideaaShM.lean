/- Package shape: lead. Package shape: a line with one more key. Package shape: slices.Grow and slices.Concat of flags. -/
import Derived.Test.YtoonaljmdiideaaShJ
import Derived.Lib.AppendZerosOnto
import Derived.Laws.OwnMore
import Derived.Lib.SliceRun
namespace Go.Proofs.Ytoonaljmdiideaa
set_option linter.unusedVariables false
set_option linter.unusedSimpArgs false
open Go.RowKit Go.Maps Go.ChangeShapes
section
variable {C : List (Nat × Obj)} {B g mn mw lb : Nat} {vk vs vl : Value} {ks : List Kb} {ln : List Int} {fs : List (List Int)} {fv : List (Nat × Value)} {nw : Nat} {Dn Dw : DataW Unit} {w : World}

theorem lead_row {w4 X4 w5 : World} {v a0 a1 a2 a3 a4 : Value} {t : TypeId} (h : w4.heap[g]? = some (.cells #[a0, a1, a2, a3, a4] t (0, 0))) (hX : Below w4.heap.size w4 X4) (g5 : X4.grownBy w5 v.ownBlock) (hn : some g ≠ v.ownBlock) : w5.heap[g]? = some (.cells #[a0, a1, a2, a3, a4] t (0, 0)) :=
  (Sv.grown g5).all g _ (fun q => hn (by simpa [eq_comm] using q)) ((Sv.below hX).all g _ (by simp) h)
theorem lead_row3 {w4 X4 w5 : World} {v a0 a1 a2 a3 a4 : Value} {t : TypeId} (h : w4.heap[g]? = some (.cells #[a0, a1, a2, a3, a4] t (0, 0))) (hX : Below w4.heap.size w4 X4) (g5 : X4.grownBy w5 v.ownBlock) (hn : some g ≠ v.ownBlock) : w5.cell? ⟨g, 3, none⟩ = some a3 ∧ w5.frozen? ⟨g, 3, none⟩ = false := by
  have h2 := lead_row h hX g5 hn
  constructor <;> simp [World.cell?, World.frozen?, h2]
theorem lead_end (h : T1 C B g mn mw lb vk vs vl ks ln fs fv nw Dn Dw w) (hfl : fs.length = fv.length) {W2 X4 w5 w7 : World} {v5 x : Value} {lb' : Nat} {l : List Int} {Dw' : DataW Unit} (b2 : Below w.heap.size w W2) (ba : Below W2.heap.size W2 X4) (g5 : X4.grownBy w5 vs.ownBlock) (o5 : w5.ownsRow B 63 2 v5 (fv.length + 1) (cC fv ++ [.pointer (some ⟨lb', 0, none⟩), x])) (hl5 : v5.ownBlock = vs.ownBlock ∨ v5.ownBlock = some X4.heap.size)
    (gt : (w5.setCell ⟨g, 3, none⟩ v5).drew.grownBy w7 (some mw)) (m7 : w7.ownsMap Try.prog 74 (plainElem Try.prog 3) mw (nw + 1) Dw') (hx : w.ownsRow B 5 1 x l.length (bC l)) :
    T1 C B g mn mw lb vk v5 vl ks ln (fs ++ [l]) (fv ++ [(lb', x)]) (nw + 1) Dn Dw' w7 ∧ Below B w w7 := by
  have hB : B ≤ w.heap.size := by have := h.ge.1; have := h.lts.1; omega
  have s1 : Sv [] w W2 := Sv.below b2
  have s3 : Sv [] W2 X4 := Sv.below ba
  have s4 : Sv vs.ownBlock.toList X4 w5 := Sv.grown g5
  have s5 : Sv [g] w5 (w5.setCell ⟨g, 3, none⟩ v5) := Sv.set _ _ _ _
  have s6 : Sv [mw] (w5.setCell ⟨g, 3, none⟩ v5) w7 := ⟨gt.size, (Sv.grown gt).all⟩
  have S5 : Sv vs.ownBlock.toList w w5 := by have := (s1.trans s3).trans s4; simpa using this
  have S7 : Sv (vs.ownBlock.toList ++ [g] ++ [mw]) w w7 := (S5.trans s5).trans s6
  obtain ⟨n1, n2, n3, n4, n5⟩ := h.nes
  obtain ⟨r1, r2⟩ := h.rowne h.s (by decide) (by decide)
  have q5 : w5.heap[g]? = some (.cells #[.pointer (some ⟨g, 0, none⟩), .map (some mn), vk, vs, .map (some mw)] 68 (0, 0)) := S5.all _ _ (fun q => r1 (by simpa [eq_comm] using q)) h.row
  have q6 : (w5.setCell ⟨g, 3, none⟩ v5).heap[g]? = some (.cells #[.pointer (some ⟨g, 0, none⟩), .map (some mn), vk, v5, .map (some mw)] 68 (0, 0)) := by have := set_blk2' (j := 3) (v := v5) q5; simpa using this
  have o6 := s5.own o5 (fun y hy => by rw [List.mem_singleton.1 hy]; exact sh_ne o5 q5 (fun c fz q => by cases q))
  obtain ⟨em, cm, hm, _⟩ := h.m
  have hm6 : (w5.setCell ⟨g, 3, none⟩ v5).heap[mw]? = some (.map em cm) := (S5.trans s5).all _ _ (fun q => by
    have : vs.ownBlock = some mw ∨ mw = g := by simpa [eq_comm] using q
    rcases this with e | e
    · exact (h.mapne h.s).2 e.symm
    · exact n3 e.symm) hm
  have sz : w.heap.size ≤ X4.heap.size := Nat.le_trans s1.size s3.size
  refine ⟨h.appS hfl S7 (s6.own o6 (fun y hy => by rw [List.mem_singleton.1 hy]; exact sh_ne o6 hm6 (fun c fz q => by cases q))) (s6.all _ _ (by simpa using n3) q6) m7 (S7.own hx (fun y hy => ?_)) ?_, ?_⟩
  · have : vs.ownBlock = some y ∨ y = g ∨ y = mw := by simpa [eq_comm, or_assoc] using hy
    rcases this with e | rfl | rfl
    · exact sh_apart h.s hx (by decide) y e
    · exact (h.rowne hx (by decide) (by decide)).1
    · exact (h.mapne hx).2
  · rcases hl5 with e | e
    · exact .inl e
    · exact .inr ⟨_, e, sz⟩
  · have B2 : Below B w W2 := b2.mono hB
    have B4 : Below B w X4 := B2.trans (ba.mono (Nat.le_trans hB s1.size))
    have B5 : Below B w w5 := B4.trans ((Below.refl _ _).grown g5 (Nat.le_trans hB sz) (fun j hj => (h.s.lt j hj).1))
    have B6 : Below B w (w5.setCell ⟨g, 3, none⟩ v5) := B5.setCell (p := ⟨g, 3, none⟩) h.ge.1 _
    exact B6.drew.trans ((Below.refl _ _).grown gt (Nat.le_trans hB (Nat.le_trans sz (Nat.le_trans s4.size s5.size))) (fun j hj => by cases hj; exact h.ge.2.2.1))

set_option maxHeartbeats 4000000 in
set_option maxRecDepth 100000 in
theorem lead_any (x : Int × Int × Int) (lb' : Nat) (v : Value) (l : List Int) (ws : List ((Int × Int × Int) × Int)) (w : World) (h : T1 C B g mn mw lb vk vs vl ks ln fs fv nw Dn Dw w) (hfl : fs.length = fv.length) (hn : WayOk Dw ws) (hx : Wwf x) (hno : ∀ p ∈ ws, p.1 ≠ x) (hl : fv.length < 100000) (hnw : nw < 100000) (hv : w.ownsRow B 5 1 v l.length (bC l)) :
    Calls Try.prog 28 #[.pointer (some ⟨g, 0, none⟩), wv x, .agg #[.pointer (some ⟨lb', 0, none⟩), v]] w fun e w' => e = .returned (.int .i64 (fv.length : Nat)) ∧ ∃ vs' Dw', T1 C B g mn mw lb vk vs' vl ks ln (fs ++ [l]) (fv ++ [(lb', v)]) (nw + 1) Dn Dw' w' ∧ WayOk Dw' (ws ++ [(x, (fv.length : Int))]) ∧ Below B w w' := by
  obtain ⟨i0, hif, hz0, hz1, hz2⟩ := sh_parts sh_infoC
  have HPUT := Hid.mk' (hn.put x (fv.length : Int) hx hno)
  have HKM := Hid.mk' (way_mk x hx)
  have HV := Hid.mk' hv
  obtain ⟨va, vc, hvv, _⟩ := own_slice' hv
  obtain ⟨ll, hll⟩ : ∃ ll, l.length = ll := ⟨_, rfl⟩
  rw [hll] at hvv
  obtain ⟨x1, x2, x3⟩ := x
  unfold wv at HKM ⊢
  dsimp only at HKM ⊢
  obtain ⟨W2, hW2⟩ : ∃ W2, (w.alloc (.cells #[.int .i64 x1, .int .i32 x2, .int .i64 x3] 74)).alloc (.cells #[.pointer (some ⟨lb', 0, none⟩), v] 63) = W2 := ⟨_, rfl⟩
  have b2 : Below w.heap.size w W2 := by rw [← hW2]; exact ((Below.refl _ _).alloc (Nat.le_refl _) _).alloc (by simp) _
  have q1 : W2.heap[w.heap.size]? = some (.cells #[.int .i64 x1, .int .i32 x2, .int .i64 x3] 74 (0, 0)) := by rw [← hW2]; exact sh_old (by simp) (sh_new rfl)
  have q2 : W2.heap[w.heap.size + 1]? = some (.cells #[.pointer (some ⟨lb', 0, none⟩), v] 63 (0, 0)) := by rw [← hW2]; exact sh_new (by simp)
  have sz2 : w.heap.size + 2 = W2.heap.size := by rw [← hW2]; simp
  obtain ⟨b0, hb0⟩ : ∃ b0, w.heap.size = b0 := ⟨_, rfl⟩
  rw [hb0] at q1 q2 sz2
  have HS0 := Hid.mk' hb0
  obtain ⟨_, _, g0, g1⟩ := pair_facts q2
  have p0 : W2.cell? ⟨b0, 0, none⟩ = some (.int .i64 x1) := by simp [World.cell?, q1]
  have p1 : W2.cell? ⟨b0, 1, none⟩ = some (.int .i32 x2) := by simp [World.cell?, q1]
  have p2 : W2.cell? ⟨b0, 2, none⟩ = some (.int .i64 x3) := by simp [World.cell?, q1]
  have HT := Hid.mk' h
  have h2 := h.below b2
  obtain ⟨c0, c1, c2, c3, c4, cf, l0, lf⟩ := h2.cells
  obtain ⟨xa, xc, hvs, _⟩ := own_slice' h.s
  have HVS := Hid.mk' hvs
  have HNE := Hid.mk' (h2.rowne h2.s (by decide) (by decide)).1
  have HO2 := Hid.mk' h2.s
  have HR2 := Hid.mk' h2.row
  obtain ⟨n, hnn⟩ : ∃ n, fv.length = n := ⟨_, rfl⟩
  have HNN := Hid.mk' hnn
  have hgd : (Value.slice xa n xc).ownBlock = vs.ownBlock := by rw [hvs, hnn]
  rw [hvs] at c3 HO2 HNE
  rw [hnn] at c3 hl HO2 HNE
  rw [hnn]
  have HH2 := Hid.mk' hW2
  have HB2 := Hid.mk' b2
  have HQ1 := Hid.mk' q1
  have HL2 : Hid (B ≤ W2.heap.size ∧ mw < w.heap.size ∧ g < w.heap.size) := Hid.mk' ⟨by have := h.ge.1; have := h.lts.1; have := b2.size; omega, h.lts.2.2.2.1, h.lts.1⟩
  have g4 : g < W2.heap.size := h2.lts.1
  have l4 : b0 + 1 < W2.heap.size := by omega
  have l5 : b0 < W2.heap.size := by omega
  have HBA : Hid (Below W2.heap.size W2 (W2.alloc (.cells #[.pointer (some ⟨lb', 0, none⟩), v] 63)).drew) := Hid.mk' (((Below.refl _ _).alloc (Nat.le_refl _) _).drew)
  have HFL := Hid.mk' hfl
  have HVV := Hid.mk' hvv
  rw [hvv] at g1 HH2 HBA
  rw [hvv]
  have HNW := Hid.mk' hnw
  have HL := Hid.mk' hl
  clear h hn hx hno hv hll hvs hnn b2 q1 q2 sz2 h2 c0 c1 c2 c4 cf l0 lf hW2 hfl hnw hvv
  go_enter Try.func28, Try.ntmps28
  go_upto_region 1 with fail
  rw [HH2.out]
  go_upto_region 2 with fail
  go_cut [] from 13 (fun wc => Hid (∃ w5 v5, (W2.alloc (.cells #[.pointer (some ⟨lb', 0, none⟩), .slice va ll vc] 63)).drew.grownBy w5 vs.ownBlock ∧ w5.ownsRow B 63 2 v5 (n + 1) (cC fv ++ [.pointer (some ⟨lb', 0, none⟩), .slice va ll vc]) ∧ (v5.ownBlock = vs.ownBlock ∨ v5.ownBlock = some (W2.alloc (.cells #[.pointer (some ⟨lb', 0, none⟩), .slice va ll vc] 63)).drew.heap.size) ∧ wc = w5.setCell ⟨g, 3, none⟩ v5))
  case first =>
    go_region_law (refine sh_append rfl (.tmp 17) (.tmp 19) 64 rfl B 63 i0 (.agg #[.pointer none, .slice none 0 0]) 2 32 Try.underlying64 hif hz0 hz1 hz2 rfl (by decide) _ _ _ rfl (World.ownsRow.alloc (show W2.drew.ownsRow _ _ _ _ _ _ from HO2.out) _) _ 1 1 _ rfl (by rfl) (cells_new _ _ _) (by simp [Value.oneCell']) (by have := HL.out; unfold maxLen; omega) (by have := HL.out; omega) (Nat.le_trans HL2.out.1 (by simp)) ?_; intro v5 w5 o5 g5 hl5; obtain ⟨a5, c5, hv5, _⟩ := own_slice' o5; subst hv5; have HG5 : Hid ((W2.alloc (.cells #[.pointer (some ⟨lb', 0, none⟩), .slice va ll vc] 63)).drew.grownBy w5 (Value.slice xa n xc).ownBlock) := Hid.mk' g5; have HL5 : Hid ((Value.slice a5 (n + 1) c5).ownBlock = (Value.slice xa n xc).ownBlock ∨ (Value.slice a5 (n + 1) c5).ownBlock = some (W2.alloc (.cells #[.pointer (some ⟨lb', 0, none⟩), .slice va ll vc] 63)).drew.heap.size) := Hid.mk' hl5; obtain ⟨e5, z5⟩ := lead_row3 HR2.out HBA.out HG5.out HNE.out; rw [HVS.out, HNN.out] at e5; have HO5 : Hid (w5.ownsRow B 63 2 (.slice a5 (n + 1) c5) (n + 1) (cC fv ++ [.pointer (some ⟨lb', 0, none⟩), .slice va ll vc])) := Hid.mk' o5; clear o5 g5 hl5)
    all_goals
      go_wp2_with fail
      rw [hgd] at HG5 HL5
      go_meet
      exact Hid.mk' ⟨_, _, HG5.out, HO5.out, HL5.out, rfl⟩
  case rest =>
    obtain ⟨w5, v5, g5, o5, hl5, rfl⟩ := hcut.out
    have r5 := lead_row HR2.out HBA.out g5 (by rw [← hgd]; exact HNE.out)
    have S5 : Sv vs.ownBlock.toList W2 w5 := by have := (Sv.below HBA.out).trans (Sv.grown g5); simpa using this
    have S6 := S5.trans (Sv.set w5 g 3 v5)
    obtain ⟨W6, hW6⟩ : ∃ W6, w5.setCell ⟨g, 3, none⟩ v5 = W6 := ⟨_, rfl⟩
    have r6 : W6.heap[g]? = some (.cells #[.pointer (some ⟨g, 0, none⟩), .map (some mn), vk, v5, .map (some mw)] 68 (0, 0)) := by rw [← hW6]; have := set_blk2' (j := 3) (v := v5) r5; simpa using this
    rw [hW6] at S6
    have q6 : W6.heap[b0]? = some (.cells #[.int .i64 x1, .int .i32 x2, .int .i64 x3] 74 (0, 0)) := S6.all _ _ (by
      intro q
      have : vs.ownBlock = some b0 ∨ b0 = g := by simpa [eq_comm] using q
      have := HS0.out
      have := HL2.out
      rcases ‹vs.ownBlock = some b0 ∨ b0 = g› with e | e
      · have := HT.out.lts.2.2.2.2.2.1 b0 e; omega
      · omega) HQ1.out
    have m6 : W6.drew.ownsMap Try.prog 74 (plainElem Try.prog 3) mw nw Dw := S6.map (HT.out.below HB2.out).m (by
      intro q
      have : vs.ownBlock = some mw ∨ mw = g := by simpa [eq_comm] using q
      rcases this with e | e
      · exact (HT.out.mapne HT.out.s).2 e.symm
      · exact HT.out.nes.2.2.1 e.symm)
    obtain ⟨w7, hupd, m7, t7⟩ := m6.store wayLaw Try.underlying65 (by have := HNW.out; unfold maxLen; omega) HKM.out (plainElem_int Try.underlying3 (a := (fv.length : Int)) (by have := HNN.out; have := HL.out; simp [Lit.wf, IntKind.min, IntKind.max, IntKind.bits, IntKind.signed]; omega))
    have gt := t7.grown
    have HE := Hid.mk' (lead_end HT.out HFL.out HB2.out HBA.out g5 (by rw [HNN.out]; exact o5) hl5 (by rw [hW6]; exact gt) m7 (by rw [← HVV.out]; exact HV.out))
    rw [HNN.out] at hupd
    have u4 : W6.cell? ⟨g, 4, none⟩ = some (.map (some mw)) := by simp [World.cell?, r6]
    have k0 : W6.cell? ⟨b0, 0, none⟩ = some (.int .i64 x1) := by simp [World.cell?, q6]
    have k1 : W6.cell? ⟨b0, 1, none⟩ = some (.int .i32 x2) := by simp [World.cell?, q6]
    have k2 : W6.cell? ⟨b0, 2, none⟩ = some (.int .i64 x3) := by simp [World.cell?, q6]
    have HH6 := Hid.mk' hW6
    clear g5 o5 hl5 r5 S5 S6 r6 q6 m6 m7 t7 gt hW6 g0 g1 p0 p1 p2 c3 g4 l4 l5 hcut
    go_upto_region 3 with fail
    rw [HH6.out]
    go_region
    clear hupd u4 k0 k1 k2
    go_wp2
    go_ret
    exact ⟨rfl, _, _, HE.out.1, by rw [← HNN.out]; exact HPUT.out, HE.out.2⟩
end
end Go.Proofs.Ytoonaljmdiideaa

namespace Go.Proofs.Ytoonaljmdiideaa
set_option linter.unusedVariables false
set_option linter.unusedSimpArgs false
open Go.RowKit Go.Maps Go.ChangeShapes
section
variable {C : List (Nat × Obj)} {B g mn mw lb : Nat} {vk vs vl : Value} {ks : List Kb} {ln : List Int} {fs : List (List Int)} {fv : List (Nat × Value)} {nw : Nat} {Dn Dw : DataW Unit} {w : World}

theorem line_end (h : T1 C B g mn mw lb vk vs vl ks ln fs fv nw Dn Dw w) {X w5 : World} {v5 : Value} {k : Int} (bX : Below w.heap.size w X) (g5 : X.grownBy w5 vl.ownBlock) (o5 : w5.ownsRow B 21 1 v5 (ln.length + 1) (iC ln ++ [.int .i32 k])) (hl5 : v5.ownBlock = vl.ownBlock ∨ v5.ownBlock = some X.heap.size) :
    T1 C B g mn mw lb vk vs v5 ks (ln ++ [k]) fs fv nw Dn Dw (w5.setCell ⟨lb, 0, none⟩ v5) ∧ Below B w (w5.setCell ⟨lb, 0, none⟩ v5) ∧ w5.cell? ⟨lb, 0, none⟩ = some vl ∧ w5.frozen? ⟨lb, 0, none⟩ = false ∧ (w5.setCell ⟨lb, 0, none⟩ v5).cell? ⟨lb, 0, none⟩ = some v5 := by
  have hB : B ≤ w.heap.size := by have := h.ge.1; have := h.lts.1; omega
  have s1 : Sv [] w X := Sv.below bX
  have s4 : Sv vl.ownBlock.toList X w5 := Sv.grown g5
  have s5 : Sv [lb] w5 (w5.setCell ⟨lb, 0, none⟩ v5) := Sv.set _ _ _ _
  have S5 : Sv vl.ownBlock.toList w w5 := by have := s1.trans s4; simpa using this
  have S6 : Sv (vl.ownBlock.toList ++ [lb]) w (w5.setCell ⟨lb, 0, none⟩ v5) := S5.trans s5
  obtain ⟨r1, r2⟩ := h.rowne h.l (by decide) (by decide)
  have q5 : w5.heap[lb]? = some (.cells #[vl] 60 (0, 0)) := S5.all _ _ (fun q => r2 (by simpa [eq_comm] using q)) h.lrow
  have q6 : (w5.setCell ⟨lb, 0, none⟩ v5).heap[lb]? = some (.cells #[v5] 60 (0, 0)) := by have := set_blk2' (j := 0) (v := v5) q5; simpa using this
  refine ⟨h.appL S6 (s5.own o5 (fun y hy => by rw [List.mem_singleton.1 hy]; exact sh_ne o5 q5 (fun c fz q => by cases q))) q6 ?_, ?_, by simp [World.cell?, q5], by simp [World.frozen?, q5], by simp [World.cell?, q6]⟩
  · rcases hl5 with e | e
    · exact .inl e
    · exact .inr ⟨_, e, s1.size⟩
  · have B4 : Below B w X := bX.mono hB
    have B5 : Below B w w5 := B4.trans ((Below.refl _ _).grown g5 (Nat.le_trans hB s1.size) (fun j hj => (h.l.lt j hj).1))
    exact B5.setCell (p := ⟨lb, 0, none⟩) h.ge.2.2.2 _
theorem T1.lat (h : T1 C B g mn mw lb vk vs vl ks ln fs fv nw Dn Dw w) (j : Nat) (hj : j < ln.length) : ∃ gl c, vl = .slice (some ⟨gl, 0, none⟩) ln.length c ∧ ln.length ≤ c ∧ w.cell? ⟨gl, j, none⟩ = some (.int .i32 ln[j]) := by
  have ho := h.l
  obtain ⟨a, c, hv, _⟩ := own_slice' ho
  subst hv
  obtain ⟨gl, rfl⟩ := own_some ho (by omega)
  have c1 := ho.cells (g := gl) rfl j (.int .i32 ln[j]) (by simp [iC, hj])
  rw [Addr.add_lit] at c1
  refine ⟨gl, c, rfl, ?_, by simpa using c1⟩
  rcases ho.2 with ⟨e, _⟩ | ⟨g', cap', cur', e, _, _, hcap, _⟩
  · simp at e
  · simp at e; omega

set_option maxHeartbeats 4000000 in
set_option maxRecDepth 100000 in
theorem lineWith_app (k : Int) (w : World) (h : T1 C B g mn mw lb vk vs vl ks ln fs fv nw Dn Dw w) (hl : ln.length < 100000) :
    Calls Try.prog 51 #[.pointer (some ⟨lb, 0, none⟩), .int .i64 (ln.length : Nat), .int .i32 k] w fun e w' => e = .returned (.pointer (some ⟨lb, 0, none⟩)) ∧ ∃ vl', T1 C B g mn mw lb vk vs vl' ks (ln ++ [k]) fs fv nw Dn Dw w' ∧ Below B w w' := by
  obtain ⟨i0, hif, hz0, hz1, hz2⟩ := sh_parts sh_info32
  have HT := Hid.mk' h
  obtain ⟨c0, c1, c2, c3, c4, cf, l0, lf⟩ := h.cells
  obtain ⟨xa, xc, hvl, _⟩ := own_slice' h.l
  have HVL := Hid.mk' hvl
  obtain ⟨n, hnn⟩ : ∃ n, ln.length = n := ⟨_, rfl⟩
  have HNN := Hid.mk' hnn
  have hgd : (Value.slice xa n xc).ownBlock = vl.ownBlock := by rw [hvl, hnn]
  have HO : Hid (w.ownsRow B 21 1 (.slice xa n xc) n (iC ln)) := Hid.mk' (by have := h.l; rw [hvl, hnn] at this; exact this)
  rw [hvl, hnn] at l0
  rw [hnn] at hl ⊢
  obtain ⟨WX, hWX⟩ : ∃ WX, w.alloc (.cells #[.int .i32 k] 21) = WX := ⟨_, rfl⟩
  have bX : Below w.heap.size w WX := by rw [← hWX]; exact (Below.refl _ _).alloc (Nat.le_refl _) _
  have HCX : Hid (∀ (jj : Nat) (u : Value), ([.int .i32 k] : List Value)[jj]? = some u → WX.cell? (Addr.add ⟨w.heap.size, 0, none⟩ jj) = some u) := Hid.mk' (by rw [← hWX]; exact cells_new _ _ _)
  have HOX := Hid.mk' (own_below HO.out bX)
  have HBX := Hid.mk' bX
  have HSX : Hid (B ≤ WX.heap.size) := Hid.mk' (by have := h.ge.1; have := h.lts.1; have := bX.size; omega)
  obtain ⟨bq, hbq⟩ : ∃ b, w.heap.size = b := ⟨_, rfl⟩
  rw [hbq] at HCX
  have HLL := Hid.mk' hl
  have e1 : ((n : Int) == (n : Int)) = true := by simp
  have e2 : (k == k) = true := by simp
  clear h c0 c1 c2 c3 c4 cf lf hvl hnn bX hl
  go_enter Try.func51, Try.ntmps51
  go_wp2_with (at_builtin; refine wpList_append_own_at _ rfl _ _ 58 rfl B 21 i0 (.int .i32 0) 1 4 Try.underlying58 hif hz0 hz1 hz2 rfl (by decide) _ _ _ rfl HOX.out ⟨bq, 0, none⟩ 1 1 [.int .i32 k] rfl rfl HCX.out ?c2 (by have := HLL.out; unfold maxLen; omega) (by have := HLL.out; omega) HSX.out ?_)
  case c2 => first | rfl | (intro u hu; rw [List.mem_singleton.1 hu]; rfl)
  intro v5 w5 o5 g5 _ hl5
  (try rw [hgd] at g5)
  (try rw [hgd] at hl5)
  obtain ⟨k1, k2, k3, k4, k5⟩ := line_end HT.out HBX.out g5 (by rw [HNN.out]; exact o5) hl5
  obtain ⟨gl, c5, hv5, hc5, k6⟩ := k1.lat n (by rw [List.length_append, HNN.out]; simp)
  have hq : (ln ++ [k])[n]'(by rw [List.length_append, HNN.out]; simp) = k := by simp [← HNN.out]
  rw [hq] at k6
  rw [List.length_append, HNN.out] at hv5 hc5
  have HK1 := Hid.mk' k1
  have HK2 := Hid.mk' k2
  rw [HVL.out, HNN.out] at k3
  subst hv5
  obtain ⟨W6, hW6⟩ : ∃ W6, w5.setCell ⟨lb, 0, none⟩ (.slice (some ⟨gl, 0, none⟩) (n + [k].length) c5) = W6 := ⟨_, rfl⟩
  have HH6 := Hid.mk' hW6
  rw [hW6] at k5 k6 HK1 HK2
  simp only [List.length_cons, List.length_nil, Nat.zero_add] at k5 hW6 HH6 hc5
  clear o5 g5 hl5 k1 k2 hq l0 hW6
  go_upto_region 3 with fail
  rw [HH6.out]
  have i1 : (n : Int) < ((n + 1 : Nat) : Int) := by omega
  have i3 : (n : Int) < 100000 := by have := HLL.out; omega
  go_wp2
  go_ret
  exact ⟨rfl, _, HK1.out, HK2.out⟩
set_option maxHeartbeats 4000000 in
set_option maxRecDepth 100000 in
theorem lineWith_same (k : Int) (m : Nat) (w : World) (h : T1 C B g mn mw lb vk vs vl ks ln fs fv nw Dn Dw w) (hm : m < ln.length) (hk : ln[m] = k) (hl : ln.length < 100000) :
    Calls Try.prog 51 #[.pointer (some ⟨lb, 0, none⟩), .int .i64 (m : Nat), .int .i32 k] w fun e w' => e = .returned (.pointer (some ⟨lb, 0, none⟩)) ∧ w' = w := by
  obtain ⟨c0, c1, c2, c3, c4, cf, l0, lf⟩ := h.cells
  obtain ⟨gl, c5, hvl, hc5, k6⟩ := h.lat m hm
  obtain ⟨n, hnn⟩ : ∃ n, ln.length = n := ⟨_, rfl⟩
  rw [hvl, hnn] at l0
  rw [hnn] at hm hl hc5
  rw [hk] at k6
  have e1 : ((m : Int) == (n : Int)) = false := by simp; omega
  have e2 : (k == k) = true := by simp
  have i1 : (m : Int) < (n : Int) := by omega
  clear h c0 c1 c2 c3 c4 cf lf hvl hnn hk
  go_enter Try.func51, Try.ntmps51
  go_wp2
  go_ret
  exact ⟨rfl, rfl⟩
end
end Go.Proofs.Ytoonaljmdiideaa

namespace Go.Proofs.Ytoonaljmdiideaa
set_option linter.unusedVariables false
set_option linter.unusedSimpArgs false
open Go.RowKit Go.Maps Go.ChangeShapes

set_option maxHeartbeats 1000000 in
set_option maxRecDepth 100000 in
theorem grow8 (n : Nat) (w : World) (h0 : 1 ≤ n) (h1 : n ≤ 100000) :
    Calls Try.prog 62 #[.slice none 0 0, .int .i64 (n : Nat)] w fun e w' => ∃ a c, e = .returned (.slice a 0 c) ∧ w'.ownsRow w.heap.size 5 1 (.slice a 0 c) 0 [] ∧ Below w.heap.size w w' := by
  obtain ⟨i0, hif, hz0, hz1, hz2⟩ := sh_parts sh_info8
  have hrz := Lib.run_append_grow_zeros (P := Try.prog) w 61 3 61 5 i0 (.int .u8 0) .i64 .i64 Try.underlying61 Try.underlying3 hif hz0 none 0 0 [] (run_firstCells_none _ _ _ _ _) n (by omega) (by omega) (by omega) (by omega) (by rw [hz2]; omega) (growslice_fits (by omega) (by rw [hz2]; omega))
  rw [Nat.zero_add] at hrz
  have hGn : n ≤ grownCap w n 0 5 := grownCap_ge w _ _ _
  have hGm := grownCap_le_maxLen w n 0 5 (by unfold maxLen; omega)
  obtain ⟨G, hG⟩ : ∃ G, grownCap w n 0 5 = G := ⟨_, rfl⟩
  rw [hG] at hrz hGn hGm
  obtain ⟨A, hA⟩ : ∃ A, (([] : List Value).toArray ++ Builtin.zeroCells (Value.int .u8 0).cells n ++ Builtin.zeroCells (Value.int .u8 0).cells (G - n)) = A := ⟨_, rfl⟩
  have HA : Hid (A.size = G * 1) := Hid.mk' (by rw [← hA]; simp [Builtin.zeroCells, Value.cells]; omega)
  rw [hA] at hrz
  have HM := Hid.mk' hGm
  have hG63 : G ≤ 9223372036854775807 := by unfold maxLen at hGm; omega
  have j1 : ¬ (n : Int) < 0 := by omega
  have j2 : (n : Int) > 0 := by omega
  clear hG hA hif hz0 hz1 hz2 hGm
  go_enter Try.func62, Try.ntmps62
  go_wp2_with (at_builtin; refine Lib.wpList_append_run _ rfl _ _ _ _ rfl _ _ rfl rfl _ _ hrz ?_)
  go_ret
  refine ⟨_, _, rfl, ?_, ?_⟩
  · exact World.ownsRow_made w.drew A G (Nat.le_refl _) HM.out HA.out
  · exact (Below.refl _ _).drew.alloc (Nat.le_refl _) _
/-- One row of flags onto another. -/
theorem app8 {w : World} {B B' n : Nat} {v u : Value} {xs l : List Int} (hv : w.ownsRow B 5 1 v n (bC xs)) (hu : w.ownsRow B' 5 1 u l.length (bC l)) (hs : n + l.length ≤ 100000) (hB : B ≤ w.heap.size) :
    ∃ v' w', (Builtin.append_ #[61, 61] 61 #[v, u]).run Try.prog w = .ok v' w' ∧ w'.ownsRow B 5 1 v' (n + l.length) (bC (xs ++ l)) ∧ Below B w w' := by
  obtain ⟨i0, hif, hz0, hz1, hz2⟩ := sh_parts sh_info8
  rcases hu.2 with ⟨rfl, hl⟩ | ⟨g, cap, cur, rfl, hBg, hg, hcap, _, _, hcur⟩
  · have e := List.length_eq_zero_iff.1 hl
    subst e
    refine ⟨v, w, run_append_owned_none (w := w) B 61 61 5 i0 1 Try.underlying61 hif v n _ hv, ?_, Below.refl _ _⟩
    simpa using hv
  · obtain ⟨v', w', hrun, r1, r2, _⟩ := run_append_own_at (P := Try.prog) w B 61 61 5 i0 (.int .u8 0) 1 1 Try.underlying61 hif hz0 hz1 hz2 rfl (by decide) v n (bC xs) hv ⟨g, 0, none⟩ l.length cap (bC l) (by simp [bC]) (fun j u hj => hu.cells rfl j u hj) (fun u hu' => by
      obtain ⟨x, _, rfl⟩ := List.mem_map.1 hu'
      rfl) (by unfold maxLen; omega) (by omega) hB
    refine ⟨v', w', hrun, by rw [bC_append]; exact r1, (Below.refl _ _).grown r2 hB (fun j hj => (hv.lt j hj).1)⟩
set_option maxHeartbeats 4000000 in
set_option maxRecDepth 100000 in
theorem concat8 (pb B : Nat) (v1 v2 : Value) (l1 l2 : List Int) (w : World) (hB : B ≤ w.heap.size) (c1 : w.cell? ⟨pb, 0, none⟩ = some v1) (c2 : w.cell? ⟨pb, 1, none⟩ = some v2) (h1 : w.ownsRow B 5 1 v1 l1.length (bC l1)) (h2 : w.ownsRow B 5 1 v2 l2.length (bC l2)) (hl : l1.length + l2.length ≤ 100000) (hp : 1 ≤ l2.length) :
    Calls Try.prog 52 #[.slice (some ⟨pb, 0, none⟩) 2 2] w fun e w' => ∃ v, e = .returned v ∧ w'.ownsRow w.heap.size 5 1 v (l1.length + l2.length) (bC (l1 ++ l2)) ∧ Below w.heap.size w w' := by
  obtain ⟨a1, x1, e1, _⟩ := own_slice' h1
  obtain ⟨a2, x2, e2, _⟩ := own_slice' h2
  obtain ⟨m1, hm1⟩ : ∃ m, l1.length = m := ⟨_, rfl⟩
  obtain ⟨m2, hm2⟩ : ∃ m, l2.length = m := ⟨_, rfl⟩
  rw [hm1] at e1
  rw [hm2] at e2
  have H1 := Hid.mk' h1
  have H2 := Hid.mk' h2
  have HE1 := Hid.mk' e1
  have HE2 := Hid.mk' e2
  subst e1 e2
  have HG := Hid.mk' (fun W => grow8 (m1 + m2) W (by omega) (by omega))
  obtain ⟨M, hM⟩ : ∃ M, m1 + m2 = M := ⟨_, rfl⟩
  rw [hM] at HG
  have HCAST : Hid ((m1 : Int) + (m2 : Int) = (M : Int)) := Hid.mk' (by omega)
  have HM : Hid (l1.length = m1 ∧ l2.length = m2 ∧ m1 + m2 ≤ 100000) := Hid.mk' ⟨hm1, hm2, by omega⟩
  have pbl := World.block_lt_of_cell? w _ c1
  have HC : Hid (∀ W, Below w.heap.size w W → W.cell? ⟨pb, 0, none⟩ = some (.slice a1 m1 x1) ∧ W.cell? ⟨pb, 1, none⟩ = some (.slice a2 m2 x2)) := Hid.mk' (fun W hW => ⟨(hW.cell (p := ⟨pb, 0, none⟩) pbl).trans c1, (hW.cell (p := ⟨pb, 1, none⟩) pbl).trans c2⟩)
  rw [hm1, hm2]
  clear h1 h2 hl hp hm1 hm2 pbl hB hM
  go_enter Try.func52, Try.ntmps52
  go_wp2_with fail
  go_loop [3, 11] (fun v3 v11 => (v11 = .int .i64 0 ∧ v3 = .int .i64 0) ∨ (v11 = .int .i64 1 ∧ v3 = .int .i64 (m1 : Int)) ∨ (v11 = .int .i64 2 ∧ v3 = .int .i64 (M : Int))) (fun _ v => 2 - (intOf v).toNat)
  case atStart => exact .inl ⟨rfl, rfl⟩
  case round =>
    have hmm := HM.out.2.2
    rcases hrel with ⟨rfl, rfl⟩ | ⟨rfl, rfl⟩ | ⟨rfl, rfl⟩
    · have i1 : ¬ (m1 : Int) < 0 := by omega
      go_wp2
      go_round
      case rel => exact .inr (.inl ⟨rfl, rfl⟩)
      case measure => decide
    · have i1 : ¬ (m1 : Int) + (m2 : Int) < 0 := by omega
      go_wp2
      go_round
      case rel => exact .inr (.inr ⟨rfl, by rw [← HCAST.out]⟩)
      case measure => decide
    · clear hmm c1 c2
      go_wp2_with fail
      refine (HG.out _).mono ?_
      rintro e w2 ⟨ga, gc, rfl, hown, b2⟩
      have HO : Hid (w2.ownsRow w.heap.size 5 1 (.slice ga 0 gc) ([] : List Int).length (bC [])) := Hid.mk' hown
      have HB2 := Hid.mk' b2
      clear hown b2
      go_wp2_with fail
      go_loopw [6, 27] (fun v6 v27 wr => ∃ L : List Int, ((v27 = .int .i64 0 ∧ Hid (L = [])) ∨ (v27 = .int .i64 1 ∧ Hid (L = l1)) ∨ (v27 = .int .i64 2 ∧ Hid (L = l1 ++ l2))) ∧ Hid (wr.ownsRow w.heap.size 5 1 v6 L.length (bC L) ∧ Below w.heap.size w wr)) (fun _ v wr => 2 - (intOf v).toNat)
      case atStart => exact ⟨[], .inl ⟨rfl, Hid.mk' rfl⟩, Hid.mk' ⟨HO.out, HB2.out⟩⟩
      case round =>
        obtain ⟨L, hL, HJ⟩ := hrel
        obtain ⟨c1, c2⟩ := HC.out wr HJ.out.2
        have hsz := HJ.out.2.size
        obtain ⟨ya, yc, hv6, _⟩ := own_slice' HJ.out.1
        subst hv6
        rcases hL with ⟨rfl, HL⟩ | ⟨rfl, HL⟩ | ⟨rfl, HL⟩
        · obtain rfl := HL.out
          obtain ⟨v', w', hrun, ho, hb⟩ := app8 HJ.out.1 (own_below H1.out HJ.out.2) (by have := HM.out; simp; omega) HJ.out.2.size
          have HN : Hid (w'.ownsRow w.heap.size 5 1 v' l1.length (bC l1) ∧ Below w.heap.size w w') := Hid.mk' ⟨by simpa using ho, HJ.out.2.trans hb⟩
          clear ho hb
          go_wp2_with (at_builtin; refine Lib.wpList_append_run _ rfl _ _ _ _ rfl _ _ rfl rfl _ _ hrun ?_)
          go_roundw
          case rel => exact ⟨l1, .inr (.inl ⟨rfl, Hid.mk' rfl⟩), HN⟩
          case measure => decide
        · obtain rfl := HL.out
          obtain ⟨v', w', hrun, ho, hb⟩ := app8 HJ.out.1 (own_below H2.out HJ.out.2) (by have := HM.out; omega) HJ.out.2.size
          have HN : Hid (w'.ownsRow w.heap.size 5 1 v' (L ++ l2).length (bC (L ++ l2)) ∧ Below w.heap.size w w') := Hid.mk' ⟨by rw [List.length_append]; exact ho, HJ.out.2.trans hb⟩
          clear ho hb
          go_wp2_with (at_builtin; refine Lib.wpList_append_run _ rfl _ _ _ _ rfl _ _ rfl rfl _ _ hrun ?_)
          go_roundw
          case rel => exact ⟨L ++ l2, .inr (.inr ⟨rfl, Hid.mk' rfl⟩), HN⟩
          case measure => decide
        · obtain rfl := HL.out
          go_wp2
          go_ret
          exact ⟨_, rfl, by have := HJ.out.1; rw [List.length_append] at this; rw [← HM.out.1, ← HM.out.2.1]; simpa using this, HJ.out.2⟩
end Go.Proofs.Ytoonaljmdiideaa
