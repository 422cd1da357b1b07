/- Package shape: lead. -/
import Derived.Test.YtmbnkpfaeiellaaShJ
namespace Go.Proofs.Ytmbnkpfaeiellaa
set_option linter.unusedVariables false
set_option linter.unusedSimpArgs false
open Go.RowKit Go.Maps Go.ChangeShapes
section
variable {C : List (Nat × Obj)} {B g mn mw lb : Nat} {vk vs vl : Value} {ks : List ByteArray} {ln : List Int} {fs : List (List Int)} {fv : List Value} {nw : Nat} {Dn Dw : DataW Unit} {w : World}

theorem lead_row {w4 X4 w5 : World} {v a0 a1 a2 a3 a4 : Value} {t : TypeId} (h : w4.heap[g]? = some (.cells #[a0, a1, a2, a3, a4] t (0, 0))) (hX : Below w4.heap.size w4 X4) (g5 : X4.grownBy w5 v.ownBlock) (hn : some g ≠ v.ownBlock) : w5.heap[g]? = some (.cells #[a0, a1, a2, a3, a4] t (0, 0)) :=
  (Sv.grown g5).all g _ (fun q => hn (by simpa [eq_comm] using q)) ((Sv.below hX).all g _ (by simp) h)
theorem lead_row3 {w4 X4 w5 : World} {v a0 a1 a2 a3 a4 : Value} {t : TypeId} (h : w4.heap[g]? = some (.cells #[a0, a1, a2, a3, a4] t (0, 0))) (hX : Below w4.heap.size w4 X4) (g5 : X4.grownBy w5 v.ownBlock) (hn : some g ≠ v.ownBlock) : w5.cell? ⟨g, 3, none⟩ = some a3 ∧ w5.frozen? ⟨g, 3, none⟩ = false := by
  have h2 := lead_row h hX g5 hn
  constructor <;> simp [World.cell?, World.frozen?, h2]
theorem lead_end (h : T1 C B g mn mw lb vk vs vl ks ln fs fv nw Dn Dw w) (hfl : fs.length = fv.length) {W2 X4 w5 w7 : World} {v5 x : Value} {l : List Int} {Dw' : DataW Unit} (b2 : Below w.heap.size w W2) (ba : Below W2.heap.size W2 X4) (g5 : X4.grownBy w5 vs.ownBlock) (o5 : w5.ownsRow B 84 2 v5 (fv.length + 1) (cC lb fv ++ [.pointer (some ⟨lb, 0, none⟩), x])) (hl5 : v5.ownBlock = vs.ownBlock ∨ v5.ownBlock = some X4.heap.size)
    (gt : (w5.setCell ⟨g, 3, none⟩ v5).drew.grownBy w7 (some mw)) (m7 : w7.ownsMap Try.prog 90 (plainElem Try.prog 3) mw (nw + 1) Dw') (hx : w.ownsRow B 5 1 x l.length (bC l)) :
    T1 C B g mn mw lb vk v5 vl ks ln (fs ++ [l]) (fv ++ [x]) (nw + 1) Dn Dw' w7 ∧ Below B w w7 := by
  have hB : B ≤ w.heap.size := by have := h.ge.1; have := h.lts.1; omega
  have s1 : Sv [] w W2 := Sv.below b2
  have s3 : Sv [] W2 X4 := Sv.below ba
  have s4 : Sv vs.ownBlock.toList X4 w5 := Sv.grown g5
  have s5 : Sv [g] w5 (w5.setCell ⟨g, 3, none⟩ v5) := Sv.set _ _ _ _
  have s6 : Sv [mw] (w5.setCell ⟨g, 3, none⟩ v5) w7 := ⟨gt.size, (Sv.grown gt).all⟩
  have S5 : Sv vs.ownBlock.toList w w5 := by have := (s1.trans s3).trans s4; simpa using this
  have S7 : Sv (vs.ownBlock.toList ++ [g] ++ [mw]) w w7 := (S5.trans s5).trans s6
  obtain ⟨n1, n2, n3, n4, n5⟩ := h.nes
  obtain ⟨r1, r2⟩ := h.rowne h.s (by decide) (by decide)
  have q5 : w5.heap[g]? = some (.cells #[.pointer (some ⟨g, 0, none⟩), .map (some mn), vk, vs, .map (some mw)] 62 (0, 0)) := S5.all _ _ (fun q => r1 (by simpa [eq_comm] using q)) h.row
  have q6 : (w5.setCell ⟨g, 3, none⟩ v5).heap[g]? = some (.cells #[.pointer (some ⟨g, 0, none⟩), .map (some mn), vk, v5, .map (some mw)] 62 (0, 0)) := by have := set_blk2' (j := 3) (v := v5) q5; simpa using this
  have o6 := s5.own o5 (fun y hy => by rw [List.mem_singleton.1 hy]; exact sh_ne o5 q5 (fun c fz q => by cases q))
  obtain ⟨em, cm, hm, _⟩ := h.m
  have hm6 : (w5.setCell ⟨g, 3, none⟩ v5).heap[mw]? = some (.map em cm) := (S5.trans s5).all _ _ (fun q => by
    have : vs.ownBlock = some mw ∨ mw = g := by simpa [eq_comm] using q
    rcases this with e | e
    · exact (h.mapne h.s).2 e.symm
    · exact n3 e.symm) hm
  have sz : w.heap.size ≤ X4.heap.size := Nat.le_trans s1.size s3.size
  refine ⟨h.appS hfl S7 (s6.own o6 (fun y hy => by rw [List.mem_singleton.1 hy]; exact sh_ne o6 hm6 (fun c fz q => by cases q))) (s6.all _ _ (by simpa using n3) q6) m7 (S7.own hx (fun y hy => ?_)) ?_, ?_⟩
  · have : vs.ownBlock = some y ∨ y = g ∨ y = mw := by simpa [eq_comm, or_assoc] using hy
    rcases this with e | rfl | rfl
    · exact sh_apart h.s hx (by decide) y e
    · exact (h.rowne hx (by decide) (by decide)).1
    · exact (h.mapne hx).2
  · rcases hl5 with e | e
    · exact .inl e
    · exact .inr ⟨_, e, sz⟩
  · have B2 : Below B w W2 := b2.mono hB
    have B4 : Below B w X4 := B2.trans (ba.mono (Nat.le_trans hB s1.size))
    have B5 : Below B w w5 := B4.trans ((Below.refl _ _).grown g5 (Nat.le_trans hB sz) (fun j hj => (h.s.lt j hj).1))
    have B6 : Below B w (w5.setCell ⟨g, 3, none⟩ v5) := B5.setCell (p := ⟨g, 3, none⟩) h.ge.1 _
    exact B6.drew.trans ((Below.refl _ _).grown gt (Nat.le_trans hB (Nat.le_trans sz (Nat.le_trans s4.size s5.size))) (fun j hj => by cases hj; exact h.ge.2.2.1))

set_option maxHeartbeats 4000000 in
set_option maxRecDepth 100000 in
theorem lead_any (x : Int × Int × Int) (v : Value) (l : List Int) (ws : List ((Int × Int × Int) × Int)) (w : World) (h : T1 C B g mn mw lb vk vs vl ks ln fs fv nw Dn Dw w) (hfl : fs.length = fv.length) (hn : WayOk Dw ws) (hx : Wwf x) (hno : ∀ p ∈ ws, p.1 ≠ x) (hl : fv.length < 100000) (hnw : nw < 100000) (hv : w.ownsRow B 5 1 v l.length (bC l)) :
    Calls Try.prog 31 #[.pointer (some ⟨g, 0, none⟩), wv x, .agg #[.pointer (some ⟨lb, 0, none⟩), v]] w fun e w' => e = .returned (.int .i64 (fv.length : Nat)) ∧ ∃ vs' Dw', T1 C B g mn mw lb vk vs' vl ks ln (fs ++ [l]) (fv ++ [v]) (nw + 1) Dn Dw' w' ∧ WayOk Dw' (ws ++ [(x, (fv.length : Int))]) ∧ Below B w w' := by
  obtain ⟨i0, hif, hz0, hz1, hz2⟩ := sh_parts sh_infoC
  have HPUT := Hid.mk' (hn.put x (fv.length : Int) hx hno)
  have HKM := Hid.mk' (way_mk x hx)
  have HV := Hid.mk' hv
  obtain ⟨va, vc, hvv, _⟩ := own_slice' hv
  obtain ⟨ll, hll⟩ : ∃ ll, l.length = ll := ⟨_, rfl⟩
  rw [hll] at hvv
  obtain ⟨x1, x2, x3⟩ := x
  unfold wv at HKM ⊢
  dsimp only at HKM ⊢
  obtain ⟨W2, hW2⟩ : ∃ W2, (w.alloc (.cells #[.int .i64 x1, .int .i32 x2, .int .i64 x3] 90)).alloc (.cells #[.pointer (some ⟨lb, 0, none⟩), v] 84) = W2 := ⟨_, rfl⟩
  have b2 : Below w.heap.size w W2 := by rw [← hW2]; exact ((Below.refl _ _).alloc (Nat.le_refl _) _).alloc (by simp) _
  have q1 : W2.heap[w.heap.size]? = some (.cells #[.int .i64 x1, .int .i32 x2, .int .i64 x3] 90 (0, 0)) := by rw [← hW2]; exact sh_old (by simp) (sh_new rfl)
  have q2 : W2.heap[w.heap.size + 1]? = some (.cells #[.pointer (some ⟨lb, 0, none⟩), v] 84 (0, 0)) := by rw [← hW2]; exact sh_new (by simp)
  have sz2 : w.heap.size + 2 = W2.heap.size := by rw [← hW2]; simp
  obtain ⟨b0, hb0⟩ : ∃ b0, w.heap.size = b0 := ⟨_, rfl⟩
  rw [hb0] at q1 q2 sz2
  have HS0 := Hid.mk' hb0
  obtain ⟨_, _, g0, g1⟩ := pair_facts q2
  have p0 : W2.cell? ⟨b0, 0, none⟩ = some (.int .i64 x1) := by simp [World.cell?, q1]
  have p1 : W2.cell? ⟨b0, 1, none⟩ = some (.int .i32 x2) := by simp [World.cell?, q1]
  have p2 : W2.cell? ⟨b0, 2, none⟩ = some (.int .i64 x3) := by simp [World.cell?, q1]
  have HT := Hid.mk' h
  have h2 := h.below b2
  obtain ⟨c0, c1, c2, c3, c4, cf, l0, lf⟩ := h2.cells
  obtain ⟨xa, xc, hvs, _⟩ := own_slice' h.s
  have HVS := Hid.mk' hvs
  have HNE := Hid.mk' (h2.rowne h2.s (by decide) (by decide)).1
  have HO2 := Hid.mk' h2.s
  have HR2 := Hid.mk' h2.row
  obtain ⟨n, hnn⟩ : ∃ n, fv.length = n := ⟨_, rfl⟩
  have HNN := Hid.mk' hnn
  have hgd : (Value.slice xa n xc).ownBlock = vs.ownBlock := by rw [hvs, hnn]
  rw [hvs] at c3 HO2 HNE
  rw [hnn] at c3 hl HO2 HNE
  rw [hnn]
  have HH2 := Hid.mk' hW2
  have HB2 := Hid.mk' b2
  have HQ1 := Hid.mk' q1
  have HL2 : Hid (B ≤ W2.heap.size ∧ mw < w.heap.size ∧ g < w.heap.size) := Hid.mk' ⟨by have := h.ge.1; have := h.lts.1; have := b2.size; omega, h.lts.2.2.2.1, h.lts.1⟩
  have g4 : g < W2.heap.size := h2.lts.1
  have l4 : b0 + 1 < W2.heap.size := by omega
  have l5 : b0 < W2.heap.size := by omega
  have HBA : Hid (Below W2.heap.size W2 (W2.alloc (.cells #[.pointer (some ⟨lb, 0, none⟩), v] 84)).drew) := Hid.mk' (((Below.refl _ _).alloc (Nat.le_refl _) _).drew)
  have HFL := Hid.mk' hfl
  have HVV := Hid.mk' hvv
  rw [hvv] at g1 HH2 HBA
  rw [hvv]
  have HNW := Hid.mk' hnw
  have HL := Hid.mk' hl
  clear h hn hx hno hv hll hvs hnn b2 q1 q2 sz2 h2 c0 c1 c2 c4 cf l0 lf hW2 hfl hnw hvv
  go_enter Try.func31, Try.ntmps31
  go_upto_region 1 with fail
  rw [HH2.out]
  go_upto_region 2 with fail
  go_cut [] from 13 (fun wc => Hid (∃ w5 v5, (W2.alloc (.cells #[.pointer (some ⟨lb, 0, none⟩), .slice va ll vc] 84)).drew.grownBy w5 vs.ownBlock ∧ w5.ownsRow B 84 2 v5 (n + 1) (cC lb fv ++ [.pointer (some ⟨lb, 0, none⟩), .slice va ll vc]) ∧ (v5.ownBlock = vs.ownBlock ∨ v5.ownBlock = some (W2.alloc (.cells #[.pointer (some ⟨lb, 0, none⟩), .slice va ll vc] 84)).drew.heap.size) ∧ wc = w5.setCell ⟨g, 3, none⟩ v5))
  case first =>
    go_region_law (refine sh_append rfl (.tmp 17) (.tmp 19) 59 rfl B 84 i0 (.agg #[.pointer none, .slice none 0 0]) 2 32 Try.underlying59 hif hz0 hz1 hz2 rfl (by decide) _ _ _ rfl (World.ownsRow.alloc (show W2.drew.ownsRow _ _ _ _ _ _ from HO2.out) _) _ 1 1 _ rfl (by rfl) (cells_new _ _ _) (by simp [Value.oneCell']) (by have := HL.out; unfold maxLen; omega) (by have := HL.out; omega) (Nat.le_trans HL2.out.1 (by simp)) ?_; intro v5 w5 o5 g5 hl5; obtain ⟨a5, c5, hv5, _⟩ := own_slice' o5; subst hv5; have HG5 : Hid ((W2.alloc (.cells #[.pointer (some ⟨lb, 0, none⟩), .slice va ll vc] 84)).drew.grownBy w5 (Value.slice xa n xc).ownBlock) := Hid.mk' g5; have HL5 : Hid ((Value.slice a5 (n + 1) c5).ownBlock = (Value.slice xa n xc).ownBlock ∨ (Value.slice a5 (n + 1) c5).ownBlock = some (W2.alloc (.cells #[.pointer (some ⟨lb, 0, none⟩), .slice va ll vc] 84)).drew.heap.size) := Hid.mk' hl5; obtain ⟨e5, z5⟩ := lead_row3 HR2.out HBA.out HG5.out HNE.out; rw [HVS.out, HNN.out] at e5; have HO5 : Hid (w5.ownsRow B 84 2 (.slice a5 (n + 1) c5) (n + 1) (cC lb fv ++ [.pointer (some ⟨lb, 0, none⟩), .slice va ll vc])) := Hid.mk' o5; clear o5 g5 hl5)
    all_goals
      go_wp2_with fail
      rw [hgd] at HG5 HL5
      go_meet
      exact Hid.mk' ⟨_, _, HG5.out, HO5.out, HL5.out, rfl⟩
  case rest =>
    obtain ⟨w5, v5, g5, o5, hl5, rfl⟩ := hcut.out
    have r5 := lead_row HR2.out HBA.out g5 (by rw [← hgd]; exact HNE.out)
    have S5 : Sv vs.ownBlock.toList W2 w5 := by have := (Sv.below HBA.out).trans (Sv.grown g5); simpa using this
    have S6 := S5.trans (Sv.set w5 g 3 v5)
    obtain ⟨W6, hW6⟩ : ∃ W6, w5.setCell ⟨g, 3, none⟩ v5 = W6 := ⟨_, rfl⟩
    have r6 : W6.heap[g]? = some (.cells #[.pointer (some ⟨g, 0, none⟩), .map (some mn), vk, v5, .map (some mw)] 62 (0, 0)) := by rw [← hW6]; have := set_blk2' (j := 3) (v := v5) r5; simpa using this
    rw [hW6] at S6
    have q6 : W6.heap[b0]? = some (.cells #[.int .i64 x1, .int .i32 x2, .int .i64 x3] 90 (0, 0)) := S6.all _ _ (by
      intro q
      have : vs.ownBlock = some b0 ∨ b0 = g := by simpa [eq_comm] using q
      have := HS0.out
      have := HL2.out
      rcases ‹vs.ownBlock = some b0 ∨ b0 = g› with e | e
      · have := HT.out.lts.2.2.2.2.2.1 b0 e; omega
      · omega) HQ1.out
    have m6 : W6.drew.ownsMap Try.prog 90 (plainElem Try.prog 3) mw nw Dw := S6.map (HT.out.below HB2.out).m (by
      intro q
      have : vs.ownBlock = some mw ∨ mw = g := by simpa [eq_comm] using q
      rcases this with e | e
      · exact (HT.out.mapne HT.out.s).2 e.symm
      · exact HT.out.nes.2.2.1 e.symm)
    obtain ⟨w7, hupd, m7, t7⟩ := m6.store wayLaw Try.underlying60 (by have := HNW.out; unfold maxLen; omega) HKM.out (plainElem_int Try.underlying3 (a := (fv.length : Int)) (by have := HNN.out; have := HL.out; simp [Lit.wf, IntKind.min, IntKind.max, IntKind.bits, IntKind.signed]; omega))
    have gt := t7.grown
    have HE := Hid.mk' (lead_end HT.out HFL.out HB2.out HBA.out g5 (by rw [HNN.out]; exact o5) hl5 (by rw [hW6]; exact gt) m7 (by rw [← HVV.out]; exact HV.out))
    rw [HNN.out] at hupd
    have u4 : W6.cell? ⟨g, 4, none⟩ = some (.map (some mw)) := by simp [World.cell?, r6]
    have k0 : W6.cell? ⟨b0, 0, none⟩ = some (.int .i64 x1) := by simp [World.cell?, q6]
    have k1 : W6.cell? ⟨b0, 1, none⟩ = some (.int .i32 x2) := by simp [World.cell?, q6]
    have k2 : W6.cell? ⟨b0, 2, none⟩ = some (.int .i64 x3) := by simp [World.cell?, q6]
    have HH6 := Hid.mk' hW6
    clear g5 o5 hl5 r5 S5 S6 r6 q6 m6 m7 t7 gt hW6 g0 g1 p0 p1 p2 c3 g4 l4 l5 hcut
    go_upto_region 3 with fail
    rw [HH6.out]
    go_region
    clear hupd u4 k0 k1 k2
    go_wp2
    go_ret
    exact ⟨rfl, _, _, HE.out.1, by rw [← HNN.out]; exact HPUT.out, HE.out.2⟩
end
end Go.Proofs.Ytmbnkpfaeiellaa
