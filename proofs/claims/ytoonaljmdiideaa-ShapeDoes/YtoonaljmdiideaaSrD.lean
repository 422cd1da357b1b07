/- The document's shapes: lay. -/
import Derived.Test.YtoonaljmdiideaaSrC
import Derived.BigRegion
namespace Go.Proofs.Ytoonaljmdiideaa
set_option linter.unusedVariables false
set_option linter.unusedSimpArgs false
open Go.RowKit Go.Maps Go.ChangeShapes
section
variable {B rb : Nat} {vL vW : Value} {sv : List Value} {S : List (List SlR)} {W : List WyR} {w w' : World}
theorem lay_row {w4 X4 w5 : World} {v a0 a1 : Value} {t : TypeId} (h : w4.heap[rb]? = some (.cells #[a0, a1] t (0, 0))) (hX : Below w4.heap.size w4 X4) (g5 : X4.grownBy w5 v.ownBlock) (hn : some rb ≠ v.ownBlock) : w5.heap[rb]? = some (.cells #[a0, a1] t (0, 0)) := by
  have h1 := (Sv.below hX).all rb _ (by simp) h
  exact (Sv.grown g5).all rb _ (fun q => hn (by simpa [eq_comm] using q)) h1
/-- What lay comes to. -/
def LayW (B rb : Nat) (vL vW : Value) (sv : List Value) (S : List (List SlR)) (W : List WyR) (x : WyR) (lv : Value) (sl : List SlR) (w w' : World) : Prop :=
  ∃ vL' vW', R1 B rb vL' vW' (sv ++ [lv]) (S ++ [sl]) (W ++ [x]) w' ∧ Sv (rX rb vL vW) w w' ∧ Below B w w' ∧ (vL'.ownBlock = vL.ownBlock ∨ ∃ b, vL'.ownBlock = some b ∧ w.heap.size ≤ b) ∧ (vW'.ownBlock = vW.ownBlock ∨ ∃ b, vW'.ownBlock = some b ∧ w.heap.size ≤ b)
theorem lay_end (h : R1 B rb vL vW sv S W w) (hSl : S.length = sv.length) {lv v2 v5 : Value} {sl : List SlR} {x : WyR} {X1 w2 X4 w5 : World} (hl : w.ownsRow B 81 3 lv sl.length (slC sl))
    (b1 : Below w.heap.size w X1) (g2 : X1.grownBy w2 vL.ownBlock) (o2 : w2.ownsRow B 79 1 v2 (sv.length + 1) (sv ++ [lv])) (l2 : v2.ownBlock = vL.ownBlock ∨ v2.ownBlock = some X1.heap.size)
    (b4 : Below (w2.setCell ⟨rb, 0, none⟩ v2).heap.size (w2.setCell ⟨rb, 0, none⟩ v2) X4) (g5 : X4.grownBy w5 vW.ownBlock) (o5 : w5.ownsRow B 119 6 v5 (W.length + 1) (wyC W ++ x.cs)) (l5 : v5.ownBlock = vW.ownBlock ∨ v5.ownBlock = some X4.heap.size) :
    LayW B rb vL vW sv S W x lv sl w (w5.setCell ⟨rb, 1, none⟩ v5) := by
  have hBw : B ≤ w.heap.size := by have := h.ge; have := (Array.getElem?_eq_some_iff.1 h.row).1; omega
  have hnL : some rb ≠ vL.ownBlock := sh_ne h.l h.row (fun c fz q => by cases q)
  have hnW : some rb ≠ vW.ownBlock := sh_ne h.m h.row (fun c fz q => by cases q)
  have h1 := h.below b1
  have q2 := lay_row h.row b1 g2 hnL
  have q3 : (w2.setCell ⟨rb, 0, none⟩ v2).heap[rb]? = some (.cells #[v2, vW] 43 (0, 0)) := by have := set_blk2' (j := 0) (v := v2) q2; simpa using this
  have s2 : Sv (vL.ownBlock.toList ++ [rb]) w (w2.setCell ⟨rb, 0, none⟩ v2) := by
    have := ((Sv.below b1).trans (Sv.grown g2)).trans (Sv.set w2 rb 0 v2)
    simpa using this
  have o3 : (w2.setCell ⟨rb, 0, none⟩ v2).ownsRow B 79 1 v2 (sv.length + 1) (sv ++ [lv]) := (Sv.set w2 rb 0 v2).own o2 (fun y hy => by rw [List.mem_singleton.1 hy]; exact sh_ne o2 q2 (fun c fz q => by cases q))
  have hR3 := h.appL hSl s2 o3 q3 hl
  have hR4 := hR3.below b4
  have s5 : Sv (vW.ownBlock.toList ++ [rb]) (w2.setCell ⟨rb, 0, none⟩ v2) (w5.setCell ⟨rb, 1, none⟩ v5) := by
    have := ((Sv.below b4).trans (Sv.grown g5)).trans (Sv.set w5 rb 1 v5)
    simpa using this
  have q5 := lay_row q3 b4 g5 hnW
  have q6 : (w5.setCell ⟨rb, 1, none⟩ v5).heap[rb]? = some (.cells #[v2, v5] 43 (0, 0)) := by have := set_blk2' (j := 1) (v := v5) q5; simpa using this
  have o6 : (w5.setCell ⟨rb, 1, none⟩ v5).ownsRow B 119 6 v5 (W.length + 1) (wyC W ++ x.cs) := (Sv.set w5 rb 1 v5).own o5 (fun y hy => by rw [List.mem_singleton.1 hy]; exact sh_ne o5 q5 (fun c fz q => by cases q))
  have sz : w.heap.size ≤ X1.heap.size := b1.size
  have sz4 : w.heap.size ≤ X4.heap.size := Nat.le_trans s2.size b4.size
  refine ⟨v2, v5, hR3.appW s5 o6 q6, ?_, ?_, ?_, ?_⟩
  · exact (s2.trans s5).mono (fun b hb => by unfold rX; simp at hb ⊢; rcases hb with h | h | h | h <;> simp [h])
  · have B2 : Below B w w2 := (b1.mono hBw).trans ((Below.refl _ _).grown g2 (Nat.le_trans hBw sz) (fun j hj => (h.l.lt j hj).1))
    have B3 : Below B w (w2.setCell ⟨rb, 0, none⟩ v2) := B2.setCell (p := ⟨rb, 0, none⟩) h.ge _
    have B4 : Below B w X4 := B3.trans (b4.mono (Nat.le_trans hBw s2.size))
    have B5 : Below B w w5 := B4.trans ((Below.refl _ _).grown g5 (Nat.le_trans hBw sz4) (fun j hj => (h.m.lt j hj).1))
    exact B5.setCell (p := ⟨rb, 1, none⟩) h.ge _
  · rcases l2 with e | e
    · exact .inl e
    · exact .inr ⟨_, e, sz⟩
  · rcases l5 with e | e
    · exact .inl e
    · exact .inr ⟨_, e, sz4⟩
set_option maxHeartbeats 4000000 in
set_option maxRecDepth 100000 in
theorem rlay_full (fr : Int) (ch : Bool) (s : ByteArray) (z f : Int) (lv : Value) (w : World) (h : R1 B rb vL vW sv S W w) (hn : ¬ sv.length < 100000) :
    Calls Try.prog 32 #[.pointer (some ⟨rb, 0, none⟩), .int .i64 fr, .bool ch, .agg #[.string s, .int .i64 z, .int .i64 f], lv] w fun e w' => e = .returned (.tuple #[.int .i64 0, .int .i64 2]) ∧ Below w.heap.size w w' := by
  have b1 : Below w.heap.size w (w.alloc (.cells #[.string s, .int .i64 z, .int .i64 f] 81)) := sr_lay
  obtain ⟨c0, c1, f0, f1⟩ := (h.below b1).cells
  obtain ⟨xa, xc, hvL, _⟩ := own_slice' h.l
  rw [hvL] at c0
  obtain ⟨n, hnn⟩ : ∃ n, sv.length = n := ⟨_, rfl⟩
  rw [hnn] at c0 hn
  have i1 : (n : Int) ≥ 100000 := by omega
  have HB := Hid.mk' b1
  clear h b1 c1 f0 f1 hvL hnn hn
  go_enter Try.func32, Try.ntmps32
  go_wp2
  go_ret2
  exact ⟨rfl, HB.out⟩
set_option maxHeartbeats 4000000 in
set_option maxRecDepth 100000 in
theorem rlay_any (fr : Int) (ch : Bool) (s : ByteArray) (z f : Int) (lv : Value) (sl : List SlR) (w : World) (h : R1 B rb vL vW sv S W w) (hSl : S.length = sv.length) (hl : w.ownsRow B 81 3 lv sl.length (slC sl)) (hn : sv.length < 100000) (hW : W.length < 1000000) :
    Calls Try.prog 32 #[.pointer (some ⟨rb, 0, none⟩), .int .i64 fr, .bool ch, .agg #[.string s, .int .i64 z, .int .i64 f], lv] w fun e w' => e = .returned (.tuple #[.int .i64 (sv.length : Nat), .int .i64 0]) ∧ LayW B rb vL vW sv S W ⟨fr, ch, s, z, f, (sv.length : Nat)⟩ lv sl w w' := by
  obtain ⟨iL, hiL, hL0, hL1, hL2⟩ := sh_parts sr_infoL
  obtain ⟨iW, hiW, hW0, hW1, hW2⟩ := sh_parts sr_infoW
  have hBw : B ≤ w.heap.size := by have := h.ge; have := (Array.getElem?_eq_some_iff.1 h.row).1; omega
  obtain ⟨la, lc, hlv, _⟩ := own_slice' hl
  obtain ⟨xa, xc, hvL, _⟩ := own_slice' h.l
  obtain ⟨ya, yc, hvW, _⟩ := own_slice' h.m
  have HVL := Hid.mk' hvL
  have HVW := Hid.mk' hvW
  have HLO := Hid.mk' hl
  have HR := Hid.mk' h
  have HSL := Hid.mk' hSl
  have HBW := Hid.mk' hBw
  obtain ⟨W1, hW1e⟩ : ∃ W1, w.alloc (.cells #[.string s, .int .i64 z, .int .i64 f] 81) = W1 := ⟨_, rfl⟩
  have b1 : Below w.heap.size w W1 := by rw [← hW1e]; exact sr_lay
  have q1 : W1.heap[w.heap.size]? = some (.cells #[.string s, .int .i64 z, .int .i64 f] 81 (0, 0)) := by rw [← hW1e]; exact World.alloc_heap_new _ _
  obtain ⟨b0, hb0⟩ : ∃ b0, w.heap.size = b0 := ⟨_, rfl⟩
  rw [hb0] at q1
  obtain ⟨c0, c1, f0, f1⟩ := (h.below b1).cells
  rw [hvL] at c0
  obtain ⟨n, hnn⟩ : ∃ n, sv.length = n := ⟨_, rfl⟩
  obtain ⟨m, hmm⟩ : ∃ m, W.length = m := ⟨_, rfl⟩
  obtain ⟨nl, hnl⟩ : ∃ nl, sl.length = nl := ⟨_, rfl⟩
  have HNN := Hid.mk' hnn
  have HMM := Hid.mk' hmm
  rw [hnn] at c0 hn ⊢
  rw [hmm] at hW
  rw [hnl] at hlv
  have i1 : ¬ (n : Int) ≥ 100000 := by omega
  have HB1 := Hid.mk' b1
  have HQ1 := Hid.mk' q1
  have HO1 : Hid ((W1.alloc (.cells #[lv] 79)).ownsRow B 79 1 vL n sv) := Hid.mk' (by have := ((h.below b1).below (sr_lay (ob := .cells #[lv] 79))).l; rwa [hnn] at this)
  have HZ1 : Hid (B ≤ (W1.alloc (.cells #[lv] 79)).heap.size) := Hid.mk' (by have := b1.size; simp; omega)
  have HX1 : Hid (Below w.heap.size w (W1.alloc (.cells #[lv] 79))) := Hid.mk' (b1.trans (sr_lay.mono b1.size))
  have g0 : rb < W1.heap.size := (Array.getElem?_eq_some_iff.1 (h.below b1).row).1
  have HH1 := Hid.mk' hW1e
  rw [HVL.out, HNN.out] at HO1
  clear h hSl hl hBw b1 q1 c1 hvL hvW hnn hmm hnl f1 hW1e
  rw [hlv] at HO1 HZ1 HX1 ⊢
  go_enter Try.func32, Try.ntmps32
  go_upto_region 1 with fail
  rw [HH1.out]
  go_wp2_with (at_builtin; refine wpList_append_own_at _ rfl _ _ 40 rfl B 79 iL (.slice none 0 0) 1 24 Try.underlying40 hiL hL0 hL1 hL2 rfl (by decide) _ _ _ rfl HO1.out ⟨W1.heap.size, 0, none⟩ 1 1 [.slice la nl lc] rfl rfl (cell_one_new _ _ _) (by simp [Value.oneCell']) (by unfold maxLen; omega) (by omega) HZ1.out ?_)
  intro v2 w2 o2 g2 _ l2
  obtain ⟨a2, c2, hv2, _⟩ := own_slice' o2
  subst hv2
  have hneL : some rb ≠ (Value.slice xa n xc).ownBlock := by have := sh_ne HR.out.l HR.out.row (fun c fz q => by cases q); rw [HVL.out, HNN.out] at this; exact this
  have q2 := lay_row HR.out.row HX1.out g2 hneL
  obtain ⟨f2, f3, e0, e1⟩ := pair_facts q2
  have q3 : (w2.setCell ⟨rb, 0, none⟩ (.slice a2 (n + 1) c2)).heap[rb]? = some (.cells #[.slice a2 (n + 1) c2, vW] 43 (0, 0)) := by have := set_blk2' (j := 0) (v := .slice a2 (n + 1) c2) q2; simpa using this
  have s2 : Sv ((Value.slice xa n xc).ownBlock.toList ++ [rb]) w (w2.setCell ⟨rb, 0, none⟩ (.slice a2 (n + 1) c2)) := by
    have := ((Sv.below HX1.out).trans (Sv.grown g2)).trans (Sv.set w2 rb 0 (.slice a2 (n + 1) c2))
    simpa using this
  have o3 : (w2.setCell ⟨rb, 0, none⟩ (.slice a2 (n + 1) c2)).ownsRow B 119 6 vW W.length (wyC W) := s2.own HR.out.m (fun x hx => by
    have hx' : (Value.slice xa n xc).ownBlock = some x ∨ x = rb := by simpa [eq_comm] using hx
    rcases hx' with e | rfl
    · exact sh_apart HR.out.l HR.out.m (by decide) x (by rw [HVL.out, HNN.out]; exact e)
    · exact sh_ne HR.out.m HR.out.row (fun c fz q => by cases q))
  have q4 : (w2.setCell ⟨rb, 0, none⟩ (.slice a2 (n + 1) c2)).heap[b0]? = some (.cells #[.string s, .int .i64 z, .int .i64 f] 81 (0, 0)) := by
    have hs1 : Sv ((Value.slice xa n xc).ownBlock.toList ++ [rb]) W1 (w2.setCell ⟨rb, 0, none⟩ (.slice a2 (n + 1) c2)) := by
      have := ((Sv.below (sr_lay (w := W1))).trans (Sv.grown g2)).trans (Sv.set w2 rb 0 (.slice a2 (n + 1) c2))
      simpa using this
    refine hs1.all _ _ (fun q => ?_) HQ1.out
    have q' : (Value.slice xa n xc).ownBlock = some b0 ∨ b0 = rb := by simpa [eq_comm] using q
    rcases q' with e | e
    · have := (HR.out.l.lt b0 (by rw [HVL.out, HNN.out]; exact e)).2
      omega
    · have := (Array.getElem?_eq_some_iff.1 HR.out.row).1
      omega
  obtain ⟨W3, hW3⟩ : ∃ W3, w2.setCell ⟨rb, 0, none⟩ (.slice a2 (n + 1) c2) = W3 := ⟨_, rfl⟩
  have HG2 := Hid.mk' g2
  have HO2 := Hid.mk' o2
  have HL2 : Hid ((Value.slice a2 (n + 1) c2).ownBlock = (Value.slice xa n xc).ownBlock ∨ (Value.slice a2 (n + 1) c2).ownBlock = some (W1.alloc (.cells #[.slice la nl lc] 79)).heap.size) := Hid.mk' (by simpa using l2)
  have HH3 := Hid.mk' hW3
  rw [hW3] at q3 q4 o3
  obtain ⟨f4, f5, u0, u1⟩ := pair_facts q3
  have k0 : W3.cell? ⟨b0, 0, none⟩ = some (.string s) := by simp [World.cell?, q4]
  have k1 : W3.cell? ⟨b0, 1, none⟩ = some (.int .i64 z) := by simp [World.cell?, q4]
  have k2 : W3.cell? ⟨b0, 2, none⟩ = some (.int .i64 f) := by simp [World.cell?, q4]
  have g3 : rb < W3.heap.size := (Array.getElem?_eq_some_iff.1 q3).1
  have g4 : b0 < W3.heap.size := (Array.getElem?_eq_some_iff.1 q4).1
  rw [HVW.out, HMM.out] at u1 o3
  have HO3 := Hid.mk' o3
  have HQ3 := Hid.mk' q3
  have HNW : Hid (some rb ≠ (Value.slice ya m yc).ownBlock) := Hid.mk' (by have := sh_ne HR.out.m HR.out.row (fun c fz q => by cases q); rw [HVW.out, HMM.out] at this; exact this)
  have HB3 : Hid (B ≤ W3.heap.size) := Hid.mk' (by have := HR.out.ge; omega)
  clear q2 q3 q4 s2 o3 o2 g2 l2 hneL c0 f0 f3 e1 hW3
  go_upto_region 4 with fail
  rw [HH3.out]
  clear e0 f2
  have HBA : Hid (Below W3.heap.size W3 (W3.alloc (.cells #[.int .i64 fr, .bool ch, .string s, .int .i64 z, .int .i64 f, .int .i64 (n : Int)] 119)).drew) := Hid.mk' (sr_lay.drew)
  have HWM := Hid.mk' hW
  have n1 : (n : Int) < 100000 := by omega
  have HS0 := Hid.mk' hb0
  have x1 : IntKind.i64.wrap (n : Int) = (n : Int) := by rw [IntKind.wrap_i64]; omega
  clear hW hn i1 hb0 g0
  go_region_law (refine sh_append rfl (.tmp 32) (.tmp 43) 41 rfl B 119 iW (.agg #[.int .i64 0, .bool false, .string ⟨#[]⟩, .int .i64 0, .int .i64 0, .int .i64 0]) 6 56 Try.underlying41 hiW hW0 hW1 hW2 rfl (by decide) _ _ _ rfl (World.ownsRow.alloc (show W3.drew.ownsRow _ _ _ _ _ _ from HO3.out) _) _ 1 1 _ rfl (by rfl) (cells_new _ _ _) (by simp [Value.oneCell']) (by have := HWM.out; unfold maxLen; omega) (by have := HWM.out; omega) (by have := HB3.out; simp <;> omega) ?_; intro v5 w5 o5 g5 hl5; obtain ⟨a5, c5, hv5, _⟩ := own_slice' o5; subst hv5; have HG5 : Hid ((W3.alloc (.cells #[.int .i64 fr, .bool ch, .string s, .int .i64 z, .int .i64 f, .int .i64 (n : Int)] 119)).drew.grownBy w5 (Value.slice ya m yc).ownBlock) := Hid.mk' g5; have HL5 : Hid ((Value.slice a5 (m + 1) c5).ownBlock = (Value.slice ya m yc).ownBlock ∨ (Value.slice a5 (m + 1) c5).ownBlock = some (W3.alloc (.cells #[.int .i64 fr, .bool ch, .string s, .int .i64 z, .int .i64 f, .int .i64 (n : Int)] 119)).drew.heap.size) := Hid.mk' hl5; have HO5 := Hid.mk' o5; have q5 := lay_row HQ3.out HBA.out HG5.out HNW.out; obtain ⟨z0, z1, y0, y1⟩ := pair_facts q5; clear o5 g5 hl5 q5)
  all_goals
    clear k0 k1 k2 u1 f4 g4
    have r0 : (w5.setCell ⟨rb, 1, none⟩ (.slice a5 (m + 1) c5)).cell? ⟨rb, 0, none⟩ = some (.slice a2 (n + 1) c2) := by rw [World.cell?_setCell_other _ _ _ _ (by simp)]; exact y0
    clear u0 f5 y0 y1 z0 z1
    go_wp2
    go_ret2
    refine ⟨rfl, ?_⟩
    have := lay_end HR.out HSL.out (x := ⟨fr, ch, s, z, f, (n : Int)⟩) (v2 := .slice a2 (n + 1) c2) (v5 := .slice a5 (m + 1) c5) HLO.out HX1.out (by rw [HVL.out, HNN.out]; exact HG2.out) (by rw [HNN.out, hlv]; exact HO2.out) (by rw [HVL.out, HNN.out]; exact HL2.out) (by rw [HH3.out]; exact HBA.out) (by rw [HVW.out, HMM.out]; exact HG5.out) (by rw [HMM.out]; exact HO5.out) (by rw [HVW.out, HMM.out]; exact HL5.out)
    rw [hlv] at this
    exact this
end
end Go.Proofs.Ytoonaljmdiideaa
