/- Package shape: a line with one more key. -/
import Derived.Test.YtmbnkpfaeiellaaShK
namespace Go.Proofs.Ytmbnkpfaeiellaa
set_option linter.unusedVariables false
set_option linter.unusedSimpArgs false
open Go.RowKit Go.Maps Go.ChangeShapes
section
variable {C : List (Nat × Obj)} {B g mn mw lb : Nat} {vk vs vl : Value} {ks : List ByteArray} {ln : List Int} {fs : List (List Int)} {fv : List Value} {nw : Nat} {Dn Dw : DataW Unit} {w : World}

theorem line_end (h : T1 C B g mn mw lb vk vs vl ks ln fs fv nw Dn Dw w) {X w5 : World} {v5 : Value} {k : Int} (bX : Below w.heap.size w X) (g5 : X.grownBy w5 vl.ownBlock) (o5 : w5.ownsRow B 21 1 v5 (ln.length + 1) (iC ln ++ [.int .i32 k])) (hl5 : v5.ownBlock = vl.ownBlock ∨ v5.ownBlock = some X.heap.size) :
    T1 C B g mn mw lb vk vs v5 ks (ln ++ [k]) fs fv nw Dn Dw (w5.setCell ⟨lb, 0, none⟩ v5) ∧ Below B w (w5.setCell ⟨lb, 0, none⟩ v5) ∧ w5.cell? ⟨lb, 0, none⟩ = some vl ∧ w5.frozen? ⟨lb, 0, none⟩ = false ∧ (w5.setCell ⟨lb, 0, none⟩ v5).cell? ⟨lb, 0, none⟩ = some v5 := by
  have hB : B ≤ w.heap.size := by have := h.ge.1; have := h.lts.1; omega
  have s1 : Sv [] w X := Sv.below bX
  have s4 : Sv vl.ownBlock.toList X w5 := Sv.grown g5
  have s5 : Sv [lb] w5 (w5.setCell ⟨lb, 0, none⟩ v5) := Sv.set _ _ _ _
  have S5 : Sv vl.ownBlock.toList w w5 := by have := s1.trans s4; simpa using this
  have S6 : Sv (vl.ownBlock.toList ++ [lb]) w (w5.setCell ⟨lb, 0, none⟩ v5) := S5.trans s5
  obtain ⟨r1, r2⟩ := h.rowne h.l (by decide) (by decide)
  have q5 : w5.heap[lb]? = some (.cells #[vl] 81 (0, 0)) := S5.all _ _ (fun q => r2 (by simpa [eq_comm] using q)) h.lrow
  have q6 : (w5.setCell ⟨lb, 0, none⟩ v5).heap[lb]? = some (.cells #[v5] 81 (0, 0)) := by have := set_blk2' (j := 0) (v := v5) q5; simpa using this
  refine ⟨h.appL S6 (s5.own o5 (fun y hy => by rw [List.mem_singleton.1 hy]; exact sh_ne o5 q5 (fun c fz q => by cases q))) q6 ?_, ?_, by simp [World.cell?, q5], by simp [World.frozen?, q5], by simp [World.cell?, q6]⟩
  · rcases hl5 with e | e
    · exact .inl e
    · exact .inr ⟨_, e, s1.size⟩
  · have B4 : Below B w X := bX.mono hB
    have B5 : Below B w w5 := B4.trans ((Below.refl _ _).grown g5 (Nat.le_trans hB s1.size) (fun j hj => (h.l.lt j hj).1))
    exact B5.setCell (p := ⟨lb, 0, none⟩) h.ge.2.2.2 _
theorem T1.lat (h : T1 C B g mn mw lb vk vs vl ks ln fs fv nw Dn Dw w) (j : Nat) (hj : j < ln.length) : ∃ gl c, vl = .slice (some ⟨gl, 0, none⟩) ln.length c ∧ ln.length ≤ c ∧ w.cell? ⟨gl, j, none⟩ = some (.int .i32 ln[j]) := by
  have ho := h.l
  obtain ⟨a, c, hv, _⟩ := own_slice' ho
  subst hv
  obtain ⟨gl, rfl⟩ := own_some ho (by omega)
  have c1 := ho.cells (g := gl) rfl j (.int .i32 ln[j]) (by simp [iC, hj])
  rw [Addr.add_lit] at c1
  refine ⟨gl, c, rfl, ?_, by simpa using c1⟩
  rcases ho.2 with ⟨e, _⟩ | ⟨g', cap', cur', e, _, _, hcap, _⟩
  · simp at e
  · simp at e; omega

set_option maxHeartbeats 4000000 in
set_option maxRecDepth 100000 in
theorem lineWith_app (k : Int) (w : World) (h : T1 C B g mn mw lb vk vs vl ks ln fs fv nw Dn Dw w) (hl : ln.length < 100000) :
    Calls Try.prog 53 #[.pointer (some ⟨lb, 0, none⟩), .int .i64 (ln.length : Nat), .int .i32 k] w fun e w' => e = .returned (.pointer (some ⟨lb, 0, none⟩)) ∧ ∃ vl', T1 C B g mn mw lb vk vs vl' ks (ln ++ [k]) fs fv nw Dn Dw w' ∧ Below B w w' := by
  obtain ⟨i0, hif, hz0, hz1, hz2⟩ := sh_parts sh_info32
  have HT := Hid.mk' h
  obtain ⟨c0, c1, c2, c3, c4, cf, l0, lf⟩ := h.cells
  obtain ⟨xa, xc, hvl, _⟩ := own_slice' h.l
  have HVL := Hid.mk' hvl
  obtain ⟨n, hnn⟩ : ∃ n, ln.length = n := ⟨_, rfl⟩
  have HNN := Hid.mk' hnn
  have hgd : (Value.slice xa n xc).ownBlock = vl.ownBlock := by rw [hvl, hnn]
  have HO : Hid (w.ownsRow B 21 1 (.slice xa n xc) n (iC ln)) := Hid.mk' (by have := h.l; rw [hvl, hnn] at this; exact this)
  rw [hvl, hnn] at l0
  rw [hnn] at hl ⊢
  obtain ⟨WX, hWX⟩ : ∃ WX, w.alloc (.cells #[.int .i32 k] 21) = WX := ⟨_, rfl⟩
  have bX : Below w.heap.size w WX := by rw [← hWX]; exact (Below.refl _ _).alloc (Nat.le_refl _) _
  have HCX : Hid (∀ (jj : Nat) (u : Value), ([.int .i32 k] : List Value)[jj]? = some u → WX.cell? (Addr.add ⟨w.heap.size, 0, none⟩ jj) = some u) := Hid.mk' (by rw [← hWX]; exact cells_new _ _ _)
  have HOX := Hid.mk' (own_below HO.out bX)
  have HBX := Hid.mk' bX
  have HSX : Hid (B ≤ WX.heap.size) := Hid.mk' (by have := h.ge.1; have := h.lts.1; have := bX.size; omega)
  obtain ⟨bq, hbq⟩ : ∃ b, w.heap.size = b := ⟨_, rfl⟩
  rw [hbq] at HCX
  have HLL := Hid.mk' hl
  have e1 : ((n : Int) == (n : Int)) = true := by simp
  have e2 : (k == k) = true := by simp
  clear h c0 c1 c2 c3 c4 cf lf hvl hnn bX hl
  go_enter Try.func53, Try.ntmps53
  go_wp2_with (at_builtin; refine wpList_append_own_at _ rfl _ _ 79 rfl B 21 i0 (.int .i32 0) 1 4 Try.underlying79 hif hz0 hz1 hz2 rfl (by decide) _ _ _ rfl HOX.out ⟨bq, 0, none⟩ 1 1 [.int .i32 k] rfl rfl HCX.out ?c2 (by have := HLL.out; unfold maxLen; omega) (by have := HLL.out; omega) HSX.out ?_)
  case c2 => first | rfl | (intro u hu; rw [List.mem_singleton.1 hu]; rfl)
  intro v5 w5 o5 g5 _ hl5
  (try rw [hgd] at g5)
  (try rw [hgd] at hl5)
  obtain ⟨k1, k2, k3, k4, k5⟩ := line_end HT.out HBX.out g5 (by rw [HNN.out]; exact o5) hl5
  obtain ⟨gl, c5, hv5, hc5, k6⟩ := k1.lat n (by rw [List.length_append, HNN.out]; simp)
  have hq : (ln ++ [k])[n]'(by rw [List.length_append, HNN.out]; simp) = k := by simp [← HNN.out]
  rw [hq] at k6
  rw [List.length_append, HNN.out] at hv5 hc5
  have HK1 := Hid.mk' k1
  have HK2 := Hid.mk' k2
  rw [HVL.out, HNN.out] at k3
  subst hv5
  obtain ⟨W6, hW6⟩ : ∃ W6, w5.setCell ⟨lb, 0, none⟩ (.slice (some ⟨gl, 0, none⟩) (n + [k].length) c5) = W6 := ⟨_, rfl⟩
  have HH6 := Hid.mk' hW6
  rw [hW6] at k5 k6 HK1 HK2
  simp only [List.length_cons, List.length_nil, Nat.zero_add] at k5 hW6 HH6 hc5
  clear o5 g5 hl5 k1 k2 hq l0 hW6
  go_upto_region 3 with fail
  rw [HH6.out]
  have i1 : (n : Int) < ((n + 1 : Nat) : Int) := by omega
  have i3 : (n : Int) < 100000 := by have := HLL.out; omega
  go_wp2
  go_ret
  exact ⟨rfl, _, HK1.out, HK2.out⟩
set_option maxHeartbeats 4000000 in
set_option maxRecDepth 100000 in
theorem lineWith_same (k : Int) (m : Nat) (w : World) (h : T1 C B g mn mw lb vk vs vl ks ln fs fv nw Dn Dw w) (hm : m < ln.length) (hk : ln[m] = k) (hl : ln.length < 100000) :
    Calls Try.prog 53 #[.pointer (some ⟨lb, 0, none⟩), .int .i64 (m : Nat), .int .i32 k] w fun e w' => e = .returned (.pointer (some ⟨lb, 0, none⟩)) ∧ w' = w := by
  obtain ⟨c0, c1, c2, c3, c4, cf, l0, lf⟩ := h.cells
  obtain ⟨gl, c5, hvl, hc5, k6⟩ := h.lat m hm
  obtain ⟨n, hnn⟩ : ∃ n, ln.length = n := ⟨_, rfl⟩
  rw [hvl, hnn] at l0
  rw [hnn] at hm hl hc5
  rw [hk] at k6
  have e1 : ((m : Int) == (n : Int)) = false := by simp; omega
  have e2 : (k == k) = true := by simp
  have i1 : (m : Int) < (n : Int) := by omega
  clear h c0 c1 c2 c3 c4 cf lf hvl hnn hk
  go_enter Try.func53, Try.ntmps53
  go_wp2
  go_ret
  exact ⟨rfl, rfl⟩
end
end Go.Proofs.Ytmbnkpfaeiellaa
