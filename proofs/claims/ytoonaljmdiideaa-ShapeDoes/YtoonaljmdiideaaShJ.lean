/- Package shape: keep a new key. -/
import Derived.Test.YtoonaljmdiideaaShI
namespace Go.Proofs.Ytoonaljmdiideaa
set_option linter.unusedVariables false
set_option linter.unusedSimpArgs false
open Go.RowKit Go.Maps Go.ChangeShapes

/-- append onto a row that the call owns, as one step of a region that draws its order, with where it lies then. -/
theorem sh_append {P : Program} {ops : Array Oper} {o : Oper} {a : Act} {w : World} {K : Act → World → Prop} {Q : Exit → Act → World → Prop} {E : Prop}
    (hg : o.guard = none) (s x : Operand) (t : TypeId) (hop : o.op = Op.call { callee := Callee.builtin Builtin.append, args := #[s, x], argTypes := #[t, t] })
    (base : Nat) (e : TypeId) (i : TypeInfo) (z : Value) (size bytes : Nat) (h1 : P.underlying t = some (.slice e)) (h2 : P.info? e = some i) (h3 : i.zero = some z) (h4 : i.size = size) (h5 : i.bytes = bytes) (h6 : z.cells.size = size) (h7 : 0 < size)
    (v : Value) (n : Nat) (xs : List Value) (hs : a.eval s = v) (hown : w.ownsRow base e size v n xs)
    (ad : Addr) (m c : Nat) (news : List Value) (hx : a.eval x = .slice (some ad) m c) (hn : news.length = m * size) (hc : ∀ j u, news[j]? = some u → w.cell? (ad.add j) = some u) (h1c : ∀ u ∈ news, u.oneCell' = true)
    (b1 : n + m ≤ maxLen) (b2 : (n + m) * bytes ≤ 140737488355328) (hbase : base ≤ w.heap.size)
    (hK : ∀ v' w', w'.ownsRow base e size v' (n + m) (xs ++ news) → w.grownBy w' v.ownBlock → (v'.ownBlock = v.ownBlock ∨ v'.ownBlock = some w.heap.size) → K (a.put o.dst v') w') :
    if Region.wanted o (yielded ops a.tmps) = true then Oper.wp P o a w K Q else E := by
  have hw : Region.wanted o (yielded ops a.tmps) = true := by simp [Region.wanted, hg]
  rw [if_pos hw]
  obtain ⟨v', w', hrun, r1, r2, _, r3⟩ := run_append_own_at (P := P) w base t o.type e i z size bytes h1 h2 h3 h4 h5 h6 h7 v n xs hown ad m c news hn hc h1c b1 b2 hbase
  unfold Oper.wp
  simp [execOp, hop, resolve, invoke, builtin, hs, hx, hrun, Result.andThen]
  exact hK v' w' r1 r2 r3
theorem sh_infoK : (Try.prog.info? 31).map (fun i => (i.zero, i.size, i.bytes)) = some (some (.agg #[.string ⟨#[]⟩, .int .i64 0]), 2, 24) := by kernel_rfl
theorem sh_infoC : (Try.prog.info? 63).map (fun i => (i.zero, i.size, i.bytes)) = some (some (.agg #[.pointer none, .slice none 0 0]), 2, 32) := by kernel_rfl
theorem sh_info32 : (Try.prog.info? 21).map (fun i => (i.zero, i.size, i.bytes)) = some (some (.int .i32 0), 1, 4) := by kernel_rfl
theorem sh_info8 : (Try.prog.info? 5).map (fun i => (i.zero, i.size, i.bytes)) = some (some (.int .u8 0), 1, 1) := by kernel_rfl
theorem sh_parts {t : TypeId} {z : Option Value} {s b : Nat} (h : (Try.prog.info? t).map (fun i => (i.zero, i.size, i.bytes)) = some (z, s, b)) : ∃ i, Try.prog.info? t = some i ∧ i.zero = z ∧ i.size = s ∧ i.bytes = b := by
  obtain ⟨i, hi, e⟩ := Option.map_eq_some_iff.1 h
  simp at e
  exact ⟨i, hi, e.1, e.2.1, e.2.2⟩
section
variable {C : List (Nat × Obj)} {B g mn mw lb : Nat} {vk vs vl : Value} {ks : List Kb} {ln : List Int} {fs : List (List Int)} {fv : List (Nat × Value)} {nw : Nat} {Dn Dw : DataW Unit} {w : World}

theorem keep_row {w4 X4 w5 : World} {v a0 a1 a2 a3 a4 : Value} {t : TypeId} (h : w4.heap[g]? = some (.cells #[a0, a1, a2, a3, a4] t (0, 0))) (hX : Below w4.heap.size w4 X4) (g5 : X4.grownBy w5 v.ownBlock) (hn : some g ≠ v.ownBlock) : w5.cell? ⟨g, 2, none⟩ = some a2 ∧ w5.frozen? ⟨g, 2, none⟩ = false := by
  have h1 := (Sv.below hX).all g _ (by simp) h
  have h2 := (Sv.grown g5).all g _ (fun q => hn (by simpa [eq_comm] using q)) h1
  constructor <;> simp [World.cell?, World.frozen?, h2]
theorem keep_end (h : T1 C B g mn mw lb vk vs vl ks ln fs fv nw Dn Dw w) {W3 w4 X4 w5 : World} {v5 : Value} {s : ByteArray} {z : Int} {Dn' : DataW Unit} (b3 : Below w.heap.size w W3) (gt : W3.drew.grownBy w4 (some mn)) (m4 : w4.ownsMap Try.prog 31 (plainElem Try.prog 21) mn (ks.length + 1) Dn')
    (ba : Below w4.heap.size w4 X4) (g5 : X4.grownBy w5 vk.ownBlock) (o5 : w5.ownsRow B 31 2 v5 (ks.length + 1) (kC ks ++ [.string s, .int .i64 z])) (hl5 : v5.ownBlock = vk.ownBlock ∨ v5.ownBlock = some X4.heap.size) :
    T1 C B g mn mw lb v5 vs vl (ks ++ [(s, z)]) ln fs fv nw Dn' Dw (w5.setCell ⟨g, 2, none⟩ v5) ∧ Below B w (w5.setCell ⟨g, 2, none⟩ v5) := by
  have hB : B ≤ w.heap.size := by have := h.ge.1; have := h.lts.1; omega
  have s1 : Sv [] w W3 := Sv.below b3
  have s2 : Sv [mn] W3 w4 := ⟨gt.size, (Sv.grown gt).all⟩
  have s3 : Sv [] w4 X4 := Sv.below ba
  have s4 : Sv vk.ownBlock.toList X4 w5 := Sv.grown g5
  have s5 : Sv [g] w5 (w5.setCell ⟨g, 2, none⟩ v5) := Sv.set _ _ _ _
  have S5 : Sv ([mn] ++ vk.ownBlock.toList) w w5 := by have := ((s1.trans s2).trans s3).trans s4; simpa using this
  have S6 : Sv ([mn] ++ (vk.ownBlock.toList ++ [g])) w (w5.setCell ⟨g, 2, none⟩ v5) := by have := S5.trans s5; simpa using this
  obtain ⟨n1, n2, n3, n4, n5⟩ := h.nes
  obtain ⟨r1, r2⟩ := h.rowne h.k (by decide) (by decide)
  obtain ⟨m1, m2⟩ := h.mapne h.k
  have q5 : w5.heap[g]? = some (.cells #[.pointer (some ⟨g, 0, none⟩), .map (some mn), vk, vs, .map (some mw)] 68 (0, 0)) := S5.all _ _ (by
    intro q
    have : g = mn ∨ vk.ownBlock = some g := by simpa [eq_comm] using q
    rcases this with e | e
    · exact n2 e
    · exact r1 e.symm) h.row
  have sz : w.heap.size ≤ X4.heap.size := Nat.le_trans s1.size (Nat.le_trans s2.size s3.size)
  refine ⟨h.appK S6 (s5.own o5 (fun x hx => ?_)) ?_ ?_ ?_, ?_⟩
  · obtain rfl : x = g := by simpa using hx
    exact sh_ne o5 q5 (fun c fz q => by cases q)
  · have := set_blk2' (j := 2) (v := v5) q5; simpa using this
  · refine ((s3.trans s4).trans s5).map m4 ?_
    intro q
    have : vk.ownBlock = some mn ∨ mn = g := by simpa [eq_comm] using q
    rcases this with e | e
    · exact m1 e.symm
    · exact n2 e.symm
  · rcases hl5 with e | e
    · exact .inl e
    · exact .inr ⟨_, e, sz⟩
  · have B3 : Below B w W3 := b3.mono hB
    have B4 : Below B w w4 := (B3.drew).trans ((Below.refl _ _).grown gt (Nat.le_trans hB s1.size) (fun j hj => by cases hj; exact h.ge.2.1))
    have B5 : Below B w X4 := B4.trans (ba.mono (Nat.le_trans hB (Nat.le_trans s1.size s2.size)))
    have B6 : Below B w w5 := B5.trans ((Below.refl _ _).grown g5 (Nat.le_trans hB sz) (fun j hj => (h.k.lt j hj).1))
    exact B6.setCell (p := ⟨g, 2, none⟩) h.ge.1 _

set_option maxHeartbeats 4000000 in
set_option maxRecDepth 100000 in
theorem keep_new (s : ByteArray) (z : Int) (he : evenS s = s) (hs : (s.size : Int) ≤ 140737488351232) (hzf : (Lit.int .i64 z).wf = true) (w : World) (h : T1 C B g mn mw lb vk vs vl ks ln fs fv nw Dn Dw w) (hn : NumOk Dn ks) (hz : ∀ t ∈ ks, Kwf t) (hno : (s, z) ∉ ks) (hl : ks.length < 100000) :
    Calls Try.prog 33 #[.pointer (some ⟨g, 0, none⟩), .int .i32 (ks.length : Nat), .agg #[.string s, .int .i64 z]] w fun e w' => e = .returned (.tuple #[]) ∧ ∃ vk' Dn', T1 C B g mn mw lb vk' vs vl (ks ++ [(s, z)]) ln fs fv nw Dn' Dw w' ∧ NumOk Dn' (ks ++ [(s, z)]) ∧ Below B w w' := by
  obtain ⟨i0, hif, hz0, hz1, hz2⟩ := sh_parts sh_infoK
  have hsm : Kwf (s, z) := ⟨by unfold maxLen; show s.size ≤ _; omega, hzf⟩
  have HOW := Hid.mk' (fun W => shown_any s z W hs)
  rw [he] at HOW
  have HPUT := Hid.mk' (hn.put (s, z) hsm hz hno)
  have HKM := Hid.mk' (key_mk s z hsm)
  obtain ⟨W1, hW1⟩ : ∃ W1, w.alloc (.cells #[.string s, .int .i64 z] 31) = W1 := ⟨_, rfl⟩
  have b1 : Below w.heap.size w W1 := by rw [← hW1]; exact (Below.refl _ _).alloc (Nat.le_refl _) _
  have q1 : W1.heap[w.heap.size]? = some (.cells #[.string s, .int .i64 z] 31 (0, 0)) := by rw [← hW1]; exact World.alloc_heap_new _ _
  obtain ⟨b0, hb0⟩ : ∃ b0, w.heap.size = b0 := ⟨_, rfl⟩
  rw [hb0] at q1
  have HS0 := Hid.mk' hb0
  obtain ⟨_, _, g0, g1⟩ := pair_facts q1
  have HT := Hid.mk' h
  obtain ⟨c0, c1, c2, c3, c4, cf, l0, lf⟩ := (h.below b1).cells
  obtain ⟨xa, xc, hvk, _⟩ := own_slice' h.k
  have HVK := Hid.mk' hvk
  rw [hvk] at c2
  obtain ⟨n, hnn⟩ : ∃ n, ks.length = n := ⟨_, rfl⟩
  have HNN := Hid.mk' hnn
  rw [hnn] at c2 hl ⊢
  have HB1 := Hid.mk' b1
  have HQ1 := Hid.mk' q1
  have HL1 := Hid.mk' (Array.getElem?_eq_some_iff.1 q1).1
  have i1 : ¬ (n : Int) < (n : Int) := by omega
  clear h hn hz hno hs hsm hzf he hvk hnn b1 q1 c0 c1 c3 c4 cf l0 lf
  go_enter Try.func33, Try.ntmps33
  go_wp2_with fail
  refine (HOW.out _).mono ?_
  rintro e w2 ⟨rfl, b2⟩
  have q2 := (b2.block b0 HL1.out).trans HQ1.out
  obtain ⟨f0, f1, d0, d1⟩ := pair_facts q2
  obtain ⟨W3, hW3⟩ : ∃ W3, (w2.setCell ⟨b0, 0, none⟩ (.string s)).setCell ⟨b0, 1, none⟩ (.int .i64 z) = W3 := ⟨_, rfl⟩
  have q3 : W3.heap[b0]? = some (.cells #[.string s, .int .i64 z] 31 (0, 0)) := by
    rw [← hW3]
    have k1 := set_blk2' (j := 0) (v := .string s) q2
    have k2 := set_blk2' (j := 1) (v := .int .i64 z) k1
    simpa using k2
  have b3 : Below w.heap.size w W3 := by
    rw [← hW3]
    exact ((HB1.out.trans (b2.mono HB1.out.size)).setCell (p := ⟨b0, 0, none⟩) (by show w.heap.size ≤ b0; have := HS0.out; omega) _).setCell (p := ⟨b0, 1, none⟩) (by show w.heap.size ≤ b0; have := HS0.out; omega) _
  have h3 := HT.out.below b3
  obtain ⟨c0, c1, c2', c3, c4, cf, l0, lf⟩ := h3.cells
  have m3 : W3.drew.ownsMap Try.prog 31 (plainElem Try.prog 21) mn ks.length Dn := h3.n
  obtain ⟨w4, hupd, m4, t4⟩ := m3.store keyLaw Try.underlying56 (by have := HNN.out; unfold maxLen; omega) HKM.out (plainElem_int Try.underlying21 (a := (ks.length : Int)) (by have := HNN.out; simp [Lit.wf, IntKind.min, IntKind.max, IntKind.bits, IntKind.signed]; omega))
  rw [HNN.out] at hupd
  have gt := t4.grown
  have S4 : Sv [mn] W3 w4 := ⟨gt.size, (Sv.grown gt).all⟩
  have lmn : mn < w.heap.size := HT.out.lts.2.2.1
  have q4 : w4.heap[b0]? = some (.cells #[.string s, .int .i64 z] 31 (0, 0)) := S4.all _ _ (by have := HS0.out; simp; omega) q3
  have r4 : w4.heap[g]? = some (.cells #[.pointer (some ⟨g, 0, none⟩), .map (some mn), vk, vs, .map (some mw)] 68 (0, 0)) := S4.all _ _ (by have := HT.out.nes.2.1; simpa using this) h3.row
  have o4 : w4.ownsRow B 31 2 vk ks.length (kC ks) := S4.own h3.k (fun x hx => by rw [List.mem_singleton.1 hx]; exact (h3.mapne h3.k).1)
  obtain ⟨_, _, p0, p1⟩ := pair_facts q3
  obtain ⟨_, _, t0, t1⟩ := pair_facts q4
  have u2 : w4.cell? ⟨g, 2, none⟩ = some vk := by simp [World.cell?, r4]
  rw [HVK.out, HNN.out] at u2
  have HB3 := Hid.mk' b3
  have HGT := Hid.mk' gt
  have HM4 := Hid.mk' m4
  have HO4 := Hid.mk' o4
  have HR4 := Hid.mk' r4
  have HH3 := Hid.mk' hW3
  have HL4 : Hid (B ≤ w4.heap.size ∧ g < w4.heap.size) := Hid.mk' ⟨by have := HT.out.ge.1; have := HT.out.lts.1; have := b3.size; have := S4.size; omega, (Array.getElem?_eq_some_iff.1 r4).1⟩
  have g4 : g < w4.heap.size := HL4.out.2
  have l4 : b0 < w4.heap.size := (Array.getElem?_eq_some_iff.1 q4).1
  have HNE := Hid.mk' (sh_ne o4 r4 (fun c fz q => by cases q))
  rw [HVK.out, HNN.out] at HO4 HNE
  have HBA : Hid (Below w4.heap.size w4 (w4.alloc (.cells #[.string s, .int .i64 z] 31)).drew) := Hid.mk' (((Below.refl _ _).alloc (Nat.le_refl _) _).drew)
  have hgd : (Value.slice xa n xc).ownBlock = vk.ownBlock := by rw [HVK.out, HNN.out]
  clear b2 q2 q3 b3 h3 c0 c2' c3 c4 cf l0 lf m3 m4 t4 gt S4 lmn q4 r4 o4 hW3 c2
  go_upto_region 3 with fail
  rw [HH3.out]
  clear d0 d1 f0 f1
  go_region
  clear hupd c1 p0 p1
  go_wp2_with fail
  go_region_law (refine sh_append rfl (.tmp 26) (.tmp 28) 66 rfl B 31 i0 (.agg #[.string ⟨#[]⟩, .int .i64 0]) 2 24 Try.underlying66 hif hz0 hz1 hz2 rfl (by decide) _ _ _ rfl (World.ownsRow.alloc (show w4.drew.ownsRow _ _ _ _ _ _ from HO4.out) _) _ 1 1 _ rfl (by rfl) (cells_new _ _ _) (by simp [Value.oneCell']) (by unfold maxLen; omega) (by omega) (by have := HL4.out; simp <;> omega) ?_; intro v5 w5 o5 g5 hl5; obtain ⟨a5, c5, hv5, _⟩ := own_slice' o5; subst hv5; have HG5 : Hid ((w4.alloc (.cells #[.string s, .int .i64 z] 31)).drew.grownBy w5 (Value.slice xa n xc).ownBlock) := Hid.mk' g5; have HL5 : Hid ((Value.slice a5 (n + 1) c5).ownBlock = (Value.slice xa n xc).ownBlock ∨ (Value.slice a5 (n + 1) c5).ownBlock = some (w4.alloc (.cells #[.string s, .int .i64 z] 31)).drew.heap.size) := Hid.mk' hl5; obtain ⟨e5, z5⟩ := keep_row HR4.out HBA.out HG5.out HNE.out; have HO5 := Hid.mk' o5; clear o5 g5 hl5)
  all_goals
    go_wp2
    go_end0
    rw [hgd] at HG5 HL5
    obtain ⟨k1, k2⟩ := keep_end HT.out HB3.out HGT.out HM4.out HBA.out HG5.out (by have := HO5.out; rw [HNN.out]; exact this) HL5.out
    exact ⟨rfl, _, _, k1, HPUT.out, k2⟩
end
end Go.Proofs.Ytoonaljmdiideaa
