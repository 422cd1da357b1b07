/- The document's check: Targets. The document's check: Targets, walked. The document's check: Targets, walked. -/
import Derived.Test.YtcagfjogfbddeaaDoorCrI
import Derived.Test.YtcagfjogfbddeaaDoorCrN
import Derived.Deep.DeepCutAuto
namespace Go.Proofs.YtcagfjogfbddeaaDoor
set_option linter.unusedVariables false
set_option linter.unusedSimpArgs false
open Go.RowKit Go.Shelf

/-- The two rows. -/
structure Tr (W1 w : World) (x7 : Nat) (insA : Array Value) (va vt : Value) (l : List (Nat × Int)) : Prop where
  bl : Below W1.heap.size W1 w
  ix : w.heap[x7]? = some (.cells insA 44 (0, 0))
  oa : w.ownsRow W1.heap.size 3 1 va l.length (zs (l.map fun p => (p.1 : Int)))
  ot : w.ownsRow W1.heap.size 3 1 vt l.length (zs (l.map fun p => p.2))
  ap : va.ownBlock = none ∨ va.ownBlock ≠ vt.ownBlock
theorem Tr.below {W1 w w' : World} {x7 : Nat} {insA : Array Value} {va vt : Value} {l : List (Nat × Int)} (h : Tr W1 w x7 insA va vt l) (hb : Below w.heap.size w w') : Tr W1 w' x7 insA va vt l :=
  ⟨h.bl.trans (hb.mono h.bl.size), (hb.block _ (Array.getElem?_eq_some_iff.1 h.ix).1).trans h.ix, own_below h.oa hb, own_below h.ot hb, h.ap⟩
theorem ap_flip {u v : Value} (h : u.ownBlock = none ∨ u.ownBlock ≠ v.ownBlock) : v.ownBlock = none ∨ v.ownBlock ≠ u.ownBlock := by
  rcases h with e | e
  · rw [e]
    cases hv : v.ownBlock with
    | none => exact .inl rfl
    | some x => exact .inr (fun q => by cases q)
  · exact .inr (Ne.symm e)
/-- One more in the first row, then one more in the second. -/
theorem Tr.app {W1 w X Y w5 w6 : World} {x7 k : Nat} {insA : Array Value} {va vt v5 v6 : Value} {l : List (Nat × Int)} {z : Int} (h : Tr W1 w x7 insA va vt l) (hX : Below w.heap.size w X) (o5 : w5.ownsRow W1.heap.size 3 1 v5 (l.length + 1) (zs (l.map fun p => (p.1 : Int)) ++ [.int .i64 (k : Int)])) (g5 : X.grownBy w5 va.ownBlock) (hl5 : v5.ownBlock = va.ownBlock ∨ v5.ownBlock = some X.heap.size)
    (hY : Below w5.heap.size w5 Y) (o6 : w6.ownsRow W1.heap.size 3 1 v6 (l.length + 1) (zs (l.map fun p => p.2) ++ [.int .i64 z])) (g6 : Y.grownBy w6 vt.ownBlock) (hl6 : v6.ownBlock = vt.ownBlock ∨ v6.ownBlock = some Y.heap.size) : Tr W1 w6 x7 insA v5 v6 (l ++ [(k, z)]) := by
  have hx := h.below hX
  have ot5 : w5.ownsRow W1.heap.size 3 1 vt l.length (zs (l.map fun p => p.2)) := hx.ot.kept g5 (ap_flip h.ap)
  have ix5 : w5.heap[x7]? = _ := (g5.block _ (Array.getElem?_eq_some_iff.1 hx.ix).1 (blk_ne hx.oa hx.ix (fun c fz e => by cases e))).trans hx.ix
  have ixY := (hY.block _ (Array.getElem?_eq_some_iff.1 ix5).1).trans ix5
  have otY := own_below ot5 hY
  have oaY := own_below o5 hY
  have bl5 := hx.bl.grown g5 hx.bl.size (fun k hk => (hx.oa.lt k hk).1)
  have blY := bl5.trans (hY.mono bl5.size)
  have ap5 : v5.ownBlock = none ∨ v5.ownBlock ≠ vt.ownBlock := by
    rcases hl5 with e | e
    · rw [e]; exact h.ap
    · rw [e]; exact .inr (fun q => by have := (hx.ot.lt _ q.symm).2; omega)
  refine ⟨blY.grown g6 blY.size (fun k hk => (otY.lt k hk).1), (g6.block _ (Array.getElem?_eq_some_iff.1 ixY).1 (blk_ne otY ixY (fun c fz e => by cases e))).trans ixY, ?_, ?_, ?_⟩
  · have e1 : (l ++ [(k, z)]).length = l.length + 1 := by simp
    have e2 : zs ((l ++ [(k, z)]).map fun p => (p.1 : Int)) = zs (l.map fun p => (p.1 : Int)) ++ [.int .i64 (k : Int)] := by simp [zs]
    rw [e1, e2]
    exact oaY.kept g6 ap5
  · have e1 : (l ++ [(k, z)]).length = l.length + 1 := by simp
    have e2 : zs ((l ++ [(k, z)]).map fun p => p.2) = zs (l.map fun p => p.2) ++ [.int .i64 z] := by simp [zs]
    rw [e1, e2]
    exact o6
  · rcases hl6 with e | e
    · rw [e]; exact ap5
    · rw [e]; exact .inr (fun q => by have := (oaY.lt _ q).2; omega)
end Go.Proofs.YtcagfjogfbddeaaDoor

namespace Go.Proofs.YtcagfjogfbddeaaDoor
set_option linter.unusedVariables false
set_option linter.unusedSimpArgs false
open Go.RowKit Go.Shelf

/-- The two rows, each with its own list. -/
structure Tv (W1 w : World) (x7 : Nat) (insA : Array Value) (va vt : Value) (p q : Nat) (la lt : List Int) : Prop where
  bl : Below W1.heap.size W1 w
  ix : w.heap[x7]? = some (.cells insA 44 (0, 0))
  oa : w.ownsRow W1.heap.size 3 1 va p (zs la)
  ot : w.ownsRow W1.heap.size 3 1 vt q (zs lt)
  ap : va.ownBlock = none ∨ va.ownBlock ≠ vt.ownBlock
section
variable {W1 w X w5 : World} {x7 p q : Nat} {insA : Array Value} {va vt v5 : Value} {la lt : List Int} {z : Int}
theorem Tv.below {w' : World} (h : Tv W1 w x7 insA va vt p q la lt) (hb : Below w.heap.size w w') : Tv W1 w' x7 insA va vt p q la lt :=
  ⟨h.bl.trans (hb.mono h.bl.size), (hb.block _ (Array.getElem?_eq_some_iff.1 h.ix).1).trans h.ix, own_below h.oa hb, own_below h.ot hb, h.ap⟩
theorem Tv.app1 (h : Tv W1 w x7 insA va vt p q la lt) (hX : Below w.heap.size w X) (o5 : w5.ownsRow W1.heap.size 3 1 v5 (p + 1) (zs la ++ [.int .i64 z])) (g5 : X.grownBy w5 va.ownBlock) (hl5 : v5.ownBlock = va.ownBlock ∨ v5.ownBlock = some X.heap.size) : Tv W1 w5 x7 insA v5 vt (p + 1) q (la ++ [z]) lt := by
  have hx := h.below hX
  refine ⟨hx.bl.grown g5 hx.bl.size (fun k hk => (hx.oa.lt k hk).1), (g5.block _ (Array.getElem?_eq_some_iff.1 hx.ix).1 (blk_ne hx.oa hx.ix (fun c fz e => by cases e))).trans hx.ix, ?_, hx.ot.kept g5 (ap_flip h.ap), ?_⟩
  · have e2 : zs (la ++ [z]) = zs la ++ [.int .i64 z] := by simp [zs]
    rw [e2]; exact o5
  · rcases hl5 with e | e
    · rw [e]; exact h.ap
    · rw [e]; exact .inr (fun q => by have := (hx.ot.lt _ q.symm).2; omega)
theorem Tv.app2 (h : Tv W1 w x7 insA va vt p q la lt) (hX : Below w.heap.size w X) (o5 : w5.ownsRow W1.heap.size 3 1 v5 (q + 1) (zs lt ++ [.int .i64 z])) (g5 : X.grownBy w5 vt.ownBlock) (hl5 : v5.ownBlock = vt.ownBlock ∨ v5.ownBlock = some X.heap.size) : Tv W1 w5 x7 insA va v5 p (q + 1) la (lt ++ [z]) := by
  have hx := h.below hX
  refine ⟨hx.bl.grown g5 hx.bl.size (fun k hk => (hx.ot.lt k hk).1), (g5.block _ (Array.getElem?_eq_some_iff.1 hx.ix).1 (blk_ne hx.ot hx.ix (fun c fz e => by cases e))).trans hx.ix, hx.oa.kept g5 h.ap, ?_, ?_⟩
  · have e2 : zs (lt ++ [z]) = zs lt ++ [.int .i64 z] := by simp [zs]
    rw [e2]; exact o5
  · rcases hl5 with e | e
    · rw [e]; exact h.ap
    · rw [e]; exact .inr (fun q => by have := (hx.oa.lt _ q).2; omega)
end
end Go.Proofs.YtcagfjogfbddeaaDoor

namespace Go.Proofs.YtcagfjogfbddeaaDoor
set_option linter.unusedVariables false
set_option linter.unusedSimpArgs false
open Go.RowKit Go.Shelf

set_option maxHeartbeats 4000000 in
set_option maxRecDepth 100000 in
theorem rtargets_any (q : FW) (w : World) (hr : RdE Ins.cs 5 w q.ya q.yc q.f.code) :
    Calls Tryd.prog 8 #[.agg q.cs.toArray] w fun e w' => ∃ V, e = .returned V ∧ ∃ va vt, V = .tuple #[va, vt] ∧ w'.ownsRow w.heap.size 3 1 va (tgL q.f q.f.code.length).length (zs ((tgL q.f q.f.code.length).map fun p => (p.1 : Int))) ∧ w'.ownsRow w.heap.size 3 1 vt (tgL q.f q.f.code.length).length (zs ((tgL q.f q.f.code.length).map fun p => p.2)) ∧ Below w.heap.size w w' := by
  obtain ⟨i0, hif, hz0, hz1, hz2⟩ := info_parts infoInt
  have hile := hr.le
  have hicl : q.yc * (5 * 8) ≤ 140737488351232 := hr.cle
  have HRD := Hid.mk' hr
  obtain ⟨f, hf⟩ : ∃ f, q.f = f := ⟨_, rfl⟩
  obtain ⟨n, hn⟩ : ∃ n, q.f.code.length = n := ⟨_, rfl⟩
  have HN : Hid (f.code.length = n) := Hid.mk' (by rw [← hf]; exact hn)
  rw [hn] at hile
  rw [hn]
  simp only [hf]
  rw [hf] at HRD
  obtain ⟨⟨f1, f2, f3, f4, f5, cs, is, ts, us⟩, xa, xc, ya, yc, za, zc, ua, uc⟩ := q
  simp only [FW.cs]
  dsimp only at hile hicl HRD hn hf
  obtain ⟨m1, hm1⟩ : ∃ m, cs.length = m := ⟨_, rfl⟩
  obtain ⟨m3, hm3⟩ : ∃ m, ts.length = m := ⟨_, rfl⟩
  obtain ⟨m4, hm4⟩ : ∃ m, us.length = m := ⟨_, rfl⟩
  rw [hn, hm1, hm3, hm4]
  obtain ⟨W1, hW1⟩ : ∃ W1, w.alloc (.cells #[.string f1, .int .i64 f2, .bool f3, .bool f4, .int .i64 f5, .slice xa m1 xc, .slice ya n yc, .slice za m3 zc, .slice ua m4 uc] 28) = W1 := ⟨_, rfl⟩
  have b1 : Below w.heap.size w W1 := by rw [← hW1]; exact lay_below
  have q1 : W1.heap[w.heap.size]? = some (.cells #[.string f1, .int .i64 f2, .bool f3, .bool f4, .int .i64 f5, .slice xa m1 xc, .slice ya n yc, .slice za m3 zc, .slice ua m4 uc] 28 (0, 0)) := by rw [← hW1]; exact box_new
  obtain ⟨b0, hb0⟩ : ∃ b0, w.heap.size = b0 := ⟨_, rfl⟩
  have HS0 := Hid.mk' hb0
  rw [hb0] at q1
  have hb1 : b0 < W1.heap.size := (Array.getElem?_eq_some_iff.1 q1).1
  have HCF : Hid (∀ W, Below W1.heap.size W1 W → W.cell? ⟨b0, 6, none⟩ = some (.slice ya n yc)) := Hid.mk' (fun W hW => (hW.cell (p := ⟨b0, 6, none⟩) hb1).trans ((cell_row _ _ 6 _ _ q1).trans rfl))
  have HR1 := Hid.mk' (HRD.out.below b1)
  have HB1 := Hid.mk' b1
  have HNB : Hid ((n : Int) < 3600000000000) := Hid.mk' (by omega)
  have a6 := HCF.out W1 (Below.refl _ _)
  clear hr b1 q1 hb1 hm1 hm3 hm4 hile hicl hn hf
  go_enter Tryd.func8, Tryd.ntmps8
  go_wp2_with fail
  clear a6 hW1
  go_loopw [4, 5, 11] (fun v4 v5 v11 wr => ∃ i : Nat, v11 = .int .i64 (i : Int) ∧ i ≤ n ∧ Hid (Below W1.heap.size W1 wr ∧ wr.ownsRow W1.heap.size 3 1 v4 (tgL f i).length (zs ((tgL f i).map fun p => (p.1 : Int))) ∧ wr.ownsRow W1.heap.size 3 1 v5 (tgL f i).length (zs ((tgL f i).map fun p => p.2)) ∧ (Value.ownBlock v4 = none ∨ Value.ownBlock v4 ≠ Value.ownBlock v5))) (fun v4 v5 v11 wr => n - (intOf v11).toNat)
  case atStart => exact ⟨0, rfl, Nat.zero_le _, Hid.mk' ⟨Below.refl _ _, World.ownsRow_nil _ _ _ _, World.ownsRow_nil _ _ _ _, .inl rfl⟩⟩
  case round =>
    obtain ⟨i, rfl, hi, HT⟩ := hrel
    obtain ⟨l, hlE⟩ : ∃ l, (tgL f i).length = l := ⟨_, rfl⟩
    have HLE := Hid.mk' hlE
    rw [hlE] at HT
    obtain ⟨ya4, yc4, hv4, _⟩ := own_slice' HT.out.2.1
    obtain ⟨ya5, yc5, hv5, _⟩ := own_slice' HT.out.2.2.1
    subst hv4 hv5
    by_cases hlt : i < n
    · have hil : i < f.code.length := by rw [HN.out]; exact hlt
      have hia : insAt f i = f.code[i] := by simp [insAt, List.getD_eq_getElem?_getD, List.getElem?_eq_getElem hil]
      obtain ⟨g, o, rfl, hg, hc⟩ := (HR1.out.below HT.out.1).at i hil
      rw [← hia] at hc
      obtain ⟨ii, hii⟩ : ∃ ii, insAt f i = ii := ⟨_, rfl⟩
      have HII := Hid.mk' hii
      rw [hii] at hc
      obtain ⟨op, ia, ib, ic, id⟩ := ii
      have d0 := hc 0 (.int .i64 op) (by omega) rfl
      have d1 := hc 1 (.int .i64 ia) (by omega) rfl
      have d2 := hc 2 (.int .i64 ib) (by omega) rfl
      have d3 := hc 3 (.int .i64 ic) (by omega) rfl
      have d4 := hc 4 (.int .i64 id) (by omega) rfl
      simp only [Nat.add_zero] at d0
      have i1 : (i : Int) < (n : Int) := by omega
      have i2 : (i : Int) < 3600000000000 := by have := HNB.out; omega
      obtain ⟨W5, hW5⟩ : ∃ W5, wr.alloc (.cells #[.int .i64 op, .int .i64 ia, .int .i64 ib, .int .i64 ic, .int .i64 id] 44) = W5 := ⟨_, rfl⟩
      have b5 : Below wr.heap.size wr W5 := by rw [← hW5]; exact lay_below
      have q5 : W5.heap[wr.heap.size]? = some (.cells #[.int .i64 op, .int .i64 ia, .int .i64 ib, .int .i64 ic, .int .i64 id] 44 (0, 0)) := by rw [← hW5]; exact box_new
      obtain ⟨x5, hx5⟩ : ∃ x, wr.heap.size = x := ⟨_, rfl⟩
      rw [hx5] at q5
      have e0 : W5.cell? ⟨x5, 0, none⟩ = some (.int .i64 op) := (cell_row _ _ 0 _ _ q5).trans rfl
      have e1 : W5.cell? ⟨x5, 1, none⟩ = some (.int .i64 ia) := (cell_row _ _ 1 _ _ q5).trans rfl
      have e2 : W5.cell? ⟨x5, 2, none⟩ = some (.int .i64 ib) := (cell_row _ _ 2 _ _ q5).trans rfl
      have e3 : W5.cell? ⟨x5, 3, none⟩ = some (.int .i64 ic) := (cell_row _ _ 3 _ _ q5).trans rfl
      have e4 : W5.cell? ⟨x5, 4, none⟩ = some (.int .i64 id) := (cell_row _ _ 4 _ _ q5).trans rfl
      have HTV : Hid (Tv W1 W5 x5 #[.int .i64 op, .int .i64 ia, .int .i64 ib, .int .i64 ic, .int .i64 id] (.slice ya4 l yc4) (.slice ya5 l yc5) l l ((tgL f i).map fun p => (p.1 : Int)) ((tgL f i).map fun p => p.2)) := Hid.mk' ⟨HT.out.1.trans (b5.mono HT.out.1.size), q5, own_below HT.out.2.1 b5, own_below HT.out.2.2.1 b5, HT.out.2.2.2⟩
      have HHA := Hid.mk' (has_any op ia ib ic id W5)
      have HLB : Hid (l ≤ 3600000000000) := Hid.mk' (by have := tgL_len f i; have := HNB.out; omega)
      have HLT := Hid.mk' hlt
      clear hil hia hg hc hii b5 q5 hlE hi hlt HT
      by_cases htk : tgK op < (letz op).length
      · rw [decide_eq_true htk] at HHA
        obtain ⟨tv, htv⟩ : ∃ tv, opx ⟨op, ia, ib, ic, id⟩ (tgK op) = tv := ⟨_, rfl⟩
        have HNX : Hid (tgL f (i + 1) = tgL f i ++ [(i, tv)]) := Hid.mk' (by
          rw [tgL_succ, HII.out]
          unfold tgO
          dsimp only
          rw [if_pos htk, htv])
        have HTA : Hid (∀ W, Calls Tryd.prog 18 #[.agg #[.int .i64 op, .int .i64 ia, .int .i64 ib, .int .i64 ic, .int .i64 id]] W fun e w' => e = .returned (.int .i64 tv) ∧ Below W.heap.size W w') := Hid.mk' (fun W => by
          have h := rtarget_any op ia ib ic id W
          unfold tgO at h
          dsimp only at h
          rw [if_pos htk, htv] at h
          exact h)
        clear htk htv
        go_wp2_with fail
        refine HHA.out.mono ?_
        rintro e w6 ⟨rfl, b6⟩
        have hT6 := HTV.out.below b6
        have E0 : w6.cell? ⟨x5, 0, none⟩ = some (.int .i64 op) := (cell_row _ _ 0 _ _ hT6.ix).trans rfl
        have E1 : w6.cell? ⟨x5, 1, none⟩ = some (.int .i64 ia) := (cell_row _ _ 1 _ _ hT6.ix).trans rfl
        have E2 : w6.cell? ⟨x5, 2, none⟩ = some (.int .i64 ib) := (cell_row _ _ 2 _ _ hT6.ix).trans rfl
        have E3 : w6.cell? ⟨x5, 3, none⟩ = some (.int .i64 ic) := (cell_row _ _ 3 _ _ hT6.ix).trans rfl
        have E4 : w6.cell? ⟨x5, 4, none⟩ = some (.int .i64 id) := (cell_row _ _ 4 _ _ hT6.ix).trans rfl
        have lx6 : x5 < w6.heap.size := (Array.getElem?_eq_some_iff.1 hT6.ix).1
        clear b6 e0 e1 e2 e3 e4 d0 d1 d2 d3 d4 hW5 hx5
        go_upto_region 6 with fail
        have HSZ6 : Hid (W1.heap.size ≤ w6.heap.size) := Hid.mk' hT6.bl.size
        clear i1 HTV
        go_region_law (first
          | (refine step_app rfl (.tmp 18) (.tmp 20) 36 rfl W1.heap.size 3 i0 (.int .i64 0) 1 8 Tryd.underlying36 hif hz0 hz1 hz2 rfl (by decide) _ _ _ rfl (own_below hT6.oa (((Below.refl w6.heap.size w6).drew).alloc (Nat.le_refl _) _)) _ 1 1 _ rfl (by rfl) (cells_new _ _ _) (by simp [Value.oneCell']) (by have := HLB.out; unfold maxLen; omega) (by have := HLB.out; omega) (Nat.le_trans HSZ6.out (((Below.refl w6.heap.size w6).drew).alloc (Nat.le_refl _) _).size) ?_; intro v7 w7 o7 g7 hl7; have T7 := Tv.app1 hT6 (((Below.refl w6.heap.size w6).drew).alloc (Nat.le_refl _) _) o7 g7 hl7; have F0 : w7.cell? ⟨x5, 0, none⟩ = some (.int .i64 op) := (cell_row _ _ 0 _ _ T7.ix).trans rfl; have F1 : w7.cell? ⟨x5, 1, none⟩ = some (.int .i64 ia) := (cell_row _ _ 1 _ _ T7.ix).trans rfl; have F2 : w7.cell? ⟨x5, 2, none⟩ = some (.int .i64 ib) := (cell_row _ _ 2 _ _ T7.ix).trans rfl; have F3 : w7.cell? ⟨x5, 3, none⟩ = some (.int .i64 ic) := (cell_row _ _ 3 _ _ T7.ix).trans rfl; have F4 : w7.cell? ⟨x5, 4, none⟩ = some (.int .i64 id) := (cell_row _ _ 4 _ _ T7.ix).trans rfl; obtain ⟨y7, c7, hv7, _⟩ := own_slice' o7; subst hv7)
          | (refine step_call1' rfl 18 (.tmp 23) 44 rfl (enters_of Tryd.func18 (by kernel_rfl) rfl) _ rfl (HTA.out _) ?_; rintro e w8 ⟨rfl, b8⟩; refine ⟨_, rfl, ?_⟩; have T8 := T7.below (by first | exact b8 | exact drewC b8))
          | (refine step_app rfl (.tmp 22) (.tmp 25) 36 rfl W1.heap.size 3 i0 (.int .i64 0) 1 8 Tryd.underlying36 hif hz0 hz1 hz2 rfl (by decide) _ _ _ rfl (own_below T8.ot ((Below.refl w8.heap.size w8).alloc (Nat.le_refl _) _)) _ 1 1 _ rfl (by rfl) (cells_new _ _ _) (by simp [Value.oneCell']) (by have := HLB.out; unfold maxLen; omega) (by have := HLB.out; omega) (Nat.le_trans T8.bl.size ((Below.refl w8.heap.size w8).alloc (Nat.le_refl _) _).size) ?_; intro v9 w9 o9 g9 hl9; have T9 := Tv.app2 T8 ((Below.refl w8.heap.size w8).alloc (Nat.le_refl _) _) o9 g9 hl9; obtain ⟨y9, c9, hv9, _⟩ := own_slice' o9; subst hv9))
        all_goals
          have HT9 := Hid.mk' T9
          clear T7 T8 T9 o7 g7 hl7 b8 o9 g9 hl9 F0 F1 F2 F3 F4 E0 E1 E2 E3 E4 hT6 lx6
          go_wp2
          exact ⟨⟨i + 1, by go_num, HLT.out, Hid.mk' (by
            rw [HNX.out, List.length_append, HLE.out, List.map_append, List.map_append]
            exact ⟨HT9.out.bl, HT9.out.oa, HT9.out.ot, HT9.out.ap⟩)⟩, meas_up' n i HLT.out⟩
      · rw [decide_eq_false htk] at HHA
        have HNX : Hid (tgL f (i + 1) = tgL f i) := Hid.mk' (by
          rw [tgL_succ, HII.out]
          unfold tgO
          dsimp only
          rw [if_neg htk, List.append_nil])
        clear htk
        go_wp2_with fail
        refine HHA.out.mono ?_
        rintro e w6 ⟨rfl, b6⟩
        have HT6 := Hid.mk' (HTV.out.below b6)
        clear b6 e0 e1 e2 e3 e4 d0 d1 d2 d3 d4
        go_wp2
        exact ⟨⟨i + 1, by go_num, HLT.out, Hid.mk' (by rw [HNX.out, HLE.out]; exact ⟨HT6.out.bl, HT6.out.oa, HT6.out.ot, HT6.out.ap⟩)⟩, meas_up' n i HLT.out⟩
    · have i1 : ¬ (i : Int) < (n : Int) := by omega
      obtain rfl : i = n := by omega
      clear hlt hi
      have HBS : Hid (w.heap.size ≤ W1.heap.size) := Hid.mk' HB1.out.size
      go_wp2
      go_ret2
      have fb : ∀ {v : Value} {k : Nat} {xs : List Value}, wr.ownsRow W1.heap.size 3 1 v k xs → wr.ownsRow b0 3 1 v k xs := fun h => ⟨h.1, h.2.imp id (fun ⟨g, cap, cur, a, b, c⟩ => ⟨g, cap, cur, a, by have := HBS.out; have := HS0.out; omega, c⟩)⟩
      exact ⟨_, rfl, _, _, rfl, by first | exact fb HT.out.2.1 | (rw [HLE.out]; exact fb HT.out.2.1), by first | exact fb HT.out.2.2.1 | (rw [HLE.out]; exact fb HT.out.2.2.1), by have h := HB1.out.trans (HT.out.1.mono HB1.out.size); first | exact h | (rw [← hb0]; exact h)⟩
end Go.Proofs.YtcagfjogfbddeaaDoor
