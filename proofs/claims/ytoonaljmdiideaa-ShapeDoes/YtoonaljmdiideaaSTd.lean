/- Package shape: Change. -/
import Derived.Test.YtoonaljmdiideaaSTc
namespace Go.Proofs.Ytoonaljmdiideaa
set_option linter.unusedVariables false
set_option linter.unusedSimpArgs false
open Go.RowKit Go.Maps Go.ChangeShapes
section
variable {C : List (Nat × Obj)} {B g mn mw lb : Nat} {vk vs vl : Value} {ks : List Kb} {ln : List Int} {fs : List (List Int)} {fv : List (Nat × Value)} {nw : Nat} {Dn Dw : DataW Unit} {w : World}
/-- The key's box and the class's box, behind the calls. -/
theorem chg_boxes (h : T1 C B g mn mw lb vk vs vl ks ln fs fv nw Dn Dw w) {W5 : World} {b0 cb : Nat} {o0 o1 : Obj} (hb : Below w.heap.size w W5) (h0 : w.heap.size ≤ b0) (h1 : w.heap.size ≤ cb) (q0 : W5.heap[b0]? = some o0) (q1 : W5.heap[cb]? = some o1) : T1 ((cb, o1) :: (b0, o0) :: C) B g mn mw lb vk vs vl ks ln fs fv nw Dn Dw W5 := (h.cons hb b0 _ h0 q0).join (h.cons hb cb _ h1 q1)
/-- What Change comes to. -/
def ChgG (C : List (Nat × Obj)) (B g mn mw lb : Nat) (vk vs vl : Value) (ks : List Kb) (ln : List Int) (fs : List (List Int)) (fv : List (Nat × Value)) (nw : Nat) (Dn Dw : DataW Unit) (ws : List ((Int × Int × Int) × Int)) (i k : Nat) (f : Int) (e : Ending) (w' : World) : Prop :=
  ((k : Int) ∉ ln.take (fs.getD i []).length ∧ e = .returned (.tuple #[.int .i64 0, .int .i64 3]) ∧ T1 C B g mn mw lb vk vs vl ks ln fs fv nw Dn Dw w') ∨
  (∃ j : Nat, ixI (ln.take (fs.getD i []).length) (k : Int) = (j : Int) ∧ j < (fs.getD i []).length ∧
    (((fs.getD i [])[j]? = some f ∧ e = .returned (.tuple #[.int .i64 (i : Nat), .int .i64 0]) ∧ T1 C B g mn mw lb vk vs vl ks ln fs fv nw Dn Dw w') ∨
     ((fs.getD i [])[j]? ≠ some f ∧
      ((∃ to', ((((i : Int), (k : Int), f) : Int × Int × Int), to') ∈ ws ∧ e = .returned (.tuple #[.int .i64 to', .int .i64 0]) ∧ T1 C B g mn mw lb vk vs vl ks ln fs fv nw Dn Dw w') ∨
       ((∀ p ∈ ws, p.1 ≠ ((i : Int), (k : Int), f)) ∧ 100000 ≤ fv.length ∧ e = .returned (.tuple #[.int .i64 0, .int .i64 2]) ∧ T1 C B g mn mw lb vk vs vl ks ln fs fv nw Dn Dw w') ∨
       ((∀ p ∈ ws, p.1 ≠ ((i : Int), (k : Int), f)) ∧ fv.length < 100000 ∧ e = .returned (.tuple #[.int .i64 (fv.length : Nat), .int .i64 0]) ∧ ∃ vs' Dw' v, T1 C B g mn mw lb vk vs' vl ks ln (fs ++ [(fs.getD i []).set j f]) (fv ++ [(lb, v)]) (nw + 1) Dn Dw' w' ∧ WayOk Dw' (ws ++ [(((i : Int), (k : Int), f), (fv.length : Int))]))))))
theorem ixI_lt {l : List Int} {k : Int} (h : k ∈ l) : ∃ j : Nat, ixI l k = (j : Int) ∧ j < l.length := by
  have hlt := (List.findIdx_lt_length (p := fun x => decide (x = k))).2 ⟨k, h, by simp⟩
  exact ⟨_, by unfold ixI; rw [if_pos hlt], hlt⟩
set_option maxHeartbeats 4000000 in
set_option maxRecDepth 100000 in
theorem chg_all {ks' : List Kb} (i k : Nat) (s0 : ByteArray) (z0 : Int) (s : ByteArray) (z : Int) (hbs : bareS s0 z0 = s) (hbz : bareZ z0 = z) (f : Int) (ws : List ((Int × Int × Int) × Int)) (w : World) (h : T1 C B g mn mw lb vk vs vl ks ln fs fv nw Dn Dw w) (hn : NumOk Dn ks) (hw : WayOk Dw ws) (hs0 : (s0.size : Int) ≤ 140737488351232) (hzf : (Lit.int .i64 z).wf = true) (hk : KsW ks (s, z) k ks') (hi : i < fv.length) (hlb : fv[i].1 = lb) (hfl : fs.length = fv.length) (hm : (fs.getD i []).length ≤ ln.length) (hm3 : (fs.getD i []).length < 1000) (hff : ∀ x ∈ fs.getD i [], 0 ≤ x ∧ x ≤ 15) (f0 : 0 ≤ f) (f1 : f ≤ 15) (hl : ln.length < 90000) (hl2 : fv.length ≤ 100000) (hl3 : ks.length < 100000) (hl4 : nw < 100000) (hkk : k < 100000) :
    Calls Try.prog 9 #[.pointer (some ⟨g, 0, none⟩), .int .i64 (i : Nat), .agg #[.string s0, .int .i64 z0], .int .i64 f] w fun e w' => ChgG C B g mn mw lb vk vs vl ks ln fs fv nw Dn Dw ws i k f e w' ∧ Below B w w' := by
  have hs : (s.size : Int) ≤ 140737488351232 := by rw [← hbs]; exact bareS_le s0 z0 hs0
  have hsm : Kwf (s, z) := ⟨by unfold maxLen; show s.size ≤ _; omega, hzf⟩
  obtain ⟨fa, fc, hfv, _⟩ := own_slice' (h.f i hi)
  obtain ⟨fl, hfle⟩ : ∃ fl, fs.getD i [] = fl := ⟨_, rfl⟩
  obtain ⟨m, hmm⟩ : ∃ m, fl.length = m := ⟨_, rfl⟩
  unfold ChgG
  rw [hfle] at hm hfv hm3 hff ⊢
  rw [hmm] at hm hfv hm3 ⊢
  have hx : Wwf ((i : Int), (k : Int), f) := by refine ⟨?_, ?_, ?_⟩ <;> simp [Lit.wf, IntKind.min, IntKind.max, IntKind.bits, IntKind.signed] <;> omega
  have HKM := Hid.mk' (way_mk _ hx)
  unfold wv at HKM
  dsimp only at HKM
  have HBW : Hid (B ≤ w.heap.size) := Hid.mk' (by have := h.ge.1; have := h.lts.1; omega)
  have HBA := Hid.mk' (fun W => shbare_any s0 z0 W hs0)
  rw [hbs, hbz] at HBA
  have HNU := Hid.mk' (fun (W : World) (hW : T1 C B g mn mw lb vk vs vl ks ln fs fv nw Dn Dw W) => number_any s z k W hW hn hsm hk (by omega))
  have HPL := Hid.mk' (fun (W : World) (C' : List (Nat × Obj)) (hW : T1 C' B g mn mw lb vk vs vl ks ln fs fv nw Dn Dw W) => place_at (k : Int) W hW m fc fa hm (by omega))
  obtain ⟨px, hpx⟩ : ∃ px, ixI (ln.take m) (k : Int) = px := ⟨_, rfl⟩
  rw [hpx] at HPL ⊢
  have HPX := Hid.mk' hpx
  clear hpx
  obtain ⟨W1, hW1⟩ : ∃ W1, w.alloc (.cells #[.string s0, .int .i64 z0] 31) = W1 := ⟨_, rfl⟩
  have b1 : Below w.heap.size w W1 := by rw [← hW1]; exact (Below.refl _ _).alloc (Nat.le_refl _) _
  have q1 : W1.heap[w.heap.size]? = some (.cells #[.string s0, .int .i64 z0] 31 (0, 0)) := by rw [← hW1]; exact World.alloc_heap_new _ _
  obtain ⟨b0, hb0⟩ : ∃ b0, w.heap.size = b0 := ⟨_, rfl⟩
  rw [hb0] at q1
  have HS0 := Hid.mk' hb0
  have h1 := h.below b1
  obtain ⟨c0, c1, c2, c3, c4, cf, l0, lf⟩ := h1.cells
  obtain ⟨gs, sc, hvs, hsc, d0, d1⟩ := h1.sat i hi
  have HHI := Hid.mk' hi
  obtain ⟨n, hnn⟩ : ∃ n, fv.length = n := ⟨_, rfl⟩
  rw [hvs, hnn] at c3
  rw [hlb] at d0
  rw [hfv] at d1
  rw [hnn] at hi hsc hl2
  have HRF := Hid.mk' (refusal_ok g (i : Int) f _ n sc W1 c0 c3 ⟨by omega, by omega⟩ f0 f1)
  have HT := Hid.mk' h
  have HB1 := Hid.mk' b1
  have HQ1 := Hid.mk' q1
  have HVS := Hid.mk' hvs
  have i1 : (i : Int) < (n : Int) := by omega
  obtain ⟨f2, f3, g0, g1⟩ := pair_facts q1
  have gl1 : g < W1.heap.size := h1.lts.1
  have gl2 : gs < W1.heap.size := World.block_lt_of_cell? _ _ d0
  have gl3 : b0 < W1.heap.size := (Array.getElem?_eq_some_iff.1 q1).1
  have HHW := Hid.mk' hw
  have HHX := Hid.mk' hx
  have HFF := Hid.mk' hfl
  have HNN := Hid.mk' hnn
  have HNW := Hid.mk' hl4
  have HMM := Hid.mk' hmm
  have HFL := Hid.mk' hfle
  have HM3 := Hid.mk' hm3
  have HFR := Hid.mk' hff
  have HFV := Hid.mk' hfv
  have HLN : Hid (m ≤ ln.length) := Hid.mk' hm
  have HF01 : Hid (0 ≤ f ∧ f ≤ 15) := Hid.mk' ⟨f0, f1⟩
  clear h h1 hn hw hs hs0 hzf hbs hbz hk hm hm3 hl hl3 hsm hl4 hkk hx hfl hff c0 c1 c2 c4 cf l0 lf b1 q1 hfv hmm hvs hnn hlb hfle hl2 f2 f3 hsc
  go_enter Try.func9, Try.ntmps9
  go_wp2_with fail
  refine HRF.out.mono ?_
  rintro e w2 ⟨rfl, rfl⟩
  have HKP : Hid (∀ W, Below w2.heap.size w2 W → W.cell? ⟨g, 3, none⟩ = some (.slice (some ⟨gs, 0, none⟩) n sc) ∧ W.cell? ⟨gs, i * 2, none⟩ = some (.pointer (some ⟨lb, 0, none⟩)) ∧ W.cell? ⟨gs, i * 2 + 1, none⟩ = some (.slice fa m fc) ∧ W.cell? ⟨b0, 0, none⟩ = some (.string s0) ∧ W.cell? ⟨b0, 1, none⟩ = some (.int .i64 z0)) := Hid.mk' (fun W hW => ⟨(hW.cell (p := ⟨g, 3, none⟩) gl1).trans c3, (hW.cell (p := ⟨gs, i * 2, none⟩) gl2).trans d0, (hW.cell (p := ⟨gs, i * 2 + 1, none⟩) gl2).trans d1, (hW.cell (p := ⟨b0, 0, none⟩) gl3).trans g0, (hW.cell (p := ⟨b0, 1, none⟩) gl3).trans g1⟩)
  have HTB : Hid (∀ W, Below w2.heap.size w2 W → T1 C B g mn mw lb vk vs vl ks ln fs fv nw Dn Dw W) := Hid.mk' (fun W hW => HT.out.below (HB1.out.trans (hW.mono HB1.out.size)))
  have HLY : Hid (∀ w3, Below (w2.alloc (.cells #[.pointer none, .slice none 0 0] 63)).heap.size (w2.alloc (.cells #[.pointer none, .slice none 0 0] 63)) w3 → Below w2.heap.size w2 w3) := Hid.mk' (fun w3 hb => ((Below.refl _ _).alloc (Nat.le_refl _) _).trans (hb.mono (by simp)))
  have HLZ : Hid (∀ w3, Below (w2.alloc (.cells #[.pointer none, .slice none 0 0] 63)).heap.size (w2.alloc (.cells #[.pointer none, .slice none 0 0] 63)) w3 → w3.heap[w2.heap.size]? = some (.cells #[.pointer none, .slice none 0 0] 63 (0, 0))) := Hid.mk' (fun w3 hb => (hb.block w2.heap.size (by simp)).trans (World.alloc_heap_new _ _))
  have HKB : Hid (∀ W, Below w2.heap.size w2 W → W.heap[b0]? = some (.cells #[.string s0, .int .i64 z0] 31 (0, 0))) := Hid.mk' (fun W hW => (hW.block b0 gl3).trans HQ1.out)
  have HFI : Hid (∀ (W5 : World) (cb : Nat), Below w2.heap.size w2 W5 → w2.heap.size ≤ cb → W5.heap[cb]? = some (.cells #[.pointer (some ⟨lb, 0, none⟩), .slice fa m fc] 63 (0, 0)) → T1 ((cb, (.cells #[.pointer (some ⟨lb, 0, none⟩), .slice fa m fc] 63 (0, 0))) :: (b0, (.cells #[.string s0, .int .i64 z0] 31 (0, 0))) :: C) B g mn mw lb vk vs vl ks ln fs fv nw Dn Dw W5 ∧ Below w.heap.size w W5) := Hid.mk' (fun W5 cb hb hcb hq => by
    have hB := HB1.out.trans (hb.mono HB1.out.size)
    exact ⟨chg_boxes HT.out hB (Nat.le_of_eq HS0.out) (Nat.le_trans HB1.out.size hcb) (HKB.out W5 hb) hq, hB⟩)
  have yg1 : ¬ g = w2.heap.size := Nat.ne_of_lt gl1
  have yg2 : ¬ gs = w2.heap.size := Nat.ne_of_lt gl2
  have yg3 : ¬ b0 = w2.heap.size := Nat.ne_of_lt gl3
  go_upto_region 4 with fail
  go_cut [11, 12] from 17 (fun v11 v12 wc => ∃ cb, v11 = .pointer (some ⟨cb, 0, none⟩) ∧ v12 = .int .i32 (k : Int) ∧ Hid (T1 ((cb, .cells #[.pointer (some ⟨lb, 0, none⟩), .slice fa m fc] 63 (0, 0)) :: (b0, .cells #[.string s0, .int .i64 z0] 31 (0, 0)) :: C) B g mn mw lb vk vs vl ks ln fs fv nw Dn Dw wc ∧ Below w.heap.size w wc))
  case first =>
    go_region_held3 (fun w' => w'.cell? ⟨g, 3, none⟩ = some (.slice (some ⟨gs, 0, none⟩) n sc) ∧ w'.cell? ⟨gs, i * 2, none⟩ = some (.pointer (some ⟨lb, 0, none⟩)) ∧ w'.cell? ⟨gs, i * 2 + 1, none⟩ = some (.slice fa m fc) ∧ w'.cell? ⟨b0, 0, none⟩ = some (.string s0) ∧ w'.cell? ⟨b0, 1, none⟩ = some (.int .i64 z0)) (first | exact HKP.out _ (by (repeat' (first | exact HB4.out | exact HB3.out | exact Below.refl _ _ | refine Below.drew ?_ | refine Below.alloc ?_ ?_ _ | refine Below.setCell ?_ ?_ _)) <;> first | exact HB4.out.size | exact HB3.out.size | exact Nat.le_refl _ | (simp; done) | (have := HB3.out.size; simp; omega)) | go_keep) (first
      | (go_at_call 25; refine (HBA.out _).mono ?_; rintro e w3 ⟨rfl, b3⟩; have HB3 : Hid (Below w2.heap.size w2 w3) := Hid.mk' (below_from_drew b3); clear b3)
      | (go_at_call 25; refine (HBA.out _).mono ?_; rintro e w3 ⟨rfl, b3⟩; have HB3 : Hid (Below w2.heap.size w2 w3) := Hid.mk' (HLY.out w3 (below_from_drew b3)); have HQZ := Hid.mk' (HLZ.out w3 (below_from_drew b3)); obtain ⟨y0, y1, y2, y3⟩ := pair_facts HQZ.out; clear b3)
      | (go_at_call 24; refine (HNU.out _ (HTB.out _ HB3.out)).mono ?_; rintro e w4 ⟨rfl, b4⟩; have HQ4 := Hid.mk' ((b4.block w2.heap.size (Array.getElem?_eq_some_iff.1 HQZ.out).1).trans HQZ.out); obtain ⟨x0, x1, x2, x3⟩ := pair_facts HQ4.out; have HB4 : Hid (Below w2.heap.size w2 w4) := Hid.mk' (HB3.out.trans (b4.mono HB3.out.size)); clear b4)
      | (go_at_call 24; refine (HNU.out _ (HTB.out _ HB3.out)).mono ?_; rintro e w4 ⟨rfl, b4⟩; have HB4 : Hid (Below w2.heap.size w2 w4) := Hid.mk' (HB3.out.trans (b4.mono HB3.out.size)); clear b4)
      | (go_at_call 24; refine (HNU.out _ (HTB.out _ (HB3.out.alloc HB3.out.size _))).mono ?_; rintro e w4 ⟨rfl, b4⟩; have HQ5 : Hid (w4.heap[w3.heap.size]? = some (.cells #[.pointer none, .slice none 0 0] 63 (0, 0))) := Hid.mk' ((b4.block w3.heap.size (by simp)).trans (World.alloc_heap_new _ _)); obtain ⟨x0, x1, x2, x3⟩ := pair_facts HQ5.out; have HB4 : Hid (Below w2.heap.size w2 w4) := Hid.mk' ((HB3.out.alloc HB3.out.size _).trans (b4.mono (HB3.out.alloc HB3.out.size _).size)); clear b4))
    all_goals
      go_wp2_with fail
      go_meet
      first
        | exact ⟨_, rfl, rfl, Hid.mk' (HFI.out _ _ (HB4.out.alloc HB4.out.size _) HB4.out.size (World.alloc_heap_new _ _))⟩
        | exact ⟨_, rfl, rfl, Hid.mk' (HFI.out _ _ ((HB4.out.setCell (p := ⟨w2.heap.size, 0, none⟩) (Nat.le_refl _) _).setCell (p := ⟨w2.heap.size, 1, none⟩) (Nat.le_refl _) _) (Nat.le_refl _) (by have k1 := set_blk2' (j := 0) (v := .pointer (some ⟨lb, 0, none⟩)) HQ4.out; have k2 := set_blk2' (j := 1) (v := .slice fa m fc) k1; simpa using k2))⟩
        | exact ⟨_, rfl, rfl, Hid.mk' (HFI.out _ _ ((HB4.out.setCell (p := ⟨w3.heap.size, 0, none⟩) HB3.out.size _).setCell (p := ⟨w3.heap.size, 1, none⟩) HB3.out.size _) HB3.out.size (by have k1 := set_blk2' (j := 0) (v := .pointer (some ⟨lb, 0, none⟩)) HQ5.out; have k2 := set_blk2' (j := 1) (v := .slice fa m fc) k1; simpa using k2))⟩
  case rest =>
    obtain ⟨cb, rfl, rfl, HT5⟩ := hcut
    have q5 := HT5.out.1.c (cb, _) (List.mem_cons_self ..)
    obtain ⟨_, _, k0, k1⟩ := pair_facts q5
    have HPL6 := Hid.mk' (HPL.out _ _ HT5.out.1)
    clear q5 c3 d0 d1 g0 g1 gl1 gl2 gl3 HRF HKP HTB HLY HLZ HKB HFI yg1 yg2 yg3 f0 f1
    go_wp2_with fail
    refine HPL6.out.mono ?_
    rintro e w7 ⟨rfl, b7⟩
    have hT7 := HT5.out.1.below b7
    have q7 := hT7.c (cb, _) (List.mem_cons_self ..)
    obtain ⟨_, _, k2, k3⟩ := pair_facts q7
    have HT7 := Hid.mk' hT7
    have HB7 : Hid (Below w.heap.size w w7) := Hid.mk' (HT5.out.2.trans (b7.mono HT5.out.2.size))
    by_cases hin : (k : Int) ∈ ln.take m
    case neg =>
      have hpx1 : px = -1 := by rw [← HPX.out]; exact ixI_no (fun y hy e => hin (e ▸ hy))
      subst hpx1
      have HIN := Hid.mk' hin
      clear hin b7 hT7 q7 k0 k1 k2 k3
      go_wp2
      go_ret2
      exact ⟨.inl ⟨HIN.out, rfl, HT7.out.sub (fun p hp => List.mem_cons_of_mem _ (List.mem_cons_of_mem _ hp))⟩, HB7.out.mono HBW.out⟩
    obtain ⟨j, hj, hjl⟩ := ixI_lt hin
    rw [HPX.out] at hj
    subst hj
    have hjm : j < m := by rw [List.length_take] at hjl; omega
    have hjf : j < fl.length := by rw [HMM.out]; exact hjm
    obtain ⟨x, hx⟩ : ∃ x, fl[j]? = some x := ⟨_, List.getElem?_eq_getElem hjf⟩
    obtain ⟨fb, fc', hfe, dfl⟩ := hT7.fat i j HHI.out x (by rw [HFL.out]; exact hx)
    rw [HFV.out, HFL.out, HMM.out] at hfe
    simp only [Value.slice.injEq, true_and] at hfe
    obtain ⟨rfl, rfl⟩ := hfe
    have hxr := HFR.out x (List.mem_of_getElem? hx)
    have hwx : IntKind.i64.wrap x = x := by rw [IntKind.wrap_i64]; omega
    have j1 : (j : Int) < (m : Int) := by omega
    have j2 : ¬ (j : Int) < 0 := by omega
    have HX := Hid.mk' hx
    have HJM := Hid.mk' hjm
    have HJN := Hid.mk' (rfl : (j : Int) = (j : Int))
    by_cases hxf : x = f
    case pos =>
      subst hxf
      clear b7 hT7 q7 k0 k1 k2 hin hjl hjm hjf hx hxr
      go_wp2
      go_ret2
      exact ⟨.inr ⟨j, rfl, HJM.out, .inl ⟨HX.out, rfl, HT7.out.sub (fun p hp => List.mem_cons_of_mem _ (List.mem_cons_of_mem _ hp))⟩⟩, HB7.out.mono HBW.out⟩
    have e4 : (x == f) = false := by simpa using hxf
    have HNF : Hid (fl[j]? ≠ some f) := Hid.mk' (by rw [hx]; simpa using hxf)
    have hT8 := hT7.lay (.cells #[.int .i64 (i : Int), .int .i32 (k : Int), .int .i64 f] 74)
    obtain ⟨W8, hW8⟩ : ∃ W8, w7.alloc (.cells #[.int .i64 (i : Int), .int .i32 (k : Int), .int .i64 f] 74) = W8 := ⟨_, rfl⟩
    rw [hW8] at hT8
    obtain ⟨b8, hb8⟩ : ∃ b8, w7.heap.size = b8 := ⟨_, rfl⟩
    rw [hb8] at hT8
    have B8 : Below w.heap.size w W8 := by rw [← hW8]; exact HB7.out.alloc HB7.out.size _
    have HT8 := Hid.mk' hT8
    have HB8 := Hid.mk' B8
    have q8 := hT8.c (b8, _) (List.mem_cons_self ..)
    have m0 : W8.cell? ⟨b8, 0, none⟩ = some (.int .i64 (i : Int)) := by simp [World.cell?, q8]
    have m1 : W8.cell? ⟨b8, 1, none⟩ = some (.int .i32 (k : Int)) := by simp [World.cell?, q8]
    have m2 : W8.cell? ⟨b8, 2, none⟩ = some (.int .i64 f) := by simp [World.cell?, q8]
    obtain ⟨c0, c1, c2, c3, c4, cf, l0, lf⟩ := hT8.cells
    have HH8 := Hid.mk' hW8
    clear b7 hT7 q7 hT8 B8 q8 k0 k1 k2 c0 c1 c2 c3 cf l0 lf hin hjl hjm hjf hx hxr hxf
    go_upto_region 11 with fail
    clear k3 dfl e4 hwx j1 j2
    by_cases hkn : ∃ to', ((((i : Int), (k : Int), f) : Int × Int × Int), to') ∈ ws
    · obtain ⟨to', hto⟩ := hkn
      obtain ⟨_, u1, u2⟩ := HHW.out.yes _ hto
      have hrun : ∀ j, (Instr.lookup 65 (.map (some mw)) (.agg #[.int .i64 (i : Int), .int .i32 (k : Int), .int .i64 f]) true).run Try.prog (W8.drewN j) = .ok (.tuple #[.int .i64 to', .bool true]) (W8.drewN j) := fun j => way_yes (show (W8.drewN j).ownsMap Try.prog 74 (plainElem Try.prog 3) mw nw Dw from HT8.out.m) HKM.out u1 u2
      have HTO := Hid.mk' hto
      clear hto u1 u2
      go_quiet (fail)
      clear hrun
      go_wp2
      go_ret2
      exact ⟨.inr ⟨j, rfl, HJM.out, .inr ⟨HNF.out, .inl ⟨to', HTO.out, rfl, (HT8.out.below (below_drewN (Below.refl _ _) _)).sub (fun p hp => List.mem_cons_of_mem _ (List.mem_cons_of_mem _ (List.mem_cons_of_mem _ hp)))⟩⟩⟩, below_drewN (HB8.out.mono HBW.out) _⟩
    · have hno : ∀ p ∈ ws, p.1 ≠ ((i : Int), (k : Int), f) := fun p hp e => hkn ⟨p.2, by rw [← e]; exact hp⟩
      have hrun : ∀ j, (Instr.lookup 65 (.map (some mw)) (.agg #[.int .i64 (i : Int), .int .i32 (k : Int), .int .i64 f]) true).run Try.prog (W8.drewN j) = .ok (.tuple #[.int .i64 0, .bool false]) (W8.drewN j) := fun j => way_no (show (W8.drewN j).ownsMap Try.prog 74 (plainElem Try.prog 3) mw nw Dw from HT8.out.m) HKM.out (HHW.out.no _ HHX.out hno)
      have HNO := Hid.mk' hno
      clear hno hkn
      go_quiet (fail)
      clear hrun m0 m1 m2 c4
      obtain ⟨W9, hW9⟩ : ∃ W9, W8.drewN nq = W9 := ⟨_, rfl⟩
      have hT9 := HT8.out.below (below_drewN (Below.refl _ _) nq)
      rw [hW9] at hT9
      have B9 : Below w.heap.size w W9 := by rw [← hW9]; exact below_drewN HB8.out _
      rw [hW9]
      have HT9 := Hid.mk' hT9
      have HB9 := Hid.mk' B9
      have c3' := hT9.cells.2.2.2.1
      rw [HVS.out, HNN.out] at c3'
      by_cases hfull : n < 100000
      case neg =>
        have HIF := Hid.mk' (isFull_yes g _ n sc W9 c3' hfull)
        have HFU : Hid (100000 ≤ n) := Hid.mk' (by omega)
        clear hT9 B9 c3' hW9 hfull
        go_wp2_with fail
        refine HIF.out.mono ?_
        rintro e w9 ⟨rfl, rfl⟩
        go_wp2
        go_ret2
        exact ⟨.inr ⟨j, rfl, HJM.out, .inr ⟨HNF.out, .inr (.inl ⟨HNO.out, by rw [HNN.out]; exact HFU.out, rfl, HT9.out.sub (fun p hp => List.mem_cons_of_mem _ (List.mem_cons_of_mem _ (List.mem_cons_of_mem _ hp)))⟩)⟩⟩, HB9.out.mono HBW.out⟩
      have HIF := Hid.mk' (isFull_no g _ n sc W9 c3' hfull)
      have HFU := Hid.mk' hfull
      have q9 := hT9.c (b8, _) (List.mem_cons_self ..)
      have o0 : W9.cell? ⟨b8, 0, none⟩ = some (.int .i64 (i : Int)) := by simp [World.cell?, q9]
      have o1 : W9.cell? ⟨b8, 1, none⟩ = some (.int .i32 (k : Int)) := by simp [World.cell?, q9]
      have o2 : W9.cell? ⟨b8, 2, none⟩ = some (.int .i64 f) := by simp [World.cell?, q9]
      obtain ⟨_, _, o3, o4⟩ := pair_facts (hT9.c (cb, _) (List.mem_cons_of_mem _ (List.mem_cons_self ..)))
      have HCH := Hid.mk' (fun (W : World) (C' : List (Nat × Obj)) (hW : T1 C' B g mn mw lb vk vs vl ks ln fs fv nw Dn Dw W) => changed_any i j f W hW HHI.out (by rw [HFL.out, HMM.out]; exact HJM.out) (by rw [HFL.out, HMM.out]; exact HM3.out) HF01.out.1 HF01.out.2)
      rw [HFV.out] at HCH
      have HTD := Hid.mk' hT9.drew
      clear hT9 B9 c3' hW9 hfull q9
      go_wp2_with fail
      refine HIF.out.mono ?_
      rintro e w9 ⟨rfl, rfl⟩
      go_upto_region 16 with fail
      go_region_with (first
        | (go_at_call 29; refine (HCH.out _ _ HTD.out).mono ?_; rintro e w11 ⟨v, rfl, hT11, ho11, b11⟩; have q11 := hT11.c (b8, _) (List.mem_cons_self ..); have p0 : w11.cell? ⟨b8, 0, none⟩ = some (.int .i64 (i : Int)) := (by simp [World.cell?, q11]); have p1 : w11.cell? ⟨b8, 1, none⟩ = some (.int .i32 (k : Int)) := (by simp [World.cell?, q11]); have p2 : w11.cell? ⟨b8, 2, none⟩ = some (.int .i64 f) := (by simp [World.cell?, q11]); clear q11; have HLD := Hid.mk' (lead_any _ lb v _ ws w11 hT11 HFF.out HHW.out HHX.out HNO.out (by rw [HNN.out]; exact HFU.out) HNW.out ho11); have HB11 : Hid (Below w.heap.size w w11) := Hid.mk' (HB9.out.drew.trans (b11.mono HB9.out.size)); unfold wv at HLD; dsimp only at HLD; clear hT11 ho11 b11)
        | (go_at_call 28; refine HLD.out.mono ?_; rintro e w12 ⟨rfl, vs', Dw', hT12, hW12, b12⟩; have HT12 := Hid.mk' hT12; have HW12 := Hid.mk' hW12; have HB12 : Hid (Below B w w12) := Hid.mk' ((HB11.out.mono HBW.out).trans b12); clear hT12 hW12 b12))
      all_goals
        go_wp2
        go_ret2
        exact ⟨.inr ⟨j, rfl, HJM.out, .inr ⟨HNF.out, .inr (.inr ⟨HNO.out, by rw [HNN.out]; exact HFU.out, rfl, vs', Dw', _, by have := HT12.out.sub (fun p hp => List.mem_cons_of_mem _ (List.mem_cons_of_mem _ (List.mem_cons_of_mem _ hp))); rw [HFL.out] at this; exact this, HW12.out⟩)⟩⟩, HB12.out⟩
end
end Go.Proofs.Ytoonaljmdiideaa
