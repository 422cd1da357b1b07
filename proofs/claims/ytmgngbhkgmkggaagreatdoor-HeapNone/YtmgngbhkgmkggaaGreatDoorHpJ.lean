/- Package heap: an object's fast mode: find, add. Package heap: an object's fast mode: add. -/
import Derived.Test.YtmgngbhkgmkggaaGreatDoorHpH
namespace Go.Proofs.YtmgngbhkgmkggaaGreatDoor
set_option linter.unusedVariables false
set_option linter.unusedSimpArgs false
open Go.RowKit Go.Maps Go.ChangeShapes

theorem own_same {w w' : World} {B : Nat} {e : TypeId} {sz : Nat} {v : Value} {n : Nat} {xs : List Value} (h : w.ownsRow B e sz v n xs) (hk : ∀ k o, v.ownBlock = some k → w.heap[k]? = some o → w'.heap[k]? = some o) : w'.ownsRow B e sz v n xs := by
  refine ⟨h.1, ?_⟩
  rcases h.2 with hn' | ⟨g, cap, cur, rfl, hB, hg, rest⟩
  · exact .inl hn'
  · exact .inr ⟨g, cap, cur, rfl, hB, hk g _ rfl hg, rest⟩
section
variable {B g : Nat} {ks ks' : List ByteArray} {ln ln' : List Int} {fs fs' : List (List Int)} {ws ws' : List ((Int × Int × Int) × Int)} {w w' : World}
set_option maxHeartbeats 1000000 in
set_option maxRecDepth 100000 in
theorem ffind (fb g : Nat) (i : Int) (vsl : Value) (s : ByteArray) (r0 r1 r2 : Value) (w : World) (hq : w.heap[fb]? = some (Fobj g i vsl)) (hF : ∀ W, Below w.heap.size w W → Calls Tryz.prog 177 #[.pointer (some ⟨g, 0, none⟩), .int .i64 i, .agg #[.string s, .int .i64 0]] W fun e w' => e = .returned (.tuple #[r0, r1, r2]) ∧ Below W.heap.size W w') :
    Calls Tryz.prog 155 #[.pointer (some ⟨fb, 0, none⟩), .pointer none, .agg #[.string s, .int .i64 0]] w fun e w' => e = .returned (.tuple #[r0, r1, r2]) ∧ Below w.heap.size w w' := by
  obtain ⟨W1, hW1⟩ : ∃ W1, w.alloc (.cells #[.string s, .int .i64 0] 31) = W1 := ⟨_, rfl⟩
  have b1 : Below w.heap.size w W1 := by rw [← hW1]; exact (Below.refl _ _).alloc (Nat.le_refl _) _
  have q1 : W1.heap[w.heap.size]? = some (.cells #[.string s, .int .i64 0] 31 (0, 0)) := by rw [← hW1]; exact World.alloc_heap_new _ _
  obtain ⟨_, _, k0, k1⟩ := pair_facts q1
  obtain ⟨c0, c1, c2, cf⟩ := Fobj.cells ((b1.block fb (Array.getElem?_eq_some_iff.1 hq).1).trans hq)
  have HC : Hid (∀ W, Below W1.heap.size W1 W → Calls Tryz.prog 162 #[.pointer (some ⟨g, 0, none⟩), .pointer none, .int .i64 i, .agg #[.string s, .int .i64 0]] W fun e w' => e = .returned (.tuple #[r0, r1, r2]) ∧ Below W.heap.size W w') := Hid.mk' (fun W hW => cached_none i s 0 #[r0, r1, r2] W rfl (fun W' hW' => hF W' ((b1.trans (hW.mono b1.size)).trans (hW'.mono (b1.trans (hW.mono b1.size)).size))))
  have HB1 := Hid.mk' b1
  have HH1 := Hid.mk' hW1
  obtain ⟨b0, hb0⟩ : ∃ b0, w.heap.size = b0 := ⟨_, rfl⟩
  rw [hb0] at k0 k1 q1
  have HCE : Hid (∀ W, Below W1.heap.size W1 W → W.cell? ⟨fb, 0, none⟩ = some (.pointer (some ⟨g, 0, none⟩)) ∧ W.cell? ⟨fb, 1, none⟩ = some (.int .i64 i) ∧ W.cell? ⟨b0, 0, none⟩ = some (.string s) ∧ W.cell? ⟨b0, 1, none⟩ = some (.int .i64 0)) := Hid.mk' (fun W hW => ⟨(hW.cell (p := ⟨fb, 0, none⟩) (World.block_lt_of_cell? W1 _ c0)).trans c0, (hW.cell (p := ⟨fb, 1, none⟩) (World.block_lt_of_cell? W1 _ c1)).trans c1, (hW.cell (p := ⟨b0, 0, none⟩) (World.block_lt_of_cell? W1 _ k0)).trans k0, (hW.cell (p := ⟨b0, 1, none⟩) (World.block_lt_of_cell? W1 _ k1)).trans k1⟩)
  clear hF hq q1 b1 hW1 c2 cf
  go_enter Tryz.func155, Tryz.ntmps155
  go_upto_region 1 with fail
  rw [HH1.out]
  go_region_held3 (fun w' => w'.cell? ⟨fb, 0, none⟩ = some (.pointer (some ⟨g, 0, none⟩)) ∧ w'.cell? ⟨fb, 1, none⟩ = some (.int .i64 i) ∧ w'.cell? ⟨b0, 0, none⟩ = some (.string s) ∧ w'.cell? ⟨b0, 1, none⟩ = some (.int .i64 0)) (go_keep) (first | (go_at_call 162; refine (HC.out _ ((Below.refl _ _).drew)).mono ?_; rintro e w2 ⟨rfl, b2⟩; have HB2 := Hid.mk' (HB1.out.trans ((below_from_drew b2).mono HB1.out.size)); obtain ⟨s0, s1, s2, s3⟩ := HCE.out w2 (below_from_drew b2); clear b2))
  all_goals
    clear c0 c1 k0 k1
    go_wp2
    go_ret3
    exact ⟨rfl, HB2.out⟩
end
end Go.Proofs.YtmgngbhkgmkggaaGreatDoor

namespace Go.Proofs.YtmgngbhkgmkggaaGreatDoor
set_option linter.unusedVariables false
set_option linter.unusedSimpArgs false
open Go.RowKit Go.Maps Go.ChangeShapes

theorem setF1 {w : World} {fb g : Nat} {i j : Int} {v : Value} (h : w.heap[fb]? = some (Fobj g i v)) : (w.setCell ⟨fb, 1, none⟩ (.int .i64 j)).heap[fb]? = some (Fobj g j v) := by
  unfold Fobj at h ⊢
  have := set_blk2' (j := 1) (v := .int .i64 j) h
  simpa using this
theorem setF2 {w : World} {fb g : Nat} {i : Int} {v u : Value} (h : w.heap[fb]? = some (Fobj g i v)) : (w.setCell ⟨fb, 2, none⟩ u).heap[fb]? = some (Fobj g i u) := by
  unfold Fobj at h ⊢
  have := set_blk2' (j := 2) (v := u) h
  simpa using this
theorem slot_cells {w : World} {b : Nat} (h : w.heap[b]? = some (.cells zslot.toArray 122 (0, 0))) : w.cell? ⟨b, 0, none⟩ = some (.int .i64 0) ∧ w.cell? ⟨b, 1, none⟩ = some (.float .f64 0) ∧ w.cell? ⟨b, 2, none⟩ = some (.string ⟨#[]⟩) ∧ w.cell? ⟨b, 3, none⟩ = some (.int .i64 0) ∧ w.cell? ⟨b, 4, none⟩ = some (.pointer none) := by
  unfold zslot zv at h
  refine ⟨?_, ?_, ?_, ?_, ?_⟩ <;> simp [World.cell?, h]
section
variable {B g : Nat} {ks ks' : List ByteArray} {ln ln' : List Int} {fs fs' : List (List Int)} {ws ws' : List ((Int × Int × Int) × Int)} {w w' : World}
theorem fadd_end {C C0 : List (Nat × Obj)} {fb n c5 : Nat} {i dst : Int} {vsl : Value} {xs : List Value} {a5 : Option Addr} {w3 W4 X w5 : World} (h3 : TT B g ks' ln' fs' ws' C w3) (hf : (fb, Fobj g i vsl) ∈ C) (hB : B ≤ fb) (hR : ∀ k, vsl.ownBlock = some k → ∃ c, (k, .cells c 122 (0, 0)) ∈ C) (hC0 : ∀ p ∈ C0, p ∈ C ∧ p.1 ≠ fb ∧ some p.1 ≠ vsl.ownBlock) (hown : w3.ownsRow B 122 5 vsl n xs)
    (e4 : W4 = w3.setCell ⟨fb, 1, none⟩ (.int .i64 dst)) (hX : Below W4.heap.size W4 X) (g5 : X.grownBy w5 vsl.ownBlock) (o5 : w5.ownsRow B 122 5 (.slice a5 (n + 1) c5) (n + 1) (xs ++ zslot)) (hl5 : (Value.slice a5 (n + 1) c5).ownBlock = vsl.ownBlock ∨ (Value.slice a5 (n + 1) c5).ownBlock = some X.heap.size) :
    (∃ sb c cur, TT B g ks' ln' fs' ws' ((fb, Fobj g dst (.slice (some ⟨sb, 0, none⟩) (n + 1) c)) :: (sb, .cells cur 122 (0, 0)) :: C0) (w5.setCell ⟨fb, 2, none⟩ (.slice a5 (n + 1) c5)) ∧ (w5.setCell ⟨fb, 2, none⟩ (.slice a5 (n + 1) c5)).ownsRow B 122 5 (.slice (some ⟨sb, 0, none⟩) (n + 1) c) (n + 1) (xs ++ zslot) ∧ B ≤ sb) ∧ Below B w3 (w5.setCell ⟨fb, 2, none⟩ (.slice a5 (n + 1) c5)) := by
  obtain ⟨sb, sc, cur, hv, hsb, qs, ht, hown5, _⟩ := row_block o5 (by omega)
  rw [hv] at o5 hown5 hl5 ⊢
  have qf := h3.c _ hf
  have q4 : W4.heap[fb]? = some (Fobj g dst vsl) := by rw [e4]; exact setF1 qf
  have s4 : Sv [fb] w3 W4 := by rw [e4]; exact Sv.set w3 fb 1 _
  have hBW : B ≤ w3.heap.size := by have := h3.ge; omega
  have z4 := s4.size; have zX := hX.size
  have qX := (hX.block fb (Array.getElem?_eq_some_iff.1 q4).1).trans q4
  have hfo : some fb ≠ vsl.ownBlock := fun e => by
    obtain ⟨c, hc⟩ := hR fb e.symm
    have := h3.c _ hc
    rw [qf] at this
    unfold Fobj at this
    cases this
  have q5 := (g5.block fb (Array.getElem?_eq_some_iff.1 qX).1 hfo).trans qX
  have n1 : sb ≠ fb := fun e => by subst e; rw [qs] at q5; unfold Fobj at q5; cases q5
  have s6 := Sv.set w5 fb 2 (.slice (some ⟨sb, 0, none⟩) (n + 1) sc)
  have hsX : vsl.ownBlock = some sb ∨ sb = X.heap.size := by
    rcases hl5 with e | e
    · exact .inl (by rw [← e, hown5])
    · rw [hown5] at e; exact .inr (by cases e; rfl)
  have s5 := Sv.grown g5
  have sAll : Sv (fb :: vsl.ownBlock.toList) w3 (w5.setCell ⟨fb, 2, none⟩ (.slice (some ⟨sb, 0, none⟩) (n + 1) sc)) :=
    (((s4.mono (by simp)).trans' (Sv.of_below hX)).trans' (s5.mono (fun b hb => List.mem_cons_of_mem _ hb))).trans' (s6.mono (by simp))
  refine ⟨⟨sb, sc, cur, h3.turn sAll (fun b hb => ?_) (fun p hp => ?_), ?_, hsb⟩, ?_⟩
  · rcases List.mem_cons.1 hb with rfl | hb
    · exact ⟨_, hf, fun c fz e => by unfold Fobj at e; cases e⟩
    · obtain ⟨c, hc⟩ := hR b (by cases hq : vsl.ownBlock with | none => rw [hq] at hb; simp at hb | some x => rw [hq] at hb; simp at hb; rw [hb])
      exact ⟨_, hc, fun c fz e => by cases e⟩
  · rcases List.mem_cons.1 hp with rfl | hp
    · exact ⟨setF2 q5, .inl ⟨_, hf⟩⟩
    · rcases List.mem_cons.1 hp with rfl | hp
      · refine ⟨s6.all _ _ (by simpa using n1) qs, ?_⟩
        rcases hsX with e | e
        · obtain ⟨c, hc⟩ := hR _ e
          exact .inl ⟨_, hc⟩
        · exact .inr (by show w3.heap.size ≤ sb; omega)
      · obtain ⟨m1, m2, m3⟩ := hC0 p hp
        refine ⟨sAll.all _ _ (fun q => ?_) (h3.c p m1), .inl ⟨_, m1⟩⟩
        rcases List.mem_cons.1 q with q | q
        · exact m2 q
        · exact m3 (by cases hq : vsl.ownBlock with | none => rw [hq] at q; simp at q | some x => rw [hq] at q; simp at q; rw [q])
  · exact s6.own o5 (fun k hk => by rw [List.mem_singleton.1 hk]; simp only [Value.ownBlock]; exact fun e => n1 (by cases e; rfl))
  · refine Below.setCell ?_ (p := ⟨fb, 2, none⟩) hB _
    have b4 : Below B w3 W4 := by rw [e4]; exact (Below.refl _ _).setCell (p := ⟨fb, 1, none⟩) hB _
    exact b4.trans ((hX.mono (by omega)).trans ((Below.refl _ _).grown g5 (by omega) (fun k hk => (hown.lt k hk).1)))
set_option maxHeartbeats 4000000 in
set_option maxRecDepth 100000 in
theorem fadd {C C0 : List (Nat × Obj)} (fb n : Nat) (i dst : Int) (s : ByteArray) (f : Int) (vsl : Value) (xs : List Value) (w : World) (h : TT B g ks ln fs ws C w) (hf : (fb, Fobj g i vsl) ∈ C) (hB : B ≤ fb) (hown : w.ownsRow B 122 5 vsl n xs) (hR : ∀ k, vsl.ownBlock = some k → ∃ c, (k, .cells c 122 (0, 0)) ∈ C) (hC0 : ∀ p ∈ C0, p ∈ C ∧ p.1 ≠ fb ∧ some p.1 ≠ vsl.ownBlock) (hn : n < 100000)
    (hA : ∀ W C', TT B g ks ln fs ws C' W → Calls Tryz.prog 159 #[.pointer (some ⟨g, 0, none⟩), .int .i64 i, .agg #[.string s, .int .i64 0], .int .i64 f] W fun e w' => e = .returned (.tuple #[.int .i64 dst, .int .i64 0]) ∧ TT B g ks' ln' fs' ws' C' w' ∧ Below B W w') :
    Calls Tryz.prog 152 #[.pointer (some ⟨fb, 0, none⟩), .agg #[.string s, .int .i64 0], .int .i64 f, .agg zslot.toArray] w fun e w' => e = .returned (.iface 116 (.pointer (some ⟨fb, 0, none⟩))) ∧ (∃ sb c cur, TT B g ks' ln' fs' ws' ((fb, Fobj g dst (.slice (some ⟨sb, 0, none⟩) (n + 1) c)) :: (sb, .cells cur 122 (0, 0)) :: C0) w' ∧ w'.ownsRow B 122 5 (.slice (some ⟨sb, 0, none⟩) (n + 1) c) (n + 1) (xs ++ zslot) ∧ B ≤ sb) ∧ Below B w w' := by
  obtain ⟨i0, hif, hz0, hz1, hz2⟩ := sh_parts hp_infoS
  obtain ⟨W1, hW1⟩ : ∃ W1, (w.alloc (.cells #[.string s, .int .i64 0] 31)).alloc (.cells zslot.toArray 122) = W1 := ⟨_, rfl⟩
  have b1 : Below w.heap.size w W1 := by rw [← hW1]; exact ((Below.refl _ _).alloc (Nat.le_refl _) _).alloc (by simp) _
  have q1 : W1.heap[w.heap.size]? = some (.cells #[.string s, .int .i64 0] 31 (0, 0)) := by rw [← hW1]; exact sh_old (by simp) (sh_new rfl)
  have q2 : W1.heap[w.heap.size + 1]? = some (.cells zslot.toArray 122 (0, 0)) := by rw [← hW1]; exact sh_new (by simp)
  have hBW : B ≤ w.heap.size := by have := h.ge; omega
  obtain ⟨b0, hb0⟩ : ∃ b0, w.heap.size = b0 := ⟨_, rfl⟩
  rw [hb0] at q1 q2
  have hT1 : TT B g ks ln fs ws ((b0, .cells #[.string s, .int .i64 0] 31 (0, 0)) :: (b0 + 1, .cells zslot.toArray 122 (0, 0)) :: C) W1 := h.turn (Sv.below b1) (fun b hb => by cases hb) (fun p hp => by
    rcases List.mem_cons.1 hp with rfl | hp
    · exact ⟨q1, .inr (by show w.heap.size ≤ b0; omega)⟩
    rcases List.mem_cons.1 hp with rfl | hp
    · exact ⟨q2, .inr (by show w.heap.size ≤ b0 + 1; omega)⟩
    · exact ⟨(Sv.below b1).all _ _ (by simp) (h.c p hp), .inl ⟨_, hp⟩⟩)
  have HCE : Hid (∀ W, Below W1.heap.size W1 W → W.cell? ⟨fb, 0, none⟩ = some (.pointer (some ⟨g, 0, none⟩)) ∧ W.cell? ⟨fb, 1, none⟩ = some (.int .i64 i) ∧ W.cell? ⟨b0, 0, none⟩ = some (.string s) ∧ W.cell? ⟨b0, 1, none⟩ = some (.int .i64 0)) := Hid.mk' (fun W hW => by
    have hw := hT1.below hW
    obtain ⟨x0, x1, _⟩ := Fobj.cells (hw.c _ (List.mem_cons_of_mem _ (List.mem_cons_of_mem _ hf)))
    obtain ⟨_, _, y0, y1⟩ := pair_facts ((hW.block b0 (Array.getElem?_eq_some_iff.1 q1).1).trans q1)
    exact ⟨x0, x1, y0, y1⟩)
  have HA := Hid.mk' (fun W (hW : Below W1.heap.size W1 W) => hA W _ (hT1.below hW))
  have HB1 := Hid.mk' (b1.mono hBW)
  have HH1 := Hid.mk' hW1
  have HF := Hid.mk' hf
  have HBB := Hid.mk' hB
  have HRR := Hid.mk' hR
  have HCC := Hid.mk' hC0
  have HOW : Hid (∀ w3, TT B g ks' ln' fs' ws' ((b0, .cells #[.string s, .int .i64 0] 31 (0, 0)) :: (b0 + 1, .cells zslot.toArray 122 (0, 0)) :: C) w3 → w3.ownsRow B 122 5 vsl n xs) := Hid.mk' (fun w3 h3 => own_same hown (fun k o hk ho => by
    obtain ⟨c, hc⟩ := hR k hk
    have e1 := h.c _ hc
    rw [e1] at ho
    cases ho
    exact h3.c _ (List.mem_cons_of_mem _ (List.mem_cons_of_mem _ hc))))
  obtain ⟨va, vc, hvv, _⟩ := own_slice' hown
  subst hvv
  obtain ⟨k0, k1, k2, k3⟩ := HCE.out W1 (Below.refl _ _)
  clear h hf hB hown hR hC0 hA b1 q1 q2 hT1 hW1
  have hst := st_float
  go_enter Tryz.func152, Tryz.ntmps152
  go_upto_region 1 with fail
  rw [HH1.out]
  go_cut [9, 10] from 11 (fun v9 v10 wc => v9 = .int .i64 dst ∧ v10 = .int .i64 0 ∧ Hid (TT B g ks' ln' fs' ws' ((b0, .cells #[.string s, .int .i64 0] 31 (0, 0)) :: (b0 + 1, .cells zslot.toArray 122 (0, 0)) :: C) wc ∧ Below B W1 wc))
  case first =>
    go_region_held3 (fun w' => w'.cell? ⟨fb, 0, none⟩ = some (.pointer (some ⟨g, 0, none⟩)) ∧ w'.cell? ⟨fb, 1, none⟩ = some (.int .i64 i) ∧ w'.cell? ⟨b0, 0, none⟩ = some (.string s) ∧ w'.cell? ⟨b0, 1, none⟩ = some (.int .i64 0)) (go_keep) (first | (go_at_call 159; refine (HA.out _ ((Below.refl _ _).drew)).mono ?_; rintro e w2 ⟨rfl, hT2, b2⟩; obtain ⟨s0, s1, _⟩ := Fobj.cells (hT2.c _ (List.mem_cons_of_mem _ (List.mem_cons_of_mem _ HF.out))); obtain ⟨_, _, s2, s3⟩ := pair_facts (hT2.c _ (List.mem_cons_self ..)); have HT2 := Hid.mk' hT2; have HB2 := Hid.mk' b2; clear hT2 b2))
    all_goals
      go_wp2_with fail
      go_meet
      exact ⟨rfl, rfl, Hid.mk' ⟨HT2.out, ((Below.refl _ _).drew).trans HB2.out⟩⟩
  case rest =>
    obtain ⟨rfl, rfl, HWC⟩ := hcut
    clear k0 k1 k2 k3
    have hT := HWC.out.1
    have qf := hT.c _ (List.mem_cons_of_mem _ (List.mem_cons_of_mem _ HF.out))
    have qs := hT.c _ (List.mem_cons_of_mem _ (List.mem_cons_self ..))
    obtain ⟨x0, x1, x2, xf⟩ := Fobj.cells qf
    have f1 := xf 1
    have hown := HOW.out wc hT
    have hfo : some fb ≠ (Value.slice va n vc).ownBlock := fun e => by
      obtain ⟨c, hc⟩ := HRR.out fb e.symm
      have := hT.c _ (List.mem_cons_of_mem _ (List.mem_cons_of_mem _ hc))
      rw [qf] at this
      unfold Fobj at this
      cases this
    have hfs : b0 + 1 ≠ fb := fun e => by
      rw [e, qf] at qs
      unfold Fobj at qs
      cases qs
    obtain ⟨W4, hW4⟩ : ∃ W4, wc.setCell ⟨fb, 1, none⟩ (.int .i64 dst) = W4 := ⟨_, rfl⟩
    have q4 : W4.heap[fb]? = some (Fobj g dst (.slice va n vc)) := by rw [← hW4]; exact setF1 qf
    have s4 : Sv [fb] wc W4 := by rw [← hW4]; exact Sv.set wc fb 1 _
    have p4 := s4.all _ _ (by simpa using hfs) qs
    have o4 : W4.ownsRow B 122 5 (.slice va n vc) n xs := s4.own hown (fun k hk => by rw [List.mem_singleton.1 hk]; exact hfo)
    obtain ⟨_, _, y2, yf⟩ := Fobj.cells q4
    obtain ⟨t0, t1, t2, t3, t4⟩ := slot_cells p4
    have y3 := al_cell (.cells zslot.toArray 122) y2
    have HR : Hid (∀ X w5, Below W4.heap.size W4 X → X.grownBy w5 (Value.slice va n vc).ownBlock → w5.cell? ⟨fb, 2, none⟩ = some (.slice va n vc) ∧ w5.frozen? ⟨fb, 2, none⟩ = false) := Hid.mk' (fun X w5 hX hg => by
      have e1 := (hX.block fb (Array.getElem?_eq_some_iff.1 q4).1).trans q4
      have e2 := (hg.block fb (Array.getElem?_eq_some_iff.1 e1).1 hfo).trans e1
      exact ⟨(Fobj.cells e2).2.2.1, (Fobj.cells e2).2.2.2 2⟩)
    have HT := Hid.mk' hT
    have HO := Hid.mk' hown
    have HO4 := Hid.mk' o4
    have HH4 := Hid.mk' hW4
    have HL4 : Hid (B ≤ W4.heap.size) := Hid.mk' (by have := hT.ge; have := s4.size; omega)
    clear hT qf qs x0 x2 xf hown hfo hfs q4 s4 p4 o4 yf hW4
    unfold zslot zv at y3
    simp only [List.cons_append, List.nil_append] at y3
    go_upto_region 5 with fail
    rw [HH4.out]
    clear x1 f1
    go_region_law (refine sh_append rfl (.tmp 41) (.tmp 43) 117 rfl B 122 i0 (.agg #[.int .i64 0, .float .f64 0, .string ⟨#[]⟩, .int .i64 0, .pointer none]) 5 48 Tryz.underlying117 hif hz0 hz1 hz2 rfl (by decide) (.slice va n vc) n xs rfl (World.ownsRow.alloc (show W4.drew.ownsRow _ _ _ _ _ _ from HO4.out) _) _ 1 1 _ rfl (by rfl) (cells_new _ _ _) (by simp [Value.oneCell']) (by unfold maxLen; omega) (by omega) (by have := HL4.out; simp <;> omega) ?_; intro v5 w5 o5 g5 hl5; obtain ⟨a5, c5, hv5, _⟩ := own_slice' o5; subst hv5; have HX : Hid (Below W4.heap.size W4 (W4.alloc (.cells zslot.toArray 122)).drew) := Hid.mk' (((Below.refl _ _).alloc (Nat.le_refl _) _).drew); obtain ⟨e5, z5⟩ := HR.out _ _ HX.out g5; have HG5 := Hid.mk' g5; have HO5 := Hid.mk' o5; have HL5 := Hid.mk' hl5; clear g5 o5 hl5)
    all_goals
      go_wp2
      go_ret
      obtain ⟨⟨sb, c, cur, m1, m2, m3⟩, m4⟩ := fadd_end (C0 := C0) HT.out (List.mem_cons_of_mem _ (List.mem_cons_of_mem _ HF.out)) HBB.out (fun k hk => by obtain ⟨c, hc⟩ := HRR.out k hk; exact ⟨c, List.mem_cons_of_mem _ (List.mem_cons_of_mem _ hc)⟩) (fun p hp => ⟨List.mem_cons_of_mem _ (List.mem_cons_of_mem _ (HCC.out p hp).1), (HCC.out p hp).2⟩) HO.out HH4.out.symm HX.out HG5.out HO5.out HL5.out
      exact ⟨rfl, ⟨sb, c, ⟨cur, m1⟩, m2, m3⟩, (HB1.out.trans HWC.out.2).trans m4⟩
end
end Go.Proofs.YtmgngbhkgmkggaaGreatDoor
