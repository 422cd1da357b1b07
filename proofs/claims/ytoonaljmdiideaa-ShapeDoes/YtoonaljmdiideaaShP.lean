/- Package shape: Find a key that is there. -/
import Derived.Test.YtoonaljmdiideaaShO
namespace Go.Proofs.Ytoonaljmdiideaa
set_option linter.unusedVariables false
set_option linter.unusedSimpArgs false
open Go.RowKit Go.Maps Go.ChangeShapes
section
variable {C : List (Nat × Obj)} {B g mn mw lb : Nat} {vk vs vl : Value} {ks : List Kb} {ln : List Int} {fs : List (List Int)} {fv : List (Nat × Value)} {nw : Nat} {Dn Dw : DataW Unit} {w : World}
theorem T1.fat (h : T1 C B g mn mw lb vk vs vl ks ln fs fv nw Dn Dw w) (i j : Nat) (hi : i < fv.length) (f : Int) (hj : (fs.getD i [])[j]? = some f) : ∃ fb fc, fv[i].2 = .slice (some ⟨fb, 0, none⟩) (fs.getD i []).length fc ∧ w.cell? ⟨fb, j, none⟩ = some (.int .u8 f) := by
  have ho := h.f i hi
  obtain ⟨a, c, hv, _⟩ := own_slice' ho
  rw [hv] at ho ⊢
  obtain ⟨fb, rfl⟩ := own_some ho (by have := (List.getElem?_eq_some_iff.1 hj).1; omega)
  have c1 := ho.cells (g := fb) rfl j (.int .u8 f) (by unfold bC; rw [List.getElem?_map, hj]; rfl)
  rw [Addr.add_lit] at c1
  exact ⟨fb, c, rfl, by simpa using c1⟩
set_option maxHeartbeats 4000000 in
set_option maxRecDepth 100000 in
theorem find_yes (i j kk : Nat) (s0 : ByteArray) (z0 : Int) (s : ByteArray) (z : Int) (hbs : bareS s0 z0 = s) (hbz : bareZ z0 = z) (f : Int) (w : World) (h : T1 C B g mn mw lb vk vs vl ks ln fs fv nw Dn Dw w) (hn : NumOk Dn ks) (hs0 : (s0.size : Int) ≤ 140737488351232) (hzf : (Lit.int .i64 z).wf = true) (hk : ks[kk]? = some (s, z)) (hi : i < fv.length) (hlb : fv[i].1 = lb) (hm : (fs.getD i []).length ≤ ln.length) (hj : ixI (ln.take (fs.getD i []).length) (kk : Int) = (j : Int)) (hf : (fs.getD i [])[j]? = some f) (f0 : 0 ≤ f) (f1 : f ≤ 15) (hl : ln.length < 90000) :
    Calls Try.prog 22 #[.pointer (some ⟨g, 0, none⟩), .int .i64 (i : Nat), .agg #[.string s0, .int .i64 z0]] w fun e w' => e = .returned (.tuple #[.int .i64 (j : Int), .int .i64 f, .bool true]) ∧ Below w.heap.size w w' := by
  have hs : (s.size : Int) ≤ 140737488351232 := by rw [← hbs]; exact bareS_le s0 z0 hs0
  have hsm : Kwf (s, z) := ⟨by unfold maxLen; show s.size ≤ _; omega, hzf⟩
  have hjl := (List.getElem?_eq_some_iff.1 hf).1
  obtain ⟨m, hmm⟩ : ∃ m, (fs.getD i []).length = m := ⟨_, rfl⟩
  obtain ⟨fb, fc, hfv, hfc⟩ := h.fat i j hi f hf
  rw [hmm] at hm hj hjl hfv
  have HBA := Hid.mk' (fun W => shbare_any s0 z0 W hs0)
  rw [hbs, hbz] at HBA
  have HNU := Hid.mk' (fun (W : World) (hW : T1 C B g mn mw lb vk vs vl ks ln fs fv nw Dn Dw W) => number_yes s z kk W hW hn hsm hk)
  have HPL := Hid.mk' (fun (W : World) (hW : T1 C B g mn mw lb vk vs vl ks ln fs fv nw Dn Dw W) => place_at (kk : Int) W hW m fc (some ⟨fb, 0, none⟩) hm (by omega))
  rw [hj] at HPL
  obtain ⟨W1, hW1⟩ : ∃ W1, w.alloc (.cells #[.string s0, .int .i64 z0] 31) = W1 := ⟨_, rfl⟩
  have b1 : Below w.heap.size w W1 := by rw [← hW1]; exact (Below.refl _ _).alloc (Nat.le_refl _) _
  have q1 : W1.heap[w.heap.size]? = some (.cells #[.string s0, .int .i64 z0] 31 (0, 0)) := by rw [← hW1]; exact World.alloc_heap_new _ _
  obtain ⟨b0, hb0⟩ : ∃ b0, w.heap.size = b0 := ⟨_, rfl⟩
  rw [hb0] at q1
  have h1 := h.below b1
  obtain ⟨c0, c1, c2, c3, c4, cf, l0, lf⟩ := h1.cells
  obtain ⟨gs, sc, hvs, hsc, d0, d1⟩ := h1.sat i hi
  obtain ⟨n, hnn⟩ : ∃ n, fv.length = n := ⟨_, rfl⟩
  rw [hvs, hnn] at c3
  rw [hlb] at d0
  rw [hfv] at d1
  rw [hnn] at hi hsc
  have HHA := Hid.mk' (has_in g (i : Int) _ n sc W1 c0 c3 (by omega) (by omega))
  obtain ⟨W2, hW2⟩ : ∃ W2, W1.alloc (.cells #[.pointer (some ⟨lb, 0, none⟩), .slice (some ⟨fb, 0, none⟩) m fc] 63) = W2 := ⟨_, rfl⟩
  have b2 : Below W1.heap.size W1 W2 := by rw [← hW2]; exact (Below.refl _ _).alloc (Nat.le_refl _) _
  have q2 : W2.heap[W1.heap.size]? = some (.cells #[.pointer (some ⟨lb, 0, none⟩), .slice (some ⟨fb, 0, none⟩) m fc] 63 (0, 0)) := by rw [← hW2]; exact World.alloc_heap_new _ _
  have q12 := (b2.block b0 (Array.getElem?_eq_some_iff.1 q1).1).trans q1
  obtain ⟨cb, hcb⟩ : ∃ cb, W1.heap.size = cb := ⟨_, rfl⟩
  rw [hcb] at q2
  have B2 : Below w.heap.size w W2 := b1.trans (b2.mono b1.size)
  have HT2 := Hid.mk' (h.below B2)
  have hfb := World.block_lt_of_cell? w _ hfc
  have HCE : Hid (∀ W, Below W2.heap.size W2 W → W.cell? ⟨b0, 0, none⟩ = some (.string s0) ∧ W.cell? ⟨b0, 1, none⟩ = some (.int .i64 z0) ∧ W.cell? ⟨cb, 0, none⟩ = some (.pointer (some ⟨lb, 0, none⟩)) ∧ W.cell? ⟨cb, 1, none⟩ = some (.slice (some ⟨fb, 0, none⟩) m fc) ∧ W.cell? ⟨fb, j, none⟩ = some (.int .u8 f)) := Hid.mk' (fun W hW => by
    obtain ⟨_, _, e0, e1⟩ := pair_facts ((hW.block b0 (Array.getElem?_eq_some_iff.1 q12).1).trans q12)
    obtain ⟨_, _, e2, e3⟩ := pair_facts ((hW.block cb (Array.getElem?_eq_some_iff.1 q2).1).trans q2)
    exact ⟨e0, e1, e2, e3, (hW.cell (p := ⟨fb, j, none⟩) (Nat.lt_of_lt_of_le hfb B2.size)).trans ((B2.cell (p := ⟨fb, j, none⟩) hfb).trans hfc)⟩)
  have HB2 := Hid.mk' B2
  have HH2 := Hid.mk' hW2
  have i1 : (i : Int) < (n : Int) := by omega
  have j1 : (j : Int) < (m : Int) := by omega
  have j2 : ¬ (j : Int) < 0 := by omega
  clear h h1 hn hs hs0 hzf hbs hbz hk hm hj hf hsm hl c1 c2 c4 cf l0 lf b1 q1 b2 q2 q12 B2 hW2 hvs hnn hmm hfv hfc hfb hlb
  go_enter Try.func22, Try.ntmps22
  go_wp2_with fail
  refine HHA.out.mono ?_
  rintro e w2 ⟨rfl, rfl⟩
  go_upto_region 4 with fail
  rw [HH2.out]
  clear c0 c3 d0 d1
  obtain ⟨e0, e1, e2, e3, e4⟩ := HCE.out W2 (Below.refl _ _)
  go_cut [10] from 11 (fun v10 wc => v10 = .int .i64 (j : Int) ∧ Hid (Below W2.heap.size W2 wc))
  case first =>
    go_region_with (first
      | (go_at_call 25; refine (HBA.out _).mono ?_; rintro e w3 ⟨rfl, b3⟩; have HB3 := Hid.mk' (below_from_drew b3); have HT3 := Hid.mk' (HT2.out.below HB3.out); obtain ⟨r0, r1, r2, r3, r4⟩ := HCE.out w3 HB3.out; clear b3)
      | (go_at_call 24; refine (HNU.out _ HT3.out).mono ?_; rintro e w4 ⟨rfl, b4⟩; have HB4 := Hid.mk' (HB3.out.trans (b4.mono HB3.out.size)); have HT4 := Hid.mk' (HT3.out.below b4); obtain ⟨s0, s1, s2, s3, s4⟩ := HCE.out w4 HB4.out; clear b4)
      | (go_at_call 26; refine (HPL.out _ HT4.out).mono ?_; rintro e w5 ⟨rfl, b5⟩; have HB5 := Hid.mk' (HB4.out.trans (b5.mono HB4.out.size)); clear b5))
    all_goals
      go_wp2_with fail
      go_meet
      exact ⟨rfl, HB5⟩
  case rest =>
    obtain ⟨rfl, HB6⟩ := hcut
    obtain ⟨r0, r1, r2, r3, r4⟩ := HCE.out wc HB6.out
    clear e0 e1 e2 e3 e4
    go_upto_region 7 with fail
    go_quiet (fail)
    go_wp2
    go_ret3
    exact ⟨rfl, below_drewN (HB2.out.trans (HB6.out.mono HB2.out.size)) _⟩
end
end Go.Proofs.Ytoonaljmdiideaa
