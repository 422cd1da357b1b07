/- keys.Compare and the document's Compare. -/
import Derived.Test.YtcjpoabknlpopaaDoorKCmp
namespace Go.Proofs.YtcjpoabknlpopaaDoor
set_option linter.unusedVariables false
open Go.RowKit

theorem set_same {w : World} {p : Addr} {u v : Value} (h : w.cell? p = some u) : (w.setCell p v).cell? p = some v := World.cell?_setCell_same _ _ _ h
theorem set_other {w : World} {p q : Addr} {u v : Value} (hne : p ≠ q) (h : w.cell? q = some u) : (w.setCell p v).cell? q = some u := by rw [World.cell?_setCell_other _ _ _ _ hne]; exact h
theorem Bx.put {w : World} {p q : Nat} {a b : ByteArray × Int} (h : Bx w p q a b) (hne : p ≠ q) (a' b' : ByteArray × Int) :
    Bx ((((w.setCell ⟨p, 0, none⟩ (.string a'.1)).setCell ⟨p, 1, none⟩ (.int .i64 a'.2)).setCell ⟨q, 0, none⟩ (.string b'.1)).setCell ⟨q, 1, none⟩ (.int .i64 b'.2)) p q a' b' := by
  have n1 : ∀ i j, (⟨q, i, none⟩ : Addr) ≠ ⟨p, j, none⟩ := by intro i j e; cases e; exact hne rfl
  have n2 : ∀ i j, (⟨p, i, none⟩ : Addr) ≠ ⟨q, j, none⟩ := by intro i j e; cases e; exact hne rfl
  have n3 : ∀ g, (⟨g, 1, none⟩ : Addr) ≠ ⟨g, 0, none⟩ := by intro g e; cases e
  have n4 : ∀ g, (⟨g, 0, none⟩ : Addr) ≠ ⟨g, 1, none⟩ := by intro g e; cases e
  obtain ⟨a0, a1, b0, b1, f1, f2, f3, f4, pl, ql⟩ := h
  refine ⟨set_other (n1 _ _) (set_other (n1 _ _) (set_other (n3 _) (set_same a0))), set_other (n1 _ _) (set_other (n1 _ _) (set_same (set_other (n4 _) a1))),
    set_other (n3 _) (set_same (set_other (n2 _ _) (set_other (n2 _ _) b0))), set_same (set_other (n4 _) (set_other (n2 _ _) (set_other (n2 _ _) b1))), ?_, ?_, ?_, ?_, by simpa using pl, by simpa using ql⟩ <;> simpa using (by assumption)
theorem chain3 {w W w1 w2 : World} (h : Below w.heap.size w W) (h1 : Below W.heap.size W w1) (h2 : Below w1.heap.size w1 w2) : Below w.heap.size w w2 :=
  have h3 := h.trans (h1.mono h.size)
  h3.trans (h2.mono h3.size)

set_option maxHeartbeats 4000000 in
set_option maxRecDepth 100000 in
theorem kcompare_any (a b : ByteArray × Int) (w : World) (ha : (a.1.size : Int) ≤ 140737488351232) (hb : (b.1.size : Int) ≤ 140737488351232) :
    Calls Tryd.prog 9 #[.agg #[.string a.1, .int .i64 a.2], .agg #[.string b.1, .int .i64 b.2]] w fun e w' => e = .returned (.int .i64 (cmpC a b)) ∧ Below w.heap.size w w' := by
  have HBa := Hid.mk' (fun W => bare_any a W ha)
  have HBb := Hid.mk' (fun W => bare_any b W hb)
  have HX0 := Hid.mk' (Bx.new w a b)
  have B0 : Below w.heap.size w ((w.alloc (.cells #[.string a.1, .int .i64 a.2] 25)).alloc (.cells #[.string b.1, .int .i64 b.2] 25)) := ((Below.refl _ _).alloc (Nat.le_refl _) _).alloc (by simp) _
  have HCK := Hid.mk' (fun W => compare_wide (cls a).1 (cls b).1 W (cls_size a ha) (cls_size b hb))
  have HCI := Hid.mk' (fun W => Tryd.cmp_Compare_int (cls a).2 (cls b).2 W)
  have HOr := Hid.mk' (cmpC_or a b)
  obtain ⟨r, hr⟩ : ∃ r, cmpC a b = r := ⟨_, rfl⟩
  rw [hr] at HOr ⊢
  obtain ⟨ca, hca⟩ : ∃ ca, cls a = ca := ⟨_, rfl⟩
  obtain ⟨cb, hcb⟩ : ∃ cb, cls b = cb := ⟨_, rfl⟩
  rw [hca] at HBa HCK HCI HOr
  rw [hcb] at HBb HCK HCI HOr
  obtain ⟨ck, hck⟩ : ∃ ck, cmpK ca.1 cb.1 0 = ck := ⟨_, rfl⟩
  obtain ⟨ci, hci⟩ : ∃ ci, Lib.compareInt ca.2 cb.2 = ci := ⟨_, rfl⟩
  rw [hck] at HCK HOr
  rw [hci] at HCI HOr
  clear hr hca hcb hck hci ha hb
  obtain ⟨as', az⟩ := a
  obtain ⟨bs, bz⟩ := b
  obtain ⟨cas, caz⟩ := ca
  obtain ⟨cbs, cbz⟩ := cb
  dsimp only at *
  go_enter Tryd.func9, Tryd.ntmps9
  go_wp2_with fail
  have X0 := HX0.out.drew
  have a0 := X0.a0; have a1 := X0.a1; have b0 := X0.b0; have b1 := X0.b1
  dsimp only at a0 a1 b0 b1
  go_cut [] from 5 (fun wc => Hid (Bx wc w.heap.size (w.heap.size + 1) (cas, caz) (cbs, cbz)) ∧ Hid (Below w.heap.size w wc))
  case first =>
    go_region_law (first | (refine step_call1 rfl 16 (.tmp 5) 25 rfl (enters_of Tryd.func16 (by kernel_rfl) rfl) _ rfl (HBa.out _) ?_; rintro e w1 ⟨rfl, g1⟩; refine ⟨_, rfl, ?_⟩; have X1 := Bx.grow (by assumption) g1; have a01 := X1.a0; have a11 := X1.a1; have b01 := X1.b0; have b11 := X1.b1; have fa01 := X1.fa0; have fa11 := X1.fa1; have fb01 := X1.fb0; have fb11 := X1.fb1; dsimp only at a01 a11 b01 b11) | (refine step_call1 rfl 16 (.tmp 7) 25 rfl (enters_of Tryd.func16 (by kernel_rfl) rfl) _ rfl (HBb.out _) ?_; rintro e w2 ⟨rfl, g2⟩; refine ⟨_, rfl, ?_⟩; have X2 := Bx.grow (by assumption) g2; have a02 := X2.a0; have a12 := X2.a1; have b02 := X2.b0; have b12 := X2.b1; have fa02 := X2.fa0; have fa12 := X2.fa1; have fb02 := X2.fb0; have fb12 := X2.fb1; dsimp only at a02 a12 b02 b12))
    all_goals
      go_wp2_with fail
      go_meet
      refine ⟨Hid.mk' (Bx.put (by assumption) (by omega) (cas, caz) (cbs, cbz)), Hid.mk' ?_⟩
      refine Below.setCell (Below.setCell (Below.setCell (Below.setCell ?_ (by simp) _) (by simp) _) (by simp) _) (by simp) _
      first
        | exact chain3 (B0.drew) g1 g2
        | exact chain3 (B0.drew) g2 g1
  obtain ⟨HX, HB⟩ := hcut
  clear X0 a0 a1 b0 b1 HX0 B0 HBa HBb
  have X0 := HX.out.drew
  have a0 := X0.a0; have a1 := X0.a1; have b0 := X0.b0; have b1 := X0.b1
  dsimp only at a0 a1 b0 b1
  have HN0 : Hid (∀ W : World, (W.alloc (.cells #[.int .i64 ci, .int .i64 ck] 3)).cell? ⟨W.heap.size, 0, none⟩ = some (.int .i64 ci)) := Hid.mk' (fun W => World.cell?_alloc_new W _ _ _)
  have HN1 : Hid (∀ W : World, (W.alloc (.cells #[.int .i64 ci, .int .i64 ck] 3)).cell? ⟨W.heap.size, 1, none⟩ = some (.int .i64 ck)) := Hid.mk' (fun W => World.cell?_alloc_new W _ _ _)
  go_wp2_with fail
  go_region_law (first | (refine step_call2' rfl 24 (.tmp 10) (.tmp 12) 3 3 rfl (enters_of Tryd.func24 (by kernel_rfl) rfl) _ _ rfl rfl (HCI.out _) ?_; rintro e w3 ⟨rfl, hw3⟩; refine ⟨_, rfl, ?_⟩; rw [hw3]; clear hw3 w3) | (refine step_call2' rfl 25 (.tmp 15) (.tmp 17) 23 23 rfl (enters_of Tryd.func25 (by kernel_rfl) rfl) _ _ rfl rfl (HCK.out _) ?_; rintro e w3 ⟨rfl, hw3⟩; refine ⟨_, rfl, ?_⟩; rw [hw3]; clear hw3 w3) | (refine step_call1 rfl 23 (.tmp 19) 70 rfl (enters_of Tryd.func23 (by kernel_rfl) rfl) _ rfl (or_two _ ci ck r HOr.out _ (HN0.out _) (HN1.out _)) ?_; rintro e w4 ⟨rfl, hw4⟩; refine ⟨_, rfl, ?_⟩; rw [hw4]; clear hw4 w4))
  all_goals
    go_wp2_with fail
    go_ret
    exact ⟨rfl, HB.out.drew.alloc (by simpa using HB.out.size) _⟩

set_option maxHeartbeats 2000000 in
set_option maxRecDepth 100000 in
theorem rkcompare_any (a b : ByteArray × Int) (w : World) (ha : (a.1.size : Int) ≤ 140737488351232) (hb : (b.1.size : Int) ≤ 140737488351232) :
    Calls Tryd.prog 10 #[.agg #[.string a.1, .int .i64 a.2], .agg #[.string b.1, .int .i64 b.2]] w fun e w' => e = .returned (.int .i64 (cmpC a b)) ∧ Below w.heap.size w w' := by
  obtain ⟨as', az⟩ := a
  obtain ⟨bs, bz⟩ := b
  have HC := Hid.mk' (fun W => rcompare_wide as' bs W ha hb)
  have HB : Hid (Below w.heap.size w ((w.alloc (.cells #[.string as', .int .i64 az] 25)).alloc (.cells #[.string bs, .int .i64 bz] 25))) := Hid.mk' (((Below.refl _ _).alloc (Nat.le_refl _) _).alloc (by simp) _)
  clear ha hb
  by_cases h1 : 0 < az
  · by_cases h2 : 0 < bz
    · by_cases h3 : az < bz
      · have HE : Hid (cmpC (as', az) (bs, bz) = -1) := Hid.mk' (by simp [cmpC, cls, h1, h2, h3])
        go_enter Tryd.func10, Tryd.ntmps10
        go_wp2
        go_ret
        exact ⟨by rw [HE.out]; rfl, HB.out⟩
      · by_cases h4 : bz < az
        · have HE : Hid (cmpC (as', az) (bs, bz) = 1) := Hid.mk' (by simp [cmpC, cls, h1, h2, h3, h4])
          go_enter Tryd.func10, Tryd.ntmps10
          go_wp2
          go_ret
          exact ⟨by rw [HE.out]; rfl, HB.out⟩
        · have HE : Hid (cmpC (as', az) (bs, bz) = 0) := Hid.mk' (by simp [cmpC, cls, h1, h2, h3, h4]; exact (cmp_zero' _ _).2 rfl)
          go_enter Tryd.func10, Tryd.ntmps10
          go_wp2
          go_ret
          exact ⟨by rw [HE.out]; rfl, HB.out⟩
    · have HE : Hid (cmpC (as', az) (bs, bz) = 1) := Hid.mk' (by simp [cmpC, cls, h1, h2]; omega)
      go_enter Tryd.func10, Tryd.ntmps10
      go_wp2
      go_ret
      exact ⟨by rw [HE.out]; rfl, HB.out⟩
  · by_cases h2 : 0 < bz
    · have HE : Hid (cmpC (as', az) (bs, bz) = -1) := Hid.mk' (by simp [cmpC, cls, h1, h2])
      go_enter Tryd.func10, Tryd.ntmps10
      go_wp2
      go_ret
      exact ⟨by rw [HE.out]; rfl, HB.out⟩
    · have HE : Hid (cmpC (as', az) (bs, bz) = cmpK as' bs 0) := Hid.mk' (by
        have e1 := evenS_bytes as'
        simp only [cmpC, cls, h1, h2, if_false, Int.lt_irrefl]
        unfold cmpK
        simp only [Nat.mul_zero, List.drop_zero]
        rw [← evenS_bytes, ← evenS_bytes, even_even, even_even, evenS_bytes, evenS_bytes])
      go_enter Tryd.func10, Tryd.ntmps10
      go_wp2_with (first | (go_at_call 22; refine (HC.out _).mono ?_; rintro e w1 ⟨rfl, b1⟩))
      go_ret
      exact ⟨by rw [HE.out]; rfl, HB.out.trans (b1.mono HB.out.size)⟩
end Go.Proofs.YtcjpoabknlpopaaDoor
