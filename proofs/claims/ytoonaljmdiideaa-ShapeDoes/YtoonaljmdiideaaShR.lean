/- The law of layer 14: awake; a tree that nobody made has no shapes. -/
import Derived.Test.YtoonaljmdiideaaShQ
import Derived.Test.YtoonaljmdiideaaShD
namespace Go.Proofs.Ytoonaljmdiideaa
set_option linter.unusedVariables false
set_option linter.unusedSimpArgs false
open Go.RowKit Go.Maps Go.ChangeShapes

set_option maxHeartbeats 4000000 in
set_option maxRecDepth 100000 in
theorem awake14 (w : World) : Calls Try.prog 5 #[] w fun e w' => e = .returned (.bool true) ∧ Below w.heap.size w w' := by
  have HNE := Hid.mk' (shnew_any w)
  have HNA := Hid.mk' (fun W => rname_any ⟨#[97]⟩ kA asc_a W (by decide))
  have HNB := Hid.mk' (fun W => rname_any ⟨#[98]⟩ kB asc_b W (by decide))
  go_enter Try.func5, Try.ntmps5
  go_wp2_with fail
  refine HNE.out.mono ?_
  rintro e w1 ⟨g, mn, mw, lb, vs, rfl, hT1, b1⟩
  have HT1 := Hid.mk' hT1
  have HB1 := Hid.mk' b1
  clear hT1 b1
  go_wp2_with fail
  refine (HNA.out _).mono ?_
  rintro e w2 ⟨rfl, b2⟩
  have HT2 := Hid.mk' (HT1.out.below b2)
  have HB2 : Hid (Below w.heap.size w w2) := Hid.mk' (HB1.out.trans (b2.mono HB1.out.size))
  clear b2
  go_wp2_with fail
  refine (HNB.out _).mono ?_
  rintro e w3 ⟨rfl, b3⟩
  have hT3 := HT2.out.below b3
  have B3 : Below w.heap.size w w3 := HB2.out.trans (b3.mono HB2.out.size)
  have hT4 := (hT3.lay (.cells #[.string kA, .int .i64 0] 31)).lay (.cells #[.string kB, .int .i64 0] 31)
  have B4 : Below w.heap.size w ((w3.alloc (.cells #[.string kA, .int .i64 0] 31)).alloc (.cells #[.string kB, .int .i64 0] 31)) := (B3.alloc B3.size _).alloc (by have := B3.size; simp; omega) _
  obtain ⟨W4, hW4⟩ : ∃ W4, (w3.alloc (.cells #[.string kA, .int .i64 0] 31)).alloc (.cells #[.string kB, .int .i64 0] 31) = W4 := ⟨_, rfl⟩
  rw [hW4] at hT4 B4
  simp only [World.size_alloc] at hT4
  obtain ⟨x2, hx2⟩ : ∃ x, w3.heap.size = x := ⟨_, rfl⟩
  rw [hx2] at hT4
  have HT4 := Hid.mk' hT4
  have HB4 := Hid.mk' B4
  have HH4 := Hid.mk' hW4
  have HCE : Hid (∀ (W : World) (vk' vs' vl' : Value) (ks' : List Kb) (l' : List Int) (Dn' Dw' : DataW Unit) (fs' : List (List Int)) (fv' : List (Nat × Value)) (nw' : Nat), T1 [(x2 + 1, .cells #[.string kB, .int .i64 0] 31 (0, 0)), (x2, .cells #[.string kA, .int .i64 0] 31 (0, 0))] w.heap.size g mn mw lb vk' vs' vl' ks' l' fs' fv' nw' Dn' Dw' W → W.cell? ⟨x2, 0, none⟩ = some (.string kA) ∧ W.cell? ⟨x2, 1, none⟩ = some (.int .i64 0) ∧ W.cell? ⟨x2 + 1, 0, none⟩ = some (.string kB) ∧ W.cell? ⟨x2 + 1, 1, none⟩ = some (.int .i64 0)) := Hid.mk' (fun W _ _ _ _ _ _ _ _ _ _ hW => by
    obtain ⟨_, _, e0, e1⟩ := pair_facts (hW.c (x2 + 1, _) (List.mem_cons_self ..))
    obtain ⟨_, _, e2, e3⟩ := pair_facts (hW.c (x2, .cells #[.string kA, .int .i64 0] 31 (0, 0)) (List.mem_cons_of_mem _ (List.mem_cons_self ..)))
    exact ⟨e2, e3, e0, e1⟩)
  obtain ⟨c0, c1, c2, c3⟩ := HCE.out _ _ _ _ _ _ _ _ _ _ _ hT4
  clear b3 hT3 B3 hT4 B4 hW4 HNE HNA HNB
  go_upto_region 3 with fail
  rw [HH4.out]
  have HA1 := Hid.mk' (add1 [(lb, .slice none 0 0)] (by simp) rfl W4 HT4.out numOk_nil wayOk_nil)
  go_wp2_with fail
  refine HA1.out.mono ?_
  rintro e w5 ⟨rfl, ⟨vk1, vs1, vl1, Dn1, Dw1, v1, hT5, hN5, hW5⟩, b5⟩
  have HB5 : Hid (Below w.heap.size w w5) := Hid.mk' (HB4.out.trans b5)
  clear c0 c1 c2 c3
  obtain ⟨c0, c1, c2, c3⟩ := HCE.out _ _ _ _ _ _ _ _ _ _ _ hT5
  have HA2 := Hid.mk' (add2 _ (by simp) rfl w5 hT5 hN5 hW5)
  have HN5 := Hid.mk' hN5
  have HW5 := Hid.mk' hW5
  clear hT5 hN5 hW5 b5
  go_wp2_with fail
  refine HA2.out.mono ?_
  rintro e w6 ⟨rfl, hT6, b6⟩
  have HB6 : Hid (Below w.heap.size w w6) := Hid.mk' (HB5.out.trans b6)
  clear c0 c1 c2 c3
  obtain ⟨c0, c1, c2, c3⟩ := HCE.out _ _ _ _ _ _ _ _ _ _ _ hT6
  have HA3 := Hid.mk' (add3 _ (by simp) rfl w6 hT6 HN5.out HW5.out)
  clear hT6 b6
  go_wp2_with fail
  refine HA3.out.mono ?_
  rintro e w7 ⟨rfl, ⟨vk2, vs2, vl2, Dn2, Dw2, v2, hT7, hN7, hW7⟩, b7⟩
  have HB7 : Hid (Below w.heap.size w w7) := Hid.mk' (HB6.out.trans b7)
  clear c0 c1 c2 c3
  obtain ⟨c0, c1, c2, c3⟩ := HCE.out _ _ _ _ _ _ _ _ _ _ _ hT7
  have HA4 := Hid.mk' (add4 _ (by simp) rfl w7 hT7 hN7 hW7)
  clear hT7 hN7 hW7 b7
  go_wp2_with fail
  refine HA4.out.mono ?_
  rintro e w8 ⟨rfl, ⟨vk3, vs3, vl3, Dn3, Dw3, v3, hT8, hN8⟩, b8⟩
  have HB8 : Hid (Below w.heap.size w w8) := Hid.mk' (HB7.out.trans b8)
  clear c0 c1 c2 c3
  obtain ⟨c0, c1, c2, c3⟩ := HCE.out _ _ _ _ _ _ _ _ _ _ _ hT8
  have HF8 := Hid.mk' (find4 _ (by simp) rfl w8 hT8 hN8)
  clear hT8 hN8 b8
  go_wp2_with fail
  refine HF8.out.mono ?_
  rintro e w9 ⟨rfl, b9⟩
  have HB9 : Hid (Below w.heap.size w w9) := Hid.mk' (HB8.out.trans (b9.mono HB8.out.size))
  clear c0 c1 c2 c3 b9
  go_wp2
  go_ret
  exact ⟨rfl, HB9.out⟩
end Go.Proofs.Ytoonaljmdiideaa
