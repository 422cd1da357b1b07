/- Package shape: Cached by a new cache, of a tree that nobody made. -/
import Derived.Test.YtepkdeckmekphaaShC
namespace Go.Proofs.Ytepkdeckmekphaa
set_option linter.unusedVariables false
set_option linter.unusedSimpArgs false
open Go.RowKit

set_option maxHeartbeats 4000000 in
set_option maxRecDepth 100000 in
theorem cached_un (p : Option Addr) (cb : Nat) (s z : Int) (n : ByteArray) (w : World) (h : Un (.pointer p) w) (hp : ∀ g, p = some ⟨g, 0, none⟩ → g < cb) (hc : Che cb 0 0 w) (hn : (n.size : Int) ≤ 140737488351232) :
    Calls Try.prog 19 #[.pointer p, .pointer (some ⟨cb, 0, none⟩), .int .i64 s, .agg #[.string n, .int .i64 z]] w fun e w' => e = .returned (.tuple #[.int .i64 0, .int .i64 0, .bool false]) ∧ Below cb w w' := by
  have hcl := (Array.getElem?_eq_some_iff.1 hc).1
  have HBA := Hid.mk' (fun W => shbare_any n z W hn)
  have HN' := Hid.mk' (bareS_le n z hn)
  obtain ⟨q, hq⟩ : ∃ q, bareS n z = q := ⟨_, rfl⟩
  obtain ⟨y, hy⟩ : ∃ y, bareZ z = y := ⟨_, rfl⟩
  rw [hq, hy] at HBA
  rw [hq] at HN'
  have HU : Hid (∀ W, Below cb w W → Un (.pointer p) W) := Hid.mk' (fun W hW => h.lt hW (fun g e => hp g (by simpa using e)))
  obtain ⟨W1, hW1⟩ : ∃ W1, w.alloc (.cells #[.string n, .int .i64 z] 31) = W1 := ⟨_, rfl⟩
  have b1 : Below w.heap.size w W1 := by rw [← hW1]; exact (Below.refl _ _).alloc (Nat.le_refl _) _
  have q1 : W1.heap[w.heap.size]? = some (.cells #[.string n, .int .i64 z] 31 (0, 0)) := by rw [← hW1]; exact World.alloc_heap_new _ _
  obtain ⟨b0, hb0⟩ : ∃ b0, w.heap.size = b0 := ⟨_, rfl⟩
  rw [hb0] at q1
  have HS0 : Hid (w.heap.size = b0 ∧ cb < b0) := Hid.mk' ⟨hb0, by omega⟩
  have HC1 : Hid (Che cb 0 0 W1) := Hid.mk' ((b1.block cb hcl).trans hc)
  have HB1 : Hid (Below cb w W1) := Hid.mk' (b1.mono (Nat.le_of_lt hcl))
  have HM := Hid.mk' (isMadeC_yes W1 HC1.out)
  obtain ⟨_, _, g0, g1⟩ := pair_facts q1
  clear h hp hc hn hcl hq hy b1 q1
  go_enter Try.func19, Try.ntmps19
  go_wp2_with fail
  refine HM.out.mono ?_
  rintro e w2 ⟨rfl, rfl⟩
  go_wp2_with fail
  refine (HBA.out _).mono ?_
  rintro e w3 ⟨rfl, b3⟩
  have C3 : Che cb 0 0 w3 := (b3.block cb (Array.getElem?_eq_some_iff.1 HC1.out).1).trans HC1.out
  have B3 : Below cb w w3 := HB1.out.trans (b3.mono (Nat.le_of_lt (Array.getElem?_eq_some_iff.1 HC1.out).1))
  obtain ⟨W4, hW4⟩ : ∃ W4, w3.alloc (.cells #[.pointer p, .int .i64 s, .string q, .int .i64 y] 107) = W4 := ⟨_, rfl⟩
  have b4 : Below w3.heap.size w3 W4 := by rw [← hW4]; exact (Below.refl _ _).alloc (Nat.le_refl _) _
  have q4 : W4.heap[w3.heap.size]? = some (.cells #[.pointer p, .int .i64 s, .string q, .int .i64 y] 107 (0, 0)) := by rw [← hW4]; exact World.alloc_heap_new _ _
  have l3 : cb < w3.heap.size := (Array.getElem?_eq_some_iff.1 C3).1
  obtain ⟨b9, hb9⟩ : ∃ b9, w3.heap.size = b9 := ⟨_, rfl⟩
  rw [hb9] at q4
  have HC4 : Hid (Che cb 0 0 W4) := Hid.mk' ((b4.block cb l3).trans C3)
  have HB4 : Hid (Below cb w W4) := Hid.mk' (B3.trans (b4.mono (Nat.le_of_lt l3)))
  have HQ4 := Hid.mk' q4
  have HL4 : Hid (cb < b9) := Hid.mk' (by omega)
  obtain ⟨c0, c1, c2, c3, cf⟩ := HC4.out.cells
  have HP := Hid.mk' (ptrLoad_any ⟨cb, 1, none⟩ W4 c1)
  clear g0 g1 b3 C3 B3 b4 q4 l3 c0 c1 c2 c3 cf
  go_wp2_with fail
  refine HP.out.mono ?_
  rintro e w5 ⟨rfl, rfl⟩
  have HX : Hid (∀ k, Che cb 0 0 (w5.drewN k) ∧ Below cb w (w5.drewN k) ∧ (w5.drewN k).heap[b9]? = some (.cells #[.pointer p, .int .i64 s, .string q, .int .i64 y] 107 (0, 0))) := Hid.mk' (fun k => ⟨HC4.out, below_drewN HB4.out k, HQ4.out⟩)
  go_upto_region 5 with fail
  go_quiet (fail)
  obtain ⟨W5, hW5⟩ : ∃ W5, w5.drewN nq = W5 := ⟨_, rfl⟩
  obtain ⟨C5, B5, Q5⟩ := HX.out nq
  rw [hW5] at C5 B5 Q5
  rw [hW5]
  have HA := Hid.mk' (int64Add_any ⟨cb, 3, none⟩ 0 W5 C5.cells.2.2.2.1 (C5.cells.2.2.2.2 3) (by omega) (by omega))
  obtain ⟨W6, hW6⟩ : ∃ W6, W5.setCell ⟨cb, 3, none⟩ (.int .i64 1) = W6 := ⟨_, rfl⟩
  have lcb : cb < W5.heap.size := (Array.getElem?_eq_some_iff.1 C5).1
  have C6 : Che cb 0 1 W6 := by rw [← hW6]; unfold Che at C5 ⊢; have h1 := set_blk2 (j := 3) (v := .int .i64 1) C5; simpa using h1
  have B6 : Below cb w W6 := by rw [← hW6]; exact B5.setCell (p := ⟨cb, 3, none⟩) (Nat.le_refl _) _
  have Q6 : W6.heap[b9]? = some (.cells #[.pointer p, .int .i64 s, .string q, .int .i64 y] 107 (0, 0)) := by rw [← hW6]; exact (Below.heap_setCell _ _ _ _ (by show b9 ≠ cb; have := HL4.out; omega)).trans Q5
  have HAS := Hid.mk' (asked_un p s y q W6 (HU.out _ B6) HN'.out)
  have HC6 := Hid.mk' C6
  have HB6 := Hid.mk' B6
  have HH6 := Hid.mk' hW6
  obtain ⟨r0, r1, r2, r3, _⟩ := row4_cells Q6
  clear C5 B5 Q5 lcb C6 B6 Q6 hW6 hW5 HX
  go_wp2_with fail
  refine HA.out.mono ?_
  rintro e w6 ⟨rfl, hw6⟩
  rw [show (0 + 1 : Int) = 1 from rfl, HH6.out] at hw6
  subst hw6
  go_wp2_with fail
  refine HAS.out.mono ?_
  rintro e w7 ⟨mb, ty, rfl, hmb, ⟨a0, a1, a2, a3, a7, hrow⟩, b7⟩
  have l6 : cb < w6.heap.size := (Array.getElem?_eq_some_iff.1 HC6.out).1
  have C7 : Che cb 0 1 w7 := (b7.block cb l6).trans HC6.out
  have B7 : Below cb w w7 := HB6.out.trans (b7.mono (Nat.le_of_lt l6))
  obtain ⟨m0, m4, m5, m6, _⟩ := row8_cells hrow
  have HST := Hid.mk' (ptrStore_any ⟨cb, 1, none⟩ ⟨mb, 0, none⟩ _ _ w7 C7.cells.2.1 (C7.cells.2.2.2.2 1) m0)
  obtain ⟨W8, hW8⟩ : ∃ W8, w7.setCell ⟨cb, 1, none⟩ (.pointer (some ⟨mb, 0, none⟩)) = W8 := ⟨_, rfl⟩
  have B8 : Below cb w W8 := by rw [← hW8]; exact B7.setCell (p := ⟨cb, 1, none⟩) (Nat.le_refl _) _
  have R8 : W8.heap[mb]? = some (.cells #[a0, a1, a2, a3, .int .i64 0, .int .i64 0, .bool false, a7] ty (0, 0)) := by rw [← hW8]; exact (Below.heap_setCell _ _ _ _ (by show mb ≠ cb; omega)).trans hrow
  obtain ⟨_, n4, n5, n6, _⟩ := row8_cells R8
  have HB8 := Hid.mk' B8
  have HH8 := Hid.mk' hW8
  clear hmb hrow b7 l6 C7 B7 m0 m4 m5 m6 B8 R8 hW8 r0 r1 r2 r3
  go_wp2_with fail
  refine HST.out.mono ?_
  rintro e w8 ⟨rfl, hw8⟩
  rw [HH8.out] at hw8
  subst hw8
  go_upto_region 9 with fail
  go_quiet (fail)
  go_wp2
  go_ret3
  exact ⟨rfl, below_drewN HB8.out _⟩
end Go.Proofs.Ytepkdeckmekphaa
