/- Package code: Encode, at the chapter's example. -/
import Derived.Test.YtkgjmiadgfcbnaaGreatDoorCdE5
namespace Go.Proofs.YtkgjmiadgfcbnaaGreatDoor
set_option linter.unusedVariables false
set_option linter.unusedSimpArgs false
open Go.RowKit

theorem Fo.below {B wb B' : Nat} {X Y : World} (h : Fo B wb X Y) (h1 : B' ≤ B) (h2 : B' ≤ wb) (h3 : B' ≤ X.heap.size) : Below B' X Y := ⟨h.os, h.tape, h.output, h.size, fun k hk => by
  have e : X.heap[k]? = some X.heap[k] := Array.getElem?_eq_getElem (by omega)
  rw [h.same k _ (by omega) (.inl (by omega)) e, e]⟩
def exB : List UInt8 := magic ++ 1 :: exF
set_option maxHeartbeats 2000000 in
set_option maxRecDepth 100000 in
theorem encode_ex {gi gf : Nat} (w : World) (hL : LaidL w) (hx : w.heap[gi]? = some (.cells exRow 35 (0, 0))) (hy : w.heap[gf]? = some (.cells #[.string ⟨#[]⟩, .int .i64 0, .bool false, .bool false, .int .i64 1, .slice none 0 0, .slice (some ⟨gi, 0, none⟩) 2 2, .slice none 0 0, .slice none 0 0] 42 (0, 0))) :
    Calls Tryz.prog 8 #[.agg #[.slice (some ⟨gf, 0, none⟩) 1 1]] w fun e w' => ∃ a c, e = .returned (.tuple #[.slice a 19 c, .int .i64 0]) ∧ w'.ownsRow w.heap.size 5 1 (.slice a 19 c) 19 (Lib.byteCells exB) ∧ Below w.heap.size w w' := by
  have hmf : ∀ (fn : Fn) (first cap : Array Value) (w : World), (Instr.makeFunc fn first cap).run Tryz.prog w = .ok (.func fn first cap) w := fun _ _ _ _ => rfl
  obtain ⟨W1, hW1⟩ : ∃ W1, w.alloc (.cells #[.slice (some ⟨gf, 0, none⟩) 1 1] 26) = W1 := ⟨_, rfl⟩
  obtain ⟨W2, hW2⟩ : ∃ W2, W1.alloc (.cells #[.slice none 0 0, .int .i64 0] 56) = W2 := ⟨_, rfl⟩
  obtain ⟨W3, hW3⟩ : ∃ W3, W2.alloc (.cells #[.pointer (some ⟨w.heap.size + 1, 0, none⟩)] 54) = W3 := ⟨_, rfl⟩
  have b1 : Below w.heap.size w W1 := by rw [← hW1]; exact lay_below
  have b2 : Below W1.heap.size W1 W2 := by rw [← hW2]; exact lay_below
  have b3 : Below W2.heap.size W2 W3 := by rw [← hW3]; exact lay_below
  have s1 : W1.heap.size = w.heap.size + 1 := by rw [← hW1]; simp
  have s2 : W2.heap.size = w.heap.size + 2 := by rw [← hW2]; simp; omega
  have s3 : W3.heap.size = w.heap.size + 3 := by rw [← hW3]; simp; omega
  have q1 : W1.heap[w.heap.size]? = some (.cells #[.slice (some ⟨gf, 0, none⟩) 1 1] 26 (0, 0)) := by rw [← hW1]; exact box_new
  have q2 : W2.heap[W1.heap.size]? = some (.cells #[.slice none 0 0, .int .i64 0] 56 (0, 0)) := by rw [← hW2]; exact box_new
  have q3 : W3.heap[W2.heap.size]? = some (.cells #[.pointer (some ⟨w.heap.size + 1, 0, none⟩)] 54 (0, 0)) := by rw [← hW3]; exact box_new
  have B23 := b2.trans (b3.mono (by omega))
  have B3 := b1.trans (B23.mono b1.size)
  have q1' := (B23.block w.heap.size (by omega)).trans q1
  have q2' := (b3.block W1.heap.size (by omega)).trans q2
  have hlb : 1 < w.heap.size := World.block_lt_of_cell? w _ (hL 0 (by omega))
  have hgi : gi < w.heap.size := (Array.getElem?_eq_some_iff.1 hx).1
  have hgf : gf < w.heap.size := (Array.getElem?_eq_some_iff.1 hy).1
  rw [s1] at q2'
  rw [s2] at q3
  have hWt : Wt W3 (w.heap.size + 3) (w.heap.size + 1) (.slice none 0 0) [] := ⟨q2', World.ownsRow_nil _ _ _ _, by omega⟩
  have HC := Hid.mk' (caughtE_ex (bp := w.heap.size + 2) (bm := w.heap.size) W3 hWt (by omega) (hL.fr (rb := w.heap.size) (Fr.of_below B3) (by omega)) (by omega) (by omega) ((B3.block gi hgi).trans hx) (by omega) ((B3.block gf hgf).trans hy) (by omega) ((cell_row _ (w.heap.size + 2) 0 _ _ q3).trans rfl) ((cell_row _ w.heap.size 0 _ _ q1').trans rfl))
  have HB3 := Hid.mk' B3
  have HQ3 := Hid.mk' q3
  obtain ⟨bm, hbm⟩ : ∃ bm, w.heap.size = bm := ⟨_, rfl⟩
  have HBM := Hid.mk' hbm
  have HS3 : Hid (W3.heap.size = bm + 3) := Hid.mk' (by omega)
  rw [hbm] at HC HQ3
  rw [hbm] at s1 s2
  have HH1 := Hid.mk' hW1
  have HH2 := Hid.mk' hW2
  have HH3 : Hid (W2.alloc (.cells #[.pointer (some ⟨bm + 1, 0, none⟩)] 54) = W3) := Hid.mk' (by rw [← hbm]; exact hW3)
  clear hL hx hy b1 b2 b3 s3 q1 q2 q3 B23 B3 q1' q2' hlb hgi hgf hWt hW3
  go_enter Tryz.func8, Tryz.ntmps8
  go_wp2_with fail
  rw [HH3.out]
  refine HC.out.mono ?_
  rintro e w1 ⟨rfl, ⟨v1, hW⟩, hF⟩
  have p2 : w1.cell? ⟨bm + 2, 0, none⟩ = some (.pointer (some ⟨bm + 1, 0, none⟩)) := (cell_row _ (bm + 2) 0 _ _ (hF.box (by omega) (by decide) HQ3.out)).trans rfl
  have hO := hW.own
  rw [show (magic ++ 1 :: exF).length = 19 from rfl] at hO
  obtain ⟨a, c, hv, _⟩ := own_slice' hO
  subst hv
  have r0 : w1.cell? ⟨bm + 1, 0, none⟩ = some (.slice a 19 c) := (cell_row _ (bm + 1) 0 _ _ hW.blk).trans rfl
  have r1 : w1.cell? ⟨bm + 1, 1, none⟩ = some (.int .i64 19) := (cell_row _ (bm + 1) 1 _ _ hW.blk).trans rfl
  have HO : Hid (w1.ownsRow bm 5 1 (.slice a 19 c) 19 (Lib.byteCells exB)) := Hid.mk' (own_mono hO (by omega))
  have HB : Hid (Below bm w w1) := Hid.mk' ((by rw [← HBM.out]; exact HB3.out : Below bm w W3).trans (hF.below (by omega) (by omega) (by have := HS3.out; omega)))
  clear hW hF hO
  go_wp2
  go_ret2
  refine ⟨a, c, rfl, ?_, ?_⟩
  · rw [HBM.out]; exact HO.out
  · rw [HBM.out]; exact HB.out
end Go.Proofs.YtkgjmiadgfcbnaaGreatDoor
