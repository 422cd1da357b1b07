/- Package code: Decode. -/
import Derived.Test.YtkgjmiadgfcbnaaGreatDoorCdK
import Derived.Laws.ResultCell
namespace Go.Proofs.YtkgjmiadgfcbnaaGreatDoor
set_option linter.unusedVariables false
set_option linter.unusedSimpArgs false
open Go.RowKit

/-- What a decoder answers of bytes. -/
def Dec (L : List UInt8) (w : World) (e : Ending) (w' : World) : Prop :=
  (∃ fs x, modP L = some fs ∧ e = .returned (.tuple #[.agg #[x], .int .i64 0]) ∧ isFuns w.heap.size w' fs x ∧ Below w.heap.size w w') ∨ (modP L = none ∧ e = .returned (.tuple #[.agg #[.slice none 0 0], .int .i64 110]) ∧ Below w.heap.size w w')
set_option maxHeartbeats 2000000 in
set_option maxRecDepth 100000 in
theorem decode_any {a : Option Addr} {c : Nat} {L : List UInt8} (w : World) (h : Bv w a c L) (hL : L.length ≤ 5000) (hl : LaidL w) :
    Calls Tryz.prog 5 #[.slice a L.length c] w fun e w' => Dec L w e w' := by
  have hmf : ∀ (fn : Fn) (first cap : Array Value) (w : World), (Instr.makeFunc fn first cap).run Tryz.prog w = .ok (.func fn first cap) w := fun _ _ _ _ => rfl
  have hlb : 1 < w.heap.size := World.block_lt_of_cell? w _ (hl 0 (by omega))
  obtain ⟨W1, hW1⟩ : ∃ W1, w.alloc (.cells #[.slice a L.length c] 22) = W1 := ⟨_, rfl⟩
  obtain ⟨W2, hW2⟩ : ∃ W2, W1.alloc (.cells #[.slice none 0 0] 26) = W2 := ⟨_, rfl⟩
  obtain ⟨W3, hW3⟩ : ∃ W3, W2.alloc (.cells #[.slice none 0 0] 26) = W3 := ⟨_, rfl⟩
  have b1 : Below w.heap.size w W1 := by rw [← hW1]; exact lay_below
  have s1 : W1.heap.size = w.heap.size + 1 := by rw [← hW1]; simp
  have b2 : Below W1.heap.size W1 W2 := by rw [← hW2]; exact lay_below
  have s2 : W2.heap.size = w.heap.size + 2 := by rw [← hW2]; simp; omega
  have b3 : Below W2.heap.size W2 W3 := by rw [← hW3]; exact lay_below
  have s3 : W3.heap.size = w.heap.size + 3 := by rw [← hW3]; simp; omega
  have x1 : W1.heap[w.heap.size]? = some (.cells #[.slice a L.length c] 22 (0, 0)) := by rw [← hW1]; exact box_new
  have x2 : W2.heap[W1.heap.size]? = some (.cells #[.slice none 0 0] 26 (0, 0)) := by rw [← hW2]; exact box_new
  have x3 : W3.heap[W2.heap.size]? = some (.cells #[.slice none 0 0] 26 (0, 0)) := by rw [← hW3]; exact box_new
  have x1' := (b2.block w.heap.size (by omega)).trans x1
  have x1'' := (b3.block w.heap.size (by omega)).trans x1'
  have x2'' := (b3.block W1.heap.size (by omega)).trans x2
  have B3 := (b1.trans (b2.mono b1.size)).trans (b3.mono (by omega))
  have c1 := (cell_row _ w.heap.size 0 _ _ x1').trans rfl
  have HN := Hid.mk' (caughtD_any (bb := w.heap.size) (mb := W2.heap.size) W3 ((cell_row _ w.heap.size 0 _ _ x1'').trans rfl) x3 (((h.below b1).below b2).below b3) hL (hl.fr (rb := w.heap.size) (Fr.of_below B3) (by omega)))
  have HX2 := Hid.mk' x2''
  have HB3 := Hid.mk' B3
  rw [s3, s2] at HN
  rw [s1] at HX2
  obtain ⟨bb, hbb⟩ : ∃ bb, w.heap.size = bb := ⟨_, rfl⟩
  rw [hbb] at s1 s2 s3 HN HX2 c1
  have HBB := Hid.mk' hbb
  have hL' : ¬ (4194304 : Int) < (L.length : Int) := by omega
  clear h hl b1 b2 b3 x1 x2 x3 x1' x1'' x2'' B3 hlb
  go_enter Tryz.func5, Tryz.ntmps5
  go_wp2_with fail
  refine HN.out.mono ?_
  rintro e w1 (⟨fs, x, p, rfl, hx, hI, hF⟩ | ⟨p, rfl, hF⟩)
  · have hr := hF.same (bb + 1) _ (by omega) HX2.out
    have y0 := (cell_row _ (bb + 1) 0 _ _ hr).trans rfl
    have yf := thaw_row _ _ _ _ hr
    have z0 := (cell_row _ (bb + 2) 0 _ _ hx).trans rfl
    have HI := Hid.mk' hI
    have HBW : Hid (Below bb w w1) := Hid.mk' ((by rw [← hbb]; exact HB3.out : Below bb w W3).trans (hF.below (by omega) (by omega)))
    obtain ⟨els, hels, ho, hrows⟩ := hI
    obtain ⟨a2, c3, rfl, _⟩ := own_slice' ho
    have HP := Hid.mk' p
    clear hels ho hrows hr hx hF p
    go_wp2
    refine bodyPost_ret (v := .tuple #[.agg #[.slice a2 els.length c3], .int .i64 0]) ?_ rfl (.inl ⟨fs, _, HP.out, rfl, ?_, ?_⟩)
    · rw [results_cell_tmp rfl]
      go_simp
    · rw [HBB.out]
      exact (isFuns.setNew HI.out (by omega) _).mono (by omega)
    · rw [HBB.out]
      exact HBW.out.setCell (p := ⟨bb + 1, 0, none⟩) (show bb ≤ bb + 1 by omega) _
  · have hr := hF.same (bb + 1) _ (by omega) HX2.out
    have y0 := (cell_row _ (bb + 1) 0 _ _ hr).trans rfl
    have yf := thaw_row _ _ _ _ hr
    have HBW : Hid (Below bb w w1) := Hid.mk' ((by rw [← hbb]; exact HB3.out : Below bb w W3).trans (hF.below (by omega) (by omega)))
    have HP := Hid.mk' p
    clear hr hF p
    go_wp2
    refine bodyPost_ret (v := .tuple #[.agg #[.slice none 0 0], .int .i64 110]) ?_ rfl (.inr ⟨HP.out, rfl, ?_⟩)
    · rw [results_cell_tmp rfl]
      go_simp
    · rw [HBB.out]
      exact HBW.out.setCell (p := ⟨bb + 1, 0, none⟩) (show bb ≤ bb + 1 by omega) _
end Go.Proofs.YtkgjmiadgfcbnaaGreatDoor
