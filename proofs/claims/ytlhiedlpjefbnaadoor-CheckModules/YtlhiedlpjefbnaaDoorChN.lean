/- Package check: Reach at the chapter's example: the targets, the walker made. -/
import Derived.Test.YtlhiedlpjefbnaaDoorChM
import Derived.Test.YtlhiedlpjefbnaaDoorShelf
import Derived.Test.YtlhiedlpjefbnaaDoorKRng2
namespace Go.Proofs.YtlhiedlpjefbnaaDoor
set_option linter.unusedVariables false
set_option linter.unusedSimpArgs false
open Go.RowKit Go.Shelf

/-- The function of one instruction, Load. -/
def exF : Fun := ⟨⟨#[]⟩, 0, false, false, 1, [], [⟨0, 0, 0, 0, 0⟩], [], []⟩
def exC (ya : Option Addr) (yc : Nat) : Array Value := #[.string ⟨#[]⟩, .int .i64 0, .bool false, .bool false, .int .i64 1, .slice none 0 0, .slice ya 1 yc, .slice none 0 0, .slice none 0 0]
set_option maxHeartbeats 1000000 in
set_option maxRecDepth 100000 in
theorem targets_ex (g o yc : Nat) (w : World) (hl : LaidL w) (h : ∀ k, k < 5 → w.cell? ⟨g, o + k, none⟩ = some (.int .i64 0)) :
    Calls Tryd.prog 12 #[.agg (exC (some ⟨g, o, none⟩) yc)] w fun e w' => ∃ ba, e = .returned (.func (.func 29) #[] #[.pointer (some ⟨ba, 0, none⟩)]) ∧ w'.heap[ba]? = some (.cells #[.slice none 0 0] 68 (0, 0)) ∧ Below w.heap.size w w' := by
  have h0 := h 0 (by omega)
  have h1 := h 1 (by omega)
  have h2 := h 2 (by omega)
  have h3 := h 3 (by omega)
  have h4 := h 4 (by omega)
  simp only [Nat.add_zero] at h0
  have HOP := Hid.mk' (fun W (hW : LaidL W) => operandsZ 0 W (Hid.mk' hW))
  have hmf : ∀ (fn : Fn) (first cap : Array Value) (w : World), (Instr.makeFunc fn first cap).run Tryd.prog w = .ok (.func fn first cap) w := fun _ _ _ _ => rfl
  have HLD := Hid.mk' hl
  unfold exC
  clear h
  have HIX : Hid (∀ W, Calls Tryd.prog 26 #[.string (Sb (letz 0)), .int .u8 116] W fun e w' => e = .returned (.int .i64 (-1)) ∧ w' = W) := Hid.mk' (fun W => Tryd.strings_IndexByte (Sb (letz 0)) 116 W)
  obtain ⟨S, hS⟩ : ∃ S, Sb (letz 0) = S := ⟨_, rfl⟩
  rw [hS] at HIX HOP
  clear hS
  obtain ⟨W1, hW1⟩ : ∃ W1, (w.alloc (.cells #[.string ⟨#[]⟩, .int .i64 0, .bool false, .bool false, .int .i64 1, .slice none 0 0, .slice (some ⟨g, o, none⟩) 1 yc, .slice none 0 0, .slice none 0 0] 38)).alloc (.cells #[.slice none 0 0] 68) = W1 := ⟨_, rfl⟩
  have b1 : Below w.heap.size w W1 := by rw [← hW1]; exact (lay_below).alloc (by simp) _
  have q1 : W1.heap[w.heap.size + 1]? = some (.cells #[.slice none 0 0] 68 (0, 0)) := by
    rw [← hW1]
    have := @box_new (w.alloc (.cells #[.string ⟨#[]⟩, .int .i64 0, .bool false, .bool false, .int .i64 1, .slice none 0 0, .slice (some ⟨g, o, none⟩) 1 yc, .slice none 0 0, .slice none 0 0] 38)) #[.slice none 0 0] 68
    rw [World.size_alloc] at this
    exact this
  have HL1 := Hid.mk' (hl.below' b1)
  have HB1 := Hid.mk' b1
  have HQ1 := Hid.mk' q1
  have gl : g < w.heap.size := World.block_lt_of_cell? w _ h0
  have k0 := (b1.cell (p := ⟨g, o, none⟩) gl).trans h0
  have k1 := (b1.cell (p := ⟨g, o + 1, none⟩) gl).trans h1
  have k2 := (b1.cell (p := ⟨g, o + 2, none⟩) gl).trans h2
  have k3 := (b1.cell (p := ⟨g, o + 3, none⟩) gl).trans h3
  have k4 := (b1.cell (p := ⟨g, o + 4, none⟩) gl).trans h4
  have HH := Hid.mk' hW1
  clear hl b1 q1 gl h0 h1 h2 h3 h4 hW1
  go_enter Tryd.func12, Tryd.ntmps12
  go_wp2_with fail
  rw [HH.out]
  refine wp_loop_rounds 2 ?_
  rw [rounds_succ]
  go_wp2_with (first
    | (go_at_call 27; refine (HOP.out _ (HL1.out.below' (by first | exact Below.refl _ _ | exact lay_below))).mono ?_; rintro e w2 ⟨rfl, hw2⟩; rw [hw2]; clear hw2 w2)
    | (go_at_call 26; refine (HIX.out _).mono ?_; rintro e w2 ⟨rfl, hw2⟩; rw [hw2]; clear hw2 w2))
  rw [rounds_succ]
  go_wp2
  go_ret
  refine ⟨w.heap.size + 1, rfl, ?_, ?_⟩
  · rw [(lay_below).block _ (by rw [← HH.out]; simp)]
    exact HQ1.out
  · exact HB1.out.trans ((lay_below).mono HB1.out.size)
set_option maxHeartbeats 1000000 in
set_option maxRecDepth 100000 in
theorem targets_none (v : Value) (ba : Nat) (w : World) (h : w.heap[ba]? = some (.cells #[.slice none 0 0] 68 (0, 0))) : Calls Tryd.prog 29 #[v, .pointer (some ⟨ba, 0, none⟩)] w fun e w' => (∃ v, e = .returned v) ∧ w' = w := by
  have c0 : w.cell? ⟨ba, 0, none⟩ = some (.slice none 0 0) := (cell_row _ _ 0 _ _ h).trans rfl
  clear h
  go_enter Tryd.func29, Tryd.ntmps29
  go_wp2_with fail
  refine wp_loop_rounds 1 ?_
  rw [rounds_succ]
  go_wp2
  go_end0
  exact ⟨⟨_, rfl⟩, rfl⟩
theorem targets_seq (n ba Bk : Nat) (w : World) (h : w.heap[ba]? = some (.cells #[.slice none 0 0] 68 (0, 0))) :
    SeqO (α := Unit) n Tryd.prog 29 #[.pointer (some ⟨ba, 0, none⟩)] (fun _ => #[.int .i64 0, .int .i64 0]) Bk (fun xs => xs = []) (fun _ => False) 0 w := by
  intro l J Jx W hW hJ hJx _ h0
  refine callsIn_wide.2 ((targets_none _ ba W ((hW.block ba (Array.getElem?_eq_some_iff.1 h).1).trans h)).mono ?_)
  rintro e w' ⟨he, rfl⟩
  exact ⟨he, .inl ⟨[], rfl, h0⟩⟩
end Go.Proofs.YtlhiedlpjefbnaaDoor
