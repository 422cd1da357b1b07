/- The document's check: which instructions can come to run: plain, and what lies in memory. -/
import Derived.Test.YtcagfjogfbddeaaDoorCrI
import Derived.Test.YtcagfjogfbddeaaDoorCrE
namespace Go.Proofs.YtcagfjogfbddeaaDoor
set_option linter.unusedVariables false
set_option linter.unusedSimpArgs false
open Go.RowKit Go.Shelf

/-- The row of those reached, an instruction in its box, and where it goes on. -/
structure Rs (W1 w : World) (br x6 n : Nat) (insA : Array Value) (R : Nat → Bool) (vt : Value) (L : List Int) : Prop where
  bl : Below W1.heap.size W1 w
  r : RowF w br 4 n (fun i => .bool (R i))
  ix : w.heap[x6]? = some (.cells insA 44 (0, 0))
  own : w.ownsRow W1.heap.size 3 1 vt L.length (zs L)
  ge : W1.heap.size ≤ br
section
variable {W1 w : World} {br x6 n : Nat} {insA : Array Value} {R : Nat → Bool} {vt : Value} {L : List Int}
theorem Rs.below {w' : World} (h : Rs W1 w br x6 n insA R vt L) (hb : Below w.heap.size w w') : Rs W1 w' br x6 n insA R vt L :=
  ⟨h.bl.trans (hb.mono h.bl.size), h.r.keep (hb.block _ h.r.lt), (hb.block _ (Array.getElem?_eq_some_iff.1 h.ix).1).trans h.ix, own_below h.own hb, h.ge⟩
theorem Rs.app {X w5 : World} {v5 : Value} {a : Int} (h : Rs W1 w br x6 n insA R vt L) (hX : Below w.heap.size w X) (o5 : w5.ownsRow W1.heap.size 3 1 v5 (L.length + 1) (zs L ++ [.int .i64 a])) (g5 : X.grownBy w5 vt.ownBlock) : Rs W1 w5 br x6 n insA R v5 (L ++ [a]) := by
  have hx := h.below hX
  refine ⟨hx.bl.grown g5 hx.bl.size (fun k hk => (hx.own.lt k hk).1), hx.r.keep (g5.block _ hx.r.lt (own_ne hx.own hx.r (by decide))), (g5.block _ (Array.getElem?_eq_some_iff.1 hx.ix).1 (blk_ne hx.own hx.ix (fun c fz e => by cases e))).trans hx.ix, ?_, h.ge⟩
  have e1 : (L ++ [a]).length = L.length + 1 := by simp
  have e2 : zs (L ++ [a]) = zs L ++ [.int .i64 a] := by simp [zs]
  rw [e1, e2]
  exact o5
theorem Rs.setR (h : Rs W1 w br x6 n insA R vt L) (k : Nat) : Rs W1 (w.setCell ⟨br, k, none⟩ (.bool true)) br x6 n insA (upd R k) vt L :=
  ⟨h.bl.setCell h.ge _, (h.r.set k (.bool true)).cong (fun i _ => by unfold upd; split <;> rfl), (Below.heap_setCell _ _ _ _ (h.r.ne h.ix (fun _ _ e => by cases e))).trans h.ix, own_set _ h.own (own_ne h.own h.r (by decide)), h.ge⟩
theorem Rs.again (h : Rs W1 w br x6 n insA R vt L) : Rs W1 w br x6 n insA R (.slice none 0 0) [] := ⟨h.bl, h.r, h.ix, World.ownsRow_nil _ _ _ _, h.ge⟩
end
/-- What a pass has come to. -/
structure Ps (f : Fun) (n j : Nat) (R0 : Nat → Bool) (m : Bool) (R : Nat → Bool) : Prop where
  z : R 0 = true
  s : ∀ i, i < n → R i = true → Rch f i
  c : cnt n R ≤ cnt n R0
  m1 : m = true → cnt n R < cnt n R0
  m0 : m = false → ∀ i, i < j → i < n → R i = true → ∀ k, k < n → Stp f i k → R k = true
/-- What has become of what an instruction goes on at. -/
structure Tk (n : Nat) (R : Nat → Bool) (m : Bool) (X : List Int) (R' : Nat → Bool) (m' : Bool) : Prop where
  r : ∀ i, i < n → (R' i = true ↔ R i = true ∨ (i : Int) ∈ X)
  z : R 0 = true → R' 0 = true
  c : cnt n R' ≤ cnt n R
  m1 : m' = true → m = true ∨ cnt n R' < cnt n R
  m0 : m' = false → m = false ∧ ∀ i, i < n → R' i = R i
theorem Tk.start {n : Nat} {R : Nat → Bool} {m : Bool} : Tk n R m [] R m := ⟨fun i _ => by simp, fun h => h, Nat.le_refl _, fun h => .inl h, fun h => ⟨h, fun _ _ => rfl⟩⟩
theorem Tk.skip {n : Nat} {R R' : Nat → Bool} {m m' : Bool} {X : List Int} {x : Int} (h : Tk n R m X R' m') (hx : ∀ i, i < n → (i : Int) = x → R' i = true) : Tk n R m (X ++ [x]) R' m' :=
  ⟨fun i hi => by
    rw [List.mem_append, List.mem_singleton]
    constructor
    · intro hr; exact ((h.r i hi).1 hr).imp id .inl
    · rintro (hr | hr | hr)
      · exact (h.r i hi).2 (.inl hr)
      · exact (h.r i hi).2 (.inr hr)
      · exact hx i hi hr, h.z, h.c, h.m1, h.m0⟩
theorem Tk.add {n : Nat} {R R' : Nat → Bool} {m m' : Bool} {X : List Int} {k : Nat} (h : Tk n R m X R' m') (hk : k < n) (hr : R' k = false) : Tk n R m (X ++ [(k : Int)]) (upd R' k) true := by
  have hc := cnt_upd R' k hr n
  rw [if_pos hk] at hc
  refine ⟨fun i hi => ?_, fun hz => ?_, by have := h.c; omega, fun _ => .inr (by have := h.c; omega), fun e => by cases e⟩
  · rw [List.mem_append, List.mem_singleton]
    unfold upd
    by_cases e : i = k
    · simp [e]
    · rw [if_neg e, h.r i hi, ← or_assoc]
      constructor
      · intro hh; exact .inl hh
      · rintro (hh | hh)
        · exact hh
        · exact absurd (by omega) e
  · unfold upd
    split
    · rfl
    · exact h.z hz
theorem Ps.skip {f : Fun} {n j : Nat} {R0 R : Nat → Bool} {m : Bool} (h : Ps f n j R0 m R) (hr : R j = false) : Ps f n (j + 1) R0 m R :=
  ⟨h.z, h.s, h.c, h.m1, fun hm i hi hn hri k hk hs => by
    rcases Nat.lt_or_ge i j with h1 | h1
    · exact h.m0 hm i h1 hn hri k hk hs
    · obtain rfl : i = j := by omega
      rw [hr] at hri; cases hri⟩
theorem Ps.go {f : Fun} {n j : Nat} {R0 R R' : Nat → Bool} {m m' : Bool} (hn : n = f.code.length) (h : Ps f n j R0 m R) (hj : j < n) (hr : R j = true) (t : Tk n R m (stL f j) R' m') : Ps f n (j + 1) R0 m' R' := by
  refine ⟨t.z h.z, fun i hi hri => ?_, Nat.le_trans t.c h.c, fun e => ?_, fun e i hi hni hri k hk hs => ?_⟩
  · rcases (t.r i hi).1 hri with hh | hh
    · exact h.s i hi hh
    · exact .step j i (h.s j hj hr) hh (by omega)
  · rcases t.m1 e with hm | hm
    · exact Nat.lt_of_le_of_lt t.c (h.m1 hm)
    · exact Nat.lt_of_lt_of_le hm h.c
  · obtain ⟨hm, hs'⟩ := t.m0 e
    rcases Nat.lt_or_ge i j with h1 | h1
    · rw [hs' i hni] at hri
      rw [hs' k hk]
      exact h.m0 hm i h1 hni hri k hk hs
    · obtain rfl : i = j := by omega
      exact (t.r k hk).2 (.inr hs)
theorem Ps.again {f : Fun} {n : Nat} {R0 R : Nat → Bool} {m : Bool} (h : Ps f n n R0 m R) : Ps f n 0 R false R :=
  ⟨h.z, h.s, Nat.le_refl _, (fun e => by cases e), (fun _ i hi => by omega)⟩
end Go.Proofs.YtcagfjogfbddeaaDoor
