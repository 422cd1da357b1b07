/- units.Points and units.Text: code points with their places; UTF-8 of a text. -/
import Derived.RangeFuncNested
import Derived.RangeFuncBound
import Derived.RangeFuncCalls
import Derived.RangeFuncLeaves
import Derived.RangeFuncBox
import Derived.Shelf.Abstract
import Derived.OwnWalkIn
import Derived.TacticsInMore
import Derived.LoopNIn
import Derived.LoopIn
import Derived.Test.YtoonaljmdiideaaRune
import Derived.Test.YtoonaljmdiideaaOf
namespace Go.Proofs.Ytoonaljmdiideaa
set_option linter.unusedVariables false
open Go.RowKit Go.Shelf
attribute [local go_sem] Oper.semAt_some

theorem region_only {F : Fence} {n : Nat} {P : Program} {c : Code} {K : Act → World → Prop} {Q : Exit → Act → World → Prop} {a : Act} {w : World} (h : c.wpIn F n P (Exit.then K (fun _ _ _ => False)) a w) : c.wpIn F n P (Exit.then K Q) a w :=
  wpIn_mono h (fun e a w hq => by cases e <;> first | exact hq | exact hq.elim)
theorem region_cut {F : Fence} {n : Nat} {P : Program} {c : Code} {K : Act → World → Prop} {Q : Exit → Act → World → Prop} {a : Act} {w : World} (K' : Act → World → Prop) (h : c.wpIn F n P (Exit.then K' (fun _ _ _ => False)) a w) (hk : ∀ a' w', K' a' w' → K a' w') : c.wpIn F n P (Exit.then K Q) a w :=
  wpIn_mono h (fun e a w hq => by cases e <;> first | exact hk _ _ hq | exact hq.elim)
/-- A block stands. -/
def KBox (B : Nat) (W W' : World) : Prop := W'.heap[B]? = W.heap[B]?
theorem KBox.trans {B : Nat} {a b c : World} (h : KBox B a b) (k : KBox B b c) : KBox B a c := Eq.trans k h
theorem KBox.put {B n : Nat} (h : B < n) (W : World) (l : Nat) (o o' : Obj) (hl : n ≤ l) (_ : W.heap[l]? = some o) (_ : o.isCells = false) (_ : o.isWalk = false) : KBox B W (W.putObj l o') :=
  World.putObj_heap_other (by omega)
theorem Boxed.kbox {B : Nat} {W W' : World} {t : TypeId} {v : Value} (h : Boxed W B t v) (k : KBox B W W') : Boxed W' B t v := Eq.trans k h

/-- A number that is a code point. -/
def cap21 (r : Nat) : Nat := min r 1114111
theorem cap21_le (r : Nat) : cap21 r ≤ 1114111 := by unfold cap21; omega
theorem cap21_pt (s : ByteArray) (i : Nat) : cap21 (ptAt s i) = ptAt s i := by have := ptAt_le s i; unfold cap21; omega
/-- What a round is handed. -/
def encP (x : Nat × Nat) : Array Value := #[.int .i64 x.1, .int .i32 (cap21 x.2)]

theorem grown_drewN (w : World) (n : Nat) (row : Option Nat) : w.grownBy (w.drewN n) row := ⟨rfl, rfl, rfl, Nat.le_refl _, fun _ _ _ => rfl⟩

/-- The UTF-8 of code points. -/
def textC (l : List (Nat × Nat)) : List UInt8 := l.flatMap fun x => Lib.encodeRune (cap21 x.2 : Nat)
theorem textC_snoc (l : List (Nat × Nat)) (x : Nat × Nat) : textC (l ++ [x]) = textC l ++ Lib.encodeRune (cap21 x.2 : Nat) := by simp [textC]
theorem textC_length (l : List (Nat × Nat)) : (textC l).length ≤ 4 * l.length := by
  induction l with
  | nil => simp [textC]
  | cons x r ih =>
    have h4 := Lib.encodeRuneZ_length (cap21 x.2 : Nat)
    have : (textC (x :: r)).length = (Lib.encodeRune (cap21 x.2 : Nat)).length + (textC r).length := by simp [textC]
    rw [this]
    simp only [List.length_cons, Lib.encodeRune, List.length_map]
    omega
theorem pts_length (s : ByteArray) : (pts s).length ≤ s.size / 2 := by have := ptsFrom_length s (s.size / 2) 0; unfold pts; omega
theorem KeepsOthers.of_kept {B : Nat} {e : TypeId} {W W' : World} (h : Kept B e W W') : KeepsOthers W W' :=
  ⟨h.1.size, fun k o hk ho => h.2 k o hk (by simp) (fun c fz hc => by subst hc; simp [Obj.isCells] at ho)⟩
theorem Boxed.of_kept {B b : Nat} {e t : TypeId} {W W' : World} {v : Value} (hb : Boxed W b t v) (h : Kept B e W W') (hte : t ≠ e) : Boxed W' b t v :=
  h.2 b _ hb (by simp) (fun c fz hc => by cases hc; exact hte rfl)

theorem own_slice {w : World} {B : Nat} {e : TypeId} {sz : Nat} {v : Value} {n : Nat} {xs : List Value} (h : w.ownsRow B e sz v n xs) : ∃ a c, v = .slice a n c := by
  rcases h.2 with ⟨rfl, rfl⟩ | ⟨g, cap, cur, rfl, _⟩
  · exact ⟨_, _, rfl⟩
  · exact ⟨_, _, rfl⟩

end Go.Proofs.Ytoonaljmdiideaa
