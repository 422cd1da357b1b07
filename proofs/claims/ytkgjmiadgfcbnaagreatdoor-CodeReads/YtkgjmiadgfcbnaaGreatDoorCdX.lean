/- The document's reader of modules: what is left of a function; its state in memory. -/
import Derived.Test.YtkgjmiadgfcbnaaGreatDoorCdW
namespace Go.Proofs.YtkgjmiadgfcbnaaGreatDoor
set_option linter.unusedVariables false
set_option linter.unusedSimpArgs false
open Go.RowKit

/-- What is still to be read, or that something was wrong. -/
def Tc (s0 s : Option (List UInt8)) (K : List UInt8 → Option (Fun × List UInt8)) : Prop := (s = none ∧ aft funP s0 = none) ∨ ∃ R, s = some R ∧ aft funP s0 = K R
theorem Tc.step {α : Type} {s0 s s' : Option (List UInt8)} {p : List UInt8 → Option (α × List UInt8)} {K : List UInt8 → Option (Fun × List UInt8)} {K' : α → List UInt8 → Option (Fun × List UInt8)} {x : α} (h : Tc s0 s K) (hK : ∀ R, K R = (p R).bind fun x => K' x.1 x.2) (hA : After p s x s') : Tc s0 s' (K' x) := by
  rcases h with ⟨rfl, h⟩ | ⟨R, rfl, h⟩
  · rcases hA with ⟨L, h1, h2⟩ | ⟨h1, h2⟩
    · cases h1
    · exact .inl ⟨h2, h⟩
  · rw [hK] at h
    rcases hA with ⟨L, h1, h2⟩ | ⟨h1, h2⟩
    · have h1' : p R = some (x, L) := h1
      exact .inr ⟨L, h2, by rw [h, h1']; rfl⟩
    · have h1' : p R = none := h1
      exact .inl ⟨h2, by rw [h, h1']; rfl⟩
theorem Tc.none {s0 : Option (List UInt8)} {K K' : List UInt8 → Option (Fun × List UInt8)} (h : Tc s0 none K) : Tc s0 none K' := by
  rcases h with h | ⟨R, h, _⟩
  · exact .inl h
  · cases h
theorem Tc.same {s0 s : Option (List UInt8)} {K K' : List UInt8 → Option (Fun × List UInt8)} (h : Tc s0 s K) (e : ∀ R, K R = K' R) : Tc s0 s K' := by
  rcases h with h | ⟨R, h, h2⟩
  · exact .inl h
  · exact .inr ⟨R, h, by rw [← e]; exact h2⟩
theorem Tc.start {L0 : Option (List UInt8)} : Tc L0 L0 funP := by
  cases L0 with
  | none => exact .inl ⟨rfl, rfl⟩
  | some L => exact .inr ⟨L, rfl, rfl⟩
def rest8 (f : Fun) (R : List UInt8) : Option (Fun × List UInt8) := (lstP capP R).bind fun i => some ({ f with caps := i.1 }, i.2)
def rest7 (f : Fun) (R : List UInt8) : Option (Fun × List UInt8) := (lstP triP R).bind fun i => rest8 { f with tries := i.1 } i.2
def rest6 (f : Fun) (R : List UInt8) : Option (Fun × List UInt8) := (lstP insP R).bind fun i => rest7 { f with code := i.1 } i.2
def rest5 (f : Fun) (R : List UInt8) : Option (Fun × List UInt8) := (lstP constP R).bind fun i => rest6 { f with consts := i.1 } i.2
def rest4 (a : ByteArray) (b : Nat) (c d : Bool) (R : List UInt8) : Option (Fun × List UInt8) := (numP R).bind fun e => rest5 ⟨a, b, c, d, e.1, [], [], [], []⟩ e.2
def rest3 (a : ByteArray) (b : Nat) (c : Bool) (R : List UInt8) : Option (Fun × List UInt8) := (flagP R).bind fun d => rest4 a b c d.1 d.2
def rest2 (a : ByteArray) (b : Nat) (R : List UInt8) : Option (Fun × List UInt8) := (flagP R).bind fun c => rest3 a b c.1 c.2
def rest1 (a : ByteArray) (R : List UInt8) : Option (Fun × List UInt8) := (numP R).bind fun b => rest2 a b.1 b.2
theorem fun_rest (L : List UInt8) : funP L = (textP L).bind fun a => rest1 a.1 a.2 := by
  unfold funP rest1 rest2 rest3 rest4 rest5 rest6 rest7 rest8
  congr 1; funext a
  congr 1; funext b
  congr 1; funext c
  congr 1; funext d
  congr 1; funext e
  congr 1; funext f
  congr 1; funext g
  congr 1; funext h
  cases lstP capP h.2 <;> rfl
/-- A loop's rest. -/
def loopK {α : Type} (p : List UInt8 → Option (α × List UInt8)) (n : Nat) (els : List α) (K : List α → List UInt8 → Option (Fun × List UInt8)) (R : List UInt8) : Option (Fun × List UInt8) := (lst p n R).bind fun y => K (els ++ y.1) y.2
theorem loopK_step {α : Type} (p : List UInt8 → Option (α × List UInt8)) (n : Nat) (els : List α) (K : List α → List UInt8 → Option (Fun × List UInt8)) (R : List UInt8) : loopK p (n + 1) els K R = (p R).bind fun x => loopK p n (els ++ [x.1]) K x.2 := by
  unfold loopK
  rw [lst_snoc]
  cases p R with
  | none => rfl
  | some x =>
    simp only [Option.bind_some]
    cases lst p n x.2 with
    | none => rfl
    | some y => simp
theorem loopK_zero {α : Type} (p : List UInt8 → Option (α × List UInt8)) (els : List α) (K : List α → List UInt8 → Option (Fun × List UInt8)) (R : List UInt8) : loopK p 0 els K R = K els R := by
  unfold loopK
  simp [lst]
theorem loopK_start {α : Type} (p : List UInt8 → Option (α × List UInt8)) (K : List α → List UInt8 → Option (Fun × List UInt8)) (R : List UInt8) : ((lstP p R).bind fun i => K i.1 i.2) = (numP R).bind fun x => loopK p x.1 [] K x.2 := by
  unfold loopK lstP
  cases numP R with
  | none => rfl
  | some x =>
    simp only [Option.bind_some]
    cases lst p x.1 x.2 with
    | none => rfl
    | some y => simp
/-- Few bytes are left. -/
def Few (s : Option (List UInt8)) : Prop := ∀ R, s = some R → R.length ≤ 5000
theorem Few.step {α : Type} {p : List UInt8 → Option (α × List UInt8)} {s s' : Option (List UInt8)} {x : α} (h : Few s) (hp : Eats p) (hA : After p s x s') : Few s' := fun R e => by
  rcases hA with ⟨L, h1, h2⟩ | ⟨h1, h2⟩
  · rw [h2] at e
    cases e
    cases s with
    | none => cases h1
    | some L0 =>
      have := hp _ _ _ h1
      have := h L0 rfl
      omega
  · rw [h2] at e
    cases e
/-- The number that num tells is no int's overflow. -/
theorem Few.num {s s' : Option (List UInt8)} {n : Nat} (hA : After numP s n s') : ∀ R, s' = some R → n < 9223372036854775808 := fun R e => by
  rcases hA with ⟨L, h1, h2⟩ | ⟨h1, h2⟩
  · cases s with
    | none => cases h1
    | some L0 => exact numP_lt h1
  · rw [h2] at e
    cases e
/-- The document's function under way. -/
structure Fs (w : World) (rb g bx bf : Nat) (f : Fun) (x y z u : Value) (s : Option (List UInt8)) (wr : World) : Prop where
  fb : wr.heap[bf]? = some (.cells (fcs f x y z u).toArray 42 (0, 0))
  xb : wr.heap[bx]? = some (.cells #[.string ⟨#[]⟩, .int .i64 0, .bool false, .bool false, .int .i64 0, .slice none 0 0, .slice none 0 0, .slice none 0 0, .slice none 0 0] 42 (0, 0))
  rows : Rows wr (bf + 1) f x y z u
  st : St wr rb g s
  fr : Fr rb w wr
/-- A method of the reader's. -/
theorem Fs.read {w wr wr' : World} {rb g bx bf : Nat} {f : Fun} {x y z u : Value} {s s' : Option (List UInt8)} (h : Fs w rb g bx bf f x y z u s wr) (hF : Fr rb wr wr') (hS : St wr' rb g s') (h1 : bf ≠ rb) (h2 : bx ≠ rb) (h3 : rb < bf + 1) : Fs w rb g bx bf f x y z u s' wr' :=
  ⟨hF.same _ _ h1 h.fb, hF.same _ _ h2 h.xb, h.rows.fr hF h3, hS, h.fr.trans hF⟩
theorem Fs.lays {w wr wr' : World} {rb g bx bf : Nat} {f : Fun} {x y z u : Value} {s : Option (List UInt8)} (h : Fs w rb g bx bf f x y z u s wr) (hb : Below wr.heap.size wr wr') : Fs w rb g bx bf f x y z u s wr' :=
  ⟨(hb.block bf (Array.getElem?_eq_some_iff.1 h.fb).1).trans h.fb, (hb.block bx (Array.getElem?_eq_some_iff.1 h.xb).1).trans h.xb, h.rows.below hb, h.st.below hb, h.fr.trans (Fr.of_below hb)⟩
theorem Fs.cells {w wr : World} {rb g bx bf : Nat} {f : Fun} {x y z u : Value} {s : Option (List UInt8)} (h : Fs w rb g bx bf f x y z u s wr) :
    wr.cell? ⟨bf, 0, none⟩ = some (.string f.name) ∧ wr.cell? ⟨bf, 1, none⟩ = some (.int .i64 f.params) ∧ wr.cell? ⟨bf, 2, none⟩ = some (.bool f.rest) ∧ wr.cell? ⟨bf, 3, none⟩ = some (.bool f.arrow) ∧ wr.cell? ⟨bf, 4, none⟩ = some (.int .i64 f.regs) ∧ wr.cell? ⟨bf, 5, none⟩ = some x ∧ wr.cell? ⟨bf, 6, none⟩ = some y ∧ wr.cell? ⟨bf, 7, none⟩ = some z ∧ wr.cell? ⟨bf, 8, none⟩ = some u ∧ ∀ j, wr.frozen? ⟨bf, j, none⟩ = false :=
  ⟨(cell_row _ bf 0 _ _ h.fb).trans rfl, (cell_row _ bf 1 _ _ h.fb).trans rfl, (cell_row _ bf 2 _ _ h.fb).trans rfl, (cell_row _ bf 3 _ _ h.fb).trans rfl, (cell_row _ bf 4 _ _ h.fb).trans rfl, (cell_row _ bf 5 _ _ h.fb).trans rfl, (cell_row _ bf 6 _ _ h.fb).trans rfl, (cell_row _ bf 7 _ _ h.fb).trans rfl, (cell_row _ bf 8 _ _ h.fb).trans rfl, thaw_row _ _ _ _ h.fb⟩
theorem Fs.put {w wr : World} {rb g bx bf : Nat} {f f' : Fun} {x y z u x' y' z' u' : Value} {s : Option (List UInt8)} (h : Fs w rb g bx bf f x y z u s wr) (k : Nat) (v : Value) (hc : (fcs f x y z u).toArray.setIfInBounds k v = (fcs f' x' y' z' u').toArray) (hr : Rows wr (bf + 1) f' x' y' z' u') (h1 : rb < bf) (h2 : g < bf) (h3 : bx < bf) (h4 : w.heap.size ≤ bf) : Fs w rb g bx bf f' x' y' z' u' s (wr.setCell ⟨bf, k, none⟩ v) :=
  ⟨(set_blk _ h.fb).trans (by rw [hc]), (Below.heap_setCell _ _ _ _ (show bx ≠ bf by omega)).trans h.xb, hr.setNew (by omega) v, h.st.setNew v (by omega) (by omega), h.fr.setNew h4 v⟩
end Go.Proofs.YtkgjmiadgfcbnaaGreatDoor
