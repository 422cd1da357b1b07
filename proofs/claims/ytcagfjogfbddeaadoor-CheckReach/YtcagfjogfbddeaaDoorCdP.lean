/- Modules as bytes, plain: what is read of a list of bytes. -/
import Derived.Test.YtcagfjogfbddeaaDoorSb
import Derived.Test.YtcagfjogfbddeaaDoorMf
namespace Go.Proofs.YtcagfjogfbddeaaDoor
set_option linter.unusedVariables false
open Go.RowKit

/-- A number, seven bits a byte: k bytes more may come, i came, which are worth s. -/
def numF : Nat → Nat → Nat → List UInt8 → Option (Nat × List UInt8)
  | 0, _, _, _ => none
  | _ + 1, _, _, [] => none
  | k + 1, i, s, b :: r => if b.toNat < 128 then (if b.toNat = 0 ∧ i ≠ 0 then none else some (s + b.toNat * 128 ^ i, r)) else numF k (i + 1) (s + (b.toNat - 128) * 128 ^ i) r
def numP (L : List UInt8) : Option (Nat × List UInt8) := numF 9 0 0 L
theorem numF_len : ∀ (k i s : Nat) (L : List UInt8) (n : Nat) (R : List UInt8), numF k i s L = some (n, R) → R.length < L.length
  | 0, _, _, _, _, _, h => by simp [numF] at h
  | _ + 1, _, _, [], _, _, h => by simp [numF] at h
  | k + 1, i, s, b :: r, n, R, h => by
    unfold numF at h
    split at h
    · split at h
      · simp at h
      · simp at h
        rw [h.2]
        simp
    · have := numF_len k _ _ r n R h
      simp
      omega
theorem numF_lt : ∀ (k i s : Nat) (L : List UInt8) (n : Nat) (R : List UInt8), i + k ≤ 9 → s < 128 ^ i → numF k i s L = some (n, R) → n < 128 ^ 9
  | 0, _, _, _, _, _, _, _, h => by simp [numF] at h
  | _ + 1, _, _, [], _, _, _, _, h => by simp [numF] at h
  | k + 1, i, s, b :: r, n, R, hi, hs, h => by
    unfold numF at h
    have hp : 128 ^ (i + 1) = 128 ^ i * 128 := Nat.pow_succ ..
    have hm : 128 ^ (i + 1) ≤ 128 ^ 9 := Nat.pow_le_pow_right (by omega) (by omega)
    have hb := UInt8.toNat_lt b
    split at h
    · rename_i h1
      split at h
      · simp at h
      · simp at h
        rw [← h.1]
        have : b.toNat * 128 ^ i ≤ 127 * 128 ^ i := Nat.mul_le_mul_right _ (by omega)
        omega
    · refine numF_lt k (i + 1) _ r n R (by omega) ?_ h
      have : (b.toNat - 128) * 128 ^ i ≤ 127 * 128 ^ i := Nat.mul_le_mul_right _ (by omega)
      omega
theorem numP_len {L R : List UInt8} {n : Nat} (h : numP L = some (n, R)) : R.length < L.length := numF_len _ _ _ _ _ _ h
theorem numP_lt {L R : List UInt8} {n : Nat} (h : numP L = some (n, R)) : n < 9223372036854775808 := numF_lt _ _ _ _ _ _ (by omega) (by simp) h

def flagP (L : List UInt8) : Option (Bool × List UInt8) := (numP L).bind fun x => if x.1 ≤ 1 then some (decide (x.1 = 1), x.2) else none
def textP (L : List UInt8) : Option (ByteArray × List UInt8) := (numP L).bind fun x => if x.1 % 2 = 0 ∧ x.1 ≤ x.2.length then some (Sb (x.2.take x.1), x.2.drop x.1) else none
/-- The word of some bytes. -/
def wordP (u : Nat) (l : List UInt8) : Nat := l.foldl (fun u b => u * 256 + b.toNat) u
def bitsP (L : List UInt8) : Option (Nat × List UInt8) := if 8 ≤ L.length then (if Fl.nan (wordP 0 (L.take 8)) ∧ wordP 0 (L.take 8) ≠ 9221120237041090560 then none else some (wordP 0 (L.take 8), L.drop 8)) else none

/-- A value. -/
structure Cst where
  kind : Int
  num : Nat
  str : ByteArray
  ref : Int
def Cst.cs (c : Cst) : List Value := [.int .i64 c.kind, .float .f64 c.num, .string c.str, .int .i64 c.ref]
def constP (L : List UInt8) : Option (Cst × List UInt8) := (numP L).bind fun x => if x.1 = 0 then (bitsP x.2).map (fun y => (⟨3, y.1, ⟨#[]⟩, 0⟩, y.2)) else if x.1 = 1 then (textP x.2).map (fun y => (⟨4, 0, y.1, 0⟩, y.2)) else none
/-- So many of a kind. -/
def lst {α : Type} (p : List UInt8 → Option (α × List UInt8)) : Nat → List UInt8 → Option (List α × List UInt8)
  | 0, L => some ([], L)
  | n + 1, L => (p L).bind fun x => (lst p n x.2).map fun y => (x.1 :: y.1, y.2)
def lstP {α : Type} (p : List UInt8 → Option (α × List UInt8)) (L : List UInt8) : Option (List α × List UInt8) := (numP L).bind fun x => lst p x.1 x.2

/-- An instruction. -/
structure Ins where
  op : Int
  a : Int
  b : Int
  c : Int
  d : Int
def Ins.cs (i : Ins) : List Value := [.int .i64 i.op, .int .i64 i.a, .int .i64 i.b, .int .i64 i.c, .int .i64 i.d]
/-- The letters of an instruction's operands. -/
def lets : List (List UInt8) := [[114, 110], [114, 107], [114, 114], [114], [114], [114, 115], [114, 115], [115, 114], [114, 114], [114, 114], [114, 114], [114, 117], [117, 114], [114, 115], [115], [114, 102], [116], [114, 116], [114, 116], [114, 110, 116], [114], [114], [114], [114, 114], [114, 114], [114, 114, 114], [114, 114, 114], [114, 114, 114], [114, 114, 114], [114, 114, 114], [114, 114, 114], [114, 114], [114, 114, 114, 114], [114, 114, 114], [114], [114], [114, 114], [114, 114, 116], [114, 114], [114, 114, 116], [114], [114], [114, 114], [114], [114, 114], [114, 114], [114, 114], [114, 114], [114, 114], [114, 114, 114]]
def letsOf (op : Nat) : List UInt8 := lets.getD (min op 49) []
theorem lets_all : ∀ op, ∃ a, ((letsOf op = [a]) ∨ (∃ b, letsOf op = [a, b]) ∨ (∃ b c, letsOf op = [a, b, c]) ∨ (∃ b c d, letsOf op = [a, b, c, d])) := by
  intro op
  have key : ∀ k, k < 50 → ∃ a, ((lets.getD k [] = [a]) ∨ (∃ b, lets.getD k [] = [a, b]) ∨ (∃ b c, lets.getD k [] = [a, b, c]) ∨ (∃ b c d, lets.getD k [] = [a, b, c, d])) := by
    intro k hk
    have : k = 0 ∨ k = 1 ∨ k = 2 ∨ k = 3 ∨ k = 4 ∨ k = 5 ∨ k = 6 ∨ k = 7 ∨ k = 8 ∨ k = 9 ∨ k = 10 ∨ k = 11 ∨ k = 12 ∨ k = 13 ∨ k = 14 ∨ k = 15 ∨ k = 16 ∨ k = 17 ∨ k = 18 ∨ k = 19 ∨ k = 20 ∨ k = 21 ∨ k = 22 ∨ k = 23 ∨ k = 24 ∨ k = 25 ∨ k = 26 ∨ k = 27 ∨ k = 28 ∨ k = 29 ∨ k = 30 ∨ k = 31 ∨ k = 32 ∨ k = 33 ∨ k = 34 ∨ k = 35 ∨ k = 36 ∨ k = 37 ∨ k = 38 ∨ k = 39 ∨ k = 40 ∨ k = 41 ∨ k = 42 ∨ k = 43 ∨ k = 44 ∨ k = 45 ∨ k = 46 ∨ k = 47 ∨ k = 48 ∨ k = 49 := by omega
    rcases this with h | h | h | h | h | h | h | h | h | h | h | h | h | h | h | h | h | h | h | h | h | h | h | h | h | h | h | h | h | h | h | h | h | h | h | h | h | h | h | h | h | h | h | h | h | h | h | h | h | h <;> subst h <;>
      first
        | exact ⟨_, .inl rfl⟩
        | exact ⟨_, .inr (.inl ⟨_, rfl⟩)⟩
        | exact ⟨_, .inr (.inr (.inl ⟨_, _, rfl⟩))⟩
        | exact ⟨_, .inr (.inr (.inr ⟨_, _, _, rfl⟩))⟩
  exact key _ (by omega)
def insOf (op : Nat) (l : List Nat) : Ins := ⟨op, (l.getD 0 0 : Nat), (l.getD 1 0 : Nat), (l.getD 2 0 : Nat), (l.getD 3 0 : Nat)⟩
def insP (L : List UInt8) : Option (Ins × List UInt8) := (numP L).bind fun x => if x.1 ≤ 70 then (lst numP (letsOf x.1).length x.2).map (fun y => (insOf x.1 y.1, y.2)) else none
structure Tri where
  fr : Int
  to : Int
  at' : Int
  reg : Int
def Tri.cs (t : Tri) : List Value := [.int .i64 t.fr, .int .i64 t.to, .int .i64 t.at', .int .i64 t.reg]
def triP (L : List UInt8) : Option (Tri × List UInt8) := (numP L).bind fun x => (numP x.2).bind fun y => (numP y.2).bind fun z => (numP z.2).map fun u => (⟨x.1, y.1, z.1, u.1⟩, u.2)
structure Cap where
  up : Bool
  n : Int
def Cap.cs (c : Cap) : List Value := [.bool c.up, .int .i64 c.n]
def capP (L : List UInt8) : Option (Cap × List UInt8) := (flagP L).bind fun x => (numP x.2).map fun y => (⟨x.1, y.1⟩, y.2)
structure Fun where
  name : ByteArray
  params : Int
  rest : Bool
  arrow : Bool
  regs : Int
  consts : List Cst
  code : List Ins
  tries : List Tri
  caps : List Cap
def funP (L : List UInt8) : Option (Fun × List UInt8) :=
  (textP L).bind fun a => (numP a.2).bind fun b => (flagP b.2).bind fun c => (flagP c.2).bind fun d => (numP d.2).bind fun e =>
  (lstP constP e.2).bind fun f => (lstP insP f.2).bind fun g => (lstP triP g.2).bind fun h => (lstP capP h.2).map fun i =>
  (⟨a.1, b.1, c.1, d.1, e.1, f.1, g.1, h.1, i.1⟩, i.2)
def magic : List UInt8 := [76, 78, 84, 49]
def modP (L : List UInt8) : Option (List Fun) := if L.take 4 = magic then (lstP funP (L.drop 4)).bind fun x => if x.1 ≠ [] ∧ x.2 = [] then some x.1 else none else none

/-- What is read has at least a byte. -/
def Eats {α : Type} (p : List UInt8 → Option (α × List UInt8)) : Prop := ∀ L x R, p L = some (x, R) → R.length < L.length
theorem eats_num : Eats numP := fun L x R h => numP_len h
theorem eats_flag : Eats flagP := fun L x R h => by
  unfold flagP at h
  obtain ⟨y, hy, h⟩ := Option.bind_eq_some_iff.1 h
  split at h
  · simp at h
    have := numP_len (n := y.1) (R := y.2) hy
    rw [← h.2]
    exact this
  · simp at h
theorem eats_text : Eats textP := fun L x R h => by
  unfold textP at h
  obtain ⟨y, hy, h⟩ := Option.bind_eq_some_iff.1 h
  split at h
  · simp at h
    have := numP_len (n := y.1) (R := y.2) hy
    rw [← h.2]
    simp
    omega
  · simp at h
theorem eats_bits : Eats bitsP := fun L x R h => by
  unfold bitsP at h
  split at h
  · split at h
    · simp at h
    · simp at h
      rw [← h.2]
      simp
      omega
  · simp at h
theorem eats_const : Eats constP := fun L x R h => by
  unfold constP at h
  obtain ⟨y, hy, h⟩ := Option.bind_eq_some_iff.1 h
  have h1 := numP_len (n := y.1) (R := y.2) hy
  split at h
  · obtain ⟨z, hz, h⟩ := Option.map_eq_some_iff.1 h
    have h2 := eats_bits _ z.1 z.2 hz
    simp at h
    rw [← h.2]
    omega
  · split at h
    · obtain ⟨z, hz, h⟩ := Option.map_eq_some_iff.1 h
      have h2 := eats_text _ z.1 z.2 hz
      simp at h
      rw [← h.2]
      omega
    · simp at h
theorem lst_len {α : Type} {p : List UInt8 → Option (α × List UInt8)} (hp : Eats p) : ∀ (n : Nat) (L : List UInt8) (xs : List α) (R : List UInt8), lst p n L = some (xs, R) → R.length + xs.length ≤ L.length
  | 0, L, xs, R, h => by simp [lst] at h; rw [h.1, h.2]; simp
  | n + 1, L, xs, R, h => by
    unfold lst at h
    obtain ⟨y, hy, h⟩ := Option.bind_eq_some_iff.1 h
    obtain ⟨z, hz, h⟩ := Option.map_eq_some_iff.1 h
    have h1 := hp _ y.1 y.2 hy
    have h2 := lst_len hp n y.2 z.1 z.2 hz
    simp at h
    rw [← h.1, ← h.2]
    simp
    omega
theorem eats_ins : Eats insP := fun L x R h => by
  unfold insP at h
  obtain ⟨y, hy, h⟩ := Option.bind_eq_some_iff.1 h
  have h1 := numP_len (n := y.1) (R := y.2) hy
  split at h
  · obtain ⟨z, hz, h⟩ := Option.map_eq_some_iff.1 h
    have h2 := lst_len eats_num _ _ z.1 z.2 hz
    simp at h
    rw [← h.2]
    omega
  · simp at h
theorem eats_tri : Eats triP := fun L x R h => by
  unfold triP at h
  obtain ⟨y, hy, h⟩ := Option.bind_eq_some_iff.1 h
  obtain ⟨z, hz, h⟩ := Option.bind_eq_some_iff.1 h
  obtain ⟨u, hu, h⟩ := Option.bind_eq_some_iff.1 h
  obtain ⟨v, hv, h⟩ := Option.map_eq_some_iff.1 h
  have h1 := numP_len (n := y.1) (R := y.2) hy
  have h2 := numP_len (n := z.1) (R := z.2) hz
  have h3 := numP_len (n := u.1) (R := u.2) hu
  have h4 := numP_len (n := v.1) (R := v.2) hv
  simp at h
  rw [← h.2]
  omega
theorem eats_cap : Eats capP := fun L x R h => by
  unfold capP at h
  obtain ⟨y, hy, h⟩ := Option.bind_eq_some_iff.1 h
  obtain ⟨z, hz, h⟩ := Option.map_eq_some_iff.1 h
  have h1 := eats_flag _ y.1 y.2 hy
  have h2 := numP_len (n := z.1) (R := z.2) hz
  simp at h
  rw [← h.2]
  omega
theorem lstP_len {α : Type} {p : List UInt8 → Option (α × List UInt8)} (hp : Eats p) : Eats (lstP p) := fun L x R h => by
  unfold lstP at h
  obtain ⟨y, hy, h⟩ := Option.bind_eq_some_iff.1 h
  have h1 := numP_len (n := y.1) (R := y.2) hy
  have h2 := lst_len hp _ _ _ _ h
  omega
theorem eats_fun : Eats funP := fun L x R h => by
  unfold funP at h
  obtain ⟨a, ha, h⟩ := Option.bind_eq_some_iff.1 h
  obtain ⟨b, hb, h⟩ := Option.bind_eq_some_iff.1 h
  obtain ⟨c, hc, h⟩ := Option.bind_eq_some_iff.1 h
  obtain ⟨d, hd, h⟩ := Option.bind_eq_some_iff.1 h
  obtain ⟨e, he, h⟩ := Option.bind_eq_some_iff.1 h
  obtain ⟨f, hf, h⟩ := Option.bind_eq_some_iff.1 h
  obtain ⟨g, hg, h⟩ := Option.bind_eq_some_iff.1 h
  obtain ⟨i, hi, h⟩ := Option.bind_eq_some_iff.1 h
  obtain ⟨j, hj, h⟩ := Option.map_eq_some_iff.1 h
  have h1 := eats_text _ a.1 a.2 ha
  have h2 := eats_num _ b.1 b.2 hb
  have h3 := eats_flag _ c.1 c.2 hc
  have h4 := eats_flag _ d.1 d.2 hd
  have h5 := eats_num _ e.1 e.2 he
  have h6 := lstP_len eats_const _ f.1 f.2 hf
  have h7 := lstP_len eats_ins _ g.1 g.2 hg
  have h8 := lstP_len eats_tri _ i.1 i.2 hi
  have h9 := lstP_len eats_cap _ j.1 j.2 hj
  simp at h
  rw [← h.2]
  omega
/-- A list as it grows. -/
theorem lst_snoc {α : Type} (p : List UInt8 → Option (α × List UInt8)) (n : Nat) (L : List UInt8) : lst p (n + 1) L = (p L).bind fun x => (lst p n x.2).map fun y => (x.1 :: y.1, y.2) := rfl
theorem wordP_lt : ∀ (l : List UInt8) (u : Nat), wordP u l < (u + 1) * 256 ^ l.length
  | [], u => by simp [wordP]
  | b :: r, u => by
    have h := wordP_lt r (u * 256 + b.toNat)
    have hb := UInt8.toNat_lt b
    show wordP (u * 256 + b.toNat) r < _
    have e : (u * 256 + b.toNat + 1) * 256 ^ r.length ≤ ((u + 1) * 256) * 256 ^ r.length := Nat.mul_le_mul_right _ (by omega)
    rw [List.length_cons, Nat.pow_succ, Nat.mul_comm (256 ^ r.length) 256, ← Nat.mul_assoc]
    omega
/-- The bits of a number, set behind those that are there. -/
theorem or_sum (s b i : Nat) (hs : s < 128 ^ i) (hi : i ≤ 8) (hb : b < 128) : bits BinOp.or IntKind.i64 (s : Int) (IntKind.i64.wrap ((b : Int) * (2 ^ (7 * i) : Nat))) = ((s + b * 128 ^ i : Nat) : Int) := by
  have e : (128 : Nat) ^ i = 2 ^ (7 * i) := by rw [Nat.pow_mul]
  have hm : 128 ^ (i + 1) ≤ 128 ^ 9 := Nat.pow_le_pow_right (by omega) (by omega)
  rw [Nat.pow_succ] at hm
  have hb1 : b * 128 ^ i ≤ 127 * 128 ^ i := Nat.mul_le_mul_right _ (by omega)
  rw [← e]
  have w : ∀ n : Int, 0 ≤ n → n < 2 ^ 63 → IntKind.i64.wrap n = n := fun n h0 h1 => by rw [IntKind.wrap_i64]; omega
  have hx : ((b : Int) * ((128 ^ i : Nat) : Int)) = ((b * 128 ^ i : Nat) : Int) := by simp
  rw [hx, w _ (by omega) (by omega)]
  rw [bits_join_low .i64 63 (by decide) w (7 * i) (s : Int) ((b * 128 ^ i : Nat) : Int) (by omega) ?_ (by omega) (by omega) ?_ (by omega)]
  · omega
  · rw [e] at hs; exact_mod_cast hs
  · rw [e]
    simp
theorem or_sum64 (s b i : Nat) (hs : s < 128 ^ i) (hi : i ≤ 8) (hb : b < 128) : bits BinOp.or IntKind.i64 (s : Int) (wrap64 ((b : Int) * 2 ^ (7 * i))) = ((s + b * 128 ^ i : Nat) : Int) := by
  have h := or_sum s b i hs hi hb
  rw [IntKind.wrap_i64, show ((2 ^ (7 * i) : Nat) : Int) = 2 ^ (7 * i) by simp] at h
  rw [wrap64]
  exact h
end Go.Proofs.YtcagfjogfbddeaaDoor
