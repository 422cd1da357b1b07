/- Plain: what makes a module right; a slice's elements in memory. -/
import Derived.Test.YtcagfjogfbddeaaDoorCdF
namespace Go.Proofs.YtcagfjogfbddeaaDoor
set_option linter.unusedVariables false
set_option linter.unusedSimpArgs false
open Go.RowKit

/-- What a function takes of the one that makes it. -/
structure Need where
  cap : Int
  reg : Int
  least : Int
def Need.cs (n : Need) : List Value := [.int .i64 n.cap, .int .i64 n.reg, .int .i64 n.least]
def Need.add (n : Need) (c : Cap) : Need := ⟨if c.up then max n.cap c.n else n.cap, if c.up then n.reg else max n.reg c.n, min n.least c.n⟩
def needOf (l : List Cap) : Need := l.foldl Need.add ⟨-1, -1, 0⟩
def Need.met (n : Need) (f : Fun) : Bool := decide (0 ≤ n.least) && decide (n.cap < f.caps.length) && decide (n.reg < f.regs)
theorem needOf_snoc (l : List Cap) (c : Cap) : needOf (l ++ [c]) = (needOf l).add c := by simp [needOf]

/-- The letters of any number's operands. -/
def letz (op : Int) : List UInt8 := if 0 ≤ op ∧ op ≤ 70 then letsOf op.toNat else []
theorem letz_len (op : Int) : (letz op).length ≤ 4 := by
  unfold letz
  split
  · exact (lets_ok _).1
  · simp
def regB (f : Fun) (n : Int) : Bool := decide (0 ≤ n) && decide (n < f.regs)
def cstB (f : Fun) (n : Int) : Bool := decide (0 ≤ n) && decide (n < f.consts.length)
def txtB (f : Fun) (n : Int) : Bool := cstB f n && decide ((f.consts.getD n.toNat ⟨0, 0, ⟨#[]⟩, 0⟩).kind = 4)
def numB (n : Int) : Bool := decide (0 ≤ n) && decide (n ≤ 2147483647)
def tgtB (f : Fun) (n : Int) : Bool := decide (0 ≤ n) && decide (n < f.code.length)
def madB (nf : Nat) (n : Int) : Bool := decide (1 ≤ n) && decide (n < nf)
def capB (f : Fun) (n : Int) : Bool := decide (0 ≤ n) && decide (n < f.caps.length)
/-- An operand, by its letter. -/
def opnB (nf : Nat) (f : Fun) (c : UInt8) (n : Int) : Bool :=
  if c = 114 then regB f n else if c = 107 then cstB f n else if c = 115 then txtB f n else if c = 110 then numB n else if c = 116 then tgtB f n else if c = 102 then madB nf n else if c = 117 then capB f n else false
def opx (i : Ins) (k : Nat) : Int := [i.a, i.b, i.c, i.d].getD k 0
/-- The operand of number k. -/
def opkB (nf : Nat) (f : Fun) (L : List UInt8) (i : Ins) (k : Nat) : Bool := if k < L.length then opnB nf f (L.getD k 0) (opx i k) else decide (opx i k = 0)
def opsB (nf : Nat) (f : Fun) (L : List UInt8) (i : Ins) : Bool := opkB nf f L i 0 && opkB nf f L i 1 && opkB nf f L i 2 && opkB nf f L i 3
def leaB (op : Int) : Bool := decide (op = 16) || decide (op = 34) || decide (op = 35)
def noFun : Fun := ⟨⟨#[]⟩, 0, false, false, 0, [], [], [], []⟩
def allB (fs : List Fun) (f : Fun) (i : Ins) : Bool :=
  if i.op = 0 then decide (i.b ≤ 4) else if i.op = 38 then regB f (i.a + 1) else if i.op = 39 then regB f (i.b + 1) else if i.op = 15 then (needOf (fs.getD i.b.toNat noFun).caps).met f else true
/-- An instruction is right. -/
def insB (fs : List Fun) (f : Fun) (k : Nat) (i : Ins) : Bool :=
  !(letz i.op).isEmpty && (opsB fs.length f (letz i.op) i && (allB fs f i && !(decide ((k : Int) = (f.code.length : Int) - 1) && !leaB i.op)))
def insAt (f : Fun) (k : Nat) : Ins := f.code.getD k ⟨0, 0, 0, 0, 0⟩
/-- The first instruction that is wrong. -/
def fwI (fs : List Fun) (f : Fun) : Nat := f.code.zipIdx.findIdx fun p => !insB fs f p.2 p.1
theorem fwI_eq {fs : List Fun} {f : Fun} {n : Nat} (hn : n ≤ f.code.length) (h : ∀ j, j < n → insB fs f j (insAt f j) = true) (he : n < f.code.length → insB fs f n (insAt f n) = false) : fwI fs f = n := by
  have hg : ∀ j (hj : j < f.code.length), insAt f j = f.code[j] := fun j hj => by simp [insAt, List.getD_eq_getElem?_getD, List.getElem?_eq_getElem hj]
  unfold fwI
  rcases Nat.lt_or_ge n f.code.length with hl | hl
  · rw [List.findIdx_eq (by simpa using hl)]
    refine ⟨by simpa [hg n hl] using he hl, fun j hj => ?_⟩
    have := h j hj
    rw [hg j (by omega)] at this
    simpa using this
  · have : n = f.code.zipIdx.length := by simp; omega
    rw [this, List.findIdx_eq_length]
    intro p hp
    obtain ⟨j, hj, e⟩ := List.getElem_of_mem hp
    have hj' : j < f.code.length := by simpa using hj
    have := h j (by omega)
    rw [hg j hj'] at this
    rw [← e]
    simpa using this
def cokB (c : Cst) : Bool := !(!decide (c.kind = 3) && (!decide (c.kind = 4) || !decide ((c.str.size : Int) % 2 = 0)))
def headB (f : Fun) : Bool :=
  !(decide (f.regs < 1) || decide (4000 < f.regs)) && (!(decide (f.params < 0) || decide ((if f.rest then f.regs - 1 else f.regs) < f.params) || decide ((f.code.length : Int) = 0)) && f.consts.all cokB)
def scrB (f : Fun) : Bool := decide (f.params = 0) && !f.rest && decide ((f.caps.length : Int) = 0) && !f.arrow
def triB (f : Fun) (t : Tri) : Bool := !(decide (t.fr < 0) || decide (t.to ≤ t.fr) || decide ((f.code.length : Int) < t.to) || !tgtB f t.at' || !regB f t.reg)
def trsB (f : Fun) : Bool := f.tries.all (triB f)

def noTri : Tri := ⟨0, 0, 0, 0⟩
def trAt (l : List Tri) (n : Nat) : Tri := l.getD n noTri
/-- How tries stand by their places. -/
def befB (l : List Tri) (a b : Nat) : Bool := decide ((trAt l a).fr < (trAt l b).fr) || (decide ((trAt l a).fr = (trAt l b).fr) && (decide ((trAt l b).to < (trAt l a).to) || (decide ((trAt l b).to = (trAt l a).to) && decide (b < a))))
def ordT (l : List Tri) : List Nat := (List.range l.length).mergeSort fun a b => !befB l b a
/-- Gone through by their places, with those about the place kept (the innermost first). -/
def popT (l : List Tri) (n : Nat) : List Nat → List Nat
  | [] => []
  | t :: r => if (trAt l t).to ≤ (trAt l n).fr then popT l n r else t :: r
def nstB (l : List Tri) : List Nat → List Nat → Bool
  | [], _ => true
  | n :: r, st => match popT l n st with
    | [] => nstB l r [n]
    | t :: u => if (trAt l t).to < (trAt l n).to ∨ t < n then false else nstB l r (n :: t :: u)
def nesB (l : List Tri) : Bool := nstB l (ordT l) []
/-- The place at which a function is wrong. -/
def fnP (fs : List Fun) (n : Nat) (f : Fun) : Option Nat :=
  if (!headB f || (decide ((n : Int) = 0) && !scrB f)) = true then some 0 else if fwI fs f < f.code.length then some (fwI fs f) else if (!trsB f || !nesB f.tries) = true then some f.code.length else none
/-- What Check tells. -/
def Chk (fs : List Fun) (g k : Nat) (z : Int) : Prop :=
  ((fs.length = 0 ∨ 20000 < fs.length) ∧ g = 0 ∧ k = 0 ∧ z = 120) ∨
  (¬ (fs.length = 0 ∨ 20000 < fs.length) ∧ ((g = 0 ∧ k = 0 ∧ z = 0 ∧ ∀ n, n < fs.length → fnP fs n (fs.getD n noFun) = none) ∨
    (g < fs.length ∧ z = 120 ∧ fnP fs g (fs.getD g noFun) = some k ∧ ∀ n, n < g → fnP fs n (fs.getD n noFun) = none)))

/-- A slice's elements, each of so many cells. -/
structure RdE {α : Type} (cs : α → List Value) (sz : Nat) (w : World) (a : Option Addr) (c : Nat) (l : List α) : Prop where
  le : l.length ≤ c
  cle : c * (sz * 8) ≤ 140737488351232
  nil : a = none → c = 0
  here : l = [] ∨ ∃ g o, a = some ⟨g, o, none⟩ ∧ g < w.heap.size ∧ ∀ (j : Nat) (hj : j < l.length) (k : Nat) (u : Value), k < sz → (cs l[j])[k]? = some u → w.cell? ⟨g, o + j * sz + k, none⟩ = some u
theorem RdE.below {α : Type} {cs : α → List Value} {sz : Nat} {w w' : World} {a : Option Addr} {c : Nat} {l : List α} (h : RdE cs sz w a c l) (hb : Below w.heap.size w w') : RdE cs sz w' a c l := by
  refine ⟨h.le, h.cle, h.nil, ?_⟩
  rcases h.here with h | ⟨g, o, ha, hg, hc⟩
  · exact .inl h
  · exact .inr ⟨g, o, ha, Nat.lt_of_lt_of_le hg hb.size, fun j hj k u hk hu => (hb.cell (p := ⟨g, o + j * sz + k, none⟩) hg).trans (hc j hj k u hk hu)⟩
theorem RdE.at {α : Type} {cs : α → List Value} {sz : Nat} {w : World} {a : Option Addr} {c : Nat} {l : List α} (h : RdE cs sz w a c l) (j : Nat) (hj : j < l.length) :
    ∃ g o, a = some ⟨g, o, none⟩ ∧ g < w.heap.size ∧ ∀ (k : Nat) (u : Value), k < sz → (cs l[j])[k]? = some u → w.cell? ⟨g, o + j * sz + k, none⟩ = some u := by
  rcases h.here with h | ⟨g, o, ha, hg, hc⟩
  · rw [h] at hj; simp at hj
  · exact ⟨g, o, ha, hg, hc j hj⟩
theorem RdE.take {α : Type} {cs : α → List Value} {sz : Nat} {w : World} {a : Option Addr} {c : Nat} {l : List α} (h : RdE cs sz w a c l) (k : Nat) (hk : k ≤ l.length) : RdE cs sz w a c (l.take k) := by
  refine ⟨by have := h.le; simp; omega, h.cle, h.nil, ?_⟩
  rcases h.here with h | ⟨g, o, ha, hg, hc⟩
  · exact .inl (by rw [h]; simp)
  · exact .inr ⟨g, o, ha, hg, fun j hj m u hm hu => hc j (by simp at hj; omega) m u hm (by simpa using hu)⟩
/-- A function with its slices. -/
structure FW where
  f : Fun
  xa : Option Addr
  xc : Nat
  ya : Option Addr
  yc : Nat
  za : Option Addr
  zc : Nat
  ua : Option Addr
  uc : Nat
def FW.cs (q : FW) : List Value := [.string q.f.name, .int .i64 q.f.params, .bool q.f.rest, .bool q.f.arrow, .int .i64 q.f.regs, .slice q.xa q.f.consts.length q.xc, .slice q.ya q.f.code.length q.yc, .slice q.za q.f.tries.length q.zc, .slice q.ua q.f.caps.length q.uc]
structure FW.rd (w : World) (q : FW) : Prop where
  c : RdE Cst.cs 4 w q.xa q.xc q.f.consts
  i : RdE Ins.cs 5 w q.ya q.yc q.f.code
  t : RdE Tri.cs 4 w q.za q.zc q.f.tries
  p : RdE Cap.cs 2 w q.ua q.uc q.f.caps
theorem FW.rd.below {w w' : World} {q : FW} (h : q.rd w) (hb : Below w.heap.size w w') : q.rd w' := ⟨h.c.below hb, h.i.below hb, h.t.below hb, h.p.below hb⟩
/-- A function whose numbers are numbers. -/
structure Fine' (f : Fun) : Prop where
  p : Lit.wf (.int .i64 f.params) = true
  r : Lit.wf (.int .i64 f.regs) = true
  i : ∀ i ∈ f.code, Lit.wf (.int .i64 i.op) = true ∧ Lit.wf (.int .i64 i.a) = true ∧ Lit.wf (.int .i64 i.b) = true ∧ Lit.wf (.int .i64 i.c) = true ∧ Lit.wf (.int .i64 i.d) = true
  c : ∀ c ∈ f.consts, (c.str.size : Int) ≤ 140737488351232
/-- Functions in memory. -/
structure Md (w : World) (a : Option Addr) (c : Nat) (qs : List FW) : Prop where
  r : RdE FW.cs 9 w a c qs
  q : ∀ q ∈ qs, q.rd w
  n : ∀ q ∈ qs, Fine' q.f
theorem Md.below {w w' : World} {a : Option Addr} {c : Nat} {qs : List FW} (h : Md w a c qs) (hb : Below w.heap.size w w') : Md w' a c qs := ⟨h.r.below hb, fun q hq => (h.q q hq).below hb, h.n⟩
theorem Md.take {w : World} {a : Option Addr} {c : Nat} {qs : List FW} (h : Md w a c qs) (k : Nat) (hk : k ≤ qs.length) : Md w a c (qs.take k) :=
  ⟨h.r.take k hk, fun q hq => h.q q (List.mem_of_mem_take hq), fun q hq => h.n q (List.mem_of_mem_take hq)⟩
end Go.Proofs.YtcagfjogfbddeaaDoor
