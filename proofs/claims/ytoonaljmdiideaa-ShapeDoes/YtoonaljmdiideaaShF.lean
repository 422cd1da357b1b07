/- Package shape: a tree with one line, in memory. -/
import Derived.Test.YtoonaljmdiideaaShE
import Derived.Maps.AppendAt
import Derived.DeepKeys4
import Derived.Lib.SmallJoins
import Derived.ChangeSame
import Derived.ShutString
import Derived.LaidEql
namespace Go.Proofs.Ytoonaljmdiideaa
set_option linter.unusedVariables false
set_option linter.unusedSimpArgs false
open Go.RowKit Go.Maps Go.ChangeShapes

theorem sh_kind {w : World} {B : Nat} {e : TypeId} {sz : Nat} {v : Value} {n : Nat} {xs : List Value} (h : w.ownsRow B e sz v n xs) (k : Nat) (hk : v.ownBlock = some k) : ∃ c fz, w.heap[k]? = some (.cells c e fz) := by
  rcases h.2 with ⟨rfl, _⟩ | ⟨g, cap, cur, rfl, _, hg, _⟩
  · cases hk
  · simp [Value.ownBlock] at hk
    subst hk
    exact ⟨_, _, hg⟩
theorem sh_ne {w : World} {B k : Nat} {e : TypeId} {sz : Nat} {v : Value} {n : Nat} {xs : List Value} {ob : Obj} (h : w.ownsRow B e sz v n xs) (hb : w.heap[k]? = some ob) (hne : ∀ c fz, ob ≠ .cells c e fz) : some k ≠ v.ownBlock := fun q => by
  obtain ⟨c, fz, h1⟩ := sh_kind h k q.symm
  rw [hb] at h1
  exact hne c fz (Option.some.inj h1)
/-- Rows of different kinds are apart. -/
theorem sh_apart {w : World} {B B' : Nat} {e e' : TypeId} {sz sz' : Nat} {v v' : Value} {n n' : Nat} {xs xs' : List Value} (h : w.ownsRow B e sz v n xs) (h' : w.ownsRow B' e' sz' v' n' xs') (hne : e ≠ e') (k : Nat) (hk : v.ownBlock = some k) : some k ≠ v'.ownBlock := by
  obtain ⟨c, fz, h1⟩ := sh_kind h k hk
  exact sh_ne h' h1 (fun c fz q => by cases q; exact hne rfl)
/-- All blocks but some stand. -/
structure Sv (X : List Nat) (w w' : World) : Prop where
  size : w.heap.size ≤ w'.heap.size
  all : ∀ k o, k ∉ X → w.heap[k]? = some o → w'.heap[k]? = some o
theorem Sv.refl (w : World) : Sv [] w w := ⟨Nat.le_refl _, fun _ _ _ h => h⟩
theorem Sv.below {w w' : World} (h : Below w.heap.size w w') : Sv [] w w' := ⟨h.size, fun k o _ ho => (h.block k (Array.getElem?_eq_some_iff.1 ho).1).trans ho⟩
theorem Sv.trans {X Y : List Nat} {w w1 w2 : World} (h : Sv X w w1) (g : Sv Y w1 w2) : Sv (X ++ Y) w w2 := ⟨Nat.le_trans h.size g.size, fun k o hk ho => g.all k o (fun q => hk (List.mem_append_right _ q)) (h.all k o (fun q => hk (List.mem_append_left _ q)) ho)⟩
theorem Sv.set (w : World) (b o : Nat) (v : Value) : Sv [b] w (w.setCell ⟨b, o, none⟩ v) := ⟨by simp [World.setCell], fun k ob hk ho => (Below.heap_setCell _ _ _ _ (by show k ≠ b; simpa using hk)).trans ho⟩
theorem Sv.grown {w w' : World} {row : Option Nat} (h : w.grownBy w' row) : Sv row.toList w w' := ⟨h.size, fun k o hk ho => (h.block k (Array.getElem?_eq_some_iff.1 ho).1 (fun e => hk (by rw [← e]; simp))).trans ho⟩
theorem Sv.own {X : List Nat} {w w' : World} {B : Nat} {e : TypeId} {sz : Nat} {v : Value} {n : Nat} {xs : List Value} (hs : Sv X w w') (h : w.ownsRow B e sz v n xs) (hn : ∀ k ∈ X, some k ≠ v.ownBlock) : w'.ownsRow B e sz v n xs := by
  refine ⟨h.1, ?_⟩
  rcases h.2 with hn' | ⟨g, cap, cur, rfl, hB, hg, rest⟩
  · exact .inl hn'
  · exact .inr ⟨g, cap, cur, rfl, hB, hs.all g _ (fun q => hn g q rfl) hg, rest⟩
theorem Sv.map {X : List Nat} {w w' : World} {K : TypeId} {R : Value → Option (DataW Unit × List MemPlace)} {b n : Nat} {D : DataW Unit} (hs : Sv X w w') (h : w.ownsMap Try.prog K R b n D) (hb : b ∉ X) : w'.ownsMap Try.prog K R b n D := by
  obtain ⟨es, clock, he, rest⟩ := h
  exact ⟨es, clock, hs.all b _ hb he, rest⟩
/-- A bare key: its text, its symbol's number. -/
abbrev Kb := ByteArray × Int
/-- The cells of keys, of classes, of small numbers. -/
def kC (ks : List Kb) : List Value := ks.flatMap fun s => [.string s.1, .int .i64 s.2]
def cC (fv : List (Nat × Value)) : List Value := fv.flatMap fun v => [.pointer (some ⟨v.1, 0, none⟩), v.2]
def iC (l : List Int) : List Value := l.map (.int .i32 ·)
def bC (l : List Int) : List Value := l.map (.int .u8 ·)
theorem kC_append (a b : List Kb) : kC (a ++ b) = kC a ++ kC b := by simp [kC]
theorem cC_append (a b : List (Nat × Value)) : cC (a ++ b) = cC a ++ cC b := by simp [cC]
theorem iC_append (a b : List Int) : iC (a ++ b) = iC a ++ iC b := by simp [iC]
theorem bC_append (a b : List Int) : bC (a ++ b) = bC a ++ bC b := by simp [bC]
theorem cC_get (l : List (Nat × Value)) (j : Nat) (h : j < l.length) : (cC l)[j * 2]? = some (.pointer (some ⟨l[j].1, 0, none⟩)) ∧ (cC l)[j * 2 + 1]? = some l[j].2 := by
  induction l generalizing j with
  | nil => simp at h
  | cons p r ih =>
    have e : cC (p :: r) = .pointer (some ⟨p.1, 0, none⟩) :: p.2 :: cC r := rfl
    cases j with
    | zero => rw [e]; exact ⟨rfl, rfl⟩
    | succ j =>
      have := ih j (by simpa using h)
      rw [e, show (j + 1) * 2 = j * 2 + 1 + 1 from by omega]
      simpa using this
/-- A tree whose shapes share one line, in memory; and blocks that are not its own. -/
structure T1 (C : List (Nat × Obj)) (B g mn mw lb : Nat) (vk vs vl : Value) (ks : List Kb) (ln : List Int) (fs : List (List Int)) (fv : List (Nat × Value)) (nw : Nat) (Dn Dw : DataW Unit) (w : World) : Prop where
  ge : B ≤ g ∧ B ≤ mn ∧ B ≤ mw ∧ B ≤ lb
  row : w.heap[g]? = some (.cells #[.pointer (some ⟨g, 0, none⟩), .map (some mn), vk, vs, .map (some mw)] 68 (0, 0))
  lrow : w.heap[lb]? = some (.cells #[vl] 60 (0, 0))
  k : w.ownsRow B 31 2 vk ks.length (kC ks)
  s : w.ownsRow B 63 2 vs fv.length (cC fv)
  l : w.ownsRow B 21 1 vl ln.length (iC ln)
  f : ∀ (i : Nat) (h : i < fv.length), w.ownsRow B 5 1 fv[i].2 (fs.getD i []).length (bC (fs.getD i []))
  n : w.ownsMap Try.prog 31 (plainElem Try.prog 21) mn ks.length Dn
  m : w.ownsMap Try.prog 74 (plainElem Try.prog 3) mw nw Dw
  mm : mn ≠ mw
  c : ∀ p ∈ C, w.heap[p.1]? = some p.2
  cn : ∀ p ∈ C, p.1 ≠ g ∧ p.1 ≠ lb ∧ p.1 ≠ mn ∧ p.1 ≠ mw ∧ some p.1 ≠ vk.ownBlock ∧ some p.1 ≠ vs.ownBlock ∧ some p.1 ≠ vl.ownBlock
section
variable {C : List (Nat × Obj)} {B g mn mw lb : Nat} {vk vs vl : Value} {ks : List Kb} {ln : List Int} {fs : List (List Int)} {fv : List (Nat × Value)} {nw : Nat} {Dn Dw : DataW Unit} {w w' : World}
theorem T1.below (h : T1 C B g mn mw lb vk vs vl ks ln fs fv nw Dn Dw w) (hb : Below w.heap.size w w') : T1 C B g mn mw lb vk vs vl ks ln fs fv nw Dn Dw w' := by
  have hs := Sv.below hb
  exact ⟨h.ge, hs.all _ _ (by simp) h.row, hs.all _ _ (by simp) h.lrow, hs.own h.k (by simp), hs.own h.s (by simp), hs.own h.l (by simp), fun i hi => hs.own (h.f i hi) (by simp), hs.map h.n (by simp), hs.map h.m (by simp), h.mm, fun p hp => hs.all _ _ (by simp) (h.c p hp), h.cn⟩
theorem T1.sub {C' : List (Nat × Obj)} (h : T1 C B g mn mw lb vk vs vl ks ln fs fv nw Dn Dw w) (hc : ∀ p ∈ C', p ∈ C) : T1 C' B g mn mw lb vk vs vl ks ln fs fv nw Dn Dw w :=
  ⟨h.ge, h.row, h.lrow, h.k, h.s, h.l, h.f, h.n, h.m, h.mm, fun p hp => h.c p (hc p hp), fun p hp => h.cn p (hc p hp)⟩
theorem T1.lts (h : T1 C B g mn mw lb vk vs vl ks ln fs fv nw Dn Dw w) : g < w.heap.size ∧ lb < w.heap.size ∧ mn < w.heap.size ∧ mw < w.heap.size ∧ (∀ k, vk.ownBlock = some k → k < w.heap.size) ∧ (∀ k, vs.ownBlock = some k → k < w.heap.size) ∧ (∀ k, vl.ownBlock = some k → k < w.heap.size) :=
  ⟨(Array.getElem?_eq_some_iff.1 h.row).1, (Array.getElem?_eq_some_iff.1 h.lrow).1, h.n.lt, h.m.lt, fun k hk => (h.k.lt k hk).2, fun k hk => (h.s.lt k hk).2, fun k hk => (h.l.lt k hk).2⟩
/-- A new block is not the tree's. -/
theorem T1.cons (h : T1 C B g mn mw lb vk vs vl ks ln fs fv nw Dn Dw w) (hb : Below w.heap.size w w') (b : Nat) (ob : Obj) (hbl : w.heap.size ≤ b) (ho : w'.heap[b]? = some ob) : T1 ((b, ob) :: C) B g mn mw lb vk vs vl ks ln fs fv nw Dn Dw w' := by
  have h' := h.below hb
  obtain ⟨l1, l2, l3, l4, l5, l6, l7⟩ := h.lts
  refine ⟨h'.ge, h'.row, h'.lrow, h'.k, h'.s, h'.l, h'.f, h'.n, h'.m, h'.mm, fun p hp => ?_, fun p hp => ?_⟩
  · rcases List.mem_cons.1 hp with rfl | hp
    · exact ho
    · exact h'.c p hp
  · rcases List.mem_cons.1 hp with rfl | hp
    · refine ⟨by show b ≠ g; omega, by show b ≠ lb; omega, by show b ≠ mn; omega, by show b ≠ mw; omega, fun e => ?_, fun e => ?_, fun e => ?_⟩
      · have := l5 _ e.symm; omega
      · have := l6 _ e.symm; omega
      · have := l7 _ e.symm; omega
    · exact h'.cn p hp
theorem T1.cells (h : T1 C B g mn mw lb vk vs vl ks ln fs fv nw Dn Dw w) : w.cell? ⟨g, 0, none⟩ = some (.pointer (some ⟨g, 0, none⟩)) ∧ w.cell? ⟨g, 1, none⟩ = some (.map (some mn)) ∧ w.cell? ⟨g, 2, none⟩ = some vk ∧ w.cell? ⟨g, 3, none⟩ = some vs ∧ w.cell? ⟨g, 4, none⟩ = some (.map (some mw)) ∧ (∀ j, w.frozen? ⟨g, j, none⟩ = false) ∧ w.cell? ⟨lb, 0, none⟩ = some vl ∧ (∀ j, w.frozen? ⟨lb, j, none⟩ = false) := by
  have r := h.row
  have l := h.lrow
  refine ⟨?_, ?_, ?_, ?_, ?_, fun j => ?_, ?_, fun j => ?_⟩ <;> simp [World.cell?, World.frozen?, r, l]
/-- Blocks of the tree are apart. -/
theorem T1.nes (h : T1 C B g mn mw lb vk vs vl ks ln fs fv nw Dn Dw w) : g ≠ lb ∧ g ≠ mn ∧ g ≠ mw ∧ lb ≠ mn ∧ lb ≠ mw := by
  obtain ⟨en, cn, hn, _⟩ := h.n
  obtain ⟨em, cm, hm, _⟩ := h.m
  refine ⟨fun e => ?_, fun e => ?_, fun e => ?_, fun e => ?_, fun e => ?_⟩
  · subst e; have := h.lrow; rw [h.row] at this; simp at this
  · subst e; rw [h.row] at hn; cases hn
  · subst e; rw [h.row] at hm; cases hm
  · subst e; rw [h.lrow] at hn; cases hn
  · subst e; rw [h.lrow] at hm; cases hm
theorem T1.mapne {v : Value} {B' n' sz : Nat} {e : TypeId} {xs : List Value} (h : T1 C B g mn mw lb vk vs vl ks ln fs fv nw Dn Dw w) (ho : w.ownsRow B' e sz v n' xs) : some mn ≠ v.ownBlock ∧ some mw ≠ v.ownBlock := by
  obtain ⟨en, cn, hn, _⟩ := h.n
  obtain ⟨em, cm, hm, _⟩ := h.m
  exact ⟨sh_ne ho hn (fun c fz q => by cases q), sh_ne ho hm (fun c fz q => by cases q)⟩
theorem T1.rowne {v : Value} {B' n' sz : Nat} {e : TypeId} {xs : List Value} (h : T1 C B g mn mw lb vk vs vl ks ln fs fv nw Dn Dw w) (ho : w.ownsRow B' e sz v n' xs) (h1 : 68 ≠ e) (h2 : 60 ≠ e) : some g ≠ v.ownBlock ∧ some lb ≠ v.ownBlock :=
  ⟨sh_ne ho h.row (fun c fz q => by cases q; exact h1 rfl), sh_ne ho h.lrow (fun c fz q => by cases q; exact h2 rfl)⟩
end
end Go.Proofs.Ytoonaljmdiideaa
