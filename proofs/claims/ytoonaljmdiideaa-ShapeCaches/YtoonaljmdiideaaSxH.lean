/- ShapeCaches: what the law keeps in memory, and what its calls and stores make of it. ShapeCaches: the law's calls. -/
import Derived.Test.YtoonaljmdiideaaSxF
import Derived.Test.YtoonaljmdiideaaShU
namespace Go.Proofs.Ytoonaljmdiideaa
set_option linter.unusedVariables false
set_option linter.unusedSimpArgs false
open Go.RowKit Go.Maps Go.ChangeShapes
/-- One of several is another. -/
def upd {α : Type} (f : Nat → α) (c : Nat) (x : α) : Nat → α := fun j => if j = c then x else f j
theorem upd_same {α : Type} (f : Nat → α) (c : Nat) (x : α) : upd f c x c = x := if_pos rfl
theorem upd_ne {α : Type} (f : Nat → α) (c : Nat) (x : α) (j : Nat) (h : j ≠ c) : upd f c x j = f j := if_neg h
/-- The law's blocks. -/
structure Bk where
  cr : Nat
  hb : Nat
  ms : Nat
  ls : Nat
  vb : Nat
  c0 : Nat
  c1 : Nat
def cbN (b : Bk) (c : Nat) : Nat := if c = 0 then b.c0 else b.c1
def cpV (b : Bk) (c : Nat) : Value := if c = 0 then .pointer (some ⟨b.c0, 0, none⟩) else if c = 1 then .pointer (some ⟨b.c1, 0, none⟩) else .pointer none
theorem cpV_lt (b : Bk) (c : Nat) (h : c < 2) : cpV b c = .pointer (some ⟨cbN b c, 0, none⟩) := by
  obtain rfl | rfl : c = 0 ∨ c = 1 := by omega
  · rfl
  · rfl
def crO (b : Bk) : Obj := .cells #[cpV b 0, cpV b 1, cpV b 2] 45 (0, 0)
def inO (f : Nat → Int) : Obj := .cells #[.int .i64 (f 0), .int .i64 (f 1), .int .i64 (f 2)] 3 (0, 0)
def laO (f : Nat → OpR) : Obj := .cells ((f 0).cs ++ (f 1).cs ++ (f 2).cs).toArray 33 (0, 0)
def hvO (f : Nat → Bool) : Obj := .cells #[.bool (f 0), .bool (f 1), .bool (f 2)] 4 (0, 0)
/-- The operation of a round, in its box. -/
def opO (o : OpR) : Obj := .cells #[.int .i64 o.kd, .int .i64 o.si, .string o.s, .int .i64 o.z, .int .i64 o.f, .int .i64 o.c] 33 (0, 0)
def opL : Option (Nat × OpR) → List (Nat × Obj)
  | none => []
  | some x => [(x.1, opO x.2)]
def dL (g : Nat) (b : Bk) (lp : Nat → Option Mem) (h m rh rm : Nat → Int) (la : Nat → OpR) (hv : Nat → Bool) (ob : Option (Nat × OpR)) : List (Nat × Obj) :=
  (b.c0, cheO b.c0 (lp 0) (h 0) (m 0)) :: (b.c1, cheO b.c1 (lp 1) (h 1) (m 1)) :: (b.cr, crO b) :: (b.hb, inO rh) :: (b.ms, inO rm) :: (b.ls, laO la) :: (b.vb, hvO hv) :: (memL g (lp 0) ++ (memL g (lp 1) ++ opL ob))
structure LawS (w0 : World) (B g rb : Nat) (b : Bk) (S : List (List SlR)) (lp : Nat → Option Mem) (h m rh rm : Nat → Int) (la : Nat → OpR) (hv : Nat → Bool) (ob : Option (Nat × OpR)) (w : World) : Prop where
  two : Two B g rb S (dL g b lp h m rh rm la hv ob) w
  bl : Below w0.heap.size w0 w
  le : w0.heap.size ≤ B
  ge : B ≤ b.c0 ∧ B ≤ b.c1 ∧ B ≤ b.hb ∧ B ≤ b.ms ∧ B ≤ b.ls ∧ B ≤ b.vb
  ne : b.c0 ≠ b.c1 ∧ b.hb ≠ b.ms ∧ ∀ x, ob = some x → x.1 ≠ b.ls
  ok : ∀ c, c < 2 → memOk S (lp c)
theorem heap_ne {w : World} {a b : Nat} {x y : Obj} (ha : w.heap[a]? = some x) (hb : w.heap[b]? = some y) (h : x ≠ y) : a ≠ b := fun e => by
  subst e
  rw [ha] at hb
  exact h (Option.some.inj hb)
theorem cells_ne {c c' : Array Value} {t t' : TypeId} {fz fz'} (h : t ≠ t') : Obj.cells c t fz ≠ Obj.cells c' t' fz' := fun e => by
  cases e
  exact h rfl
theorem fr_cr (b : Bk) : Fr (crO b) := fr_kind _ _ _ (by decide) (by decide) (by decide) (by decide) (by decide)
theorem fr_in (f : Nat → Int) : Fr (inO f) := fr_kind _ _ _ (by decide) (by decide) (by decide) (by decide) (by decide)
theorem fr_la (f : Nat → OpR) : Fr (laO f) := fr_kind _ _ _ (by decide) (by decide) (by decide) (by decide) (by decide)
theorem fr_hv (f : Nat → Bool) : Fr (hvO f) := fr_kind _ _ _ (by decide) (by decide) (by decide) (by decide) (by decide)
section
variable {w0 w w' : World} {B g rb : Nat} {b : Bk} {S : List (List SlR)} {lp : Nat → Option Mem} {h m rh rm : Nat → Int} {la : Nat → OpR} {hv : Nat → Bool} {ob : Option (Nat × OpR)} {D : List (Nat × Obj)}
theorem Two.set1 {D' : List (Nat × Obj)} (h : Two B g rb S D w) (b : Nat) (ob' : Obj) (hs : Sv [b] w w') (hb : ∃ ob, (b, ob) ∈ D) (ho : w'.heap[b]? = some ob') (hf : Fr ob') (hD : ∀ p ∈ D', p = (b, ob') ∨ (p ∈ D ∧ p.1 ≠ b)) : Two B g rb S D' w' := by
  refine h.turn hs (fun x hx => by rw [List.mem_singleton.1 hx]; exact hb) (fun p hp => ?_)
  rcases hD p hp with rfl | ⟨h1, h2⟩
  · exact ⟨ho, .inl hb, hf⟩
  · exact ⟨hs.all _ _ (by simpa using h2) (h.c p h1), .inl ⟨_, h1⟩, h.2 p h1⟩
/-- What lies where. -/
theorem LawS.rows (H : LawS w0 B g rb b S lp h m rh rm la hv ob w) : w.heap[b.c0]? = some (cheO b.c0 (lp 0) (h 0) (m 0)) ∧ w.heap[b.c1]? = some (cheO b.c1 (lp 1) (h 1) (m 1)) ∧ w.heap[b.cr]? = some (crO b) ∧ w.heap[b.hb]? = some (inO rh) ∧ w.heap[b.ms]? = some (inO rm) ∧ w.heap[b.ls]? = some (laO la) ∧ w.heap[b.vb]? = some (hvO hv) ∧ (∀ c, c < 2 → ∀ p ∈ memL g (lp c), w.heap[p.1]? = some p.2) ∧ ∀ p ∈ opL ob, w.heap[p.1]? = some p.2 := by
  have hc := H.two.c
  refine ⟨hc (b.c0, cheO b.c0 (lp 0) (h 0) (m 0)) (by simp [dL]), hc (b.c1, cheO b.c1 (lp 1) (h 1) (m 1)) (by simp [dL]), hc (b.cr, crO b) (by simp [dL]), hc (b.hb, inO rh) (by simp [dL]), hc (b.ms, inO rm) (by simp [dL]), hc (b.ls, laO la) (by simp [dL]), hc (b.vb, hvO hv) (by simp [dL]), fun c hlt p hp => hc p ?_, fun p hp => hc p (by simp [dL, hp])⟩
  obtain rfl | rfl : c = 0 ∨ c = 1 := by omega
  · simp [dL, hp]
  · simp [dL, hp]
theorem LawS.below (H : LawS w0 B g rb b S lp h m rh rm la hv ob w) (hb : Below w.heap.size w w') : LawS w0 B g rb b S lp h m rh rm la hv ob w' :=
  ⟨H.two.below hb, H.bl.trans (hb.mono H.bl.size), H.le, H.ge, H.ne, H.ok⟩
theorem memO_ne {p : Nat × Obj} {l : Option Mem} (hp : p ∈ memL g l) {c : Array Value} {t : TypeId} {fz} (ht : 107 ≠ t) : p.2 ≠ Obj.cells c t fz := by
  cases l with
  | none => cases hp
  | some r =>
    rw [List.mem_singleton.1 hp]
    exact cells_ne ht
theorem opO_ne {p : Nat × Obj} {x : Option (Nat × OpR)} (hp : p ∈ opL x) {c : Array Value} {t : TypeId} {fz} (ht : 33 ≠ t) : p.2 ≠ Obj.cells c t fz := by
  cases x with
  | none => cases hp
  | some r =>
    rw [List.mem_singleton.1 hp]
    exact cells_ne ht
theorem opL_ne {x : Option (Nat × OpR)} {n : Nat} (h : ∀ y, x = some y → y.1 ≠ n) : ∀ p ∈ opL x, p.1 ≠ n := fun p hp => by
  cases x with
  | none => cases hp
  | some r =>
    rw [List.mem_singleton.1 hp]
    exact h r rfl
theorem LawS.ges (H : LawS w0 B g rb b S lp h m rh rm la hv ob w) (c : Nat) (hc : c < 2) : B ≤ cbN b c := by
  obtain rfl | rfl : c = 0 ∨ c = 1 := by omega
  · exact H.ge.1
  · exact H.ge.2.1
theorem in_set (f : Nat → Int) (c : Nat) (hc : c < 3) (x : Int) (blk : Nat) (hh : w.heap[blk]? = some (inO f)) : (w.setCell ⟨blk, c, none⟩ (.int .i64 x)).heap[blk]? = some (inO (upd f c x)) := by
  have := set_blk2 (j := c) (v := .int .i64 x) hh
  rw [this]
  unfold inO
  obtain rfl | rfl | rfl : c = 0 ∨ c = 1 ∨ c = 2 := by omega
  · simp [upd]
  · simp [upd]
  · simp [upd]
theorem hv_set (f : Nat → Bool) (c : Nat) (hc : c < 3) (x : Bool) (blk : Nat) (hh : w.heap[blk]? = some (hvO f)) : (w.setCell ⟨blk, c, none⟩ (.bool x)).heap[blk]? = some (hvO (upd f c x)) := by
  have := set_blk2 (j := c) (v := .bool x) hh
  rw [this]
  unfold hvO
  obtain rfl | rfl | rfl : c = 0 ∨ c = 1 ∨ c = 2 := by omega
  · simp [upd]
  · simp [upd]
  · simp [upd]
theorem LawS.hits (H : LawS w0 B g rb b S lp h m rh rm la hv ob w) (c : Nat) (hc : c < 3) (x : Int) : LawS w0 B g rb b S lp h m (upd rh c x) rm la hv ob (w.setCell ⟨b.hb, c, none⟩ (.int .i64 x)) := by
  obtain ⟨r0, r1, r2, r3, r4, r5, r6, r7, r8⟩ := H.rows
  refine ⟨H.two.set1 b.hb (inO (upd rh c x)) (Sv.set w b.hb c _) ⟨inO rh, by simp [dL]⟩ (in_set rh c hc x _ r3) (fr_in _) (fun p hp => ?_), H.bl.trans ((Below.refl _ _).setCell (p := ⟨b.hb, c, none⟩) (Nat.le_trans H.le H.ge.2.2.1) _), H.le, H.ge, H.ne, H.ok⟩
  have n1 := heap_ne r0 r3 (cells_ne (by decide))
  have n2 := heap_ne r1 r3 (cells_ne (by decide))
  have n3 := heap_ne r2 r3 (cells_ne (by decide))
  have n4 := H.ne.2.1
  have n5 := heap_ne r5 r3 (cells_ne (by decide))
  have n6 := heap_ne r6 r3 (cells_ne (by decide))
  unfold dL at hp ⊢
  simp only [List.mem_cons, List.mem_append] at hp ⊢
  rcases hp with rfl | rfl | rfl | rfl | rfl | rfl | rfl | hp | hp | hp
  · exact .inr ⟨.inl rfl, n1⟩
  · exact .inr ⟨.inr (.inl rfl), n2⟩
  · exact .inr ⟨.inr (.inr (.inl rfl)), n3⟩
  · exact .inl rfl
  · exact .inr ⟨.inr (.inr (.inr (.inr (.inl rfl)))), fun e => n4 e.symm⟩
  · exact .inr ⟨.inr (.inr (.inr (.inr (.inr (.inl rfl))))), n5⟩
  · exact .inr ⟨.inr (.inr (.inr (.inr (.inr (.inr (.inl rfl)))))), n6⟩
  · exact .inr ⟨.inr (.inr (.inr (.inr (.inr (.inr (.inr (.inl hp))))))), heap_ne (r7 0 (by omega) p hp) r3 (memO_ne hp (by decide))⟩
  · exact .inr ⟨.inr (.inr (.inr (.inr (.inr (.inr (.inr (.inr (.inl hp)))))))), heap_ne (r7 1 (by omega) p hp) r3 (memO_ne hp (by decide))⟩
  · exact .inr ⟨.inr (.inr (.inr (.inr (.inr (.inr (.inr (.inr (.inr hp)))))))), heap_ne (r8 p hp) r3 (opO_ne hp (by decide))⟩
theorem LawS.misses (H : LawS w0 B g rb b S lp h m rh rm la hv ob w) (c : Nat) (hc : c < 3) (x : Int) : LawS w0 B g rb b S lp h m rh (upd rm c x) la hv ob (w.setCell ⟨b.ms, c, none⟩ (.int .i64 x)) := by
  obtain ⟨r0, r1, r2, r3, r4, r5, r6, r7, r8⟩ := H.rows
  refine ⟨H.two.set1 b.ms (inO (upd rm c x)) (Sv.set w b.ms c _) ⟨inO rm, by simp [dL]⟩ (in_set rm c hc x _ r4) (fr_in _) (fun p hp => ?_), H.bl.trans ((Below.refl _ _).setCell (p := ⟨b.ms, c, none⟩) (Nat.le_trans H.le H.ge.2.2.2.1) _), H.le, H.ge, H.ne, H.ok⟩
  have n1 := heap_ne r0 r4 (cells_ne (by decide))
  have n2 := heap_ne r1 r4 (cells_ne (by decide))
  have n3 := heap_ne r2 r4 (cells_ne (by decide))
  have n4 := H.ne.2.1
  have n5 := heap_ne r5 r4 (cells_ne (by decide))
  have n6 := heap_ne r6 r4 (cells_ne (by decide))
  unfold dL at hp ⊢
  simp only [List.mem_cons, List.mem_append] at hp ⊢
  rcases hp with rfl | rfl | rfl | rfl | rfl | rfl | rfl | hp | hp | hp
  · exact .inr ⟨.inl rfl, n1⟩
  · exact .inr ⟨.inr (.inl rfl), n2⟩
  · exact .inr ⟨.inr (.inr (.inl rfl)), n3⟩
  · exact .inr ⟨.inr (.inr (.inr (.inl rfl))), n4⟩
  · exact .inl rfl
  · exact .inr ⟨.inr (.inr (.inr (.inr (.inr (.inl rfl))))), n5⟩
  · exact .inr ⟨.inr (.inr (.inr (.inr (.inr (.inr (.inl rfl)))))), n6⟩
  · exact .inr ⟨.inr (.inr (.inr (.inr (.inr (.inr (.inr (.inl hp))))))), heap_ne (r7 0 (by omega) p hp) r4 (memO_ne hp (by decide))⟩
  · exact .inr ⟨.inr (.inr (.inr (.inr (.inr (.inr (.inr (.inr (.inl hp)))))))), heap_ne (r7 1 (by omega) p hp) r4 (memO_ne hp (by decide))⟩
  · exact .inr ⟨.inr (.inr (.inr (.inr (.inr (.inr (.inr (.inr (.inr hp)))))))), heap_ne (r8 p hp) r4 (opO_ne hp (by decide))⟩
theorem LawS.have_ (H : LawS w0 B g rb b S lp h m rh rm la hv ob w) (c : Nat) (hc : c < 3) (x : Bool) : LawS w0 B g rb b S lp h m rh rm la (upd hv c x) ob (w.setCell ⟨b.vb, c, none⟩ (.bool x)) := by
  obtain ⟨r0, r1, r2, r3, r4, r5, r6, r7, r8⟩ := H.rows
  refine ⟨H.two.set1 b.vb (hvO (upd hv c x)) (Sv.set w b.vb c _) ⟨hvO hv, by simp [dL]⟩ (hv_set hv c hc x _ r6) (fr_hv _) (fun p hp => ?_), H.bl.trans ((Below.refl _ _).setCell (p := ⟨b.vb, c, none⟩) (Nat.le_trans H.le H.ge.2.2.2.2.2) _), H.le, H.ge, H.ne, H.ok⟩
  have n1 := heap_ne r0 r6 (cells_ne (by decide))
  have n2 := heap_ne r1 r6 (cells_ne (by decide))
  have n3 := heap_ne r2 r6 (cells_ne (by decide))
  have n4 := heap_ne r3 r6 (cells_ne (by decide))
  have n5 := heap_ne r4 r6 (cells_ne (by decide))
  have n6 := heap_ne r5 r6 (cells_ne (by decide))
  unfold dL at hp ⊢
  simp only [List.mem_cons, List.mem_append] at hp ⊢
  rcases hp with rfl | rfl | rfl | rfl | rfl | rfl | rfl | hp | hp | hp
  · exact .inr ⟨.inl rfl, n1⟩
  · exact .inr ⟨.inr (.inl rfl), n2⟩
  · exact .inr ⟨.inr (.inr (.inl rfl)), n3⟩
  · exact .inr ⟨.inr (.inr (.inr (.inl rfl))), n4⟩
  · exact .inr ⟨.inr (.inr (.inr (.inr (.inl rfl)))), n5⟩
  · exact .inr ⟨.inr (.inr (.inr (.inr (.inr (.inl rfl))))), n6⟩
  · exact .inl rfl
  · exact .inr ⟨.inr (.inr (.inr (.inr (.inr (.inr (.inr (.inl hp))))))), heap_ne (r7 0 (by omega) p hp) r6 (memO_ne hp (by decide))⟩
  · exact .inr ⟨.inr (.inr (.inr (.inr (.inr (.inr (.inr (.inr (.inl hp)))))))), heap_ne (r7 1 (by omega) p hp) r6 (memO_ne hp (by decide))⟩
  · exact .inr ⟨.inr (.inr (.inr (.inr (.inr (.inr (.inr (.inr (.inr hp)))))))), heap_ne (r8 p hp) r6 (opO_ne hp (by decide))⟩
/-- What the row of last operations holds. -/
theorem la_cell (f : Nat → OpR) (c k : Nat) (hc : c < 3) (hk : k < 6) (blk : Nat) (hh : w.heap[blk]? = some (laO f)) : w.cell? ⟨blk, c * 6 + k, none⟩ = (f c).cs[k]? := by
  unfold laO at hh
  obtain rfl | rfl | rfl : c = 0 ∨ c = 1 ∨ c = 2 := by omega
  all_goals
    obtain rfl | rfl | rfl | rfl | rfl | rfl : k = 0 ∨ k = 1 ∨ k = 2 ∨ k = 3 ∨ k = 4 ∨ k = 5 := by omega
    all_goals simp [World.cell?, hh, OpR.cs]
theorem LawS.last (H : LawS w0 B g rb b S lp h m rh rm la hv ob w) (c : Nat) (hc : c < 3) (o : OpR) (hs : Sv [b.ls] w w') (hb : Below B w w') (ho : w'.heap[b.ls]? = some (laO (upd la c o))) : LawS w0 B g rb b S lp h m rh rm (upd la c o) hv ob w' := by
  obtain ⟨r0, r1, r2, r3, r4, r5, r6, r7, r8⟩ := H.rows
  refine ⟨H.two.set1 b.ls (laO (upd la c o)) hs ⟨laO la, by simp [dL]⟩ ho (fr_la _) (fun p hp => ?_), H.bl.trans (hb.mono H.le), H.le, H.ge, H.ne, H.ok⟩
  have n1 := heap_ne r0 r5 (cells_ne (by decide))
  have n2 := heap_ne r1 r5 (cells_ne (by decide))
  have n3 := heap_ne r2 r5 (cells_ne (by decide))
  have n4 := heap_ne r3 r5 (cells_ne (by decide))
  have n5 := heap_ne r4 r5 (cells_ne (by decide))
  have n6 := heap_ne r6 r5 (cells_ne (by decide))
  unfold dL at hp ⊢
  simp only [List.mem_cons, List.mem_append] at hp ⊢
  rcases hp with rfl | rfl | rfl | rfl | rfl | rfl | rfl | hp | hp | hp
  · exact .inr ⟨.inl rfl, n1⟩
  · exact .inr ⟨.inr (.inl rfl), n2⟩
  · exact .inr ⟨.inr (.inr (.inl rfl)), n3⟩
  · exact .inr ⟨.inr (.inr (.inr (.inl rfl))), n4⟩
  · exact .inr ⟨.inr (.inr (.inr (.inr (.inl rfl)))), n5⟩
  · exact .inl rfl
  · exact .inr ⟨.inr (.inr (.inr (.inr (.inr (.inr (.inl rfl)))))), n6⟩
  · exact .inr ⟨.inr (.inr (.inr (.inr (.inr (.inr (.inr (.inl hp))))))), heap_ne (r7 0 (by omega) p hp) r5 (memO_ne hp (by decide))⟩
  · exact .inr ⟨.inr (.inr (.inr (.inr (.inr (.inr (.inr (.inr (.inl hp)))))))), heap_ne (r7 1 (by omega) p hp) r5 (memO_ne hp (by decide))⟩
  · exact .inr ⟨.inr (.inr (.inr (.inr (.inr (.inr (.inr (.inr (.inr hp)))))))), opL_ne H.ne.2.2 p hp⟩
end
end Go.Proofs.Ytoonaljmdiideaa

namespace Go.Proofs.Ytoonaljmdiideaa
set_option linter.unusedVariables false
set_option linter.unusedSimpArgs false
open Go.RowKit Go.Maps Go.ChangeShapes
section
variable {w0 w w' : World} {B g rb : Nat} {b : Bk} {S : List (List SlR)} {lp : Nat → Option Mem} {h m rh rm : Nat → Int} {la : Nat → OpR} {hv : Nat → Bool} {ob : Option (Nat × OpR)} {D : List (Nat × Obj)}
theorem upd_id {α : Type} (f : Nat → α) (c : Nat) : upd f c (f c) = f := by
  funext j
  unfold upd
  split
  · rename_i e; rw [e]
  · rfl
/-- The operation's box. -/
theorem LawS.box (H : LawS w0 B g rb b S lp h m rh rm la hv none w) (o : OpR) : LawS w0 B g rb b S lp h m rh rm la hv (some (w.heap.size, o)) (w.alloc (opO o)) := by
  have hb : Below w.heap.size w (w.alloc (opO o)) := sh_lay
  refine ⟨(H.two.cons hb w.heap.size (opO o) (Nat.le_refl _) (World.alloc_heap_new _ _) (fr_kind _ _ _ (by decide) (by decide) (by decide) (by decide) (by decide))).sub (fun p hp => ?_), H.bl.trans (hb.mono H.bl.size), H.le, H.ge, ⟨H.ne.1, H.ne.2.1, fun x hx => ?_⟩, H.ok⟩
  · unfold dL opL at hp ⊢
    simp only [List.mem_cons, List.mem_append, List.not_mem_nil, or_false] at hp ⊢
    rcases hp with hp | hp | hp | hp | hp | hp | hp | hp | hp | hp
    · exact .inr (.inl hp)
    · exact .inr (.inr (.inl hp))
    · exact .inr (.inr (.inr (.inl hp)))
    · exact .inr (.inr (.inr (.inr (.inl hp))))
    · exact .inr (.inr (.inr (.inr (.inr (.inl hp)))))
    · exact .inr (.inr (.inr (.inr (.inr (.inr (.inl hp))))))
    · exact .inr (.inr (.inr (.inr (.inr (.inr (.inr (.inl hp)))))))
    · exact .inr (.inr (.inr (.inr (.inr (.inr (.inr (.inr (.inl hp))))))))
    · exact .inr (.inr (.inr (.inr (.inr (.inr (.inr (.inr (.inr hp))))))))
    · exact .inl hp
  · cases hx
    obtain ⟨_, _, _, _, _, r5, _⟩ := H.rows
    have := (Array.getElem?_eq_some_iff.1 r5).1
    show w.heap.size ≠ b.ls
    omega
theorem LawS.drop (H : LawS w0 B g rb b S lp h m rh rm la hv ob w) : LawS w0 B g rb b S lp h m rh rm la hv none w := by
  refine ⟨H.two.sub (fun p hp => ?_), H.bl, H.le, H.ge, ⟨H.ne.1, H.ne.2.1, fun x hx => by cases hx⟩, H.ok⟩
  unfold dL at hp ⊢
  simp only [List.mem_cons, List.mem_append] at hp ⊢
  rcases hp with hp | hp | hp | hp | hp | hp | hp | hp | hp | hp
  · exact .inl hp
  · exact .inr (.inl hp)
  · exact .inr (.inr (.inl hp))
  · exact .inr (.inr (.inr (.inl hp)))
  · exact .inr (.inr (.inr (.inr (.inl hp))))
  · exact .inr (.inr (.inr (.inr (.inr (.inl hp)))))
  · exact .inr (.inr (.inr (.inr (.inr (.inr (.inl hp))))))
  · exact .inr (.inr (.inr (.inr (.inr (.inr (.inr (.inl hp)))))))
  · exact .inr (.inr (.inr (.inr (.inr (.inr (.inr (.inr (.inl hp))))))))
  · cases hp
/-- Two's list as that of one cache among the others. -/
def dD (g : Nat) (b : Bk) (lp : Nat → Option Mem) (h m rh rm : Nat → Int) (la : Nat → OpR) (hv : Nat → Bool) (ob : Option (Nat × OpR)) (c : Nat) : List (Nat × Obj) × List (Nat × Obj) :=
  if c = 0 then ([], (dL g b lp h m rh rm la hv ob).drop 1) else ((dL g b lp h m rh rm la hv ob).take 1, (dL g b lp h m rh rm la hv ob).drop 2)
theorem dD_eq (c : Nat) (hc : c < 2) : dL g b lp h m rh rm la hv ob = (dD g b lp h m rh rm la hv ob c).1 ++ (cbN b c, cheO (cbN b c) (lp c) (h c) (m c)) :: (dD g b lp h m rh rm la hv ob c).2 := by
  obtain rfl | rfl : c = 0 ∨ c = 1 := by omega
  · rfl
  · rfl
theorem dD_mem (c : Nat) (hc : c < 2) (p : Nat × Obj) (hp : p ∈ memL g (lp c)) : p ∈ (dD g b lp h m rh rm la hv ob c).1 ++ (dD g b lp h m rh rm la hv ob c).2 := by
  obtain rfl | rfl : c = 0 ∨ c = 1 := by omega
  · simp [dD, dL, hp]
  · simp [dD, dL, hp]
theorem LawS.nd (H : LawS w0 B g rb b S lp h m rh rm la hv ob w) (c : Nat) (hc : c < 2) : ∀ p ∈ (dD g b lp h m rh rm la hv ob c).1 ++ (dD g b lp h m rh rm la hv ob c).2, p.1 ≠ cbN b c := by
  obtain ⟨r0, r1, r2, r3, r4, r5, r6, r7, r8⟩ := H.rows
  have hce : ∀ (x : Nat) (lq : Option Mem) (u v : Int), w.heap[x]? = some (cheO x lq u v) → b.cr ≠ x ∧ b.hb ≠ x ∧ b.ms ≠ x ∧ b.ls ≠ x ∧ b.vb ≠ x ∧ (∀ c, c < 2 → ∀ p ∈ memL g (lp c), p.1 ≠ x) ∧ ∀ p ∈ opL ob, p.1 ≠ x := fun x lq u v hx =>
    ⟨heap_ne r2 hx (cells_ne (by decide)), heap_ne r3 hx (cells_ne (by decide)), heap_ne r4 hx (cells_ne (by decide)), heap_ne r5 hx (cells_ne (by decide)), heap_ne r6 hx (cells_ne (by decide)), fun c hc p hp => heap_ne (r7 c hc p hp) hx (memO_ne hp (by decide)), fun p hp => heap_ne (r8 p hp) hx (opO_ne hp (by decide))⟩
  obtain rfl | rfl : c = 0 ∨ c = 1 := by omega
  · obtain ⟨n1, n2, n3, n4, n5, n6, n7⟩ := hce _ _ _ _ r0
    intro p hp
    simp only [dD, dL, if_true, List.nil_append, List.drop_succ_cons, List.drop_zero, List.mem_cons, List.mem_append] at hp
    rcases hp with rfl | rfl | rfl | rfl | rfl | rfl | hp | hp | hp
    · exact fun e => H.ne.1 e.symm
    · exact n1
    · exact n2
    · exact n3
    · exact n4
    · exact n5
    · exact n6 0 (by omega) p hp
    · exact n6 1 (by omega) p hp
    · exact n7 p hp
  · obtain ⟨n1, n2, n3, n4, n5, n6, n7⟩ := hce _ _ _ _ r1
    intro p hp
    simp only [dD, dL, if_neg (show ¬ (1 = 0) by decide), List.take_succ_cons, List.take_zero, List.drop_succ_cons, List.drop_zero, List.mem_cons, List.mem_append, List.not_mem_nil, or_false] at hp
    rcases hp with rfl | rfl | rfl | rfl | rfl | rfl | hp | hp | hp
    · exact H.ne.1
    · exact n1
    · exact n2
    · exact n3
    · exact n4
    · exact n5
    · exact n6 0 (by omega) p hp
    · exact n6 1 (by omega) p hp
    · exact n7 p hp
/-- The list with one cache turned. -/
theorem dL_upd (c : Nat) (hc : c < 2) (x : Option Mem) (h' m' : Int) (Y : List (Nat × Obj)) (hY : ∀ p ∈ memL g x, p ∈ Y) : ∀ p ∈ dL g b (upd lp c x) (upd h c h') (upd m c m') rh rm la hv ob, p ∈ (dD g b lp h m rh rm la hv ob c).1 ++ (cbN b c, cheO (cbN b c) x h' m') :: (Y ++ (dD g b lp h m rh rm la hv ob c).2) := by
  intro p hp
  obtain rfl | rfl : c = 0 ∨ c = 1 := by omega
  · simp only [dL, dD, upd, if_true, if_neg (show ¬ (1 = 0) by decide), List.nil_append, List.drop_succ_cons, List.drop_zero, List.mem_cons, List.mem_append, cbN] at hp ⊢
    rcases hp with hp | hp | hp | hp | hp | hp | hp | hp | hp | hp
    · exact .inl hp
    · exact .inr (.inr (.inl hp))
    · exact .inr (.inr (.inr (.inl hp)))
    · exact .inr (.inr (.inr (.inr (.inl hp))))
    · exact .inr (.inr (.inr (.inr (.inr (.inl hp)))))
    · exact .inr (.inr (.inr (.inr (.inr (.inr (.inl hp))))))
    · exact .inr (.inr (.inr (.inr (.inr (.inr (.inr (.inl hp)))))))
    · exact .inr (.inl (hY p hp))
    · exact .inr (.inr (.inr (.inr (.inr (.inr (.inr (.inr (.inr (.inl hp)))))))))
    · exact .inr (.inr (.inr (.inr (.inr (.inr (.inr (.inr (.inr (.inr hp)))))))))
  · simp only [dL, dD, upd, if_true, if_neg (show ¬ (1 = 0) by decide), if_neg (show ¬ (0 = 1) by decide), List.take_succ_cons, List.take_zero, List.drop_succ_cons, List.drop_zero, List.mem_cons, List.mem_append, List.not_mem_nil, or_false, cbN] at hp ⊢
    rcases hp with hp | hp | hp | hp | hp | hp | hp | hp | hp | hp
    · exact .inl hp
    · exact .inr (.inl hp)
    · exact .inr (.inr (.inr (.inl hp)))
    · exact .inr (.inr (.inr (.inr (.inl hp))))
    · exact .inr (.inr (.inr (.inr (.inr (.inl hp)))))
    · exact .inr (.inr (.inr (.inr (.inr (.inr (.inl hp))))))
    · exact .inr (.inr (.inr (.inr (.inr (.inr (.inr (.inl hp)))))))
    · exact .inr (.inr (.inr (.inr (.inr (.inr (.inr (.inr (.inl hp))))))))
    · exact .inr (.inr (.inl (hY p hp)))
    · exact .inr (.inr (.inr (.inr (.inr (.inr (.inr (.inr (.inr (.inr hp)))))))))
theorem memOk_none (S : List (List SlR)) : memOk S none := fun r hr => by cases hr
theorem LawS.okU (H : LawS w0 B g rb b S lp h m rh rm la hv ob w) (c : Nat) (x : Option Mem) (hx : memOk S x) : ∀ j, j < 2 → memOk S (upd lp c x j) := fun j hj => by
  unfold upd
  split
  · exact hx
  · exact H.ok j hj
/-- Whether the cache was asked just that ahead. -/
def sameQ (lp : Option Mem) (i : Int) (k : Kb) : Prop := ∃ r, lp = some r ∧ r.s = i ∧ r.k = k
theorem laws_cached (c : Nat) (hc : c < 2) (i : Int) (s : ByteArray) (z : Int) (hs : (s.size : Int) ≤ 140737488351232) (hz : (Lit.int .i64 (bareZ z)).wf = true) (H : LawS w0 B g rb b S lp h m rh rm la hv ob w) (hh : 0 ≤ h c ∧ h c < 9000000000000000000) (hm : 0 ≤ m c ∧ m c < 9000000000000000000) :
    Calls Try.prog 17 #[.pointer (some ⟨g, 0, none⟩), cpV b c, .int .i64 i, .agg #[.string s, .int .i64 z]] w fun e w' => e = .returned (ansV (ansF S i (kbOf (s, z)))) ∧ ∃ r h' m', LawS w0 B g rb b S (upd lp c (some r)) (upd h c h') (upd m c m') rh rm la hv ob w' ∧ r.s = i ∧ r.k = kbOf (s, z) ∧ ((sameQ (lp c) i (kbOf (s, z)) ∧ h' = h c + 1 ∧ m' = m c) ∨ (¬ sameQ (lp c) i (kbOf (s, z)) ∧ h' = h c ∧ m' = m c + 1)) := by
  have hT := H.two
  rw [dD_eq c hc] at hT
  rw [cpV_lt b c hc]
  by_cases hsame : sameQ (lp c) i (kbOf (s, z))
  · obtain ⟨r, hr, rfl, hk⟩ := hsame
    obtain ⟨mb, rs, ⟨q, y⟩, an, st⟩ := r
    dsimp only at hk ⊢
    have hmem := dD_mem (b := b) (h := h) (m := m) (rh := rh) (rm := rm) (la := la) (hv := hv) (ob := ob) (lp := lp) (g := g) c hc (mb, memO g ⟨mb, rs, (q, y), an, st⟩) (by rw [hr]; exact List.mem_singleton.2 rfl)
    rw [hr] at hT
    refine (cached_hit (cbN b c) mb an st (h c) (m c) rs s z q y hk.symm w hT hmem (fun hst => (H.ok c hc _ hr hst).2) (H.nd c hc) hs hz hh.1 hh.2 (H.ges c hc)).mono ?_
    rintro e w' ⟨rfl, hb, hT'⟩
    refine ⟨by rw [← hk], ⟨mb, rs, (q, y), an, st⟩, h c + 1, m c, ⟨hT'.sub (fun p hp => ?_), H.bl.trans (hb.mono H.le), H.le, H.ge, H.ne, H.okU c _ (hr ▸ H.ok c hc)⟩, rfl, hk, .inl ⟨⟨_, hr, rfl, hk⟩, rfl, rfl⟩⟩
    have h1 := dL_upd c hc (some ⟨mb, rs, (q, y), an, st⟩) (h c + 1) (m c) (memL g (lp c)) (fun p hp => by rw [hr]; exact hp) p hp
    rcases List.mem_append.1 h1 with h1 | h1
    · exact List.mem_append_left _ h1
    · rcases List.mem_cons.1 h1 with rfl | h1
      · simp
      · rcases List.mem_append.1 h1 with h1 | h1
        · rcases List.mem_append.1 (dD_mem (b := b) (h := h) (m := m) (rh := rh) (rm := rm) (la := la) (hv := hv) (ob := ob) c hc p h1) with h2 | h2
          · exact List.mem_append_left _ h2
          · exact List.mem_append_right _ (List.mem_cons_of_mem _ h2)
        · exact List.mem_append_right _ (List.mem_cons_of_mem _ h1)
  · refine (cached_miss (cbN b c) (lp c) (h c) (m c) i s z w hT (fun p hp => ?_) (H.nd c hc) hs hz hm.1 hm.2 (H.ges c hc) (fun r hr hk => hsame ⟨r, hr, hk⟩)).mono ?_
    · rcases List.mem_append.1 (dD_mem (b := b) (h := h) (m := m) (rh := rh) (rm := rm) (la := la) (hv := hv) (ob := ob) c hc p hp) with h2 | h2
      · exact List.mem_append_left _ h2
      · exact List.mem_append_right _ (List.mem_cons_of_mem _ h2)
    · rintro e w' ⟨rfl, hb, r, hrs, hrk, hok, hT'⟩
      refine ⟨rfl, r, h c, m c + 1, ⟨hT'.sub (fun p hp => ?_), H.bl.trans (hb.mono H.le), H.le, H.ge, H.ne, H.okU c _ hok⟩, hrs, hrk, .inr ⟨hsame, rfl, rfl⟩⟩
      have h1 := dL_upd c hc (some r) (h c) (m c + 1) [(r.mb, memO g r)] (fun p hp => hp) p hp
      exact h1
theorem laws_cached2 (i : Int) (s : ByteArray) (z : Int) (hs : (s.size : Int) ≤ 140737488351232) (hz : (Lit.int .i64 (bareZ z)).wf = true) (H : LawS w0 B g rb b S lp h m rh rm la hv ob w) :
    Calls Try.prog 17 #[.pointer (some ⟨g, 0, none⟩), cpV b 2, .int .i64 i, .agg #[.string s, .int .i64 z]] w fun e w' => e = .returned (ansV (ansF S i (kbOf (s, z)))) ∧ LawS w0 B g rb b S lp h m rh rm la hv ob w' := by
  refine (cached_nil i s z w H.two hs hz).mono ?_
  rintro e w' ⟨rfl, hb⟩
  exact ⟨rfl, H.below hb⟩
theorem laws_rfind (i : Int) (s : ByteArray) (z : Int) (hs : (s.size : Int) ≤ 140737488351232) (H : LawS w0 B g rb b S lp h m rh rm la hv ob w) :
    Calls Try.prog 18 #[.pointer (some ⟨rb, 0, none⟩), .int .i64 i, .agg #[.string s, .int .i64 z]] w fun e w' => e = .returned (ansV (ansF S i (kbOf (s, z)))) ∧ LawS w0 B g rb b S lp h m rh rm la hv ob w' := by
  refine (two_rfind i s z w H.two hs).mono ?_
  rintro e w' ⟨rfl, hb⟩
  exact ⟨rfl, H.below hb⟩
theorem laws_flush (c : Nat) (hc : c < 2) (H : LawS w0 B g rb b S lp h m rh rm la hv ob w) :
    Calls Try.prog 16 #[cpV b c] w fun e w' => e = .returned (.tuple #[]) ∧ LawS w0 B g rb b S (upd lp c none) h m rh rm la hv ob w' := by
  have hT := H.two
  rw [dD_eq c hc] at hT
  rw [cpV_lt b c hc]
  refine (flush_two (cbN b c) (lp c) (h c) (m c) w hT (H.nd c hc) (H.ges c hc)).mono ?_
  rintro e w' ⟨rfl, hb, hT'⟩
  refine ⟨rfl, ⟨hT'.sub (fun p hp => ?_), H.bl.trans (hb.mono H.le), H.le, H.ge, H.ne, H.okU c _ (memOk_none S)⟩⟩
  have h1 := dL_upd (lp := lp) (h := h) (m := m) c hc none (h c) (m c) [] (fun p hp => hp) p (by rw [upd_id, upd_id]; exact hp)
  exact h1
theorem laws_flush2 (H : LawS w0 B g rb b S lp h m rh rm la hv ob w) :
    Calls Try.prog 16 #[cpV b 2] w fun e w' => e = .returned (.tuple #[]) ∧ LawS w0 B g rb b S lp h m rh rm la hv ob w' := by
  refine (flush_no (cpV b 2) w (.inl rfl)).mono ?_
  rintro e w' ⟨rfl, rfl⟩
  exact ⟨rfl, H⟩
/-- What a cache tells of its counts. -/
theorem laws_asked (c : Nat) (hc : c < 3) (h2 : h 2 = 0 ∧ m 2 = 0) (H : LawS w0 B g rb b S lp h m rh rm la hv ob w) :
    Calls Try.prog 20 #[cpV b c] w fun e w' => e = .returned (.tuple #[.int .i64 (h c), .int .i64 (m c)]) ∧ LawS w0 B g rb b S lp h m rh rm la hv ob w' := by
  obtain ⟨r0, r1, _⟩ := H.rows
  obtain rfl | rfl | rfl : c = 0 ∨ c = 1 ∨ c = 2 := by omega
  · refine (asked_in b.c0 (lpA (lp 0)) (h 0) (m 0) w r0).mono ?_
    rintro e w' ⟨rfl, hb⟩
    exact ⟨rfl, H.below hb⟩
  · refine (asked_in b.c1 (lpA (lp 1)) (h 1) (m 1) w r1).mono ?_
    rintro e w' ⟨rfl, hb⟩
    exact ⟨rfl, H.below hb⟩
  · refine (asked_no (cpV b 2) w (.inl rfl)).mono ?_
    rintro e w' ⟨rfl, rfl⟩
    rw [h2.1, h2.2]
    exact ⟨rfl, H⟩
theorem memOk_snoc {S S' : List (List SlR)} {x : Option Mem} (hx : memOk S x) (hS : S' = S ∨ ∃ sl, S' = S ++ [sl]) : memOk S' x := by
  rcases hS with rfl | ⟨sl, rfl⟩
  · exact hx
  · intro r hr hst
    obtain ⟨h1, h2⟩ := hx r hr hst
    refine ⟨by rw [List.length_append]; have := (Nat.zero_le [sl].length); omega, ?_⟩
    rw [ansF_snoc h1]
    exact h2
/-- Both Adds, or both Changes. -/
def Then2 (w0 : World) (B g rb : Nat) (b : Bk) (lp : Nat → Option Mem) (h m rh rm : Nat → Int) (la : Nat → OpR) (hv : Nat → Bool) (ob : Option (Nat × OpR)) (F : Nat) (i : Int) (s : ByteArray) (z f : Int) (e : Ending) (w1 : World) : Prop :=
  ∃ x er : Int, e = .returned (.tuple #[.int .i64 x, .int .i64 er]) ∧ (∀ p ∈ opL ob, w1.heap[p.1]? = some p.2) ∧ ∀ W : World, Below w1.heap.size w1 W → Calls Try.prog F #[.pointer (some ⟨rb, 0, none⟩), .int .i64 i, .agg #[.string s, .int .i64 z], .int .i64 f] W fun e2 w2 => e2 = .returned (.tuple #[.int .i64 x, .int .i64 er]) ∧ ∃ S', LawS w0 B g rb b S' lp h m rh rm la hv ob w2
theorem then_two {F : Nat} {i : Int} {s : ByteArray} {z f : Int} {e : Ending} {w1 : World} (H : LawS w0 B g rb b S lp h m rh rm la hv ob w) (hT : Then B g rb S (dL g b lp h m rh rm la hv ob) F i s z f w e w1) : Then2 w0 B g rb b lp h m rh rm la hv ob F i s z f e w1 := by
  obtain ⟨x, er, he, hb, hD, hR⟩ := hT
  refine ⟨x, er, he, fun p hp => hD p (by simp [dL, hp]), fun W hW => (hR W hW).mono ?_⟩
  rintro e2 w2 ⟨rfl, hb2, S', hS, hT2⟩
  exact ⟨rfl, S', hT2, H.bl.trans ((hb.trans hb2).mono H.le), H.le, H.ge, H.ne, fun c hc => memOk_snoc (H.ok c hc) hS⟩
theorem laws_add (i : Int) (s : ByteArray) (z f : Int) (hs : (s.size : Int) ≤ 140737488351232) (hz : (Lit.int .i64 (bareZ z)).wf = true) (H : LawS w0 B g rb b S lp h m rh rm la hv ob w) :
    Calls Try.prog 11 #[.pointer (some ⟨g, 0, none⟩), .int .i64 i, .agg #[.string s, .int .i64 z], .int .i64 f] w fun e w1 => Then2 w0 B g rb b lp h m rh rm la hv ob 12 i s z f e w1 :=
  (two_add i s z f w H.two hs hz).mono fun e w1 h => then_two H h
theorem laws_chg (i : Int) (s : ByteArray) (z f : Int) (hs : (s.size : Int) ≤ 140737488351232) (hz : (Lit.int .i64 (bareZ z)).wf = true) (H : LawS w0 B g rb b S lp h m rh rm la hv ob w) :
    Calls Try.prog 9 #[.pointer (some ⟨g, 0, none⟩), .int .i64 i, .agg #[.string s, .int .i64 z], .int .i64 f] w fun e w1 => Then2 w0 B g rb b lp h m rh rm la hv ob 10 i s z f e w1 :=
  (two_chg i s z f w H.two hs hz).mono fun e w1 h => then_two H h
end
end Go.Proofs.Ytoonaljmdiideaa
