/- ShapeCaches: the law's beginning, and what each round keeps. -/
import Derived.Test.YtoonaljmdiideaaSxH
namespace Go.Proofs.Ytoonaljmdiideaa
set_option linter.unusedVariables false
set_option linter.unusedSimpArgs false
open Go.RowKit Go.Maps Go.ChangeShapes
theorem two_init {B g mn mw lb rb : Nat} {vs vL : Value} {w3 w4 : World} (hT : T1 [] B g mn mw lb (.slice none 0 0) vs (.slice none 0 0) [] [] [[]] [(lb, .slice none 0 0)] 0 (.map []) (.map []) w3) (hR : R1 w3.heap.size rb vL (.slice none 0 0) [.slice none 0 0] [[]] [] w4) (hb : Below w3.heap.size w3 w4) : Two B g rb [[]] [] w4 := by
  have hB : B ≤ w3.heap.size := by have := hT.ge.1; have := hT.lts.1; omega
  have hR' : R1 B rb vL (.slice none 0 0) [.slice none 0 0] [[]] [] w4 := ⟨Nat.le_trans hB hR.ge, hR.row, own_base hR.l hB, fun i hi => own_base (hR.s i hi) hB, own_base hR.m hB⟩
  refine ⟨⟨mn, mw, .slice none 0 0, vs, [], [(lb, .slice none 0 0, [])], [[]], [(lb, .slice none 0 0)], [], .map [], .map [], vL, .slice none 0 0, [.slice none 0 0], [], ofB w4 (rBs rb vL (.slice none 0 0) [.slice none 0 0]), ⟨fun q hq => ?_, List.pairwise_singleton _ _, fun i hi => ?_, rfl, Nat.zero_lt_one⟩, numOk_nil, wayOk_nil, hR', rfl, ?_, fun b hb => ?_⟩, fun p hp => by cases hp⟩
  · obtain rfl := List.mem_singleton.1 hq
    refine hT.turn (Sv.below hb) (fun b hb => by cases hb) (fun p hp => ?_)
    obtain ⟨a, c⟩ := ofB_mem.1 hp
    refine ⟨c, .inr ?_⟩
    rcases rBs_mem a with e | e | e | ⟨v, hv, e⟩
    · rw [e]; exact hR.ge
    · exact (hR.l.lt _ e).1
    · cases e
    · rw [List.mem_singleton.1 hv] at e; cases e
  · obtain rfl : i = 0 := by simp at hi; omega
    exact ⟨_, List.mem_singleton.2 rfl, rfl, Nat.le_refl _⟩
  · refine ⟨rfl, rfl, Nat.zero_lt_one, (fun a b k h => by simp at h), (fun t ht => by cases ht), fun r hr => ?_, fun r hr x hx => ?_, fun i hi => ?_, (fun p hp => by cases hp), (fun x hx => by cases hx), (fun i n k f tt h => by cases h), (fun i n k f h => by simp at h), fun l hl => ?_, ⟨by decide, (fun x hx => by cases hx)⟩, rfl, rfl, Nat.le_refl _, by show 1 ≤ 100000; decide⟩
    · rw [List.mem_singleton.1 hr]; exact Nat.zero_le _
    · rw [List.mem_singleton.1 hr] at hx; cases hx
    · obtain rfl : i = 0 := by simp at hi; omega
      exact ⟨_, List.mem_singleton.2 rfl, rfl, rfl, Nat.le_refl _, fun j x hx => by simp at hx⟩
    · rw [List.mem_singleton.1 hl]
      exact ⟨by decide, fun x hx => by cases hx⟩
  · obtain ⟨ob, ho⟩ := hR'.blocks b hb
    exact ⟨ob, ofB_mem.2 ⟨hb, ho⟩⟩
theorem bareZ_wf {z : Int} (h : (Lit.int .i64 z).wf = true) : (Lit.int .i64 (bareZ z)).wf = true := by
  unfold bareZ
  split
  · exact h
  · rfl
/-- What is remembered is what was asked last. -/
def relC (lp : Option Mem) (la : OpR) (hv : Bool) : Prop := (lp = none ∧ hv = false) ∨ ∃ r, lp = some r ∧ hv = true ∧ r.s = la.si ∧ r.k = kbOf (la.s, la.z)
/-- What each round keeps. -/
def CJ (w0 : World) (B g rb : Nat) (b : Bk) (ob : Option (Nat × OpR)) (i : Nat) (w : World) : Prop :=
  ∃ S lp h m la hv, LawS w0 B g rb b S lp h m h m la hv ob w ∧ (∀ c, c < 2 → relC (lp c) (la c) (hv c)) ∧ (h 2 = 0 ∧ m 2 = 0) ∧ (∀ c, c < 3 → (0 ≤ h c ∧ h c ≤ (i : Int)) ∧ 0 ≤ m c ∧ m c ≤ (i : Int)) ∧ ∀ c, c < 2 → ((la c).s.size : Int) ≤ 140737488351232
theorem LawS.obox {w0 w : World} {B g rb : Nat} {b : Bk} {S : List (List SlR)} {lp : Nat → Option Mem} {h m rh rm : Nat → Int} {la : Nat → OpR} {hv : Nat → Bool} {bo : Nat} {o : OpR} (H : LawS w0 B g rb b S lp h m rh rm la hv (some (bo, o)) w) : w.cell? ⟨bo, 0, none⟩ = some (.int .i64 o.kd) ∧ w.cell? ⟨bo, 1, none⟩ = some (.int .i64 o.si) ∧ w.cell? ⟨bo, 2, none⟩ = some (.string o.s) ∧ w.cell? ⟨bo, 3, none⟩ = some (.int .i64 o.z) ∧ w.cell? ⟨bo, 4, none⟩ = some (.int .i64 o.f) ∧ w.cell? ⟨bo, 5, none⟩ = some (.int .i64 o.c) := by
  obtain ⟨_, _, _, _, _, _, _, _, r8⟩ := H.rows
  have h1 : w.heap[bo]? = some (opO o) := r8 (bo, opO o) (List.mem_singleton.2 rfl)
  unfold opO at h1
  refine ⟨?_, ?_, ?_, ?_, ?_, ?_⟩ <;> simp [World.cell?, h1]
/-- Cells of the law's rows. -/
theorem LawS.cells {w0 w : World} {B g rb : Nat} {b : Bk} {S : List (List SlR)} {lp : Nat → Option Mem} {h m rh rm : Nat → Int} {la : Nat → OpR} {hv : Nat → Bool} {ob : Option (Nat × OpR)} (H : LawS w0 B g rb b S lp h m rh rm la hv ob w) (c : Nat) (hc : c < 3) : w.cell? ⟨b.cr, c, none⟩ = some (cpV b c) ∧ w.cell? ⟨b.hb, c, none⟩ = some (.int .i64 (rh c)) ∧ w.cell? ⟨b.ms, c, none⟩ = some (.int .i64 (rm c)) ∧ w.cell? ⟨b.vb, c, none⟩ = some (.bool (hv c)) ∧ w.frozen? ⟨b.hb, c, none⟩ = false ∧ w.frozen? ⟨b.ms, c, none⟩ = false ∧ w.frozen? ⟨b.vb, c, none⟩ = false := by
  obtain ⟨_, _, r2, r3, r4, _, r6, _, _⟩ := H.rows
  unfold crO at r2
  unfold inO at r3 r4
  unfold hvO at r6
  obtain rfl | rfl | rfl : c = 0 ∨ c = 1 ∨ c = 2 := by omega
  all_goals refine ⟨?_, ?_, ?_, ?_, ?_, ?_, ?_⟩ <;> simp [World.cell?, World.frozen?, r2, r3, r4, r6]
def opZ : OpR := ⟨0, 0, ⟨#[]⟩, 0, 0, 0⟩
/-- The first round's. -/
theorem cj_init {w0 : World} {B g rb : Nat} (b : Bk) {w4 w : World} (hT : Two B g rb [[]] [] w4) (h0 : Below w0.heap.size w0 w4) (hB : w0.heap.size ≤ B) (hb : Below w4.heap.size w4 w)
    (h1 : w.heap[b.c0]? = some (cheO b.c0 none 0 0)) (h2 : w.heap[b.c1]? = some (cheO b.c1 none 0 0)) (h3 : w.heap[b.cr]? = some (crO b)) (h4 : w.heap[b.hb]? = some (inO fun _ => 0)) (h5 : w.heap[b.ms]? = some (inO fun _ => 0)) (h6 : w.heap[b.ls]? = some (laO fun _ => opZ)) (h7 : w.heap[b.vb]? = some (hvO fun _ => false))
    (n1 : w4.heap.size ≤ b.c0) (n2 : w4.heap.size ≤ b.c1) (n3 : w4.heap.size ≤ b.cr) (n4 : w4.heap.size ≤ b.hb) (n5 : w4.heap.size ≤ b.ms) (n6 : w4.heap.size ≤ b.ls) (n7 : w4.heap.size ≤ b.vb) (e1 : b.c0 ≠ b.c1) (e2 : b.hb ≠ b.ms) : CJ w0 B g rb b none 0 w := by
  have hge := hT.ge.2.2
  refine ⟨[[]], fun _ => none, fun _ => 0, fun _ => 0, fun _ => opZ, fun _ => false, ⟨hT.turn (Sv.below hb) (fun x hx => by cases hx) (fun p hp => ?_), h0.trans (hb.mono h0.size), hB, ⟨by omega, by omega, by omega, by omega, by omega, by omega⟩, ⟨e1, e2, fun x hx => by cases hx⟩, fun c hc => memOk_none _⟩, fun c hc => .inl ⟨rfl, rfl⟩, ⟨rfl, rfl⟩, fun c hc => ⟨⟨Int.le_refl _, Int.le_refl _⟩, Int.le_refl _, Int.le_refl _⟩, fun c hc => by show ((0 : Nat) : Int) ≤ _; decide⟩
  unfold dL at hp
  simp only [List.mem_cons, List.mem_append, memL, opL, List.not_mem_nil, or_false] at hp
  rcases hp with rfl | rfl | rfl | rfl | rfl | rfl | rfl
  · exact ⟨h1, .inr n1, fr_che _ _ _ _⟩
  · exact ⟨h2, .inr n2, fr_che _ _ _ _⟩
  · exact ⟨h3, .inr n3, fr_cr _⟩
  · exact ⟨h4, .inr n4, fr_in (fun _ => 0)⟩
  · exact ⟨h5, .inr n5, fr_in (fun _ => 0)⟩
  · exact ⟨h6, .inr n6, fr_la (fun _ => opZ)⟩
  · exact ⟨h7, .inr n7, fr_hv (fun _ => false)⟩
section
variable {w0 w w' : World} {B g rb : Nat} {b : Bk} {ob : Option (Nat × OpR)} {i : Nat}
theorem CJ.bl (h : CJ w0 B g rb b ob i w) : Below w0.heap.size w0 w := by
  obtain ⟨S, lp, hh, m, la, hv, H, _⟩ := h
  exact H.bl
theorem CJ.box (h : CJ w0 B g rb b none i w) (o : OpR) : CJ w0 B g rb b (some (w.heap.size, o)) i (w.alloc (opO o)) := by
  obtain ⟨S, lp, hh, m, la, hv, H, h1⟩ := h
  exact ⟨S, lp, hh, m, la, hv, H.box o, h1⟩
theorem CJ.drop (h : CJ w0 B g rb b ob i w) : CJ w0 B g rb b none i w := by
  obtain ⟨S, lp, hh, m, la, hv, H, h1⟩ := h
  exact ⟨S, lp, hh, m, la, hv, H.drop, h1⟩
theorem CJ.below (h : CJ w0 B g rb b ob i w) (hb : Below w.heap.size w w') : CJ w0 B g rb b ob i w' := by
  obtain ⟨S, lp, hh, m, la, hv, H, h1⟩ := h
  exact ⟨S, lp, hh, m, la, hv, H.below hb, h1⟩
theorem CJ.obox {bo : Nat} {o : OpR} (h : CJ w0 B g rb b (some (bo, o)) i w) : w.cell? ⟨bo, 0, none⟩ = some (.int .i64 o.kd) ∧ w.cell? ⟨bo, 1, none⟩ = some (.int .i64 o.si) ∧ w.cell? ⟨bo, 2, none⟩ = some (.string o.s) ∧ w.cell? ⟨bo, 3, none⟩ = some (.int .i64 o.z) ∧ w.cell? ⟨bo, 4, none⟩ = some (.int .i64 o.f) ∧ w.cell? ⟨bo, 5, none⟩ = some (.int .i64 o.c) := by
  obtain ⟨S, lp, hh, m, la, hv, H, h1⟩ := h
  exact H.obox
theorem op_cells {bo : Nat} {o : OpR} (h1 : w.heap[bo]? = some (opO o)) : w.cell? ⟨bo, 0, none⟩ = some (.int .i64 o.kd) ∧ w.cell? ⟨bo, 1, none⟩ = some (.int .i64 o.si) ∧ w.cell? ⟨bo, 2, none⟩ = some (.string o.s) ∧ w.cell? ⟨bo, 3, none⟩ = some (.int .i64 o.z) ∧ w.cell? ⟨bo, 4, none⟩ = some (.int .i64 o.f) ∧ w.cell? ⟨bo, 5, none⟩ = some (.int .i64 o.c) := by
  unfold opO at h1
  refine ⟨?_, ?_, ?_, ?_, ?_, ?_⟩ <;> simp [World.cell?, h1]
theorem CJ.cr (h : CJ w0 B g rb b ob i w) (c : Nat) (hc : c < 3) : w.cell? ⟨b.cr, c, none⟩ = some (cpV b c) := by
  obtain ⟨S, lp, hh, m, la, hv, H, h1⟩ := h
  exact (H.cells c hc).1
/-- Both Adds, as the law calls them. -/
def Then3 (w0 : World) (B g rb : Nat) (b : Bk) (bo : Nat) (o : OpR) (i : Nat) (F : Nat) (e : Ending) (w1 : World) : Prop :=
  ∃ x er : Int, e = .returned (.tuple #[.int .i64 x, .int .i64 er]) ∧ w1.heap[bo]? = some (opO o) ∧ ∀ W : World, Below w1.heap.size w1 W → Calls Try.prog F #[.pointer (some ⟨rb, 0, none⟩), .int .i64 o.si, .agg #[.string o.s, .int .i64 o.z], .int .i64 o.f] W fun e2 w2 => e2 = .returned (.tuple #[.int .i64 x, .int .i64 er]) ∧ CJ w0 B g rb b (some (bo, o)) (i + 1) w2
theorem then3_of {bo : Nat} {o : OpR} {F : Nat} {e : Ending} {w1 : World} {lp : Nat → Option Mem} {h m : Nat → Int} {la : Nat → OpR} {hv : Nat → Bool} (hT : Then2 w0 B g rb b lp h m h m la hv (some (bo, o)) F o.si o.s o.z o.f e w1) (h1 : ∀ c, c < 2 → relC (lp c) (la c) (hv c)) (h2 : h 2 = 0 ∧ m 2 = 0) (h3 : ∀ c, c < 3 → (0 ≤ h c ∧ h c ≤ (i : Int)) ∧ 0 ≤ m c ∧ m c ≤ (i : Int)) (h4 : ∀ c, c < 2 → ((la c).s.size : Int) ≤ 140737488351232) : Then3 w0 B g rb b bo o i F e w1 := by
  obtain ⟨x, er, he, hD, hR⟩ := hT
  refine ⟨x, er, he, hD (bo, opO o) (List.mem_singleton.2 rfl), fun W hW => (hR W hW).mono ?_⟩
  rintro e2 w2 ⟨rfl, S', H⟩
  refine ⟨rfl, S', lp, h, m, la, hv, H, h1, h2, fun c hc => ?_, h4⟩
  have := h3 c hc
  omega
theorem cj_add {bo : Nat} {o : OpR} (h : CJ w0 B g rb b (some (bo, o)) i w) (ho : o.ok) : Calls Try.prog 11 #[.pointer (some ⟨g, 0, none⟩), .int .i64 o.si, .agg #[.string o.s, .int .i64 o.z], .int .i64 o.f] w fun e w1 => Then3 w0 B g rb b bo o i 12 e w1 := by
  obtain ⟨S, lp, hh, m, la, hv, H, h1, h2, h3, h4⟩ := h
  exact (laws_add o.si o.s o.z o.f ho.1 (bareZ_wf ho.2) H).mono fun e w1 h => then3_of h h1 h2 h3 h4
theorem cj_chg {bo : Nat} {o : OpR} (h : CJ w0 B g rb b (some (bo, o)) i w) (ho : o.ok) : Calls Try.prog 9 #[.pointer (some ⟨g, 0, none⟩), .int .i64 o.si, .agg #[.string o.s, .int .i64 o.z], .int .i64 o.f] w fun e w1 => Then3 w0 B g rb b bo o i 10 e w1 := by
  obtain ⟨S, lp, hh, m, la, hv, H, h1, h2, h3, h4⟩ := h
  exact (laws_chg o.si o.s o.z o.f ho.1 (bareZ_wf ho.2) H).mono fun e w1 h => then3_of h h1 h2 h3 h4
/-- A flush, and 'have' behind it. -/
theorem cj_flush (c : Nat) (hc : c < 3) (h : CJ w0 B g rb b ob i w) : Calls Try.prog 16 #[cpV b c] w fun e w' => e = .returned (.tuple #[]) ∧ (∃ v, w'.cell? ⟨b.vb, c, none⟩ = some (.bool v)) ∧ w'.frozen? ⟨b.vb, c, none⟩ = false ∧ CJ w0 B g rb b ob (i + 1) (w'.setCell ⟨b.vb, c, none⟩ (.bool false)) := by
  obtain ⟨S, lp, hh, m, la, hv, H, h1, h2, h3, h4⟩ := h
  by_cases hc2 : c = 2
  · subst hc2
    refine (laws_flush2 H).mono ?_
    rintro e w' ⟨rfl, H'⟩
    obtain ⟨_, _, _, q1, _, _, q2⟩ := H'.cells 2 (by omega)
    refine ⟨rfl, ⟨_, q1⟩, q2, S, lp, hh, m, la, _, H'.have_ 2 (by omega) false, fun j hj => ?_, h2, fun c hc => by have := h3 c hc; omega, h4⟩
    rw [upd_ne _ _ _ _ (by omega)]
    exact h1 j hj
  · refine (laws_flush c (by omega) H).mono ?_
    rintro e w' ⟨rfl, H'⟩
    obtain ⟨_, _, _, q1, _, _, q2⟩ := H'.cells c hc
    refine ⟨rfl, ⟨_, q1⟩, q2, S, _, hh, m, la, _, H'.have_ c hc false, fun j hj => ?_, h2, fun c hc => by have := h3 c hc; omega, h4⟩
    unfold upd
    split
    · exact .inl ⟨rfl, rfl⟩
    · exact h1 j hj
/-- What a cache tells, beside what the law counted. -/
theorem cj_asked (c : Nat) (hc : c < 3) (h : CJ w0 B g rb b ob i w) : ∃ x y : Int, Calls Try.prog 20 #[cpV b c] w fun e w' => e = .returned (.tuple #[.int .i64 x, .int .i64 y]) ∧ w'.cell? ⟨b.hb, c, none⟩ = some (.int .i64 x) ∧ w'.cell? ⟨b.ms, c, none⟩ = some (.int .i64 y) ∧ CJ w0 B g rb b none i w' := by
  obtain ⟨S, lp, hh, m, la, hv, H, h1⟩ := h
  refine ⟨hh c, m c, (laws_asked c hc h1.2.1 H).mono ?_⟩
  rintro e w' ⟨rfl, H'⟩
  obtain ⟨_, q1, q2, _⟩ := H'.cells c hc
  exact ⟨rfl, q1, q2, S, lp, hh, m, la, hv, H'.drop, h1⟩
/-- Behind a question of a cache: what is not yet written down in the law's rows. -/
def CK (w0 : World) (B g rb : Nat) (b : Bk) (bo : Nat) (o : OpR) (i c : Nat) (S : List (List SlR)) (la : Nat → OpR) (hv : Nat → Bool) (same : Bool) (rh rm : Int) (w : World) : Prop :=
  ∃ lp h m h' m', LawS w0 B g rb b S lp h' m' h m la hv (some (bo, o)) w ∧ (h c = rh ∧ m c = rm) ∧ (∀ j, j < 2 → j ≠ c → relC (lp j) (la j) (hv j)) ∧ (∃ r, lp c = some r ∧ r.s = o.si ∧ r.k = kbOf (o.s, o.z)) ∧ (∀ j, j ≠ c → h' j = h j ∧ m' j = m j) ∧ (h' c = (if same then rh + 1 else rh) ∧ m' c = (if same then rm else rm + 1)) ∧ (h 2 = 0 ∧ m 2 = 0) ∧ (∀ c, c < 3 → (0 ≤ h c ∧ h c ≤ (i : Int)) ∧ 0 ≤ m c ∧ m c ≤ (i : Int)) ∧ (∀ c, c < 2 → ((la c).s.size : Int) ≤ 140737488351232)
/-- Whether the law says that it was asked just that ahead. -/
def sameL (la : OpR) (hv : Bool) (o : OpR) : Bool := hv && (decide (la.si = o.si) && sameK (la.s, la.z) (o.s, o.z))
theorem sameL_iff {lp : Option Mem} {la : OpR} {hv : Bool} {o : OpR} (h : relC lp la hv) : sameQ lp o.si (kbOf (o.s, o.z)) ↔ sameL la hv o = true := by
  unfold sameL sameQ
  rcases h with ⟨rfl, rfl⟩ | ⟨r, rfl, rfl, h1, h2⟩
  · simp
  · rw [Bool.true_and, Bool.and_eq_true, decide_eq_true_iff, same_bare]
    constructor
    · rintro ⟨r', e, e1, e2⟩
      cases e
      exact ⟨h1.symm.trans e1, h2.symm.trans e2⟩
    · rintro ⟨e1, e2⟩
      exact ⟨r, rfl, h1.trans e1, h2.trans e2⟩
/-- A question of a cache that there is. -/
theorem cj_cached (c : Nat) (hc : c < 2) {bo : Nat} {o : OpR} (hi : (i : Int) < 4611686018427387904) (h : CJ w0 B g rb b (some (bo, o)) i w) (ho : o.ok) : ∃ S la hv rh rm an, ansF S o.si (kbOf (o.s, o.z)) = an ∧ ∀ W, Below w.heap.size w W → Calls Try.prog 17 #[.pointer (some ⟨g, 0, none⟩), cpV b c, .int .i64 o.si, .agg #[.string o.s, .int .i64 o.z]] W fun e w' => e = .returned (ansV an) ∧ CK w0 B g rb b bo o i c S la hv (sameL (la c) (hv c) o) rh rm w' := by
  obtain ⟨S, lp, hh, m, la, hv, H, h1, h2, h3, h4⟩ := h
  have hb := h3 c (by omega)
  refine ⟨S, la, hv, hh c, m c, ansF S o.si (kbOf (o.s, o.z)), rfl, fun W hW => (laws_cached c hc o.si o.s o.z ho.1 (bareZ_wf ho.2) (H.below hW) (by omega) (by omega)).mono ?_⟩
  rintro e w' ⟨rfl, r, h', m', H', e1, e2, e3⟩
  refine ⟨rfl, _, hh, m, _, _, H', ⟨rfl, rfl⟩, fun j hj hne => ?_, ⟨r, upd_same _ _ _, e1, e2⟩, fun j hj => ⟨upd_ne _ _ _ _ hj, upd_ne _ _ _ _ hj⟩, ?_, h2, h3, h4⟩
  · rw [upd_ne _ _ _ _ hne]
    exact h1 j hj
  · rw [upd_same, upd_same]
    have hs := sameL_iff (o := o) (h1 c hc)
    rcases e3 with ⟨a, rfl, rfl⟩ | ⟨a, rfl, rfl⟩
    · rw [hs.1 a]; exact ⟨rfl, rfl⟩
    · have : sameL (la c) (hv c) o = false := Bool.eq_false_iff.2 (fun e => a (hs.2 e))
      rw [this]; exact ⟨rfl, rfl⟩
theorem cj_cached2 {bo : Nat} {o : OpR} (h : CJ w0 B g rb b (some (bo, o)) i w) (ho : o.ok) : ∃ an, ∀ W, Below w.heap.size w W → Calls Try.prog 17 #[.pointer (some ⟨g, 0, none⟩), cpV b 2, .int .i64 o.si, .agg #[.string o.s, .int .i64 o.z]] W fun e w' => e = .returned (ansV an) ∧ CJ w0 B g rb b (some (bo, o)) i w' ∧ ∀ W, Below w'.heap.size w' W → Calls Try.prog 18 #[.pointer (some ⟨rb, 0, none⟩), .int .i64 o.si, .agg #[.string o.s, .int .i64 o.z]] W fun e w'' => e = .returned (ansV an) ∧ CJ w0 B g rb b (some (bo, o)) (i + 1) w'' := by
  obtain ⟨S, lp, hh, m, la, hv, H, h1, h2, h3, h4⟩ := h
  refine ⟨ansF S o.si (kbOf (o.s, o.z)), fun W hW => (laws_cached2 o.si o.s o.z ho.1 (bareZ_wf ho.2) (H.below hW)).mono ?_⟩
  rintro e w' ⟨rfl, H'⟩
  refine ⟨rfl, ⟨S, lp, hh, m, la, hv, H', h1, h2, h3, h4⟩, fun W hW => (laws_rfind o.si o.s o.z ho.1 (H'.below hW)).mono ?_⟩
  rintro e w'' ⟨rfl, H''⟩
  exact ⟨rfl, S, lp, hh, m, la, hv, H'', h1, h2, fun c hc => by have := h3 c hc; omega, h4⟩
/-- An operation is laid over another one. -/
theorem la_store (f : Nat → OpR) (c : Nat) (hc : c < 3) (o : OpR) (blk : Nat) (hh : w.heap[blk]? = some (laO f)) (hB : B ≤ blk) :
    ((((((w.setCell ⟨blk, c * 6, none⟩ (.int .i64 o.kd)).setCell ⟨blk, c * 6 + 1, none⟩ (.int .i64 o.si)).setCell ⟨blk, c * 6 + 2, none⟩ (.string o.s)).setCell ⟨blk, c * 6 + 3, none⟩ (.int .i64 o.z)).setCell ⟨blk, c * 6 + 4, none⟩ (.int .i64 o.f)).setCell ⟨blk, c * 6 + 5, none⟩ (.int .i64 o.c)).heap[blk]? = some (laO (upd f c o)) := by
  have h0 := set_blk2 (j := c * 6) (v := .int .i64 o.kd) hh
  have h1 := set_blk2 (j := c * 6 + 1) (v := .int .i64 o.si) h0
  have h2 := set_blk2 (j := c * 6 + 2) (v := .string o.s) h1
  have h3 := set_blk2 (j := c * 6 + 3) (v := .int .i64 o.z) h2
  have h4 := set_blk2 (j := c * 6 + 4) (v := .int .i64 o.f) h3
  have h5 := set_blk2 (j := c * 6 + 5) (v := .int .i64 o.c) h4
  rw [h5]
  unfold laO
  obtain rfl | rfl | rfl : c = 0 ∨ c = 1 ∨ c = 2 := by omega
  · simp [upd, OpR.cs]
  · simp [upd, OpR.cs]
  · simp [upd, OpR.cs]
theorem la_sv (c : Nat) (v0 v1 v2 v3 v4 v5 : Value) (blk : Nat) (hB : B ≤ blk) : Sv [blk] w ((((((w.setCell ⟨blk, c * 6, none⟩ v0).setCell ⟨blk, c * 6 + 1, none⟩ v1).setCell ⟨blk, c * 6 + 2, none⟩ v2).setCell ⟨blk, c * 6 + 3, none⟩ v3).setCell ⟨blk, c * 6 + 4, none⟩ v4).setCell ⟨blk, c * 6 + 5, none⟩ v5) ∧ Below B w ((((((w.setCell ⟨blk, c * 6, none⟩ v0).setCell ⟨blk, c * 6 + 1, none⟩ v1).setCell ⟨blk, c * 6 + 2, none⟩ v2).setCell ⟨blk, c * 6 + 3, none⟩ v3).setCell ⟨blk, c * 6 + 4, none⟩ v4).setCell ⟨blk, c * 6 + 5, none⟩ v5) := by
  constructor
  · exact ((((((Sv.set w blk (c * 6) v0).trans (Sv.set _ blk (c * 6 + 1) v1)).trans (Sv.set _ blk (c * 6 + 2) v2)).trans (Sv.set _ blk (c * 6 + 3) v3)).trans (Sv.set _ blk (c * 6 + 4) v4)).trans (Sv.set _ blk (c * 6 + 5) v5)).mono (fun x hx => by simpa using hx)
  · exact ((((((Below.refl _ _).setCell (p := ⟨blk, c * 6, none⟩) hB _).setCell (p := ⟨blk, c * 6 + 1, none⟩) hB _).setCell (p := ⟨blk, c * 6 + 2, none⟩) hB _).setCell (p := ⟨blk, c * 6 + 3, none⟩) hB _).setCell (p := ⟨blk, c * 6 + 4, none⟩) hB _).setCell (p := ⟨blk, c * 6 + 5, none⟩) hB _
section
variable {bo c : Nat} {o : OpR} {S : List (List SlR)} {la : Nat → OpR} {hv : Nat → Bool} {same : Bool} {rh rm : Int}
theorem CK.below (h : CK w0 B g rb b bo o i c S la hv same rh rm w) (hb : Below w.heap.size w w') : CK w0 B g rb b bo o i c S la hv same rh rm w' := by
  obtain ⟨lp, h, m, h', m', H, r⟩ := h
  exact ⟨lp, h, m, h', m', H.below hb, r⟩
theorem CK.rfind (h : CK w0 B g rb b bo o i c S la hv same rh rm w) (hs : (o.s.size : Int) ≤ 140737488351232) : Calls Try.prog 18 #[.pointer (some ⟨rb, 0, none⟩), .int .i64 o.si, .agg #[.string o.s, .int .i64 o.z]] w fun e w' => e = .returned (ansV (ansF S o.si (kbOf (o.s, o.z)))) ∧ CK w0 B g rb b bo o i c S la hv same rh rm w' := by
  obtain ⟨lp, h, m, h', m', H, r⟩ := h
  refine (laws_rfind o.si o.s o.z hs H).mono ?_
  rintro e w' ⟨rfl, H'⟩
  exact ⟨rfl, lp, h, m, h', m', H', r⟩
theorem CK.cells (h : CK w0 B g rb b bo o i c S la hv same rh rm w) (hc : c < 3) : w.cell? ⟨b.hb, c, none⟩ = some (.int .i64 rh) ∧ w.cell? ⟨b.ms, c, none⟩ = some (.int .i64 rm) ∧ w.cell? ⟨b.vb, c, none⟩ = some (.bool (hv c)) ∧ w.frozen? ⟨b.hb, c, none⟩ = false ∧ w.frozen? ⟨b.ms, c, none⟩ = false ∧ w.frozen? ⟨b.vb, c, none⟩ = false ∧ w.heap[bo]? = some (opO o) ∧ w.heap[b.ls]? = some (laO la) ∧ (0 ≤ rh ∧ rh ≤ (i : Int)) ∧ (0 ≤ rm ∧ rm ≤ (i : Int)) := by
  obtain ⟨lp, h, m, h', m', H, ⟨rfl, rfl⟩, _, _, _, _, _, h3, _⟩ := h
  obtain ⟨_, q1, q2, q3, q4, q5, q6⟩ := H.cells c hc
  obtain ⟨_, _, _, _, _, r5, _, _, r8⟩ := H.rows
  exact ⟨q1, q2, q3, q4, q5, q6, r8 _ (List.mem_singleton.2 rfl), r5, (h3 c hc).1, (h3 c hc).2⟩
theorem CK.cr (h : CK w0 B g rb b bo o i c S la hv same rh rm w) (hc : c < 3) : w.cell? ⟨b.cr, c, none⟩ = some (cpV b c) := by
  obtain ⟨lp, h, m, h', m', H, r⟩ := h
  exact (H.cells c hc).1
theorem CK.obox (h : CK w0 B g rb b bo o i c S la hv same rh rm w) : w.cell? ⟨bo, 0, none⟩ = some (.int .i64 o.kd) ∧ w.cell? ⟨bo, 1, none⟩ = some (.int .i64 o.si) ∧ w.cell? ⟨bo, 2, none⟩ = some (.string o.s) ∧ w.cell? ⟨bo, 3, none⟩ = some (.int .i64 o.z) ∧ w.cell? ⟨bo, 4, none⟩ = some (.int .i64 o.f) ∧ w.cell? ⟨bo, 5, none⟩ = some (.int .i64 o.c) := by
  obtain ⟨lp, h, m, h', m', H, r⟩ := h
  exact H.obox
theorem CK.size (h : CK w0 B g rb b bo o i c S la hv same rh rm w) (hc : c < 2) : ((la c).s.size : Int) ≤ 140737488351232 := by
  obtain ⟨lp, h, m, h', m', H, _, _, _, _, _, _, _, k⟩ := h
  exact k c hc
/-- What lies where behind a count. -/
theorem CK.after (h : CK w0 B g rb b bo o i c S la hv same rh rm w) (hc : c < 3) (x : Nat) (hx : x = b.hb ∨ x = b.ms) (v : Value) : (w.setCell ⟨x, c, none⟩ v).heap[bo]? = some (opO o) ∧ (w.setCell ⟨x, c, none⟩ v).heap[b.ls]? = some (laO la) ∧ (w.setCell ⟨x, c, none⟩ v).cell? ⟨b.vb, c, none⟩ = some (.bool (hv c)) ∧ (w.setCell ⟨x, c, none⟩ v).frozen? ⟨b.vb, c, none⟩ = false ∧ bo ≠ b.ls ∧ b.vb ≠ b.ls ∧ B ≤ b.ls := by
  obtain ⟨lp, h, m, h', m', H, r⟩ := h
  obtain ⟨_, _, _, r3, r4, r5, r6, _, r8⟩ := H.rows
  have r9 := r8 (bo, opO o) (List.mem_singleton.2 rfl)
  dsimp only at r9
  have hn : bo ≠ x ∧ b.ls ≠ x ∧ b.vb ≠ x := by
    rcases hx with rfl | rfl
    · exact ⟨heap_ne r9 r3 (cells_ne (by decide)), heap_ne r5 r3 (cells_ne (by decide)), heap_ne r6 r3 (cells_ne (by decide))⟩
    · exact ⟨heap_ne r9 r4 (cells_ne (by decide)), heap_ne r5 r4 (cells_ne (by decide)), heap_ne r6 r4 (cells_ne (by decide))⟩
  obtain ⟨_, _, _, q1, _, _, q2⟩ := H.cells c hc
  have q6 : (w.setCell ⟨x, c, none⟩ v).heap[b.vb]? = some (hvO hv) := (Below.heap_setCell _ _ _ _ hn.2.2).trans r6
  refine ⟨(Below.heap_setCell _ _ _ _ hn.1).trans r9, (Below.heap_setCell _ _ _ _ hn.2.1).trans r5, ?_, ?_, H.ne.2.2 _ rfl, heap_ne r6 r5 (cells_ne (by decide)), H.ge.2.2.2.2.1⟩
  · rw [World.cell?_setCell_other _ _ _ _ (by intro e; cases e; exact hn.2.2 rfl)]
    exact q1
  · unfold hvO at q6
    simp [World.frozen?, q6]
/-- It is written down. -/
theorem CK.done (h : CK w0 B g rb b bo o i c S la hv same rh rm w) (hc : c < 2) (hs : (o.s.size : Int) ≤ 140737488351232) (w2 : World) (hw2 : w2 = if same then w.setCell ⟨b.hb, c, none⟩ (.int .i64 (rh + 1)) else w.setCell ⟨b.ms, c, none⟩ (.int .i64 (rm + 1))) (w3 : World) (hsv : Sv [b.ls] w2 w3) (hbl : Below B w2 w3) (hrow : w3.heap[b.ls]? = some (laO (upd la c o))) : CJ w0 B g rb b (some (bo, o)) (i + 1) (w3.setCell ⟨b.vb, c, none⟩ (.bool true)) := by
  obtain ⟨lp, h, m, h', m', H, ⟨rfl, rfl⟩, k1, ⟨r, k2, k3, k4⟩, k5, ⟨k6, k7⟩, k8, k9, k10⟩ := h
  have hrel : ∀ j, j < 2 → relC (lp j) (upd la c o j) (upd hv c true j) := fun j hj => by
    unfold upd
    split
    · rename_i e
      rw [e, k2]
      exact .inr ⟨r, rfl, rfl, k3, k4⟩
    · rename_i e
      exact k1 j hj e
  have hsz : ∀ j, j < 2 → ((upd la c o j).s.size : Int) ≤ 140737488351232 := fun j hj => by
    unfold upd
    split
    · exact hs
    · exact k10 j hj
  have hh' : h' = upd h c (h' c) := by
    funext j
    unfold upd
    split
    · rename_i e; rw [e]
    · rename_i e; exact (k5 j e).1
  have hm' : m' = upd m c (m' c) := by
    funext j
    unfold upd
    split
    · rename_i e; rw [e]
    · rename_i e; exact (k5 j e).2
  have hcnt : ∀ j, j < 3 → (0 ≤ h' j ∧ h' j ≤ ((i + 1 : Nat) : Int)) ∧ 0 ≤ m' j ∧ m' j ≤ ((i + 1 : Nat) : Int) := fun j hj => by
    have h9 := k9 j hj
    by_cases e : j = c
    · subst e
      cases same
      · simp only [Bool.false_eq_true, if_false] at k6 k7
        omega
      · simp only [if_true] at k6 k7
        omega
    · have := k5 j e
      omega
  have h20 : h' 2 = 0 ∧ m' 2 = 0 := by
    have := k5 2 (by omega)
    rw [this.1, this.2]
    exact k8
  cases same with
  | true =>
    simp only [if_true] at hw2 k6 k7
    subst hw2
    have H2 := H.hits c (by omega) (h c + 1)
    have H3 := (H2.last c (by omega) o hsv hbl hrow).have_ c (by omega) true
    rw [← k6, ← hh'] at H3
    have e : m' = m := by rw [hm', k7, upd_id]
    subst e
    exact ⟨S, lp, h', m', _, _, H3, hrel, h20, hcnt, hsz⟩
  | false =>
    simp only [Bool.false_eq_true, if_false] at hw2 k6 k7
    subst hw2
    have H2 := H.misses c (by omega) (m c + 1)
    have H3 := (H2.last c (by omega) o hsv hbl hrow).have_ c (by omega) true
    rw [← k7, ← hm'] at H3
    have e : h' = h := by rw [hh', k6, upd_id]
    subst e
    exact ⟨S, lp, h', m', _, _, H3, hrel, h20, hcnt, hsz⟩
end
theorem wrap_c (cc : Int) : ∃ cn : Nat, (wrap64 (cc.tmod 3 + 3)).tmod 3 = (cn : Int) ∧ cn < 3 := by
  have h1 : -3 < cc.tmod 3 := by have := Int.lt_tmod_of_pos cc (show (0 : Int) < 3 by decide); omega
  have h2 : cc.tmod 3 < 3 := Int.tmod_lt_of_pos cc (by decide)
  have h3 : wrap64 (cc.tmod 3 + 3) = cc.tmod 3 + 3 := by unfold wrap64; omega
  rw [h3, Int.tmod_eq_emod_of_nonneg (by omega)]
  exact ⟨((cc.tmod 3 + 3) % 3).toNat, by omega, by omega⟩
end
end Go.Proofs.Ytoonaljmdiideaa
