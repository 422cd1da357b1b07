/- The law of LRng, where the caller's blocks are known to lie there. -/
import Derived.Test.YtopdogpcachonaaGreatDoorLRng
namespace Go.Proofs.YtopdogpcachonaaGreatDoor
set_option linter.unusedVariables false
open Go.RowKit Go.Shelf

def SeqG {α : Type} (n : Nat) (P : Program) (g : Nat) (lb : Array Value) (encs : α → Array Value) (S Sp : List α → Prop) (N G : Nat) (w : World) : Prop :=
  ∀ (l : Nat) (J Jx : List α → (Nat → Prop) → World → Prop) (W : World) (F0 : Nat → Prop), Below w.heap.size w W → Abd W.heap.size J → Abd W.heap.size Jx → (∀ s F X, J s F X → ∀ k, F k → G ≤ k ∧ k < X.heap.size) →
    (∀ pre x F W1, J pre F W1 → pre.length < N → YieldAt Fence.wide (n - 1) P l (encs x) W1 fun e W' =>
      ∃ F', (e = .returned (.bool true) ∧ J (pre ++ [x]) F' W' ∧ RF F F' W1 W') ∨ (e = .returned (.bool false) ∧ Jx (pre ++ [x]) F' W' ∧ RX F F' W.heap.size W1 W')) →
    J [] F0 W →
    CallsIn Fence.wide n P g (#[.func (.yield l) #[] #[]] ++ lb) W fun e W' => (∃ v, e = .returned v) ∧ ((∃ xs F, S xs ∧ J xs F W') ∨ (∃ pre F, Sp pre ∧ Jx pre F W'))

theorem range_g {α : Type} {P : Program} {n : Nat} {g : Operand} {ps : Array Tmp} {assign body : Code} {Q : Exit → Act → World → Prop} {a : Act} {w : World} (h1 : 1 ≤ n)
    {gf : Nat} {lb : Array Value} (hg : a.eval g = .func (.func gf) #[] lb) (eg : ∀ args w, (callFunc gf args).run P w = .ok (.enter gf args) w)
    {encs : α → Array Value} {S Sp : List α → Prop} {N G : Nat} {w0 : World} (hseq : SeqG (n - 1) P gf lb encs S Sp N G w0) (hb0 : Below w0.heap.size w0 w) (hps : ∀ x, (encs x).size = ps.size)
    (I : List α → (Nat → Prop) → World → Prop) (Ix : Code → List α → (Nat → Prop) → World → Prop) (F0 : Nat → Prop) (hI : Abd w.heap.size I) (hIx : ∀ c, Abd w.heap.size (Ix c)) (hIF : ∀ s F X, I s F X → ∀ k, F k → G ≤ k ∧ k < X.heap.size) (h0 : I [] F0 w)
    (hround : ∀ (l : Nat) (pre : List α) (x : α) (F : Nat → Prop) (W : World), I pre F W → pre.length < N → l < W.heap.size → assign.wpIn (Fence.wide.inRound l) (n - 1 - 1) P (Exit.then (fun a' W' => Below W.heap.size W W' ∧ ∀ Wb : World, (∀ (k : Nat) (o : Obj), k ≠ l → W'.heap[k]? = some o → Wb.heap[k]? = some o) → Wb.heap.size = W'.heap.size → I pre F Wb → body.wpIn (Fence.wide.inRound l) (n - 1 - 1) P (postF F I Ix (pre ++ [x]) Wb) a' Wb) (fun _ _ _ => False))
      { tmps := (ps.zip (encs x)).foldl (fun t (p, v) => t.setIfInBounds p v) a.tmps, defers := [] } W)
    (hdone : ∀ (D : Nat) (xs : List α) (F : Nat → Prop) (W : World), w.heap.size ≤ D → ¬ F D → S xs → I xs F W → W.heap[D]? = some (.deferred (some [])) → Q .normal { a with defers := { target := .collected D, args := #[] } :: a.defers } W)
    (hstop : ∀ (D : Nat) (c : Code) (pre : List α) (F : Nat → Prop) (W : World), w.heap.size ≤ D → ¬ F D → Sp pre → Ix c pre F W → W.heap[D]? = some (.deferred (some [])) → c.wpIn Fence.wide n P Q { a with defers := { target := .collected D, args := #[] } :: a.defers } W) :
    (Code.rangeFunc g ps assign body).wpIn Fence.wide n P Q a w := by
  refine wpIn_rangeFunc fun fn hfn => ?_
  obtain ⟨rc, hrc⟩ : ∃ rc : LoopState → Option Code → Loop, rc = fun st pe => { state := st, pending := pe, fn, tmps := a.tmps, params := ps, assign, body, defers := w.heap.size } := ⟨_, rfl⟩
  obtain ⟨W1, hW1⟩ : ∃ W1, (w.alloc (.deferred (some []))).alloc (.loop (rc .ready none)) = W1 := ⟨_, rfl⟩
  obtain ⟨L, hL⟩ : ∃ L, w.heap.size + 1 = L := ⟨_, rfl⟩
  have sz1 : W1.heap.size = L + 1 := by rw [← hW1, ← hL]; simp
  have e1 : W1.heap[L]? = some (.loop (rc .ready none)) := by
    have := World.alloc_heap_new (w.alloc (.deferred (some []))) (.loop (rc .ready none))
    rw [World.size_alloc, hW1, hL] at this
    exact this
  have bw : Below w.heap.size w W1 := by rw [← hW1]; exact ((Below.refl _ w).alloc (Nat.le_refl _) _).alloc (by simp) _
  have e2 : W1.heap[w.heap.size]? = some (.deferred (some [])) := by
    rw [← hW1]; exact (Below.heap_alloc _ _ _ (by simp)).trans (World.alloc_heap_new w _)
  have hend : ∀ (st : LoopState) (pe : Option Code), ({ rc st pe with state := .busy } : Loop) = rc .busy pe := fun st pe => by rw [hrc]
  refine ⟨L, [{ target := .collected w.heap.size, args := #[] }], W1, { target := .fn (.func gf) lb, args := #[.func (.yield L) #[] #[]] }, W1, gf, #[.func (.yield L) #[] #[]] ++ lb, W1, ?_, ?_, fun _ _ => trivial, ?_, fun _ => h1, ?_⟩
  · rw [← hW1, hrc, ← hL]; exact run_enterLoop_outer _ _ _ _ _
  · simp only [resolve, hg]
    simp [go_sem]
  · simp [invoke, go_sem, eg]
  -- what the caller holds, and its two blocks
  have kept : ∀ {F : Nat → Prop} {A B : World} {k : Nat} {o : Obj}, TF F W1.heap.size A B → k < W1.heap.size → A.heap[k]? = some o → B.heap[k]? = some o := fun hgr hk ho => hgr.same _ _ (.inr hk) ho
  have nL : ¬ F0 L := fun h => by have := (hIF _ _ _ h0 _ h).2; omega
  have nD : ¬ F0 w.heap.size := fun h => by have := (hIF _ _ _ h0 _ h).2; omega
  refine (hseq L (fun pre F W => I pre F W ∧ ¬ F L ∧ ¬ F w.heap.size ∧ W.heap[L]? = some (.loop (rc .ready none)) ∧ W.heap[w.heap.size]? = some (.deferred (some [])))
    (fun pre F W => ∃ c, Ix c pre F W ∧ ¬ F L ∧ ¬ F w.heap.size ∧ W.heap[L]? = some (.loop (rc .done (some c))) ∧ W.heap[w.heap.size]? = some (.deferred (some []))) W1 F0 (hb0.trans (bw.mono hb0.size))
    (fun s F A B hs hgr => ⟨hI s F A B hs.1 (hgr.mono (by omega)), hs.2.1, hs.2.2.1, kept hgr (by omega) hs.2.2.2.1, kept hgr (by omega) hs.2.2.2.2⟩)
    (fun s F A B hs hgr => by
      obtain ⟨c, hc, n1, n2, k1, k2⟩ := hs
      exact ⟨c, hIx c s F A B hc (hgr.mono (by omega)), n1, n2, kept hgr (by omega) k1, kept hgr (by omega) k2⟩)
    (fun s F X hs => hIF s F X hs.1) ?_ ⟨hI _ _ _ _ h0 (TF.of_below bw), nL, nD, e1, e2⟩).mono ?_
  · rintro pre x F W ⟨hi, nFL, nFD, hl, hk⟩ hlen
    have hlt : L < W.heap.size := (Array.getElem?_eq_some_iff.1 hl).1
    have hltD : w.heap.size < W.heap.size := (Array.getElem?_eq_some_iff.1 hk).1
    have hy := run_yield (P := P) (args := encs x) hl (by rw [hrc]; exact hps x)
    rw [hrc] at hy
    refine ⟨fn, _, assign, body, hy, roundIn_of_wpIn trivial (wpIn_mono (hround L pre x F W hi hlen hlt) ?_)⟩
    rintro e a' Wq hp0
    cases e with
    | ret => exact hp0.elim
    | exit id => exact hp0.elim
    | goto t => exact hp0.elim
    | panic ch => exact hp0.elim
    | outgrown => exact hp0.elim
    | normal =>
    obtain ⟨hbq, hb0'⟩ := hp0
    have kq : ∀ (k : Nat) (o : Obj), W.heap[k]? = some o → Wq.heap[k]? = some o := fun k o ho => (hbq.block k (Array.getElem?_eq_some_iff.1 ho).1).trans ho
    have hlL := kq _ _ hl
    have hkq := kq _ _ hk
    have hlq : L < Wq.heap.size := (Array.getElem?_eq_some_iff.1 hlL).1
    have b1 : (Wq.putObj L (.loop (rc .busy none))).heap[L]? = some (.loop (rc .busy none)) := World.putObj_heap_same hlq
    have b2 : (Wq.putObj L (.loop (rc .busy none))).heap[w.heap.size]? = some (.deferred (some [])) := (World.putObj_heap_other (by omega)).trans hkq
    have bo : ∀ (k : Nat) (o : Obj), k ≠ L → Wq.heap[k]? = some o → (Wq.putObj L (.loop (rc .busy none))).heap[k]? = some o := fun k o hne ho => (World.putObj_heap_other hne).trans ho
    have bs : (Wq.putObj L (.loop (rc .busy none))).heap.size = Wq.heap.size := by simp [World.putObj]
    have fin : ∀ (jump : Option Code) (F' : Nat → Prop) (W3 : World), RF F F' (Wq.putObj L (.loop (rc .busy none))) W3 →
        (Instr.endRound L jump).run P W3 = .ok (.bool jump.isNone) (W3.putObj L (.loop (rc (if jump.isNone then .ready else .done) jump))) ∧ W3.heap[L]? = some (.loop (rc .busy none)) ∧ ¬ F' L ∧ ¬ F' w.heap.size ∧
        (W3.putObj L (.loop (rc (if jump.isNone then .ready else .done) jump))).heap[L]? = some (.loop (rc (if jump.isNone then .ready else .done) jump)) ∧
        (W3.putObj L (.loop (rc (if jump.isNone then .ready else .done) jump))).heap[w.heap.size]? = some (.deferred (some [])) := fun jump F' W3 h3 => by
      have l3 := h3.same _ _ nFL b1
      have d3 := h3.same _ _ nFD b2
      have hr := run_endRound (P := P) jump l3
      have he : ({ rc .busy none with state := if jump.isNone then .ready else .done, pending := jump } : Loop) = rc (if jump.isNone then .ready else .done) jump := by rw [hrc]
      rw [he] at hr
      exact ⟨hr, l3, h3.not (by omega) nFL, h3.not (by omega) nFD, World.putObj_heap_same (Array.getElem?_eq_some_iff.1 l3).1, (World.putObj_heap_other (by omega)).trans d3⟩
    have out : ∀ (c : Code) (F' : Nat → Prop) (W3 : World), RF F F' (Wq.putObj L (.loop (rc .busy none))) W3 → Ix c (pre ++ [x]) F' W3 →
        ∃ v w', (Instr.endRound L (some c)).run P W3 = .ok v w' ∧ ∃ F'', (Ending.returned v = .returned (.bool true) ∧ (I (pre ++ [x]) F'' w' ∧ ¬ F'' L ∧ ¬ F'' w.heap.size ∧ w'.heap[L]? = some (.loop (rc .ready none)) ∧ w'.heap[w.heap.size]? = some (.deferred (some []))) ∧ RF F F'' W w') ∨
          (Ending.returned v = .returned (.bool false) ∧ (∃ c, Ix c (pre ++ [x]) F'' w' ∧ ¬ F'' L ∧ ¬ F'' w.heap.size ∧ w'.heap[L]? = some (.loop (rc .done (some c))) ∧ w'.heap[w.heap.size]? = some (.deferred (some []))) ∧ RX F F'' W1.heap.size W w') := fun c F' W3 h3 hx => by
      obtain ⟨hr, l3, n1, n2, l4, l5⟩ := fin (some c) F' W3 h3
      refine ⟨_, _, hr, F', .inr ⟨rfl, ⟨c, hIx c _ _ _ _ hx (TF.putObj _ (by omega) n1), n1, n2, l4, l5⟩, ⟨Nat.le_trans hbq.size (by have := h3.size; rw [bs] at this; simpa [World.putObj] using this), fun k o hk hB ho => ?_, fun k hk => (h3.new k hk).imp id (fun q => by rw [bs] at q; exact Nat.le_trans hbq.size q)⟩⟩⟩
      have hne : k ≠ L := by omega
      exact (World.putObj_heap_other hne).trans (h3.same k o hk (bo k o hne (kq k o ho)))
    refine ⟨_, run_beginRound hlL (by rw [hrc]), ?_⟩
    rw [hend]
    refine wpIn_mono (hb0' (Wq.putObj L (.loop (rc .busy none))) bo bs (hI _ _ _ _ (hI _ _ _ _ hi (TF.of_below hbq)) (TF.putObj _ (by omega) nFL))) ?_
    rintro e a3 W3 hp
    cases e with
    | normal =>
      obtain ⟨F', h3, hi3⟩ := hp
      obtain ⟨hr, l3, n1, n2, l4, l5⟩ := fin none F' W3 h3
      refine ⟨_, _, hr, F', .inl ⟨rfl, ⟨hI _ _ _ _ hi3 (TF.putObj _ (by omega) n1), n1, n2, l4, l5⟩, ⟨Nat.le_trans hbq.size (by have := h3.size; rw [bs] at this; simpa [World.putObj] using this), fun k o hk ho => ?_, fun k hk => (h3.new k hk).imp id (fun q => by rw [bs] at q; exact Nat.le_trans hbq.size q)⟩⟩⟩
      by_cases hne : k = L
      · subst hne
        rw [hl] at ho
        exact l4.trans ho
      · exact (World.putObj_heap_other hne).trans (h3.same k o hk (bo k o hne (kq k o ho)))
    | ret => obtain ⟨F', h3, hx⟩ := hp; exact out .ret F' W3 h3 hx
    | exit id => obtain ⟨F', h3, hx⟩ := hp; exact out (.exit id) F' W3 h3 hx
    | goto t => obtain ⟨F', h3, hx⟩ := hp; exact out (.goto t) F' W3 h3 hx
    | panic ch => exact hp.elim
    | outgrown => exact hp.elim
  · rintro e W2 ⟨⟨v, rfl⟩, (⟨xs, F, hS, hi, n1, n2, hl, hk⟩ | ⟨pre, F, hSp, c, hi, n1, n2, hl, hk⟩)⟩
    · have hr := run_endLoop (P := P) hl (by rw [hrc]; simp)
      have hpe : (rc .ready none).pending = none := by rw [hrc]
      rw [hpe] at hr
      exact ⟨none, _, hr, hdone _ xs F _ (Nat.le_refl _) n2 hS (hI _ _ _ _ hi (TF.putObj _ (by omega) n1)) ((World.putObj_heap_other (by omega)).trans hk)⟩
    · have hr := run_endLoop (P := P) hl (by rw [hrc]; simp)
      have hpe : (rc .done (some c)).pending = some c := by rw [hrc]
      rw [hpe] at hr
      exact ⟨some c, _, hr, hstop _ c pre F _ (Nat.le_refl _) n2 hSp (hIx c _ _ _ _ hi (TF.putObj _ (by omega) n1)) ((World.putObj_heap_other (by omega)).trans hk)⟩

end Go.Proofs.YtopdogpcachonaaGreatDoor
