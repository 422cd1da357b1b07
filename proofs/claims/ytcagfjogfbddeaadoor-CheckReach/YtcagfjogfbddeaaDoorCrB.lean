/- Plain: parts of the code at which tries lie; which instructions can come to run. Plain: which instructions can come to run; how a walk along them finds just those. -/
import Derived.Test.YtcagfjogfbddeaaDoorChP
namespace Go.Proofs.YtcagfjogfbddeaaDoor
set_option linter.unusedVariables false
set_option linter.unusedSimpArgs false
open Go.RowKit

/-- The parts that together are those from fr up to to. -/
def mkF : Nat → Nat → Nat → List Nat
  | 0, _, _ => []
  | k + 1, fr, to => if fr < to then (if fr % 2 = 1 then [fr] else []) ++ ((if to % 2 = 1 then [to - 1] else []) ++ mkF k ((fr + 1) / 2) (to / 2)) else []
theorem mkF_more : ∀ (k l fr to : Nat), to ≤ k → to ≤ l → mkF k fr to = mkF l fr to
  | 0, l, fr, to, h1, h2 => by
    obtain rfl : to = 0 := by omega
    cases l with
    | zero => rfl
    | succ l => rw [mkF, mkF, if_neg (by omega)]
  | k + 1, 0, fr, to, h1, h2 => by
    obtain rfl : to = 0 := by omega
    rw [mkF, mkF, if_neg (by omega)]
  | k + 1, l + 1, fr, to, h1, h2 => by
    rw [mkF, mkF]
    split
    · rw [mkF_more k l _ _ (by omega) (by omega)]
    · rfl
def mk (fr to : Nat) : List Nat := mkF to fr to
theorem mk_none {fr to : Nat} (h : ¬ fr < to) : mk fr to = [] := by
  unfold mk
  cases to with
  | zero => rfl
  | succ k => rw [mkF, if_neg h]
theorem mk_step {fr to : Nat} (h : fr < to) : mk fr to = (if fr % 2 = 1 then [fr] else []) ++ ((if to % 2 = 1 then [to - 1] else []) ++ mk ((fr + 1) / 2) (to / 2)) := by
  unfold mk
  cases to with
  | zero => omega
  | succ k => rw [mkF, if_pos h, mkF_more k ((k + 1) / 2) _ _ (by omega) (by omega)]
/-- What a part has about it, and itself. -/
def ancF : Nat → Nat → List Nat
  | 0, _ => []
  | k + 1, p => if 0 < p then p :: ancF k (p / 2) else []
def anc (p : Nat) : List Nat := ancF p p
theorem ancF_more : ∀ (k l p : Nat), p ≤ k → p ≤ l → ancF k p = ancF l p
  | 0, l, p, h1, h2 => by
    obtain rfl : p = 0 := by omega
    cases l with
    | zero => rfl
    | succ l => rw [ancF, ancF, if_neg (by omega)]
  | k + 1, 0, p, h1, h2 => by
    obtain rfl : p = 0 := by omega
    rw [ancF, ancF, if_neg (by omega)]
  | k + 1, l + 1, p, h1, h2 => by
    rw [ancF, ancF]
    split
    · rw [ancF_more k l _ (by omega) (by omega)]
    · rfl
theorem anc_step {p : Nat} (h : 0 < p) : anc p = p :: anc (p / 2) := by
  unfold anc
  cases p with
  | zero => omega
  | succ k => rw [ancF, if_pos h, ancF_more k ((k + 1) / 2) _ (by omega) (by omega)]
theorem anc_zero : anc 0 = [] := rfl
theorem anc_pow (p : Nat) : ∀ q, q ∈ anc p ↔ 0 < q ∧ ∃ h, q = p / 2 ^ h := by
  induction p using Nat.strongRecOn with
  | _ p ih =>
    intro q
    rcases Nat.eq_zero_or_pos p with rfl | hp
    · rw [anc_zero]
      simp
      intro hq h
      omega
    · rw [anc_step hp, List.mem_cons, ih (p / 2) (by omega)]
      constructor
      · rintro (rfl | ⟨hq, h, e⟩)
        · exact ⟨hp, 0, by simp⟩
        · exact ⟨hq, h + 1, by rw [e, Nat.div_div_eq_div_mul, Nat.pow_succ, Nat.mul_comm]⟩
      · rintro ⟨hq, h, e⟩
        cases h with
        | zero => exact .inl (by simpa using e)
        | succ h => exact .inr ⟨hq, h, by rw [e, Nat.div_div_eq_div_mul, Nat.pow_succ, Nat.mul_comm]⟩
/-- At the level h the parts from fr up to to are those of the instructions from l up to r. -/
theorem mk_level (n x : Nat) (hx : n ≤ x) (hx2 : x < 2 * n) : ∀ (to fr h : Nat), n ≤ fr * 2 ^ h → to * 2 ^ h ≤ 2 * n →
    ((∃ p ∈ mk fr to, p ∈ anc x) ↔ fr ≤ x / 2 ^ h ∧ x / 2 ^ h < to) := by
  intro to
  induction to using Nat.strongRecOn with
  | _ to ih =>
    intro fr h h1 h2
    have hpos : 0 < 2 ^ h := Nat.pos_of_ne_zero (by simp)
    -- a part of this level that is about x is x's own one of this level
    have lev : ∀ p, fr ≤ p → p < to → (p ∈ anc x ↔ p = x / 2 ^ h) := by
      intro p hp1 hp2
      have g1 : n ≤ p * 2 ^ h := Nat.le_trans h1 (Nat.mul_le_mul_right _ hp1)
      have g2 : (p + 1) * 2 ^ h ≤ 2 * n := Nat.le_trans (Nat.mul_le_mul_right _ hp2) h2
      have gp : 0 < p := by
        rcases Nat.eq_zero_or_pos p with rfl | h
        · simp at g1; omega
        · exact h
      rw [anc_pow]
      constructor
      · rintro ⟨_, k, e⟩
        rcases Nat.lt_trichotomy k h with hk | hk | hk
        · exfalso
          have a1 : x < (p + 1) * 2 ^ k := by
            have := Nat.lt_mul_div_succ x (Nat.pos_of_ne_zero (show (2 : Nat) ^ k ≠ 0 by simp))
            rw [e, Nat.mul_comm]; exact this
          have a2 : (p + 1) * 2 ^ k * 2 ≤ (p + 1) * 2 ^ h := by
            rw [Nat.mul_assoc, ← Nat.pow_succ]
            exact Nat.mul_le_mul_left _ (Nat.pow_le_pow_right (by omega) hk)
          omega
        · rw [e, hk]
        · exfalso
          have a1 : p * 2 ^ k ≤ x := by rw [e]; exact Nat.div_mul_le_self x _
          have a2 : p * 2 ^ h * 2 ≤ p * 2 ^ k := by
            rw [Nat.mul_assoc, ← Nat.pow_succ]
            exact Nat.mul_le_mul_left _ (Nat.pow_le_pow_right (by omega) hk)
          omega
      · intro e
        exact ⟨gp, h, e⟩
    by_cases hlt : fr < to
    · rw [mk_step hlt]
      have ih' := ih (to / 2) (by omega) ((fr + 1) / 2) (h + 1)
        (by rw [Nat.pow_succ, Nat.mul_comm (2 ^ h) 2, ← Nat.mul_assoc]; exact Nat.le_trans h1 (Nat.mul_le_mul_right _ (by omega)))
        (by rw [Nat.pow_succ, Nat.mul_comm (2 ^ h) 2, ← Nat.mul_assoc]; exact Nat.le_trans (Nat.mul_le_mul_right _ (by omega)) h2)
      have e2 : x / 2 ^ (h + 1) = x / 2 ^ h / 2 := by rw [Nat.div_div_eq_div_mul, Nat.pow_succ]
      rw [e2] at ih'
      generalize x / 2 ^ h = y at *
      simp only [List.mem_append, or_and_right, exists_or]
      rw [ih']
      constructor
      · rintro (⟨p, hp, ha⟩ | ⟨p, hp, ha⟩ | hh)
        · split at hp
          · simp at hp; subst hp; have := (lev p (Nat.le_refl _) hlt).1 ha; omega
          · simp at hp
        · split at hp
          · simp at hp; subst hp; have := (lev (to - 1) (by omega) (by omega)).1 ha; omega
          · simp at hp
        · omega
      · intro hh
        by_cases c1 : fr % 2 = 1 ∧ y = fr
        · exact .inl ⟨fr, by simp [c1.1], (lev fr (Nat.le_refl _) hlt).2 c1.2.symm⟩
        · by_cases c2 : to % 2 = 1 ∧ y = to - 1
          · exact .inr (.inl ⟨to - 1, by simp [c2.1], (lev (to - 1) (by omega) (by omega)).2 c2.2.symm⟩)
          · exact .inr (.inr (by omega))
    · rw [mk_none hlt]
      simp
      omega
theorem mk_anc {n l r x : Nat} (hr : r ≤ n) (hx : x < n) : (∃ p ∈ mk (n + l) (n + r), p ∈ anc (x + n)) ↔ l ≤ x ∧ x < r := by
  have := mk_level n (x + n) (by omega) (by omega) (n + r) (n + l) 0 (by simp) (by simp; omega)
  rw [this]
  simp
  omega
theorem anc_lt {p : Nat} : ∀ q ∈ anc p, q ≤ p := by
  intro q hq
  obtain ⟨_, h, e⟩ := (anc_pow p q).1 hq
  rw [e]
  exact Nat.div_le_self _ _
end Go.Proofs.YtcagfjogfbddeaaDoor

namespace Go.Proofs.YtcagfjogfbddeaaDoor
set_option linter.unusedVariables false
set_option linter.unusedSimpArgs false
open Go.RowKit

/-- Where the target stands among the operands. -/
def tgK (op : Int) : Nat := (letz op).findIdx (fun c => decide (c = 116))
def tgO (i : Ins) : Option Int := if tgK i.op < (letz i.op).length then some (opx i (tgK i.op)) else none
/-- What an instruction goes on at. -/
def stL (f : Fun) (i : Nat) : List Int :=
  (if leaB (insAt f i).op then [] else [(i : Int) + 1]) ++ ((match tgO (insAt f i) with | some z => [z] | none => []) ++ (f.tries.filter (fun t => decide (t.fr ≤ (i : Int)) && decide ((i : Int) < t.to))).map Tri.at')
def Stp (f : Fun) (i k : Nat) : Prop := (k : Int) ∈ stL f i
theorem stp_iff {f : Fun} {i k : Nat} : Stp f i k ↔ (leaB (insAt f i).op = false ∧ k = i + 1) ∨ tgO (insAt f i) = some (k : Int) ∨ ∃ t ∈ f.tries, t.fr ≤ (i : Int) ∧ (i : Int) < t.to ∧ t.at' = (k : Int) := by
  unfold Stp stL
  simp only [List.mem_append, List.mem_map, List.mem_filter, Bool.and_eq_true, decide_eq_true_eq]
  refine or_congr ?_ (or_congr ?_ ?_)
  · cases leaB (insAt f i).op
    · simp; omega
    · simp
  · cases tgO (insAt f i) with
    | none => simp
    | some z => simp; exact eq_comm
  · constructor
    · rintro ⟨t, ⟨h1, h2, h3⟩, h4⟩; exact ⟨t, h1, h2, h3, h4⟩
    · rintro ⟨t, h1, h2, h3, h4⟩; exact ⟨t, ⟨h1, h2, h3⟩, h4⟩
/-- An instruction that can come to run: it lies in every set that has the first one and what follows. -/
structure Rch (f : Fun) (k : Nat) : Prop where
  all : ∀ S : Nat → Prop, (0 < f.code.length → S 0) → (∀ i k, S i → Stp f i k → k < f.code.length → S k) → S k
theorem Rch.zero {f : Fun} (h : 0 < f.code.length) : Rch f 0 := ⟨fun _ z _ => z h⟩
theorem Rch.step {f : Fun} (i k : Nat) (h : Rch f i) (hs : Stp f i k) (hk : k < f.code.length) : Rch f k := ⟨fun S z t => t i k (h.all S z t) hs hk⟩
/-- How many were not reached. -/
def cnt (n : Nat) (R : Nat → Bool) : Nat := ((List.range n).filter (fun i => !R i)).length
def upd (R : Nat → Bool) (k : Nat) : Nat → Bool := fun i => if i = k then true else R i
theorem cnt_succ (n : Nat) (R : Nat → Bool) : cnt (n + 1) R = cnt n R + (if R n then 0 else 1) := by
  unfold cnt
  rw [List.range_succ, List.filter_append, List.length_append]
  cases h : R n <;> simp [List.filter_cons, h]
theorem cnt_upd (R : Nat → Bool) (k : Nat) (hk : R k = false) : ∀ n, cnt n (upd R k) + (if k < n then 1 else 0) = cnt n R
  | 0 => by simp [cnt]
  | n + 1 => by
    have := cnt_upd R k hk n
    rw [cnt_succ, cnt_succ]
    by_cases h : n = k
    · subst h
      have e : upd R n n = true := by simp [upd]
      rw [e, hk]
      simp at this ⊢
      omega
    · have e : upd R k n = R n := by simp [upd, h]
      rw [e]
      split at this <;> split <;> first | omega | (split <;> omega)
/-- What was reached besides, and waits. -/
structure Ext (n : Nat) (R R' : Nat → Bool) (Q Q' : List Int) (X : Nat → Prop) : Prop where
  r : ∀ i, i < n → (R' i = true ↔ R i = true ∨ X i)
  q : ∀ x ∈ Q', x ∈ Q ∨ ∃ i, i < n ∧ x = (i : Int) ∧ X i
  qi : ∀ x ∈ Q, x ∈ Q'
  qn : ∀ i, i < n → R' i = true → R i = true ∨ (i : Int) ∈ Q'
  m : 2 * cnt n R' + Q'.length ≤ 2 * cnt n R + Q.length
theorem Ext.refl (n : Nat) (R : Nat → Bool) (Q : List Int) {X : Nat → Prop} (hX : ∀ i, i < n → X i → R i = true) : Ext n R R Q Q X :=
  ⟨fun i hi => ⟨.inl, fun h => h.elim id (hX i hi)⟩, fun x h => .inl h, fun x h => h, fun i _ h => .inl h, Nat.le_refl _⟩
theorem Ext.one {n : Nat} {R : Nat → Bool} {Q : List Int} {k : Nat} (hk : k < n) (hR : R k = false) : Ext n R (upd R k) Q (Q ++ [(k : Int)]) (fun i => i = k) := by
  refine ⟨fun i hi => ?_, fun x hx => ?_, fun x hx => List.mem_append_left _ hx, fun i hi h => ?_, ?_⟩
  · unfold upd
    split
    · rename_i h; simp [h]
    · rename_i h; simp [h]
  · rcases List.mem_append.1 hx with h | h
    · exact .inl h
    · simp at h; exact .inr ⟨k, hk, h, rfl⟩
  · unfold upd at h
    split at h
    · rename_i e; exact .inr (by simp [e])
    · exact .inl h
  · have := cnt_upd R k hR n
    rw [if_pos hk] at this
    simp
    omega
theorem Ext.trans {n : Nat} {R R' R'' : Nat → Bool} {Q Q' Q'' : List Int} {X Y : Nat → Prop} (h : Ext n R R' Q Q' X) (g : Ext n R' R'' Q' Q'' Y) : Ext n R R'' Q Q'' (fun i => X i ∨ Y i) := by
  refine ⟨fun i hi => ?_, fun x hx => ?_, fun x hx => g.qi x (h.qi x hx), fun i hi k => ?_, Nat.le_trans g.m h.m⟩
  · rw [g.r i hi, h.r i hi, or_assoc]
  · rcases g.q x hx with k | ⟨i, hi, e, hY⟩
    · rcases h.q x k with k | ⟨i, hi, e, hX⟩
      · exact .inl k
      · exact .inr ⟨i, hi, e, .inl hX⟩
    · exact .inr ⟨i, hi, e, .inr hY⟩
  · rcases g.qn i hi k with k | k
    · rcases h.qn i hi k with k | k
      · exact .inl k
      · exact .inr (g.qi _ k)
    · exact .inr k
theorem Ext.of {n : Nat} {R R' : Nat → Bool} {Q Q' : List Int} {X Y : Nat → Prop} (h : Ext n R R' Q Q' X) (e : ∀ i, i < n → (X i ↔ Y i)) : Ext n R R' Q Q' Y :=
  ⟨fun i hi => by rw [h.r i hi, e i hi], fun x hx => (h.q x hx).imp id (fun ⟨i, hi, a, b⟩ => ⟨i, hi, a, (e i hi).1 b⟩), h.qi, h.qn, h.m⟩
theorem Ext.mono {n : Nat} {R R' : Nat → Bool} {Q Q' : List Int} {X : Nat → Prop} (h : Ext n R R' Q Q' X) {i : Nat} (hi : i < n) (hr : R i = true) : R' i = true := (h.r i hi).2 (.inl hr)

def clN (n : Nat) (z : Int) : Nat := min z.toNat n
/-- The parts, with their tries. -/
def Lain (f : Fun) (n : Nat) (P0 : Nat → List Int) : Prop := ∀ p, p < 2 * n → ∀ a, a ∈ P0 p ↔ ∃ t ∈ f.tries, a = t.at' ∧ p ∈ mk (n + clN n t.fr) (n + clN n t.to)
structure Inv (f : Fun) (n : Nat) (P0 : Nat → List Int) (R : Nat → Bool) (Q : List Int) (P : Nat → List Int) : Prop where
  snd : ∀ i, i < n → R i = true → Rch f i
  q : ∀ x ∈ Q, ∃ i, i < n ∧ x = (i : Int) ∧ R i = true
  z : 0 < n → R 0 = true
  p : ∀ p, p < 2 * n → P p = P0 p ∨ (P p = [] ∧ ∀ k, k < n → (k : Int) ∈ P0 p → R k = true)
  d : ∀ i, i < n → R i = true → (i : Int) ∈ Q ∨ ((∀ k, k < n → leaB (insAt f i).op = false ∧ k = i + 1 → R k = true) ∧ (∀ k, k < n → tgO (insAt f i) = some (k : Int) → R k = true) ∧ ∀ p ∈ anc (i + n), P p = [])
theorem inv_start {f : Fun} {n : Nat} {P0 : Nat → List Int} {R : Nat → Bool} {Q : List Int} (hn : n = f.code.length) (E : Ext n (fun _ => false) R [] Q (fun i => i = 0)) : Inv f n P0 R Q P0 := by
  refine ⟨fun i hi h => ?_, fun x hx => ?_, fun h => (E.r 0 h).2 (.inr rfl), fun p _ => .inl rfl, fun i hi h => ?_⟩
  · rcases (E.r i hi).1 h with h | h
    · cases h
    · subst h; exact .zero (by omega)
  · rcases E.q x hx with h | ⟨i, hi, e, h⟩
    · cases h
    · exact ⟨i, hi, e, (E.r i hi).2 (.inr h)⟩
  · rcases E.qn i hi h with h | h
    · cases h
    · exact .inl h
theorem cl_iff {n i : Nat} {fr to : Int} (hi : i < n) : (clN n fr ≤ i ∧ i < clN n to) ↔ fr ≤ (i : Int) ∧ (i : Int) < to := by
  unfold clN
  omega
theorem inv_round {f : Fun} {n at' : Nat} {P0 P P' : Nat → List Int} {R R' : Nat → Bool} {Q Q' : List Int} {X : Nat → Prop} (hn : n = f.code.length) (hL : Lain f n P0) (h : Inv f n P0 R (Q ++ [(at' : Int)]) P) (E : Ext n R R' Q Q' X)
    (hX : ∀ k, k < n → (X k ↔ (leaB (insAt f at').op = false ∧ k = at' + 1) ∨ tgO (insAt f at') = some (k : Int) ∨ ∃ p ∈ anc (at' + n), (k : Int) ∈ P p)) (hP : ∀ p, p < 2 * n → P' p = if p ∈ anc (at' + n) then [] else P p) : Inv f n P0 R' Q' P' := by
  obtain ⟨a, ha, ea, hRa⟩ := h.q (at' : Int) (by simp)
  obtain rfl : at' = a := by omega
  have hRat := h.snd at' ha hRa
  have anc2 : ∀ i, i < n → ∀ p ∈ anc (i + n), p < 2 * n := fun i hi p hp => by have := anc_lt p hp; omega
  refine ⟨fun i hi hr => ?_, fun x hx => ?_, fun h0 => E.mono h0 (h.z h0), fun p hp => ?_, fun i hi hr => ?_⟩
  · rcases (E.r i hi).1 hr with hr | hx
    · exact h.snd i hi hr
    · refine .step at' i hRat (stp_iff.2 ?_) (by omega)
      rcases (hX i hi).1 hx with hx | hx | ⟨p, hp, hk⟩
      · exact .inl hx
      · exact .inr (.inl hx)
      · refine .inr (.inr ?_)
        have hp2 := anc2 at' ha p hp
        have hk0 : (i : Int) ∈ P0 p := by
          rcases h.p p hp2 with e | ⟨e, _⟩
          · rwa [e] at hk
          · rw [e] at hk; cases hk
        obtain ⟨t, ht, e, hm⟩ := (hL p hp2 _).1 hk0
        have := (mk_anc (l := clN n t.fr) (r := clN n t.to) (by unfold clN; omega) ha).1 ⟨p, hm, hp⟩
        have := (cl_iff ha).1 this
        exact ⟨t, ht, this.1, this.2, e.symm⟩
  · rcases E.q x hx with hq | ⟨i, hi, e, hx⟩
    · obtain ⟨i, hi, e, hr⟩ := h.q x (List.mem_append_left _ hq)
      exact ⟨i, hi, e, E.mono hi hr⟩
    · exact ⟨i, hi, e, (E.r i hi).2 (.inr hx)⟩
  · rw [hP p hp]
    split
    · rename_i hpa
      refine .inr ⟨rfl, fun k hk hk0 => ?_⟩
      rcases h.p p hp with e | ⟨_, e⟩
      · exact (E.r k hk).2 (.inr ((hX k hk).2 (.inr (.inr ⟨p, hpa, by rw [e]; exact hk0⟩))))
      · exact E.mono hk (e k hk hk0)
    · rcases h.p p hp with e | ⟨e, g⟩
      · exact .inl e
      · exact .inr ⟨e, fun k hk hk0 => E.mono hk (g k hk hk0)⟩
  · rcases E.qn i hi hr with hr | hq
    · rcases h.d i hi hr with hq | ⟨d1, d2, d3⟩
      · rcases List.mem_append.1 hq with hq | hq
        · exact .inl (E.qi _ hq)
        · obtain rfl : i = at' := by simp at hq; omega
          refine .inr ⟨fun k hk hh => (E.r k hk).2 (.inr ((hX k hk).2 (.inl hh))), fun k hk hh => (E.r k hk).2 (.inr ((hX k hk).2 (.inr (.inl hh)))), fun p hp => ?_⟩
          rw [hP p (anc2 i hi p hp), if_pos hp]
      · refine .inr ⟨fun k hk hh => E.mono hk (d1 k hk hh), fun k hk hh => E.mono hk (d2 k hk hh), fun p hp => ?_⟩
        rw [hP p (anc2 i hi p hp)]
        split
        · rfl
        · exact d3 p hp
    · exact .inl hq
theorem inv_end {f : Fun} {n : Nat} {P0 P : Nat → List Int} {R : Nat → Bool} (hn : n = f.code.length) (hL : Lain f n P0) (h : Inv f n P0 R [] P) (i : Nat) (hi : i < n) : R i = true ↔ Rch f i := by
  refine ⟨h.snd i hi, fun hr => ?_⟩
  clear hi
  have key : ∀ k, Rch f k → k < n ∧ R k = true := by
    intro k hk
    refine hk.all (fun k => k < n ∧ R k = true) (fun h0 => ⟨by omega, h.z (by omega)⟩) ?_
    · intro i k ih hs hl
      obtain ⟨hi, hr⟩ := ih
      refine ⟨by omega, ?_⟩
      rcases h.d i hi hr with hq | ⟨d1, d2, d3⟩
      · cases hq
      · rcases stp_iff.1 hs with hs | hs | ⟨t, ht, h1, h2, e⟩
        · exact d1 k (by omega) hs
        · exact d2 k (by omega) hs
        · obtain ⟨p, hp, hpa⟩ := (mk_anc (l := clN n t.fr) (r := clN n t.to) (by unfold clN; omega) hi).2 ((cl_iff hi).2 ⟨h1, h2⟩)
          have hp2 : p < 2 * n := by have := anc_lt p hpa; omega
          have hk0 := (hL p hp2 (k : Int)).2 ⟨t, ht, e.symm, hp⟩
          rcases h.p p hp2 with e | ⟨_, g⟩
          · rw [d3 p hpa] at e; rw [← e] at hk0; cases hk0
          · exact g k (by omega) hk0
  exact (key i hr).2

/-- A row that what is in it goes on in has all. -/
theorem closed_all {f : Fun} {n : Nat} {R : Nat → Bool} (hn : n = f.code.length) (hz : 0 < n → R 0 = true) (hs : ∀ i, i < n → R i = true → Rch f i) (hc : ∀ i, i < n → R i = true → ∀ k, k < n → Stp f i k → R k = true) (i : Nat) (hi : i < n) : R i = true ↔ Rch f i := by
  refine ⟨hs i hi, fun hr => ?_⟩
  clear hi
  have key : ∀ k, Rch f k → k < n ∧ R k = true := by
    intro k hk
    exact hk.all (fun k => k < n ∧ R k = true) (fun h0 => ⟨by omega, hz (by omega)⟩) (fun i k ih hs hl => ⟨by omega, hc i ih.1 ih.2 k (by omega) hs⟩)
  exact (key i hr).2
end Go.Proofs.YtcagfjogfbddeaaDoor
