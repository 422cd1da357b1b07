/- Plain mathematics: borders of a text, and where it stands in another one. -/
import Derived.Test.YtflecclbekdgdaaPlain
namespace Go.Proofs.Ytflecclbekdgdaa
set_option linter.unusedVariables false

/-- The first j units of T are the last j of its first k. -/
def Bd (T : Nat → Nat) (k j : Nat) : Prop := j ≤ k ∧ ∀ x, x < j → T x = T (k - j + x)
theorem Bd.self (T : Nat → Nat) (k : Nat) : Bd T k k := ⟨Nat.le_refl _, fun x _ => by rw [Nat.sub_self, Nat.zero_add]⟩
theorem Bd.zero (T : Nat → Nat) (k : Nat) : Bd T k 0 := ⟨Nat.zero_le _, fun x h => by omega⟩
theorem Bd.trans {T : Nat → Nat} {a b c : Nat} (h : Bd T a b) (k : Bd T b c) : Bd T a c :=
  ⟨Nat.le_trans k.1 h.1, fun x hx => by
    have h1 := h.1; have k1 := k.1
    rw [k.2 x hx, h.2 (b - c + x) (by omega)]
    congr 1; omega⟩
theorem Bd.sub {T : Nat → Nat} {a b c : Nat} (h : Bd T a b) (k : Bd T a c) (hcb : c ≤ b) : Bd T b c :=
  ⟨hcb, fun x hx => by
    have h1 := h.1
    rw [k.2 x hx, h.2 (b - c + x) (by omega)]
    congr 1; omega⟩
theorem Bd.snoc {T : Nat → Nat} {k j : Nat} (h : Bd T k j) (e : T j = T k) : Bd T (k + 1) (j + 1) :=
  ⟨by have := h.1; omega, fun x hx => by
    have h1 := h.1
    by_cases hxj : x = j
    · subst hxj; rw [e]; congr 1; omega
    · rw [h.2 x (by omega)]; congr 1; omega⟩
theorem Bd.unsnoc {T : Nat → Nat} {k j : Nat} (h : Bd T (k + 1) (j + 1)) : Bd T k j ∧ T j = T k := by
  have h1 := h.1
  refine ⟨⟨by omega, fun x hx => ?_⟩, ?_⟩
  · rw [h.2 x (by omega)]; congr 1; omega
  · rw [h.2 j (by omega)]; congr 1; omega

/-- A's places up to K hold the greatest borders. -/
def Again (T A : Nat → Nat) (K : Nat) : Prop := ∀ k, 1 ≤ k → k ≤ K → Bd T k (A k) ∧ A k < k ∧ ∀ j, j < k → Bd T k j → j ≤ A k
/-- What goOn answers: how many of T's first units end with u, if met of them stand ahead of it. -/
def Goes (T : Nat → Nat) (met u r : Nat) : Prop := r ≤ met + 1 ∧ (∀ j, r = j + 1 → Bd T met j ∧ T j = u) ∧ ∀ j, Bd T met j → T j = u → j + 1 ≤ r
/-- Between two steps of goOn. -/
def Going (T : Nat → Nat) (met u k : Nat) : Prop := Bd T met k ∧ ∀ j, Bd T met j → T j = u → j ≤ k
theorem Going.start (T : Nat → Nat) (met u : Nat) : Going T met u met := ⟨Bd.self _ _, fun j h _ => h.1⟩
theorem Going.step {T A : Nat → Nat} {met u k K : Nat} (h : Going T met u k) (hA : Again T A K) (hk : 1 ≤ k) (hK : k ≤ K) (hne : T k ≠ u) : Going T met u (A k) := by
  obtain ⟨a1, a2, a3⟩ := hA k hk hK
  refine ⟨h.1.trans a1, fun j hj hu => ?_⟩
  have hle := h.2 j hj hu
  have hlt : j < k := by
    rcases Nat.lt_or_ge j k with h | h
    · exact h
    · have : j = k := by omega
      subst this; exact absurd hu hne
  exact a3 j hlt (h.1.sub hj hle)
theorem Going.yes {T : Nat → Nat} {met u k : Nat} (h : Going T met u k) (e : T k = u) : Goes T met u (k + 1) :=
  ⟨by have := h.1.1; omega, fun j hj => by obtain rfl : j = k := by omega
                                           exact ⟨h.1, e⟩, fun j hj hu => by have := h.2 j hj hu; omega⟩
theorem Going.no {T : Nat → Nat} {met u : Nat} (h : Going T met u 0) (e : T 0 ≠ u) : Goes T met u 0 :=
  ⟨by omega, fun j hj => by omega, fun j hj hu => by
    have := h.2 j hj hu
    obtain rfl : j = 0 := by omega
    exact absurd hu e⟩

/-- One place more of the borders. -/
theorem Again.next {T A A' : Nat → Nat} {i r : Nat} (hA : Again T A i) (hi : 1 ≤ i) (hr : Goes T (A i) (T i) r) (hsame : ∀ k, k ≤ i → A' k = A k) (hnew : A' (i + 1) = r) : Again T A' (i + 1) := by
  intro k h1 h2
  by_cases hk : k = i + 1
  · subst hk
    rw [hnew]
    obtain ⟨a1, a2, a3⟩ := hA i hi (Nat.le_refl _)
    obtain ⟨g0, g1, g2⟩ := hr
    refine ⟨?_, by omega, fun j hj hb => ?_⟩
    · cases r with
      | zero => exact Bd.zero _ _
      | succ r =>
        obtain ⟨b, e⟩ := g1 r rfl
        exact (a1.trans b).snoc e
    · cases j with
      | zero => omega
      | succ j =>
        obtain ⟨b, e⟩ := hb.unsnoc
        exact g2 j (a1.sub b (a3 j (by omega) b)) e
  · rw [hsame k (by omega)]
    exact hA k h1 (by omega)

/-- The first j units of T are the last j of S from a up to i. -/
def Mt (T S : Nat → Nat) (a i j : Nat) : Prop := a + j ≤ i ∧ ∀ x, x < j → T x = S (i - j + x)
theorem Mt.zero (T S : Nat → Nat) (a i : Nat) (h : a ≤ i) : Mt T S a i 0 := ⟨by omega, fun x h => by omega⟩
theorem Mt.bd {T S : Nat → Nat} {a i j k : Nat} (h : Mt T S a i k) (b : Bd T k j) : Mt T S a i j :=
  ⟨by have := h.1; have := b.1; omega, fun x hx => by
    have h1 := h.1; have b1 := b.1
    rw [b.2 x hx, h.2 (k - j + x) (by omega)]; congr 1; omega⟩
theorem Mt.to_bd {T S : Nat → Nat} {a i j k : Nat} (h : Mt T S a i k) (m : Mt T S a i j) (hjk : j ≤ k) : Bd T k j :=
  ⟨hjk, fun x hx => by
    have h1 := h.1
    rw [m.2 x hx, h.2 (k - j + x) (by omega)]; congr 1; omega⟩
theorem Mt.snoc {T S : Nat → Nat} {a i j : Nat} (h : Mt T S a i j) (e : T j = S i) : Mt T S a (i + 1) (j + 1) :=
  ⟨by have := h.1; omega, fun x hx => by
    have h1 := h.1
    by_cases hxj : x = j
    · subst hxj; rw [e]; congr 1; omega
    · rw [h.2 x (by omega)]; congr 1; omega⟩
theorem Mt.unsnoc {T S : Nat → Nat} {a i j : Nat} (h : Mt T S a (i + 1) (j + 1)) : Mt T S a i j ∧ T j = S i := by
  have h1 := h.1
  refine ⟨⟨by omega, fun x hx => ?_⟩, ?_⟩
  · rw [h.2 x (by omega)]; congr 1; omega
  · rw [h.2 j (by omega)]; congr 1; omega

/-- The state ahead of the unit at i: met is the greatest one below m. -/
def St (T S : Nat → Nat) (m a i met : Nat) : Prop := met < m ∧ Mt T S a i met ∧ ∀ j, j < m → Mt T S a i j → j ≤ met
theorem St.step {T S : Nat → Nat} {m a i met r : Nat} (h : St T S m a i met) (hi : a ≤ i) (hr : Goes T met (S i) r) : r ≤ m ∧ Mt T S a (i + 1) r ∧ ∀ j, j ≤ m → Mt T S a (i + 1) j → j ≤ r := by
  obtain ⟨s1, s2, s3⟩ := h
  obtain ⟨g0, g1, g2⟩ := hr
  refine ⟨by omega, ?_, fun j hj hm => ?_⟩
  · cases r with
    | zero => exact Mt.zero _ _ _ _ (by omega)
    | succ r =>
      obtain ⟨b, e⟩ := g1 r rfl
      exact (s2.bd b).snoc e
  · cases j with
    | zero => omega
    | succ j =>
      obtain ⟨b, e⟩ := hm.unsnoc
      exact g2 j (s2.to_bd b (s3 j (by omega) b)) e
theorem St.on {T S : Nat → Nat} {m a i met r : Nat} (h : St T S m a i met) (hi : a ≤ i) (hr : Goes T met (S i) r) (hlt : r < m) : St T S m a (i + 1) r :=
  ⟨hlt, (h.step hi hr).2.1, fun j hj hm => (h.step hi hr).2.2 j (by omega) hm⟩
theorem St.full {T S A : Nat → Nat} {m a i met r : Nat} (h : St T S m a i met) (hi : a ≤ i) (hr : Goes T met (S i) r) (hm : 1 ≤ m) (hA : Again T A m) (he : r = m) : St T S m a (i + 1) (A m) := by
  obtain ⟨a1, a2, a3⟩ := hA m hm (Nat.le_refl _)
  have hs := h.step hi hr
  rw [he] at hs
  exact ⟨a2, hs.2.1.bd a1, fun j hj hmj => a3 j hj (hs.2.1.to_bd hmj (by omega))⟩

/-- T's m units stand in S at p. -/
abbrev At' (T S : Nat → Nat) (m p : Nat) : Prop := ∀ x, x < m → T x = S (p + x)
theorem Mt.at {T S : Nat → Nat} {m a i : Nat} (h : a + m ≤ i) : Mt T S a i m ↔ At' T S m (i - m) := ⟨fun h' => h'.2, fun h' => ⟨h, h'⟩⟩

/-- The places from a on at which T stands, all within S's first i units. -/
def occ (T S : Nat → Nat) (m a : Nat) : Nat → List Nat
  | 0 => []
  | i + 1 => occ T S m a i ++ if a + m ≤ i + 1 ∧ At' T S m (i + 1 - m) then [i + 1 - m] else []
theorem occ_early (T S : Nat → Nat) (m a : Nat) (hm : 1 ≤ m) : ∀ i, i ≤ a → occ T S m a i = []
  | 0, _ => rfl
  | i + 1, h => by rw [occ, occ_early T S m a hm i (by omega), if_neg (by omega)]; rfl
theorem occ_none {T S : Nat → Nat} {m a i met r : Nat} (h : St T S m a i met) (hi : a ≤ i) (hr : Goes T met (S i) r) (hlt : r < m) : occ T S m a (i + 1) = occ T S m a i := by
  rw [occ, if_neg, List.append_nil]
  rintro ⟨h1, h2⟩
  have := (h.step hi hr).2.2 m (Nat.le_refl _) ((Mt.at h1).2 h2)
  omega
theorem occ_one {T S : Nat → Nat} {m a i met r : Nat} (h : St T S m a i met) (hi : a ≤ i) (hr : Goes T met (S i) r) (he : r = m) : occ T S m a (i + 1) = occ T S m a i ++ [i + 1 - m] := by
  have hs := (h.step hi hr).2.1
  rw [he] at hs
  have h1 := hs.1
  rw [occ, if_pos ⟨h1, (Mt.at h1).1 hs⟩]
theorem mem_occ {T S : Nat → Nat} {m a : Nat} : ∀ (i p : Nat), p ∈ occ T S m a i ↔ a ≤ p ∧ p + m ≤ i ∧ 1 ≤ p + m ∧ At' T S m p
  | 0, p => by simp [occ]; omega
  | i + 1, p => by
    rw [occ, List.mem_append, mem_occ i p]
    constructor
    · rintro (⟨a1, a2, a3, a4⟩ | h)
      · exact ⟨a1, by omega, a3, a4⟩
      · split at h
        · rename_i hc
          obtain rfl : p = i + 1 - m := by simpa using h
          exact ⟨by omega, by omega, by omega, hc.2⟩
        · cases h
    · rintro ⟨a1, a2, a3, a4⟩
      by_cases e : p + m = i + 1
      · right
        obtain rfl : p = i + 1 - m := by omega
        rw [if_pos ⟨by omega, a4⟩]
        simp
      · left; exact ⟨a1, by omega, a3, a4⟩
theorem occ_sorted {T S : Nat → Nat} {m a : Nat} : ∀ i, (occ T S m a i).Pairwise (· < ·)
  | 0 => List.Pairwise.nil
  | i + 1 => by
    rw [occ, List.pairwise_append]
    refine ⟨occ_sorted i, ?_, fun p hp q hq => ?_⟩
    · split
      · simp
      · exact List.Pairwise.nil
    · split at hq
      · rename_i hc
        obtain rfl : q = i + 1 - m := by simpa using hq
        have := (mem_occ i p).1 hp
        omega
      · cases hq

end Go.Proofs.Ytflecclbekdgdaa
