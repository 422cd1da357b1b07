/- tree.Check, whatever fits says of the nodes: plain. -/
import Derived.Test.YtkiofkppdpkboaaDoorTChk0
namespace Go.Proofs.YtkiofkppdpkboaaDoor
set_option linter.unusedVariables false
open Go.RowKit

def kindLast (L : List Nd) : Int := (L.getLast?.map (·.kind)).getD 0
def kidsAt (L : List Nd) (i : Nat) : List Int := (L[i]?.map (·.kids)).getD []
/-- The end of Check. -/
def chkEnd (L : List Nd) (c : Int) : Int × Int :=
  if (L.length : Int) - 1 < 0 ∨ kindLast L ≠ 55 ∨ c ≠ (L.length : Int) - 1 then (max ((L.length : Int) - 1) 0, 60) else if 200 < deepN L then (0, 61) else (0, 0)
/-- Check from the m-th node from the end on, where F says which nodes fit. -/
def chkN (L : List Nd) (F : Nat → Bool) : Nat → List Bool → Int → Int × Int
  | 0, T, c => chkEnd L c
  | m + 1, T, c => if (takeN ((L.length - (m + 1) : Nat) : Int) (kidsAt L (L.length - (m + 1))) T c).1 && F (L.length - (m + 1)) then
      chkN L F m (takeN ((L.length - (m + 1) : Nat) : Int) (kidsAt L (L.length - (m + 1))) T c).2.1 (takeN ((L.length - (m + 1) : Nat) : Int) (kidsAt L (L.length - (m + 1))) T c).2.2 else (((L.length - (m + 1) : Nat) : Int), 60)
theorem takeN_length (i : Int) : ∀ (ks : List Int) (T : List Bool) (c : Int), (takeN i ks T c).2.1.length = T.length
  | [], T, c => rfl
  | k :: r, T, c => by
    unfold takeN
    split
    · split
      · rfl
      · rw [takeN_length i r]; simp
    · rfl
theorem count_set (T : List Bool) : ∀ (n : Nat), n < T.length → T.getD n false = false → (T.set n true).count true = T.count true + 1 := by
  induction T with
  | nil => intro n h; simp at h
  | cons b r ih =>
    intro n h hf
    cases n with
    | zero =>
      simp at hf
      subst hf
      simp
    | succ n =>
      have := ih n (by simpa using h) (by simpa using hf)
      simp only [List.set_cons_succ, List.count_cons, this]
      omega
theorem takeN_count (i : Int) : ∀ (ks : List Int) (T : List Bool) (c : Int), i ≤ (T.length : Int) → c = (T.count true : Int) → (takeN i ks T c).2.2 = ((takeN i ks T c).2.1.count true : Int)
  | [], T, c, _, h => h
  | k :: r, T, c, hi, h => by
    unfold takeN
    split
    · rename_i hk
      split
      · exact h
      · rename_i hf
        refine takeN_count i r _ _ (by simpa using hi) ?_
        rw [count_set T k.toNat (by omega) (by simpa using hf)]
        omega
    · exact h
theorem takeN_ahead (i : Int) : ∀ (ks : List Int) (T : List Bool) (c : Int), (takeN i ks T c).1 = true → ∀ k ∈ ks, 0 ≤ k ∧ k < i
  | [], T, c, _ => fun k hk => by simp at hk
  | k :: r, T, c, h => by
    unfold takeN at h
    split at h
    · rename_i hk
      split at h
      · simp at h
      · intro k' hk'
        rcases List.mem_cons.1 hk' with rfl | hk'
        · exact hk
        · exact takeN_ahead i r _ _ h k' hk'
    · simp at h
theorem kidsAt_eq {L : List Nd} {i : Nat} (h : i < L.length) : kidsAt L i = L[i].kids := by unfold kidsAt; rw [List.getElem?_eq_getElem h]; rfl
theorem chkN_step (L : List Nd) (F : Nat → Bool) (i N : Nat) (hN : L.length = N) (h : i < N) (T : List Bool) (c : Int) (ok : Bool) (T' : List Bool) (c' : Int) (ht : takeN (i : Int) (kidsAt L i) T c = (ok, T', c')) :
    chkN L F (N - i) T c = if ok && F i then chkN L F (N - (i + 1)) T' c' else ((i : Int), 60) := by
  obtain ⟨m, hm⟩ : ∃ m, N - i = m + 1 := ⟨N - i - 1, by omega⟩
  have hi : L.length - (m + 1) = i := by omega
  rw [hm, chkN, hi, ht, show N - (i + 1) = m by omega]
theorem chkEnd_big (L : List Nd) (M : Nat) (kd cnt dp : Int) (hN : L.length = M + 1) (hk : kindLast L = kd) (hd : deepN L = dp) :
    chkEnd L cnt = if kd = 55 ∧ cnt = (M : Int) then (if 200 < dp then (0, 61) else (0, 0)) else ((M : Int), 60) := by
  unfold chkEnd
  rw [hk, hd, hN, show (((M + 1 : Nat) : Int) - 1) = (M : Int) by omega, show max (M : Int) 0 = (M : Int) by omega]
  by_cases hh : kd = 55 ∧ cnt = (M : Int)
  · have h2 : ¬ ((M : Int) < 0 ∨ kd ≠ 55 ∨ cnt ≠ (M : Int)) := by omega
    rw [if_pos hh, if_neg h2]
  · have h2 : ((M : Int) < 0 ∨ kd ≠ 55 ∨ cnt ≠ (M : Int)) := by omega
    rw [if_neg hh, if_pos h2]
theorem kindLast_eq {L : List Nd} {M : Nat} (hN : L.length = M + 1) (h : M < L.length) : kindLast L = L[M].kind := by
  unfold kindLast
  rw [List.getLast?_eq_getElem?, show L.length - 1 = M by omega, List.getElem?_eq_getElem h]
  rfl
end Go.Proofs.YtkiofkppdpkboaaDoor
