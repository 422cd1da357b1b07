/- The table's rows by their numbers; what kidsFit asks, out of the checker in memory. -/
import Derived.Test.YtkiofkppdpkboaaDoorTCheck
namespace Go.Proofs.YtkiofkppdpkboaaDoor
set_option linter.unusedVariables false
open Go.RowKit

/-- The table, by kinds: what the Text may be, which list of kids must be, perhaps, more. -/
def rowTab : List (Int × Option Nat × Nat × Nat) := [(0, none, 0, 0), (0, none, 0, 0), (0, none, 0, 0), (0, none, 0, 0), (0, none, 0, 0), (0, none, 0, 0), (1, none, 0, 0), (0, none, 0, 0), (0, none, 0, 1073734654), (0, none, 0, 7168), (0, some 4, 0, 0), (0, some 5, 0, 0), (0, some 6, 0, 0), (2, some 2, 0, 0), (0, some 7, 0, 0), (0, some 0, 0, 1073734654), (0, some 0, 0, 1073734654), (3, some 0, 0, 0), (0, some 1, 0, 0), (4, some 0, 0, 0), (4, some 8, 0, 0), (4, some 9, 0, 0), (4, some 1, 0, 0), (0, some 1, 0, 0), (0, some 1, 0, 0), (0, some 10, 0, 0), (4, some 11, 0, 0), (0, some 1, 0, 536863742), (0, some 12, 0, 536863742), (0, some 0, 0, 0), (0, none, 0, 2147483712), (1, none, 0, 0), (0, none, 0, 14636660134248448), (0, some 13, 0, 34359738368), (0, some 14, 0, 34359738368), (1, none, 536863742, 0), (0, none, 0, 0), (0, some 0, 0, 0), (0, some 15, 5629435109703680, 0), (0, some 16, 0, 0), (0, some 3, 0, 0), (0, some 3, 0, 0), (0, some 17, 0, 0), (0, some 18, 0, 0), (2, none, 0, 0), (2, none, 0, 0), (0, none, 536863742, 0), (0, some 0, 0, 0), (2, some 19, 0, 0), (0, some 0, 0, 3377699720527872), (0, some 0, 0, 14636660134248448), (0, none, 0, 14636660134248448), (1, some 20, 0, 0), (1, some 2, 0, 0), (0, none, 0, 0), (0, none, 0, 14636660134248448), (0, some 0, 0, 0)]
def rowAt (k : Nat) : Int × Option Nat × Nat × Nat := rowTab.getD k (0, none, 0, 0)
def rowMs (k : Nat) : List Nat := match (rowAt k).2.1 with | none => [] | some i => (musts.getD i []).map Int.toNat
def mustP (rb : Nat) : Option Nat → Option Addr
  | none => none
  | some i => some ⟨rb + 1 + i, 0, none⟩
def mustL : Option Nat → Nat
  | none => 0
  | some i => (musts.getD i []).length
def rowV (rb : Nat) (r : Int × Option Nat × Nat × Nat) : List Value := [.int .i64 r.1, .slice (mustP rb r.2.1) (mustL r.2.1) (mustL r.2.1), .int .u64 (r.2.2.1 : Nat), .int .u64 (r.2.2.2 : Nat)]
theorem rowsC_flat (rb : Nat) : rowsC rb = rowTab.flatMap (rowV rb) := by kernel_rfl
theorem flat4 {α β : Type} (f : α → List β) (hf : ∀ a, (f a).length = 4) : ∀ (l : List α) (k j : Nat) (a : α), j < 4 → l[k]? = some a → (l.flatMap f)[k * 4 + j]? = (f a)[j]?
  | [], k, j, a, _, h => by simp at h
  | x :: r, 0, j, a, hj, h => by
    simp at h
    subst h
    rw [List.flatMap_cons, Nat.zero_mul, Nat.zero_add, List.getElem?_append_left (by rw [hf]; exact hj)]
  | x :: r, k + 1, j, a, hj, h => by
    rw [List.flatMap_cons, List.getElem?_append_right (by rw [hf]; omega), hf, show (k + 1) * 4 + j - 4 = k * 4 + j by omega]
    exact flat4 f hf r k j a hj (by simpa using h)
theorem rowTab_at (k : Nat) (h : k < 57) : rowTab[k]? = some (rowAt k) := by
  have hl : rowTab.length = 57 := by kernel_rfl
  unfold rowAt
  rw [List.getD_eq_getElem?_getD, List.getElem?_eq_getElem (by omega)]
  rfl
theorem rowsC_at (rb k j : Nat) (hk : k < 57) (hj : j < 4) : (rowsC rb)[k * 4 + j]? = (rowV rb (rowAt k))[j]? := by
  rw [rowsC_flat]
  exact flat4 (rowV rb) (fun _ => rfl) rowTab k j _ hj (rowTab_at k hk)
theorem rowMs_length (k : Nat) : (rowMs k).length = mustL (rowAt k).2.1 := by
  unfold rowMs mustL
  split <;> simp [*]
def mustObj (l : List Int) : Obj := .cells (l.map (Value.int .u64)).toArray 56
theorem mustObjs_eq : mustObjs = musts.map mustObj := by kernel_rfl
theorem musts_fine : (musts.all fun l => l.all fun z => decide (0 ≤ z) && decide (z < 18446744073709551616)) = true := by kernel_rfl
theorem rows_fine : (rowTab.all fun r => decide (r.2.2.1 < 18446744073709551616) && decide (r.2.2.2 < 18446744073709551616) && (match r.2.1 with | none => true | some i => decide (i < 21))) = true := by kernel_rfl
theorem musts_len : (musts.all fun l => decide (l.length ≤ 4)) = true := by kernel_rfl
theorem rowAt_mem (k : Nat) (h : k < 57) : rowAt k ∈ rowTab := List.mem_of_getElem? (rowTab_at k h)
theorem rowAt_lt (k : Nat) (h : k < 57) : (rowAt k).2.2.1 < 18446744073709551616 ∧ (rowAt k).2.2.2 < 18446744073709551616 := by
  have := List.all_eq_true.1 rows_fine _ (rowAt_mem k h)
  simp only [Bool.and_eq_true, decide_eq_true_eq] at this
  exact this.1
theorem rowAt_idx (k i : Nat) (h : k < 57) (hi : (rowAt k).2.1 = some i) : i < 21 := by
  have := List.all_eq_true.1 rows_fine _ (rowAt_mem k h)
  simp only [Bool.and_eq_true, hi, decide_eq_true_eq] at this
  exact this.2
theorem must_getD (i : Nat) (h : i < 21) : musts[i]? = some (musts.getD i []) := by
  have hl : musts.length = 21 := by kernel_rfl
  rw [List.getD_eq_getElem?_getD, List.getElem?_eq_getElem (by omega)]
  rfl
/-- The kinds of a node's kids. -/
def kindsOf (L : List Nd) (ks : List Int) : List Nat := ks.map fun (u : Int) => ((L[u.toNat]?.map (fun n : Nd => n.kind)).getD 0).toNat

theorem kf_of {L : List Nd} {N c g o q tb rb : Nat} {T : List Bool} {cnt : Int} {w W : World} (hC : Ck w q tb rb (.slice (some ⟨g, o, none⟩) N c) T cnt W) (hN : L.length = N) (hg : g < w.heap.size)
    (hcc : ∀ j (h : j < L.length), w.rangeAt g (o + j * 6) L[j].cells ∧ KidsAt w L[j]) (i : Nat) (hi : i < L.length) (hks : (L[i].kids.length : Int) * 8 ≤ 140737488351232)
    (hah : ∀ k ∈ L[i].kids, 0 ≤ k ∧ k < (i : Int)) (k : Nat) (hk : L[i].kind = (k : Int)) (hk57 : k < 57) (hkd : ∀ j (h : j < i), ∃ kk : Nat, (L[j]'(by omega)).kind = (kk : Int) ∧ kk < 64) :
    KFit W q L[i] k (rowAt k).1 (mustP rb (rowAt k).2.1) (mustL (rowAt k).2.1) (rowMs k) (rowAt k).2.2.1 (rowAt k).2.2.2 g o N c (kindsOf L L[i].kids) := by
  have row : ∀ j v, j < 4 → (rowV rb (rowAt k))[j]? = some v → W.cell? ⟨q, 1 + k * 4 + j, none⟩ = some v := fun j v hj hv => by
    refine hC.cell (1 + k * 4 + j) v ?_
    rw [show 1 + k * 4 + j = (k * 4 + j) + 1 by omega, ckC_row _ _ _ _ _ _ (by omega), rowsC_at rb k j hk57 hj, hv]
  have hgW : g < W.heap.size := Nat.lt_of_lt_of_le hg hC.b.size
  refine ⟨hk, hk57, hC.ql, hgW, hC.cell 0 _ (ckC_0 _ _ _ _ _), row 0 _ (by omega) rfl, ?_, row 2 _ (by omega) rfl, row 3 _ (by omega) rfl, ?_, ?_, ?_, by simp [kindsOf], hks, KidsAt.below (hcc i hi).2 hC.b, ?_⟩
  · rw [rowMs_length]; exact row 1 _ (by omega) rfl
  · intro j hj
    cases hm : (rowAt k).2.1 with
    | none => exfalso; rw [rowMs_length, hm] at hj; exact absurd hj (by simp [mustL])
    | some m =>
      have hm21 := rowAt_idx k m hk57 hm
      have hmu := must_getD m hm21
      have hjl : j < (musts.getD m []).length := by have := hj; rw [rowMs_length, hm] at this; exact this
      have ho : mustObjs[m]? = some (mustObj (musts.getD m [])) := by rw [mustObjs_eq, List.getElem?_map, hmu]; rfl
      have h1 := hC.m m j _ _ (.int .u64 ((musts.getD m [])[j])) ho (by simp)
      refine ⟨rb + 1 + m, 0, rfl, World.block_lt_of_cell? W _ h1.1, ?_⟩
      rw [Nat.zero_add, h1.1]
      have hz := List.all_eq_true.1 (List.all_eq_true.1 musts_fine _ (List.mem_of_getElem? hmu)) _ (List.getElem_mem hjl)
      simp only [Bool.and_eq_true, decide_eq_true_eq] at hz
      have e : rowMs k = (musts.getD m []).map Int.toNat := by unfold rowMs; rw [hm]
      simp only [e, List.getElem_map]
      rw [Int.toNat_of_nonneg hz.1]
  · refine ⟨fun m hm => ?_, rowAt_lt k hk57⟩
    cases hi' : (rowAt k).2.1 with
    | none => have e : rowMs k = [] := by unfold rowMs; rw [hi']
              rw [e] at hm; simp at hm
    | some ix =>
      have e : rowMs k = (musts.getD ix []).map Int.toNat := by unfold rowMs; rw [hi']
      rw [e, List.mem_map] at hm
      obtain ⟨z, hz, rfl⟩ := hm
      have hmu := must_getD ix (rowAt_idx k ix hk57 hi')
      have := List.all_eq_true.1 (List.all_eq_true.1 musts_fine _ (List.mem_of_getElem? hmu)) _ hz
      simp only [Bool.and_eq_true, decide_eq_true_eq] at this
      omega
  · rw [rowMs_length]
    cases hi' : (rowAt k).2.1 with
    | none => simp [mustL]
    | some ix =>
      have hmu := must_getD ix (rowAt_idx k ix hk57 hi')
      have := List.all_eq_true.1 musts_len _ (List.mem_of_getElem? hmu)
      simp only [decide_eq_true_eq] at this
      show (musts.getD ix []).length ≤ 1000
      omega
  · intro j hj
    obtain ⟨h1, h2⟩ := hah _ (List.getElem_mem hj)
    obtain ⟨u, hu⟩ : ∃ u : Nat, L[i].kids[j] = (u : Int) := ⟨_, (Int.toNat_of_nonneg h1).symm⟩
    have hui : u < i := by omega
    obtain ⟨kk, e1, e2⟩ := hkd u hui
    have e3 : (kindsOf L L[i].kids).getD j 0 = kk := by
      rw [List.getD_eq_getElem?_getD]
      unfold kindsOf
      rw [List.getElem?_map, List.getElem?_eq_getElem hj, hu]
      simp [List.getElem?_eq_getElem (show u < L.length by omega), e1]
    refine ⟨u, L[u]'(by omega), hu, by omega, fun m v hv => (hC.b.cell (p := ⟨g, o + u * 6 + m, none⟩) hg).trans ((hcc u (by omega)).1 m v hv), ?_, ?_⟩
    · rw [e3, e1]
    · rw [e3]; exact e2
end Go.Proofs.YtkiofkppdpkboaaDoor
