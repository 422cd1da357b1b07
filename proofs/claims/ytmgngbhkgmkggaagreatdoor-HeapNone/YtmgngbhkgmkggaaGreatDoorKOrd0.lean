/- Keys in memory; rows that lie apart; what Order makes, plain. -/
import Derived.Test.YtmgngbhkgmkggaaGreatDoorKIns
import Derived.Test.YtmgngbhkgmkggaaGreatDoorRJoin
import Derived.Maps.AppendAt
namespace Go.Proofs.YtmgngbhkgmkggaaGreatDoor
set_option linter.unusedVariables false
open Go.RowKit

theorem infoK : (Tryz.prog.info? 31).map (fun i => (i.zero, i.size, i.bytes)) = some (some (.agg #[.string ⟨#[]⟩, .int .i64 0]), 2, 24) := by kernel_rfl
theorem infoU : (Tryz.prog.info? 148).map (fun i => (i.zero, i.size, i.bytes)) = some (some (.int .u32 0), 1, 4) := by kernel_rfl

/-- Keys, as pairs. -/
abbrev KL := List (ByteArray × Int)
/-- Their cells. -/
def kc (l : KL) : List Value := l.flatMap fun p => [.string p.1, .int .i64 p.2]
theorem kc_append (a b : KL) : kc (a ++ b) = kc a ++ kc b := by simp [kc]
theorem kc_one (s : ByteArray) (z : Int) : kc [(s, z)] = [.string s, .int .i64 z] := rfl
theorem kc_length (l : KL) : (kc l).length = l.length * 2 := by
  induction l with
  | nil => rfl
  | cons p r ih => show (kc r).length + 2 = _; rw [ih, List.length_cons]; omega
theorem kc_get (l : KL) (j : Nat) (h : j < l.length) : (kc l)[j * 2]? = some (.string l[j].1) ∧ (kc l)[j * 2 + 1]? = some (.int .i64 l[j].2) := by
  induction l generalizing j with
  | nil => simp at h
  | cons p r ih =>
    have e : kc (p :: r) = .string p.1 :: .int .i64 p.2 :: kc r := rfl
    cases j with
    | zero => rw [e]; exact ⟨rfl, rfl⟩
    | succ j =>
      have := ih j (by simpa using h)
      rw [e, show (j + 1) * 2 = j * 2 + 1 + 1 from by omega, show j * 2 + 1 + 1 + 1 = j * 2 + 1 + 1 + 1 from rfl]
      simpa using this
theorem kc_one' (l : KL) : ∀ u ∈ kc l, u.oneCell' = true := by
  intro u hu
  simp only [kc, List.mem_flatMap, List.mem_cons, List.not_mem_nil, or_false] at hu
  obtain ⟨p, _, rfl | rfl⟩ := hu <;> rfl

/-- A value is a slice whose keys are l. -/
def RdK (w : World) (v : Value) (l : KL) : Prop :=
  (∃ a c, v = .slice a 0 c ∧ l = [] ∧ (a = none → c = 0)) ∨ ∃ g o c, v = .slice (some ⟨g, o, none⟩) l.length c ∧ l.length ≤ c ∧ g < w.heap.size ∧
    ∀ (j : Nat) (h : j < l.length), w.cell? ⟨g, o + j * 2, none⟩ = some (.string l[j].1) ∧ w.cell? ⟨g, o + j * 2 + 1, none⟩ = some (.int .i64 l[j].2)
theorem RdK.below {w w' : World} {v : Value} {l : KL} (h : RdK w v l) (hb : Below w.heap.size w w') : RdK w' v l := by
  rcases h with h | ⟨g, o, c, rfl, hl, hg, hc⟩
  · exact .inl h
  · exact .inr ⟨g, o, c, rfl, hl, Nat.lt_of_lt_of_le hg hb.size, fun j hj => ⟨(hb.cell (p := ⟨g, o + j * 2, none⟩) hg).trans (hc j hj).1, (hb.cell (p := ⟨g, o + j * 2 + 1, none⟩) hg).trans (hc j hj).2⟩⟩
theorem RdK.form {w : World} {v : Value} {l : KL} (h : RdK w v l) : ∃ x c, v = .slice x l.length c := by
  rcases h with ⟨a, c, rfl, rfl, _⟩ | ⟨g, o, c, rfl, _⟩
  · exact ⟨_, _, rfl⟩
  · exact ⟨_, _, rfl⟩
theorem RdK.own {w : World} {B : Nat} {v : Value} {l : KL} (h : w.ownsRow B 31 2 v l.length (kc l)) : RdK w v l := by
  rcases h.2 with ⟨rfl, hn⟩ | ⟨g, cap, cur, rfl, hB, hg, hnc, hcm, hcs, ht⟩
  · exact .inl ⟨none, 0, rfl, List.eq_nil_of_length_eq_zero hn, fun _ => rfl⟩
  · refine .inr ⟨g, 0, cap, rfl, hnc, (Array.getElem?_eq_some_iff.1 hg).1, fun j hj => ?_⟩
    have hk := kc_get l j hj
    rw [← ht] at hk
    simp only [List.getElem?_take, Array.getElem?_toList] at hk
    have e0 : ∀ o, w.cell? ⟨g, o, none⟩ = cur[o]? := fun o => cell_of_row _ g o cur 31 (0, 0) hg
    rw [e0, e0]
    have h1 := hk.1; have h2 := hk.2
    rw [if_pos (by omega)] at h1 h2
    simpa using And.intro h1 h2

/-- Two rows do not lie in one block. -/
def Apart (u v : Value) : Prop := ∀ g, u.ownBlock = some g → v.ownBlock ≠ some g
theorem Apart.symm {u v : Value} (h : Apart u v) : Apart v u := fun g hg e => h g e hg
theorem apart_nil (v : Value) : Apart v (.slice none 0 0) := fun g _ e => by cases e
theorem own_other {w w' : World} {B : Nat} {e : TypeId} {sz : Nat} {v : Value} {n : Nat} {xs : List Value} {row : Option Nat} (h : w.ownsRow B e sz v n xs) (hg : w.grownBy w' row) (hne : ∀ g, v.ownBlock = some g → row ≠ some g) : w'.ownsRow B e sz v n xs := by
  refine ⟨h.1, ?_⟩
  rcases h.2 with hn | ⟨g, cap, cur, rfl, hB, hgg, rest⟩
  · exact .inl hn
  · exact .inr ⟨g, cap, cur, rfl, hB, (hg.block g (Array.getElem?_eq_some_iff.1 hgg).1 (fun e => hne g rfl e.symm)).trans hgg, rest⟩
theorem apart_new {w : World} {B : Nat} {e : TypeId} {sz : Nat} {u v v' : Value} {n : Nat} {xs : List Value} {m : Nat} (h : w.ownsRow B e sz u n xs) (ha : Apart u v) (hl : v'.ownBlock = v.ownBlock ∨ v'.ownBlock = some m) (hm : w.heap.size ≤ m) : Apart u v' := by
  intro g hg e
  rcases hl with hl | hl
  · rw [hl] at e; exact ha g hg e
  · rw [hl] at e
    cases e
    have := (h.lt m hg).2
    omega

/-- The keys that are indices, as numbers. -/
def ixs (l : KL) : List Int := l.filterMap fun p => if 0 < p.2 then none else if idxB (evenS p.1) then some (idxN (evenS p.1) : Int) else none
/-- Other texts. -/
def txs (l : KL) : KL := l.filterMap fun p => if 0 < p.2 then none else if idxB (evenS p.1) then none else some (evenS p.1, 0)
/-- Symbols. -/
def sys (l : KL) : KL := l.filterMap fun p => if 0 < p.2 then some (⟨#[]⟩, p.2) else none
/-- The keys of indices. -/
def ofs (zs : List Int) : KL := zs.map fun z => (keyT z.toNat, 0)
/-- What Order makes. -/
def ordK (l : KL) : KL := ofs ((ixs l).mergeSort fun x y => decide (x ≤ y)) ++ txs l ++ sys l

theorem take_snoc {α : Type} (l : List α) (k : Nat) (h : k < l.length) : l.take (k + 1) = l.take k ++ [l[k]] := by rw [List.take_succ_eq_append_getElem h]
theorem parts_sym (l : KL) (s : ByteArray) (z : Int) (h : 0 < z) : ixs (l ++ [(s, z)]) = ixs l ∧ txs (l ++ [(s, z)]) = txs l ∧ sys (l ++ [(s, z)]) = sys l ++ [(⟨#[]⟩, z)] := by
  simp [ixs, txs, sys, h]
theorem parts_ix (l : KL) (s : ByteArray) (z : Int) (h : ¬ 0 < z) (hi : idxB (evenS s) = true) : ixs (l ++ [(s, z)]) = ixs l ++ [(idxN (evenS s) : Int)] ∧ txs (l ++ [(s, z)]) = txs l ∧ sys (l ++ [(s, z)]) = sys l := by
  simp [ixs, txs, sys, h, hi]
theorem parts_tx (l : KL) (s : ByteArray) (z : Int) (h : ¬ 0 < z) (hi : idxB (evenS s) = false) : ixs (l ++ [(s, z)]) = ixs l ∧ txs (l ++ [(s, z)]) = txs l ++ [(evenS s, 0)] ∧ sys (l ++ [(s, z)]) = sys l := by
  simp [ixs, txs, sys, h, hi]
theorem parts_length (l : KL) : (ixs l).length + (txs l).length + (sys l).length = l.length := by
  induction l with
  | nil => rfl
  | cons p r ih =>
    simp only [ixs, txs, sys, List.filterMap_cons] at ih ⊢
    split <;> split <;> split <;> simp_all <;> omega
theorem ixs_range (l : KL) : ∀ z ∈ ixs l, 0 ≤ z ∧ z ≤ 4294967294 := by
  intro z hz
  simp only [ixs, List.mem_filterMap] at hz
  obtain ⟨p, _, hp⟩ := hz
  split at hp
  · cases hp
  · split at hp
    · simp only [Option.some.injEq] at hp
      have := idxN_lt (evenS p.1)
      omega
    · cases hp

theorem even_size' (s : ByteArray) : (evenS s).size = s.size / 2 * 2 := by
  rw [even_size, ebs_length]; omega
theorem un_even (s : ByteArray) (i : Nat) (h : i < s.size / 2) : un (evenS s) i = un s i := by
  have hb : ∀ j, j < s.size / 2 * 2 → by' (evenS s) j = by' s j := fun j hj => by
    unfold by'
    rw [evenS_bytes]
    unfold ebs
    rw [List.getD_eq_getElem?_getD, List.getD_eq_getElem?_getD, List.getElem?_take, if_pos hj]
  unfold un
  rw [hb _ (by omega), hb _ (by omega)]
theorem even_even (s : ByteArray) : evenS (evenS s) = evenS s := by
  apply ByteArray.ext
  apply Array.ext'
  have h1 := evenS_bytes (evenS s)
  rw [h1]
  unfold ebs
  rw [even_size', evenS_bytes, List.take_of_length_le (by rw [ebs_length]; omega)]
theorem dig_even (s : ByteArray) : ∀ k, k ≤ s.size / 2 → digN (evenS s) k = digN s k ∧ digOk (evenS s) k = digOk s k
  | 0, _ => ⟨rfl, rfl⟩
  | k + 1, h => by
    have := dig_even s k (by omega)
    rw [digN, digN, digOk, digOk, this.1, this.2, un_even s k (by omega)]
    exact ⟨rfl, rfl⟩
theorem idx_even (s : ByteArray) : idxB (evenS s) = idxB s ∧ idxN (evenS s) = idxN s := by
  have e : (evenS s).size / 2 = s.size / 2 := by rw [even_size']; omega
  have hd := dig_even s (s.size / 2) (Nat.le_refl _)
  have hB : idxB (evenS s) = idxB s := by
    unfold idxB
    rw [e, hd.1, hd.2]
    by_cases h0 : s.size / 2 = 0
    · simp [h0]
    · rw [un_even s 0 (by omega)]
  refine ⟨hB, ?_⟩
  unfold idxN
  rw [hB, e, hd.1]

end Go.Proofs.YtmgngbhkgmkggaaGreatDoor
