/- Plain: the text of an index and its number are one; putting keys in order once is enough, and keeps them all. -/
import Derived.Test.YtcjpoabknlpopaaDoorKAw
namespace Go.Proofs.YtcjpoabknlpopaaDoor
set_option linter.unusedVariables false
open Go.RowKit

/-- The number of digits. -/
def dv (us : List Nat) : Nat := us.foldl (fun n u => 10 * n + (u - 48)) 0
theorem dv_snoc (us : List Nat) (u : Nat) : dv (us ++ [u]) = 10 * dv us + (u - 48) := by simp [dv]
theorem uns_take (s : ByteArray) (k : Nat) (h : k < s.size / 2) : (uns s).take (k + 1) = (uns s).take k ++ [un s k] := by
  rw [List.take_succ_eq_append_getElem (by rw [uns_length]; exact h)]
  simp [uns]
theorem digN_dv (s : ByteArray) : ∀ k, k ≤ s.size / 2 → digN s k = dv ((uns s).take k)
  | 0, _ => rfl
  | k + 1, h => by rw [uns_take s k (by omega), dv_snoc, ← digN_dv s k (by omega)]; rfl
theorem digOk_all (s : ByteArray) : ∀ k, k ≤ s.size / 2 → (digOk s k = true ↔ ∀ u ∈ (uns s).take k, 48 ≤ u ∧ u ≤ 57)
  | 0, _ => by simp [digOk]
  | k + 1, h => by
    rw [uns_take s k (by omega), digOk, Bool.and_eq_true, digOk_all s k (by omega), decide_eq_true_eq]
    simp only [List.mem_append, List.mem_singleton]
    constructor
    · rintro ⟨h1, h2⟩ u (hu | rfl)
      · exact h1 u hu
      · exact h2
    · intro h1
      exact ⟨fun u hu => h1 u (.inl hu), h1 _ (.inr rfl)⟩
theorem uns_full (s : ByteArray) : (uns s).take (s.size / 2) = uns s := List.take_of_length_le (by rw [uns_length]; omega)

theorem head_app {vs ws : List Nat} (h : vs ≠ []) : (vs ++ ws).head? = vs.head? := by cases vs with | nil => exact absurd rfl h | cons a r => rfl

/-- The units of a number's digits. -/
def du (i : Nat) : List Nat := (Lib.decDigits i).map (·.toNat)
theorem du_lt10 {i : Nat} (h : i < 10) : du i = [48 + i] := by
  unfold du; rw [Lib.decDigits_one h]
  have : (UInt8.ofNat (48 + i)).toNat = 48 + i := by simp; omega
  simp only [List.map_cons, List.map_nil, this]
theorem du_ge10 {i : Nat} (h : ¬ i < 10) : du i = du (i / 10) ++ [48 + i % 10] := by
  unfold du
  rw [Lib.decDigits, dif_neg h, List.map_append]
  have : (UInt8.ofNat (48 + i % 10)).toNat = 48 + i % 10 := by simp; omega
  simp only [List.map_cons, List.map_nil, this]
theorem du_dv : ∀ i, dv (du i) = i := by
  intro i
  induction i using Nat.strongRecOn with
  | ind i ih =>
    by_cases h : i < 10
    · rw [du_lt10 h]; simp [dv]
    · rw [du_ge10 h, dv_snoc, ih (i / 10) (by omega)]; omega
theorem du_dig : ∀ i, ∀ u ∈ du i, 48 ≤ u ∧ u ≤ 57 := by
  intro i u hu
  simp only [du, List.mem_map] at hu
  obtain ⟨c, hc, rfl⟩ := hu
  exact dec_digit i c hc
theorem du_ne (i : Nat) : du i ≠ [] := by
  by_cases h : i < 10
  · rw [du_lt10 h]; simp
  · rw [du_ge10 h]; simp
theorem du_head : ∀ i, 1 ≤ i → (du i).head? ≠ some 48 := by
  intro i
  induction i using Nat.strongRecOn with
  | ind i ih =>
    intro h1
    by_cases h : i < 10
    · rw [du_lt10 h]; simp; omega
    · rw [du_ge10 h, head_app (du_ne _)]
      exact ih (i / 10) (by omega) (by omega)
theorem du_len : ∀ (k i : Nat), i < 10 ^ (k + 1) → (du i).length ≤ k + 1 := by
  intro k
  induction k with
  | zero => intro i h; rw [du_lt10 (by simpa using h)]; simp
  | succ k ih =>
    intro i h
    by_cases h10 : i < 10
    · rw [du_lt10 h10]; simp
    · rw [du_ge10 h10, List.length_append]
      have := ih (i / 10) (by rw [Nat.pow_succ] at h; omega)
      simp only [List.length_cons, List.length_nil]
      omega
theorem du_one (i : Nat) (h : 1 < (du i).length) : 1 ≤ i := by
  rcases Nat.eq_zero_or_pos i with rfl | h1
  · rw [du_lt10 (by omega)] at h; simp at h
  · exact h1

theorem dv_pos (us : List Nat) (hd : ∀ u ∈ us, 48 ≤ u ∧ u ≤ 57) (h0 : us ≠ []) (hh : us.head? ≠ some 48) : 1 ≤ dv us := by
  suffices h : ∀ n (ws : List Nat), ws.length = n → (∀ u ∈ ws, 48 ≤ u ∧ u ≤ 57) → ws ≠ [] → ws.head? ≠ some 48 → 1 ≤ dv ws from h _ us rfl hd h0 hh
  intro n
  induction n with
  | zero => intro ws hl _ h0 _; exact absurd (List.eq_nil_of_length_eq_zero hl) h0
  | succ n ih =>
    intro ws hl hd h0 hh
    obtain ⟨vs, u, rfl⟩ : ∃ vs u, ws = vs ++ [u] := by
      rcases List.eq_nil_or_concat ws with h | ⟨vs, u, h⟩
      · exact absurd h h0
      · exact ⟨vs, u, by simpa using h⟩
    rw [dv_snoc]
    by_cases hv : vs = []
    · subst hv
      have := hd u (by simp)
      simp at hh
      omega
    · have := ih vs (by simpa using hl) (fun x hx => hd x (by simp [hx])) hv (by rwa [head_app hv] at hh)
      omega
/-- Digits without a nought ahead are those of their number. -/
theorem du_of_dv (us : List Nat) (hd : ∀ u ∈ us, 48 ≤ u ∧ u ≤ 57) (h0 : us ≠ []) (hh : us.head? = some 48 → us.length = 1) : du (dv us) = us := by
  suffices h : ∀ n (ws : List Nat), ws.length = n → (∀ u ∈ ws, 48 ≤ u ∧ u ≤ 57) → ws ≠ [] → (ws.head? = some 48 → ws.length = 1) → du (dv ws) = ws from h _ us rfl hd h0 hh
  intro n
  induction n with
  | zero => intro ws hl _ h0 _; exact absurd (List.eq_nil_of_length_eq_zero hl) h0
  | succ n ih =>
    intro ws hl hd h0 hh
    obtain ⟨vs, u, rfl⟩ : ∃ vs u, ws = vs ++ [u] := by
      rcases List.eq_nil_or_concat ws with h | ⟨vs, u, h⟩
      · exact absurd h h0
      · exact ⟨vs, u, by simpa using h⟩
    have hu := hd u (by simp)
    rw [dv_snoc]
    by_cases hv : vs = []
    · subst hv
      rw [show 10 * dv [] + (u - 48) = u - 48 from by simp [dv], du_lt10 (by omega)]
      simp
      omega
    · have hvd : ∀ x ∈ vs, 48 ≤ x ∧ x ≤ 57 := fun x hx => hd x (by simp [hx])
      have hne : vs.head? ≠ some 48 := by
        intro h
        have := hh (by rw [head_app hv]; exact h)
        have h2 : 0 < vs.length := List.length_pos_iff.2 hv
        simp at this
        exact hv this
      have h1 := dv_pos vs hvd hv hne
      rw [du_ge10 (by omega), show (10 * dv vs + (u - 48)) / 10 = dv vs from by omega, show (10 * dv vs + (u - 48)) % 10 = u - 48 from by omega, ih vs (by simpa using hl) hvd hv (fun h => absurd h hne)]
      congr 2
      omega

theorem uns_mk' (us : List Nat) (hu : ∀ u ∈ us, u < 65536) : uns ⟨(mkB us).toArray⟩ = us := by
  have hs : (⟨(mkB us).toArray⟩ : ByteArray).size / 2 = us.length := by
    show (mkB us).toArray.size / 2 = _
    simp [mkB_length]
  apply List.ext_getElem
  · rw [uns_length, hs]
  · intro i h1 h2
    rw [show (uns ⟨(mkB us).toArray⟩)[i] = un ⟨(mkB us).toArray⟩ i from by simp [uns]]
    unfold un by'
    have h3 : (⟨(mkB us).toArray⟩ : ByteArray).data.toList = mkB us := by simp
    rw [h3]
    have hk : (mkB us).drop (2 * i) = ub us[i] ++ mkB (us.drop (i + 1)) := by
      rw [← mkB_drop, List.drop_eq_getElem_cons h2]
      rfl
    have g0 : (mkB us)[2 * i]? = (ub us[i])[0]? := by
      have := congrArg (·[0]?) hk
      simp only [List.getElem?_drop, Nat.add_zero] at this
      rw [this, List.getElem?_append_left (by simp [ub])]
    have g1 : (mkB us)[2 * i + 1]? = (ub us[i])[1]? := by
      have := congrArg (·[1]?) hk
      simp only [List.getElem?_drop] at this
      rw [this, List.getElem?_append_left (by simp [ub])]
    rw [List.getD_eq_getElem?_getD, List.getD_eq_getElem?_getD, g0, g1]
    have := hu _ (List.getElem_mem h2)
    simp [ub]
    omega
theorem uns_key (i : Nat) : uns (keyT i) = du i := uns_mk' _ (fun u hu => by have := du_dig i u hu; omega)
theorem key_size (i : Nat) : (keyT i).size / 2 = (du i).length := by rw [← uns_length, uns_key]
theorem uns0 (s : ByteArray) (h : 0 < s.size / 2) : (uns s).head? = some (un s 0) := by
  have : 0 < (uns s).length := by rw [uns_length]; exact h
  rw [List.head?_eq_getElem?, List.getElem?_eq_getElem this]
  simp [uns]
theorem key_idx (i : Nat) (h : i ≤ 4294967294) : idxB (keyT i) = true ∧ idxN (keyT i) = i := by
  have hl := du_len 9 i (by omega)
  have hne : 0 < (du i).length := List.length_pos_iff.2 (du_ne i)
  have hs := key_size i
  have hN : digN (keyT i) ((keyT i).size / 2) = i := by rw [digN_dv _ _ (Nat.le_refl _), uns_full, uns_key, du_dv]
  have hB : idxB (keyT i) = true := by
    unfold idxB
    simp only [Bool.and_eq_true, decide_eq_true_eq, Bool.not_eq_true', Bool.and_eq_false_iff, decide_eq_false_iff_not]
    refine ⟨⟨⟨by omega, ?_⟩, ?_⟩, by rw [hN]; exact h⟩
    · by_cases h1 : 1 < (keyT i).size / 2
      · left
        intro h48
        have h2 := du_head i (du_one i (by omega))
        rw [← uns_key, uns0 _ (by omega), h48] at h2
        exact h2 rfl
      · exact .inr h1
    · rw [digOk_all _ _ (Nat.le_refl _), uns_full, uns_key]; exact du_dig i
  exact ⟨hB, by unfold idxN; rw [if_pos hB, hN]⟩
theorem key_even (i : Nat) : evenS (keyT i) = keyT i := by
  apply ByteArray.ext
  apply Array.ext'
  rw [evenS_bytes, ← mkB_uns, uns_key]
  rfl
theorem idx_key (s : ByteArray) (h : idxB s = true) : keyT (idxN s) = evenS s := by
  have hB := h
  unfold idxB at h
  simp only [Bool.and_eq_true, decide_eq_true_eq, Bool.not_eq_true', Bool.and_eq_false_iff, decide_eq_false_iff_not] at h
  obtain ⟨⟨⟨⟨h0, h10⟩, hz⟩, hd⟩, hm⟩ := h
  rw [digOk_all _ _ (Nat.le_refl _), uns_full] at hd
  have hN : idxN s = dv (uns s) := by unfold idxN; rw [if_pos hB, digN_dv _ _ (Nat.le_refl _), uns_full]
  have e : du (idxN s) = uns s := by
    rw [hN]
    refine du_of_dv _ hd (List.ne_nil_of_length_pos (by rw [uns_length]; omega)) ?_
    intro h48
    rw [uns0 s (by omega)] at h48
    rw [uns_length]
    rcases hz with hz | hz
    · exact absurd (by simpa using h48) hz
    · omega
  apply ByteArray.ext
  apply Array.ext'
  rw [evenS_bytes, ← mkB_uns, ← e]
  rfl

/-- What counts of a key. -/
def cls (p : ByteArray × Int) : ByteArray × Int := if 0 < p.2 then (⟨#[]⟩, p.2) else (evenS p.1, 0)
theorem cmp_zero' (a b : ByteArray) : cmpK a b 0 = 0 ↔ evenS a = evenS b := by
  unfold cmpK
  simp only [Nat.mul_zero, List.drop_zero]
  constructor
  · intro h
    have := (cb_zero _ _).1 h
    apply ByteArray.ext
    apply Array.toList_inj.1
    rw [evenS_bytes, evenS_bytes, this]
  · intro h
    have h2 : ebs a = ebs b := by rw [← evenS_bytes, ← evenS_bytes, h]
    rw [h2]
    exact (cb_zero _ _).2 rfl
theorem same_cls (a b : ByteArray × Int) : sameK a b = true ↔ cls a = cls b := by
  unfold sameK cls
  by_cases ha : 0 < a.2
  · rw [if_pos (.inl ha), if_pos ha]
    by_cases hb : 0 < b.2
    · rw [if_pos hb]; simp
    · rw [if_neg hb]
      constructor
      · intro h; simp at h; omega
      · intro h; simp at h; omega
  · by_cases hb : 0 < b.2
    · rw [if_pos (.inr hb), if_neg ha, if_pos hb]
      constructor
      · intro h; simp at h; omega
      · intro h; simp at h; omega
    · rw [if_neg (by rintro (h | h) <;> contradiction), if_neg ha, if_neg hb]
      simp only [beq_iff_eq, cmp_zero', Prod.mk.injEq, and_true]

theorem parts_ofs (zs : List Int) (h : ∀ z ∈ zs, 0 ≤ z ∧ z ≤ 4294967294) : ixs (ofs zs) = zs ∧ txs (ofs zs) = [] ∧ sys (ofs zs) = [] := by
  induction zs with
  | nil => exact ⟨rfl, rfl, rfl⟩
  | cons z r ih =>
    obtain ⟨h1, h2, h3⟩ := ih (fun x hx => h x (by simp [hx]))
    obtain ⟨hz0, hz1⟩ := h z (by simp)
    obtain ⟨k1, k2⟩ := key_idx z.toNat (by omega)
    have e : evenS (keyT z.toNat) = keyT z.toNat := key_even _
    have en : ((z.toNat : Nat) : Int) = z := by omega
    simp only [ofs, List.map_cons, ixs, txs, sys, List.filterMap_cons] at h1 h2 h3 ⊢
    simp [e, k1, k2, en, h1, h2, h3]
theorem parts_txs (l : KL) : ixs (txs l) = [] ∧ txs (txs l) = txs l ∧ sys (txs l) = [] := by
  induction l with
  | nil => exact ⟨rfl, rfl, rfl⟩
  | cons p r ih =>
    obtain ⟨h1, h2, h3⟩ := ih
    by_cases hp : 0 < p.2
    · have e : txs (p :: r) = txs r := by simp [txs, hp]
      rw [e]; exact ⟨h1, h2, h3⟩
    · cases hi : idxB (evenS p.1)
      · have e : txs (p :: r) = (evenS p.1, 0) :: txs r := by simp [txs, hp, hi]
        rw [e]
        have hi2 : idxB (evenS (evenS p.1)) = false := by rw [even_even]; exact hi
        refine ⟨?_, ?_, ?_⟩
        · rw [show ixs ((evenS p.1, 0) :: txs r) = ixs (txs r) from by simp [ixs, hi2]]; exact h1
        · rw [show txs ((evenS p.1, 0) :: txs r) = (evenS (evenS p.1), 0) :: txs (txs r) from by simp [txs, hi2], h2, even_even]
        · rw [show sys ((evenS p.1, 0) :: txs r) = sys (txs r) from by simp [sys]]; exact h3
      · have e : txs (p :: r) = txs r := by simp [txs, hp, hi]
        rw [e]; exact ⟨h1, h2, h3⟩
theorem parts_sys (l : KL) : ixs (sys l) = [] ∧ txs (sys l) = [] ∧ sys (sys l) = sys l := by
  induction l with
  | nil => exact ⟨rfl, rfl, rfl⟩
  | cons p r ih =>
    obtain ⟨h1, h2, h3⟩ := ih
    by_cases hp : 0 < p.2
    · have e : sys (p :: r) = (⟨#[]⟩, p.2) :: sys r := by simp [sys, hp]
      rw [e]
      exact ⟨by rw [show ixs ((⟨#[]⟩, p.2) :: sys r) = ixs (sys r) from by simp [ixs, hp]]; exact h1,
        by rw [show txs ((⟨#[]⟩, p.2) :: sys r) = txs (sys r) from by simp [txs, hp]]; exact h2,
        by rw [show sys ((⟨#[]⟩, p.2) :: sys r) = (⟨#[]⟩, p.2) :: sys (sys r) from by simp [sys, hp], h3]⟩
    · have e : sys (p :: r) = sys r := by simp [sys, hp]
      rw [e]; exact ⟨h1, h2, h3⟩
theorem parts_app (a b : KL) : ixs (a ++ b) = ixs a ++ ixs b ∧ txs (a ++ b) = txs a ++ txs b ∧ sys (a ++ b) = sys a ++ sys b := by simp [ixs, txs, sys]
theorem srt_range (l : KL) : ∀ z ∈ srt (ixs l), 0 ≤ z ∧ z ≤ 4294967294 := fun z hz => ixs_range l z ((List.mergeSort_perm _ _).mem_iff.1 hz)
/-- Once is enough. -/
theorem ord_ord (l : KL) : ordK (ordK l) = ordK l := by
  obtain ⟨a1, a2, a3⟩ := parts_ofs (srt (ixs l)) (srt_range l)
  obtain ⟨b1, b2, b3⟩ := parts_txs l
  obtain ⟨c1, c2, c3⟩ := parts_sys l
  have hi : ixs (ordK l) = srt (ixs l) := by unfold ordK; rw [(parts_app _ _).1, (parts_app _ _).1, a1, b1, c1]; simp
  have ht : txs (ordK l) = txs l := by unfold ordK; rw [(parts_app _ _).2.1, (parts_app _ _).2.1, a2, b2, c2]; simp
  have hs : sys (ordK l) = sys l := by unfold ordK; rw [(parts_app _ _).2.2, (parts_app _ _).2.2, a3, b3, c3]; simp
  have hm : (srt (ixs l)).mergeSort (fun x y => decide (x ≤ y)) = srt (ixs l) := by
    refine List.mergeSort_of_pairwise ?_
    have := List.pairwise_mergeSort (le := fun x y : Int => decide (x ≤ y)) (fun a b c h1 h2 => by simp at h1 h2 ⊢; omega) (fun a b => by simp; omega) (ixs l)
    exact this
  show ofs ((ixs (ordK l)).mergeSort fun x y => decide (x ≤ y)) ++ txs (ordK l) ++ sys (ordK l) = _
  rw [hi, ht, hs, hm]
  rfl
theorem ord_length (l : KL) : (ordK l).length = l.length := by
  have := parts_length l
  unfold ordK ofs
  simp only [List.length_append, List.length_map, List.length_mergeSort]
  exact this
/-- All are kept. -/
theorem cls_parts (l : KL) : (l.map cls).Perm (ofs (ixs l) ++ txs l ++ sys l) := by
  induction l with
  | nil => exact List.Perm.refl _
  | cons p r ih =>
    by_cases hp : 0 < p.2
    · rw [show (p :: r).map cls = (⟨#[]⟩, p.2) :: r.map cls from by simp [cls, hp], show ixs (p :: r) = ixs r from by simp [ixs, hp], show txs (p :: r) = txs r from by simp [txs, hp], show sys (p :: r) = (⟨#[]⟩, p.2) :: sys r from by simp [sys, hp]]
      exact (List.Perm.cons _ ih).trans List.perm_middle.symm
    · cases hi : idxB (evenS p.1)
      · rw [show (p :: r).map cls = (evenS p.1, 0) :: r.map cls from by simp [cls, hp], show ixs (p :: r) = ixs r from by simp [ixs, hp, hi], show txs (p :: r) = (evenS p.1, 0) :: txs r from by simp [txs, hp, hi], show sys (p :: r) = sys r from by simp [sys, hp]]
        rw [List.append_assoc] at ih ⊢
        exact (List.Perm.cons _ ih).trans List.perm_middle.symm
      · rw [show (p :: r).map cls = (evenS p.1, 0) :: r.map cls from by simp [cls, hp], show ixs (p :: r) = (idxN (evenS p.1) : Int) :: ixs r from by simp [ixs, hp, hi], show txs (p :: r) = txs r from by simp [txs, hp, hi], show sys (p :: r) = sys r from by simp [sys, hp]]
        have e : (evenS p.1, (0 : Int)) = (keyT ((idxN (evenS p.1) : Int).toNat), 0) := by rw [Int.toNat_natCast, idx_key _ hi, even_even]
        rw [e]
        exact List.Perm.cons _ ih
theorem cls_ord_id (l : KL) : ∀ p ∈ ordK l, cls p = p := by
  intro p hp
  unfold ordK at hp
  rw [List.mem_append, List.mem_append] at hp
  rcases hp with (hp | hp) | hp
  · simp only [ofs, List.mem_map] at hp
    obtain ⟨z, _, rfl⟩ := hp
    simp [cls, key_even]
  · simp only [txs, List.mem_filterMap] at hp
    obtain ⟨q, _, hq⟩ := hp
    split at hq
    · cases hq
    · split at hq
      · cases hq
      · simp only [Option.some.injEq] at hq
        subst hq
        simp [cls, even_even]
  · simp only [sys, List.mem_filterMap] at hp
    obtain ⟨q, _, hq⟩ := hp
    split at hq
    · rename_i h0
      simp only [Option.some.injEq] at hq
      subst hq
      simp [cls, h0]
    · cases hq
theorem cls_ord (l : KL) : ((ordK l).map cls).Perm (l.map cls) := by
  have e : (ordK l).map cls = ordK l := by
    rw [List.map_congr_left (g := id) (fun p hp => cls_ord_id l p hp)]; simp
  rw [e]
  refine List.Perm.trans ?_ (cls_parts l).symm
  unfold ordK
  exact ((((List.mergeSort_perm _ _).map _).append_right _).append_right _)
theorem ord_small (l : KL) (hz : ∀ p ∈ l, (p.1.size : Int) ≤ 140737488351232) : ∀ p ∈ ordK l, (p.1.size : Int) ≤ 140737488351232 := by
  intro p hp
  unfold ordK at hp
  rw [List.mem_append, List.mem_append] at hp
  rcases hp with (hp | hp) | hp
  · simp only [ofs, List.mem_map] at hp
    obtain ⟨z, hz1, rfl⟩ := hp
    have h1 := srt_range l z hz1
    have h2 := du_len 9 z.toNat (by omega)
    have h3 : (keyT z.toNat).size = 2 * (du z.toNat).length := by
      show (mkB (du z.toNat)).toArray.size = _
      rw [List.size_toArray, mkB_length]
    show (((keyT z.toNat).size : Nat) : Int) ≤ _
    omega
  · simp only [txs, List.mem_filterMap] at hp
    obtain ⟨q, hq1, hq⟩ := hp
    split at hq
    · cases hq
    · split at hq
      · cases hq
      · simp only [Option.some.injEq] at hq
        subst hq
        have := hz q hq1
        have e := even_size' q.1
        show (((evenS q.1).size : Nat) : Int) ≤ _
        omega
  · simp only [sys, List.mem_filterMap] at hp
    obtain ⟨q, _, hq⟩ := hp
    split at hq
    · simp only [Option.some.injEq] at hq
      subst hq
      show (((⟨#[]⟩ : ByteArray).size : Nat) : Int) ≤ _
      have : (⟨#[]⟩ : ByteArray).size = 0 := rfl
      omega
    · cases hq
end Go.Proofs.YtcjpoabknlpopaaDoor
