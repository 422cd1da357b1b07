/- Texts that are alike as far as their ASCII letters go; parseInt of a text: plain. lintelref03.ascii: a text as bytes. -/
import Derived.Test.YtighenikjedojaaGreatDoorText
import Derived.Test.YtighenikjedojaaGreatDoorTrimP
import Derived.Test.YtighenikjedojaaGreatDoorDecP
import Derived.Test.YtighenikjedojaaGreatDoorWnr
import Derived.Test.YtighenikjedojaaGreatDoorFb3
import Derived.Test.YtighenikjedojaaGreatDoorTrim
import Derived.Handy
namespace Go.Proofs.YtighenikjedojaaGreatDoor
set_option linter.unusedVariables false
open Go.RowKit Fl

theorem uns_mk' (us : List Nat) (hu : ∀ u ∈ us, u < 65536) : uns ⟨(mkB us).toArray⟩ = us := by
  have hsz : (⟨(mkB us).toArray⟩ : ByteArray).size = 2 * us.length := by
    show (mkB us).toArray.size = _
    rw [List.size_toArray, mkB_length]
  apply List.ext_getElem
  · rw [uns_length, hsz]; omega
  · intro i h1 h2
    rw [uns_at]
    have e1 := mkB_drop us i
    rw [List.drop_eq_getElem_cons h2] at e1
    have e2 : mkB (us[i] :: us.drop (i + 1)) = ub us[i] ++ mkB (us.drop (i + 1)) := rfl
    rw [e2] at e1
    have hi := hu _ (List.getElem_mem h2)
    have b0 : by' ⟨(mkB us).toArray⟩ (2 * i) = us[i] / 256 := by
      have := congrArg (·[0]?) e1
      simp only [List.getElem?_drop, Nat.add_zero] at this
      unfold by'
      show ((mkB us).getD (2 * i) 0).toNat = _
      rw [List.getD_eq_getElem?_getD, ← this]
      unfold ub
      simp
      omega
    have b1 : by' ⟨(mkB us).toArray⟩ (2 * i + 1) = us[i] % 256 := by
      have := congrArg (·[1]?) e1
      simp only [List.getElem?_drop] at this
      unfold by'
      show ((mkB us).getD (2 * i + 1) 0).toNat = _
      rw [List.getD_eq_getElem?_getD, ← this]
      unfold ub
      simp
    unfold un
    rw [b0, b1]
    omega
theorem cut_front (s : ByteArray) (f : Nat) (hf : f ≤ s.size / 2) : cutS s (f : Nat) ((s.size / 2 : Nat) : Int) = ⟨(mkB ((uns s).drop f)).toArray⟩ := by
  have e : mkB ((uns s).drop f) = (ebs s).drop (2 * f) := by rw [mkB_drop, mkB_uns]
  rw [e]
  by_cases h : f < s.size / 2
  · rw [cutS_yes f (s.size / 2) (by omega) (by omega) h]
    apply ByteArray.ext
    rw [ByteArray.data_extract]
    apply Array.ext'
    unfold ebs
    simp only [Array.toList_extract, List.extract_eq_take_drop, List.drop_take]
    rw [Nat.mul_comm (s.size / 2) 2]
  · rw [cutS_no (by omega)]
    rw [List.drop_of_length_le (by rw [ebs_length]; omega)]
/-- Alike in their first k bytes, which are ASCII; what follows in either is none. -/
structure AA (k : Nat) (s t : ByteArray) : Prop where
  s1 : k ≤ s.size
  t1 : k ≤ t.size
  eq : ∀ i, i < k → by' s i = by' t i
  s2 : k < s.size → 128 ≤ by' s k
  t2 : k < t.size → 128 ≤ by' t k
theorem AA.symm {k : Nat} {s t : ByteArray} (h : AA k s t) : AA k t s := ⟨h.t1, h.s1, fun i hi => (h.eq i hi).symm, h.t2, h.s2⟩
theorem digit_big (c : Nat) (h : 128 ≤ c) : digitN c = 99 := by unfold digitN; rw [if_neg (by omega), if_neg (by omega), if_neg (by omega)]
theorem AA.sgn_one {k : Nat} {s t : ByteArray} (h : AA k s t) (hs : sgnN s = true) : 1 ≤ k ∧ sgnN t = true := by
  unfold sgnN at hs ⊢
  rw [decide_eq_true_iff] at hs
  rcases Nat.eq_zero_or_pos k with q | q
  · subst q
    have := h.s2 (by omega)
    omega
  · have := h.eq 0 q
    have := h.t1
    exact ⟨q, decide_eq_true (by omega)⟩
theorem AA.sgn {k : Nat} {s t : ByteArray} (h : AA k s t) : sgnN s = sgnN t ∧ minusN s = minusN t ∧ (sgnN s = true → 1 ≤ k) := by
  have e : sgnN s = sgnN t := by
    cases a : sgnN s <;> cases b : sgnN t
    · rfl
    · have := (h.symm.sgn_one b).2; rw [a] at this; cases this
    · have := (h.sgn_one a).2; rw [b] at this; cases this
    · rfl
  refine ⟨e, ?_, fun q => (h.sgn_one q).1⟩
  unfold minusN
  rw [← e]
  cases a : sgnN s
  · rfl
  · rw [h.eq 0 (h.sgn_one a).1]
theorem by_ext (s : ByteArray) (a b i : Nat) (h : a + i < b) (hb : b ≤ s.size) : by' (s.extract a b) i = by' s (a + i) := by
  unfold by'
  rw [ByteArray.data_extract, Array.toList_extract, List.extract_eq_take_drop, List.getD_eq_getElem?_getD, List.getD_eq_getElem?_getD, List.getElem?_take, if_pos (by omega), List.getElem?_drop]
theorem AA.tail {k n : Nat} {s t : ByteArray} (h : AA k s t) (hn : n ≤ k) : AA (k - n) (s.extract n s.size) (t.extract n t.size) := by
  have a := h.s1
  have b := h.t1
  have e1 : (s.extract n s.size).size = s.size - n := by simp [ByteArray.size_extract]
  have e2 : (t.extract n t.size).size = t.size - n := by simp [ByteArray.size_extract]
  refine ⟨by omega, by omega, fun i hi => ?_, fun q => ?_, fun q => ?_⟩
  · rw [by_ext s n s.size i (by omega) (Nat.le_refl _), by_ext t n t.size i (by omega) (Nat.le_refl _)]
    exact h.eq _ (by omega)
  · rw [by_ext s n s.size _ (by omega) (Nat.le_refl _), show n + (k - n) = k by omega]; exact h.s2 (by omega)
  · rw [by_ext t n t.size _ (by omega) (Nat.le_refl _), show n + (k - n) = k by omega]; exact h.t2 (by omega)
theorem AA.uns {k : Nat} {s t : ByteArray} (h : AA k s t) : ∃ k', AA k' (unsT s) (unsT t) := by
  obtain ⟨e, _, q⟩ := h.sgn
  unfold unsT
  rw [← e]
  cases a : sgnN s
  · rw [if_neg (by simp), if_neg (by simp)]; exact ⟨k, h⟩
  · rw [if_pos rfl, if_pos rfl]; exact ⟨k - 1, h.tail (q a)⟩
theorem AA.pref_one {k : Nat} {s t : ByteArray} (h : AA k s t) (hs : prefN s ≠ 0) : 2 ≤ k ∧ prefN t = prefN s := by
  have a := h.s1
  have b := h.t1
  have h1 : ¬ (s.size < 2 ∨ by' s 0 ≠ 48) := fun q => hs (by unfold prefN; rw [if_pos q])
  have hk : 2 ≤ k := by
    rcases Nat.lt_or_ge k 2 with q | q
    · exfalso
      have c0 : k = 0 ∨ k = 1 := by omega
      rcases c0 with rfl | rfl
      · have := h.s2 (by omega); omega
      · have c1 := h.s2 (by omega)
        apply hs
        unfold prefN
        rw [if_neg h1, if_neg (by omega), if_neg (by omega), if_neg (by omega)]
    · exact q
  refine ⟨hk, ?_⟩
  unfold prefN
  rw [← h.eq 0 (by omega), ← h.eq 1 (by omega), if_neg h1, if_neg (by omega)]
theorem AA.pref {k : Nat} {s t : ByteArray} (h : AA k s t) : prefN s = prefN t := by
  by_cases a : prefN s = 0
  · by_cases b : prefN t = 0
    · rw [a, b]
    · exact (h.symm.pref_one b).2
  · exact (h.pref_one a).2.symm
theorem tw_stop' {p : Nat → Bool} : ∀ (l : List Nat) (h : (l.takeWhile p).length < l.length), p l[(l.takeWhile p).length] = false
  | [], h => by simp at h
  | x :: l, h => by
    cases q : p x
    · simp only [List.takeWhile_cons, q]
      simpa using q
    · have e : (x :: l).takeWhile p = x :: l.takeWhile p := by rw [List.takeWhile_cons, if_pos q]
      simp only [e, List.length_cons, List.getElem_cons_succ]
      rw [e, List.length_cons, List.length_cons] at h
      exact tw_stop' l (by omega)
theorem runN_spec (s : ByteArray) (b : Int) : (∀ j, j < runN s 0 b → (digitN (by' s j) : Int) < b) ∧ (runN s 0 b < s.size → ¬ (digitN (by' s (runN s 0 b)) : Int) < b) := by
  have hl : (bys s).length = s.size := bys_length s
  have hle := runN_le s 0 b
  have e : runN s 0 b = ((bys s).takeWhile fun c => decide ((digitN c : Int) < b)).length := by unfold runN; rw [List.drop_zero]
  refine ⟨fun j hj => ?_, fun q => ?_⟩
  · have hj2 : j < ((bys s).takeWhile fun c => decide ((digitN c : Int) < b)).length := by rw [← e]; exact hj
    have hm := List.all_eq_true.1 (List.all_takeWhile (p := fun c => decide ((digitN c : Int) < b)) (l := bys s)) _ (List.getElem_mem hj2)
    have hp := (List.takeWhile_prefix (fun c => decide ((digitN c : Int) < b)) (l := bys s)).getElem hj2
    rw [hp] at hm
    rw [bys_get s j (by omega)] at hm
    exact of_decide_eq_true hm
  · have hq : ((bys s).takeWhile fun c => decide ((digitN c : Int) < b)).length < (bys s).length := by rw [← e, hl]; exact q
    have := tw_stop' (p := fun c => decide ((digitN c : Int) < b)) (bys s) hq
    rw [bys_get s _ (by rw [← hl]; exact hq), ← e] at this
    exact of_decide_eq_false this
theorem AA.run {k : Nat} {s t : ByteArray} (h : AA k s t) (b : Int) (hb : b ≤ 36) : runN s 0 b = runN t 0 b ∧ runN s 0 b ≤ k := by
  have a := h.s1
  have c := h.t1
  obtain ⟨p1, p2⟩ := runN_spec t b
  have hle := runN_le t 0 b
  have hk : runN t 0 b ≤ k := by
    rcases Nat.lt_or_ge k (runN t 0 b) with q | q
    · have := p1 k q
      have := digit_big _ (h.t2 (by omega))
      omega
    · exact q
  have e : runN s 0 b = runN t 0 b := by
    refine runN_of s 0 (runN t 0 b) b (by omega) (fun j hj => ?_) (fun q => ?_)
    · rw [Nat.zero_add, h.eq j (by omega)]; exact p1 j hj
    · rw [Nat.zero_add] at q ⊢
      rcases Nat.lt_or_ge (runN t 0 b) k with z | z
      · rw [h.eq _ z]; exact p2 (by omega)
      · have z2 : runN t 0 b = k := by omega
        rw [z2] at q ⊢
        have := digit_big _ (h.s2 q)
        omega
  exact ⟨e, by omega⟩
theorem numN_congr (s t : ByteArray) (b n : Nat) (h : ∀ i, i < n → by' s i = by' t i) : numN s b n = numN t b n := by
  induction n with
  | zero => rfl
  | succ n ih =>
    show numN s b n * b + digitN (by' s n) = numN t b n * b + digitN (by' t n)
    rw [ih fun i hi => h i (by omega), h n (by omega)]
/-- What parseInt makes of a text without blanks ahead: the base that counts, the digits, their number. -/
def wR (r : Int) (u : ByteArray) : Int := if (r = 0 ∨ r = 16) ∧ prefN u = 16 then 16 else if r = 0 then 10 else r
def wT (r : Int) (u : ByteArray) : ByteArray := if (r = 0 ∨ r = 16) ∧ prefN u = 16 then u.extract 2 u.size else u
def wN (r : Int) (u : ByteArray) : Nat := runN (wT r u) 0 (wR r u)
def wNo (r : Int) (u : ByteArray) : Bool := decide (wR r u < 2 ∨ 36 < wR r u ∨ wN r u = 0)
def wV (r : Int) (u : ByteArray) : Nat := NF (numN ((wT r u).extract 0 (wN r u)) (wR r u).toNat (wN r u))
theorem AA.whole {k : Nat} {s t : ByteArray} (h : AA k s t) (r : Int) : wNo r s = wNo r t ∧ (wNo r s = false → wV r s = wV r t) := by
  have hp := h.pref
  have hR : wR r s = wR r t := by unfold wR; rw [hp]
  have hT : ∃ k', AA k' (wT r s) (wT r t) := by
    unfold wT
    rw [← hp]
    by_cases q : (r = 0 ∨ r = 16) ∧ prefN s = 16
    · rw [if_pos q, if_pos q]
      exact ⟨k - 2, h.tail (h.pref_one (by omega)).1⟩
    · rw [if_neg q, if_neg q]; exact ⟨k, h⟩
  obtain ⟨k', hA⟩ := hT
  by_cases hb : wR r s ≤ 36
  · obtain ⟨e1, e2⟩ := hA.run (wR r s) hb
    have hN : wN r s = wN r t := by unfold wN; rw [← hR]; exact e1
    refine ⟨by unfold wNo; rw [← hR, ← hN], fun _ => ?_⟩
    unfold wV
    rw [← hR, ← hN]
    congr 1
    have a := hA.s1
    have c := hA.t1
    have e3 : wN r s ≤ k' := e2
    exact numN_congr _ _ _ _ fun i hi => by
      rw [by_ext _ 0 _ i (by omega) (by omega), by_ext _ 0 _ i (by omega) (by omega), Nat.zero_add]
      exact hA.eq i (by omega)
  · have q1 : wNo r s = true := by unfold wNo; exact decide_eq_true (by omega)
    have q2 : wNo r t = true := by unfold wNo; rw [← hR]; exact decide_eq_true (by omega)
    exact ⟨by rw [q1, q2], fun q => by rw [q1] at q; cases q⟩
theorem by_Sb (l : List UInt8) (i : Nat) (h : i < l.length) : by' (Sb l) i = (l[i]).toNat := by
  unfold by'
  rw [Sb_list, List.getD_eq_getElem?_getD, List.getElem?_eq_getElem h]
  rfl
theorem aa_lists (P R Q : List UInt8) (hR : ∀ h : 0 < R.length, 128 ≤ (R[0]).toNat) (hQ : ∀ h : 0 < Q.length, 128 ≤ (Q[0]).toNat) : AA P.length (Sb (P ++ R)) (Sb (P ++ Q)) := by
  refine ⟨by rw [Sb_size, List.length_append]; omega, by rw [Sb_size, List.length_append]; omega, fun i hi => ?_, fun q => ?_, fun q => ?_⟩
  · rw [by_Sb _ _ (by rw [List.length_append]; omega), by_Sb _ _ (by rw [List.length_append]; omega), List.getElem_append_left hi, List.getElem_append_left hi]
  · rw [Sb_size, List.length_append] at q
    rw [by_Sb _ _ (by rw [List.length_append]; omega), List.getElem_append_right (Nat.le_refl _)]
    simp only [Nat.sub_self]
    exact hR (by omega)
  · rw [Sb_size, List.length_append] at q
    rw [by_Sb _ _ (by rw [List.length_append]; omega), List.getElem_append_right (Nat.le_refl _)]
    simp only [Nat.sub_self]
    exact hQ (by omega)
/-- A unit as a byte: ASCII, or 255. -/
def ascN (u : Nat) : Nat := if 127 < u then 255 else u
theorem enc_low (r : Nat) (h : r < 128) : Lib.encodeRune (r : Nat) = [UInt8.ofNat r] := by
  unfold Lib.encodeRune
  rw [Lib.encodeRuneZ_one (by omega) (by omega)]
  simp
theorem enc_high (r : Nat) (h : 128 ≤ r) (h2 : r ≤ 1114111) : ∃ x l, Lib.encodeRune (r : Nat) = x :: l ∧ 128 ≤ x.toNat := by
  unfold Lib.encodeRune
  have key : ∀ z : Int, 128 ≤ z → z < 256 → 128 ≤ (z.toNat.toUInt8).toNat := fun z h1 h2 => by
    have : z.toNat < 256 := by omega
    simp
    omega
  by_cases c1 : r ≤ 2047
  · rw [Lib.encodeRuneZ_two (by omega) (by omega)]
    exact ⟨_, _, rfl, key _ (by omega) (by omega)⟩
  · by_cases c2 : (2048 ≤ (r : Int) ∧ (r : Int) < 55296) ∨ (57343 < (r : Int) ∧ (r : Int) ≤ 65535)
    · rw [Lib.encodeRuneZ_three c2]
      exact ⟨_, _, rfl, key _ (by omega) (by omega)⟩
    · by_cases c3 : 65536 ≤ (r : Int)
      · rw [Lib.encodeRuneZ_four c3 (by omega)]
        exact ⟨_, _, rfl, key _ (by omega) (by omega)⟩
      · rw [Lib.encodeRuneZ_bad (by omega)]
        exact ⟨_, _, rfl, by decide⟩
theorem text_pre (x : ByteArray) : ∀ (f i : Nat), x.size / 2 ≤ i + f → i ≤ x.size / 2 → ∃ R : List UInt8, textC (ptsFrom x f i) = nb (((uns x).drop i).takeWhile fun u => decide (u < 128)) ++ R ∧ ∀ h : 0 < R.length, 128 ≤ (R[0]).toNat
  | 0, i, h1, h2 => by
    have e : (uns x).drop i = [] := List.drop_of_length_le (by rw [uns_length]; omega)
    rw [e]
    exact ⟨[], rfl, fun h => by simp at h⟩
  | f + 1, i, h1, h2 => by
    by_cases hi : i < x.size / 2
    · have hd : (uns x).drop i = un x i :: (uns x).drop (i + 1) := by
        rw [List.drop_eq_getElem_cons (by rw [uns_length]; exact hi), uns_at]
      have e0 : ptsFrom x (f + 1) i = (i, ptAt x i) :: ptsFrom x f (i + szAt x i) := by
        show (if i < x.size / 2 then _ else _) = _
        rw [if_pos hi]
      rw [e0, hd]
      show ∃ R, Lib.encodeRune (cap21 (ptAt x i) : Nat) ++ textC (ptsFrom x f (i + szAt x i)) = _ ∧ _
      rw [cap21_pt]
      by_cases hu : un x i < 128
      · have hp : pairAt x i = false := by
          unfold pairAt isHi
          rw [show decide (55296 ≤ un x i ∧ un x i < 56320) = false from decide_eq_false (by omega)]
          rfl
        have e1 : ptAt x i = un x i := by unfold ptAt; rw [hp]; rfl
        have e2 : szAt x i = 1 := by unfold szAt; rw [hp]; rfl
        obtain ⟨R, hR, hR2⟩ := text_pre x f (i + 1) (by omega) (by omega)
        refine ⟨R, ?_, hR2⟩
        rw [e1, e2, enc_low _ hu, hR, List.takeWhile_cons, if_pos (decide_eq_true hu)]
        rfl
      · have e1 : 128 ≤ ptAt x i := by
          unfold ptAt
          split
          · omega
          · omega
        obtain ⟨y, l, he, hy⟩ := enc_high (ptAt x i) e1 (ptAt_le x i)
        rw [he, List.takeWhile_cons, if_neg (by simpa using hu)]
        exact ⟨_, rfl, fun _ => hy⟩
    · have e : (uns x).drop i = [] := List.drop_of_length_le (by rw [uns_length]; omega)
      rw [e, ptsFrom_end x (f + 1) i hi]
      exact ⟨[], rfl, fun h => by simp at h⟩
theorem asc_pre : ∀ (U : List Nat), ∃ Q : List UInt8, nb (U.map ascN) = nb (U.takeWhile fun u => decide (u < 128)) ++ Q ∧ ∀ h : 0 < Q.length, 128 ≤ (Q[0]).toNat
  | [] => ⟨[], rfl, fun h => by simp at h⟩
  | u :: U => by
    by_cases hu : u < 128
    · obtain ⟨Q, hQ, hQ2⟩ := asc_pre U
      refine ⟨Q, ?_, hQ2⟩
      rw [List.takeWhile_cons, if_pos (decide_eq_true hu)]
      show UInt8.ofNat (ascN u) :: nb (U.map ascN) = UInt8.ofNat u :: (nb _ ++ Q)
      rw [hQ, show ascN u = u from if_neg (by omega)]
    · rw [List.takeWhile_cons, if_neg (by simpa using hu)]
      refine ⟨_, rfl, fun _ => ?_⟩
      show 128 ≤ (UInt8.ofNat (ascN u)).toNat
      rw [show ascN u = 255 from if_pos (by omega)]
      decide
/-- The program's letters and the document's bytes of a text. -/
theorem aa_text (x : ByteArray) : ∃ k, AA k ⟨(textC (pts x)).toArray⟩ (Sb (nb ((uns x).map ascN))) := by
  obtain ⟨R, hR, hR2⟩ := text_pre x (x.size / 2) 0 (by omega) (by omega)
  obtain ⟨Q, hQ, hQ2⟩ := asc_pre (uns x)
  rw [List.drop_zero] at hR
  refine ⟨(nb ((uns x).takeWhile fun u => decide (u < 128))).length, ?_⟩
  rw [hQ]
  show AA _ (Sb (textC (ptsFrom x (x.size / 2) 0))) _
  rw [hR]
  exact aa_lists _ R Q hR2 hQ2
end Go.Proofs.YtighenikjedojaaGreatDoor

namespace Go.Proofs.YtighenikjedojaaGreatDoor
set_option linter.unusedVariables false
open Go.RowKit Fl

/-- The first bytes of a text as bytes. -/
def ascB (us : List Nat) (k : Nat) : List UInt8 := nb ((us.take k).map ascN)
theorem ascB_len (us : List Nat) (k : Nat) (h : k ≤ us.length) : (ascB us k).length = k := by unfold ascB; rw [nb_length, List.length_map, List.length_take]; omega
theorem ascB_all (us : List Nat) : ascB us us.length = nb (us.map ascN) := by unfold ascB; rw [List.take_length]
theorem ascB_succ (us : List Nat) (k u : Nat) (h : k < us.length) (hu : us[k] = u) (h6 : u < 65536) : Lib.byteCells (ascB us (k + 1)) = Lib.byteCells (ascB us k) ++ [.int .u8 ((ascN u : Nat) : Int)] := by
  have h255 : ascN u < 256 := by unfold ascN; split <;> omega
  have e : ascB us (k + 1) = ascB us k ++ [UInt8.ofNat (ascN u)] := by
    unfold ascB nb
    rw [List.take_succ_eq_append_getElem h, hu, List.map_append, List.map_append]
    rfl
  rw [e, byteCells_append']
  congr 1
  simp [Lib.byteCells]
  omega
set_option maxHeartbeats 4000000 in
set_option maxRecDepth 100000 in
theorem asc3_any (s : ByteArray) (w : World) (hs : (s.size : Int) ≤ 1048576) :
    Calls Tryz.prog 34 #[.string s] w fun e w' => e = .returned (.string (Sb (nb ((uns s).map ascN)))) ∧ Below w.heap.size w w' := by
  obtain ⟨i0, hi, hz0, hz1, hz2⟩ := info_parts info8
  obtain ⟨us, hus⟩ : ∃ us, uns s = us := ⟨_, rfl⟩
  have hul : us.length = s.size / 2 := by rw [← hus]; exact uns_length s
  have hult := uns_lt s
  rw [hus] at hult
  have HUL := Hid.mk' hult
  rw [hus]
  go_enter Tryz.func34, Tryz.ntmps34
  go_wp2_with fail
  refine (runits_any s _ hs).mono ?_
  rintro e w1 ⟨v1, rfl, o1, b1⟩
  have HR0 := Hid.mk' (Rd.own o1)
  obtain ⟨x1, c1, rfl, _⟩ := own_slice' o1
  rw [hus] at HR0
  rw [← hul]
  have hlen5 : us.length ≤ 1048576 := by omega
  have HUL2 := Hid.mk' hul
  clear hul
  have HB1 := Hid.mk' b1
  clear o1 b1 hult hus
  go_wp2
  go_loopw [3, 9] (fun v i wr => ∃ k : Nat, i = .int .i64 k ∧ k ≤ us.length ∧ Hid (wr.ownsRow w1.heap.size 5 1 v k (Lib.byteCells (ascB us k))) ∧ Hid (Below w1.heap.size w1 wr)) (fun _ i _ => us.length - (intOf i).toNat)
  case atStart => exact ⟨0, rfl, by omega, Hid.mk' (World.ownsRow_nil _ _ _ _), Hid.mk' (Below.refl _ _)⟩
  case round =>
    obtain ⟨k, rfl, hk, HO, HB⟩ := hrel
    by_cases hlt : k < us.length
    · rcases HR0.out with ⟨c', e, h0⟩ | ⟨g, o, c', e, hg, hc⟩
      · exact absurd hlt (by simp [h0])
      · obtain ⟨rfl, rfl⟩ : x1 = some ⟨g, o, none⟩ ∧ c1 = c' := by
          rw [← HUL2.out] at e
          simpa using e
        have hcl : wr.cell? ⟨g, o + k, none⟩ = some (.int .u16 us[k]) := (HB.out.cell (p := ⟨g, o + k, none⟩) hg).trans (hc k hlt)
        obtain ⟨u, hu⟩ : ∃ u : Nat, us[k] = u := ⟨_, rfl⟩
        have hu6 : u < 65536 := by rw [← hu]; exact HUL.out _ (List.getElem_mem hlt)
        have HN := Hid.mk' (ascB_succ us k u hlt hu hu6)
        rw [hu] at hcl
        have hBW : w1.heap.size ≤ wr.heap.size := HB.out.size
        clear hc e hu
        have hkl : (k : Int) < (us.length : Int) := by omega
        by_cases h127 : 127 < u
        · have ea : ascN u = 255 := if_pos h127
          rw [ea] at HN
          have hu' : 127 < (u : Int) := by omega
          have hw8 : IntKind.u8.wrap 255 = 255 := by decide
          clear ea
          go_wp2_with (at_builtin; refine wpList_append_own _ rfl _ _ 71 rfl w1.heap.size 5 i0 (.int .u8 0) 1 1 Tryz.underlying71 hi hz0 hz1 hz2 rfl (by decide) _ _ _ rfl (HO.out.alloc _) ⟨wr.heap.size, 0, none⟩ 1 1 [.int .u8 255] rfl rfl (cells_new _ _ _) (by intro u hu; simp at hu; subst hu; rfl) (by unfold maxLen; omega) (by omega) (by simp; omega) ?_)
          intro v2 w2 o2 g2 _
          have hb2 : Below w1.heap.size w1 w2 := HB.out.trans (kept_append HO.out (grown_of_alloc g2) hBW).1
          have HO2 : Hid (w2.ownsRow w1.heap.size 5 1 v2 (k + 1) (Lib.byteCells (ascB us (k + 1)))) := by
            show World.ownsRow _ _ _ _ _ _ _
            rw [HN.out]; exact o2
          have HB2 := Hid.mk' hb2
          clear o2 g2 hb2 hcl
          go_wp2
          go_roundw
          case rel => exact ⟨k + 1, by go_num, by omega, HO2, HB2⟩
          case measure => simp [intOf]; omega
        · have ea : ascN u = u := if_neg h127
          rw [ea] at HN
          have hu' : ¬ 127 < (u : Int) := by omega
          have hw8 : IntKind.u8.wrap (u : Int) = (u : Int) := by rw [IntKind.wrap_u8]; omega
          clear ea
          go_wp2_with (at_builtin; refine wpList_append_own _ rfl _ _ 71 rfl w1.heap.size 5 i0 (.int .u8 0) 1 1 Tryz.underlying71 hi hz0 hz1 hz2 rfl (by decide) _ _ _ rfl (HO.out.alloc _) ⟨wr.heap.size, 0, none⟩ 1 1 [.int .u8 (u : Nat)] rfl rfl (cells_new _ _ _) (by intro u hu; simp at hu; subst hu; rfl) (by unfold maxLen; omega) (by omega) (by simp; omega) ?_)
          intro v2 w2 o2 g2 _
          have hb2 : Below w1.heap.size w1 w2 := HB.out.trans (kept_append HO.out (grown_of_alloc g2) hBW).1
          have HO2 : Hid (w2.ownsRow w1.heap.size 5 1 v2 (k + 1) (Lib.byteCells (ascB us (k + 1)))) := by
            show World.ownsRow _ _ _ _ _ _ _
            rw [HN.out]; exact o2
          have HB2 := Hid.mk' hb2
          clear o2 g2 hb2 hcl
          go_wp2
          go_roundw
          case rel => exact ⟨k + 1, by go_num, by omega, HO2, HB2⟩
          case measure => simp [intOf]; omega
    · have hkn : k = us.length := by omega
      have hkl : ¬ (k : Int) < (us.length : Int) := by omega
      have ho := HO.out
      have hlen := ascB_len us k hk
      obtain ⟨AB, hAB⟩ : ∃ AB, ascB us k = AB := ⟨_, rfl⟩
      rw [hAB] at ho hlen
      subst hlen
      have hcv := conv_row ho 9 Tryz.underlying9
      have hABe : AB = nb (us.map ascN) := by rw [← hAB, hkn, ascB_all]
      have HB2 := Hid.mk' (HB1.out.trans (HB.out.mono HB1.out.size))
      obtain ⟨Fn, hFn⟩ : ∃ Fn, Sb (nb (us.map ascN)) = Fn := ⟨_, rfl⟩
      rw [show (⟨AB.toArray⟩ : ByteArray) = Fn by rw [hABe]; exact hFn] at hcv
      have HF := Hid.mk' hFn
      clear ho HO HB HB1 hFn hABe hAB
      go_wp2
      go_ret
      exact ⟨by rw [HF.out]; rfl, HB2.out⟩
end Go.Proofs.YtighenikjedojaaGreatDoor
