/- Plain mathematics: UTF-8 that is made of a text is read as that text. -/
import Derived.Test.YtalnmophdebnfaaThere
namespace Go.Proofs.Ytalnmophdebnfaa
set_option linter.unusedVariables false

theorem pu_runes : ∀ us : List Nat, (∀ u ∈ us, u < 65536) → (runesL us).flatMap pu = us
  | [], _ => rfl
  | [u], h => by
    have := h u (List.mem_cons_self ..)
    simp [runesL, pu, this]
  | u :: v :: r, h => by
    have hu := h u (List.mem_cons_self ..)
    rw [runesL]
    cases hq : (isHi u && isLo v)
    · rw [if_neg (by simp), List.flatMap_cons, pu_runes (v :: r) (fun x hx => h x (List.mem_cons_of_mem _ hx))]
      simp [pu, hu]
    · rw [if_pos rfl, List.flatMap_cons, pu_runes r (fun x hx => h x (List.mem_cons_of_mem _ (List.mem_cons_of_mem _ hx)))]
      simp only [isHi, isLo, Bool.and_eq_true, decide_eq_true_eq] at hq
      have e1 : 55296 + (65536 + (u - 55296) * 1024 + (v - 56320) - 65536) / 1024 = u := by omega
      have e2 : 56320 + (65536 + (u - 55296) * 1024 + (v - 56320) - 65536) % 1024 = v := by omega
      have e3 : ¬ (65536 + (u - 55296) * 1024 + (v - 56320) < 65536) := by omega
      unfold pu
      rw [if_neg e3, e1, e2]
      rfl

theorem by_drop (s : ByteArray) (i : Nat) (l r : List UInt8) (h : s.data.toList.drop i = l ++ r) (k : Nat) (hk : k < l.length) : by' s (i + k) = l[k].toNat := by
  unfold by'
  have e : (s.data.toList.drop i)[k]? = some l[k] := by rw [h, List.getElem?_append_left hk, List.getElem?_eq_getElem hk]
  rw [List.getElem?_drop] at e
  rw [List.getD_eq_getElem?_getD, e]
  rfl
theorem len_drop (s : ByteArray) (i : Nat) (l r : List UInt8) (h : s.data.toList.drop i = l ++ r) (hl : 0 < l.length) : l.length ≤ s.size - i := by
  have e := congrArg List.length h
  rw [List.length_drop, List.length_append] at e
  have : s.data.toList.length = s.size := by simp
  omega

/-- A code point's UTF-8 is read as it. -/
theorem rpt_enc (s : ByteArray) (i r : Nat) (rest : List UInt8) (hr : Scalar r) (h : s.data.toList.drop i = Lib.encodeRune (r : Nat) ++ rest) : rpt s i = (r, (Lib.encodeRune (r : Nat)).length) := by
  obtain ⟨h1, h2⟩ := hr
  have hz : ∀ (zs : List Int), Lib.encodeRuneZ (r : Nat) = zs → Lib.encodeRune (r : Nat) = zs.map fun x => x.toNat.toUInt8 := fun zs e => by unfold Lib.encodeRune; rw [e]
  unfold rpt rptN
  by_cases a1 : r ≤ 127
  · have e := hz _ (Lib.encodeRuneZ_one (r := (r : Int)) (by omega) (by omega))
    have b0 := by_drop s i _ rest h 0 (by rw [e]; simp)
    simp only [e] at b0
    simp at b0
    rw [e, if_pos (by omega)]
    refine Prod.ext ?_ rfl
    dsimp only
    omega
  · by_cases a2 : r ≤ 2047
    · have e := hz _ (Lib.encodeRuneZ_two (r := (r : Int)) (by omega) (by omega))
      have hl := len_drop s i _ rest h (by rw [e]; simp)
      have b0 := by_drop s i _ rest h 0 (by rw [e]; simp)
      have b1 := by_drop s i _ rest h 1 (by rw [e]; simp)
      simp only [e] at b0 b1 hl
      simp at b0 b1 hl
      rw [e, if_neg (by omega), if_pos (by omega), if_pos (by omega)]
      refine Prod.ext ?_ rfl
      dsimp only
      omega
    · by_cases a3 : r ≤ 65535
      · have e := hz _ (Lib.encodeRuneZ_three (r := (r : Int)) (by omega))
        have hl := len_drop s i _ rest h (by rw [e]; simp)
        have b0 := by_drop s i _ rest h 0 (by rw [e]; simp)
        have b1 := by_drop s i _ rest h 1 (by rw [e]; simp)
        have b2 := by_drop s i _ rest h 2 (by rw [e]; simp)
        simp only [e] at b0 b1 b2 hl
        simp at b0 b1 b2 hl
        rw [e, if_neg (by omega), if_neg (by omega), if_pos (by omega), if_pos (by omega)]
        refine Prod.ext ?_ rfl
        dsimp only
        omega
      · have e := hz _ (Lib.encodeRuneZ_four (r := (r : Int)) (by omega) (by omega))
        have hl := len_drop s i _ rest h (by rw [e]; simp)
        have b0 := by_drop s i _ rest h 0 (by rw [e]; simp)
        have b1 := by_drop s i _ rest h 1 (by rw [e]; simp)
        have b2 := by_drop s i _ rest h 2 (by rw [e]; simp)
        have b3 := by_drop s i _ rest h 3 (by rw [e]; simp)
        simp only [e] at b0 b1 b2 b3 hl
        simp at b0 b1 b2 b3 hl
        rw [e, if_neg (by omega), if_neg (by omega), if_neg (by omega), if_pos (by omega), if_pos (by omega)]
        refine Prod.ext ?_ rfl
        dsimp only
        omega

theorem of_back (s : ByteArray) : ∀ (rs : List Nat) (f i : Nat) (acc : List UInt8), (∀ r ∈ rs, Scalar r) → s.size ≤ i + f → i ≤ s.size → s.data.toList.drop i = (rs.flatMap fun r => Lib.encodeRune (r : Nat)) → ofFrom s f acc i = .ok (acc ++ rs.flatMap pb) := by
  have hl : s.data.toList.length = s.size := by simp
  intro rs
  induction rs with
  | nil =>
    intro f i acc _ hf hi h
    have : ¬ i < s.size := by
      have := congrArg List.length h
      rw [List.length_drop] at this
      simp at this; omega
    rw [ofFrom_end s f i acc this]
    simp
  | cons r rs ih =>
    intro f i acc hs hf hi h
    rw [List.flatMap_cons] at h
    have hr := hs r (List.mem_cons_self ..)
    have hp := rpt_enc s i r _ hr h
    have h4 := Lib.encodeRuneZ_length (r : Nat)
    have hen : (Lib.encodeRune (r : Nat)).length = (Lib.encodeRuneZ (r : Nat)).length := by simp [Lib.encodeRune]
    have hd := len_drop s i _ _ h (by omega)
    have hlt : i < s.size := by omega
    cases f with
    | zero => omega
    | succ f =>
      have hb : bad s i = false := by
        cases hb : bad s i
        · rfl
        · rw [rpt_bad s i hlt hb] at hp
          injection hp with _ hp
          omega
      rw [rpt_good s i hlt hb] at hp
      simp only [ofFrom, if_pos hlt, hb, hp]
      rw [if_neg (by simp), ih f _ _ (fun x hx => hs x (List.mem_cons_of_mem _ hx)) (by omega) (by omega) ?_]
      · simp
      · rw [← List.drop_drop, h, List.drop_append_of_le_length (Nat.le_refl _), List.drop_length, List.nil_append]

/-- UTF-8 of a text without lone surrogates is that text again, but for an odd byte. -/
theorem of_text (s : ByteArray) (h : ∀ x ∈ pts s, ¬ (55296 ≤ x.2 ∧ x.2 ≤ 57343)) : ofS ⟨(textC (pts s)).toArray⟩ = .ok (ebs s) := by
  have hsc : ∀ r ∈ (pts s).map (·.2), Scalar r := by
    intro r hr
    obtain ⟨x, hx, rfl⟩ := List.mem_map.1 hr
    exact ⟨pts_le s x hx, h x hx⟩
  have e := of_back ⟨(textC (pts s)).toArray⟩ ((pts s).map (·.2)) _ 0 [] hsc (Nat.le_of_eq (Nat.zero_add _).symm) (Nat.zero_le _) (by
    rw [List.drop_zero, ← textC_runes _ (pts_le s)])
  unfold ofS
  rw [e, List.nil_append, flat_pb, pts_runes0, pu_runes _ (uns_lt s), mkB_uns]

end Go.Proofs.Ytalnmophdebnfaa
