/- Plain mathematics: the code point that bytes begin with, by the document's words, and as a range over a text tells it. -/
import Derived.Test.YtjnbnejfdleocaaGreatDoorOf
namespace Go.Proofs.YtjnbnejfdleocaaGreatDoor
set_option linter.unusedVariables false

/-- The document's code point of m bytes that begin so; (0, 0): none. -/
def rptN (m b0 b1 b2 b3 : Nat) : Nat × Nat :=
  if b0 < 128 then (b0, 1)
  else if 194 ≤ b0 ∧ b0 ≤ 223 then (if 2 ≤ m ∧ (128 ≤ b1 ∧ b1 ≤ 191) then (64 * (b0 - 192) + b1 - 128, 2) else (0, 0))
  else if 224 ≤ b0 ∧ b0 ≤ 239 then (if 3 ≤ m ∧ (128 ≤ b1 ∧ b1 ≤ 191) ∧ (128 ≤ b2 ∧ b2 ≤ 191) ∧ 2048 ≤ 64 * (64 * (b0 - 224) + b1 - 128) + b2 - 128 ∧ ¬ (55296 ≤ 64 * (64 * (b0 - 224) + b1 - 128) + b2 - 128 ∧ 64 * (64 * (b0 - 224) + b1 - 128) + b2 - 128 ≤ 57343) then (64 * (64 * (b0 - 224) + b1 - 128) + b2 - 128, 3) else (0, 0))
  else if 240 ≤ b0 ∧ b0 ≤ 244 then (if 4 ≤ m ∧ (128 ≤ b1 ∧ b1 ≤ 191) ∧ (128 ≤ b2 ∧ b2 ≤ 191) ∧ (128 ≤ b3 ∧ b3 ≤ 191) ∧ 65536 ≤ 64 * (64 * (64 * (b0 - 240) + b1 - 128) + b2 - 128) + b3 - 128 ∧ 64 * (64 * (64 * (b0 - 240) + b1 - 128) + b2 - 128) + b3 - 128 ≤ 1114111 then (64 * (64 * (64 * (b0 - 240) + b1 - 128) + b2 - 128) + b3 - 128, 4) else (0, 0))
  else (0, 0)

/-- What a range over a text tells of them. -/
def decN (m b0 b1 b2 b3 : Nat) : Nat × Nat :=
  if b0 < 128 then (b0, 1)
  else if b0 / 32 = 6 ∧ 1 < m ∧ b1 / 64 = 2 then (if 128 ≤ b0 % 32 * 64 + b1 % 64 then (b0 % 32 * 64 + b1 % 64, 2) else (65533, 1))
  else if b0 / 16 = 14 ∧ (1 < m ∧ b1 / 64 = 2) ∧ (2 < m ∧ b2 / 64 = 2) then (if 2048 ≤ b0 % 16 * 4096 + b1 % 64 * 64 + b2 % 64 ∧ (b0 % 16 * 4096 + b1 % 64 * 64 + b2 % 64 < 55296 ∨ 57344 ≤ b0 % 16 * 4096 + b1 % 64 * 64 + b2 % 64 ∧ b0 % 16 * 4096 + b1 % 64 * 64 + b2 % 64 ≤ 1114111) then (b0 % 16 * 4096 + b1 % 64 * 64 + b2 % 64, 3) else (65533, 1))
  else if b0 / 8 = 30 ∧ (1 < m ∧ b1 / 64 = 2) ∧ (2 < m ∧ b2 / 64 = 2) ∧ (3 < m ∧ b3 / 64 = 2) then (if 65536 ≤ b0 % 8 * 262144 + b1 % 64 * 4096 + b2 % 64 * 64 + b3 % 64 ∧ (b0 % 8 * 262144 + b1 % 64 * 4096 + b2 % 64 * 64 + b3 % 64 < 55296 ∨ 57344 ≤ b0 % 8 * 262144 + b1 % 64 * 4096 + b2 % 64 * 64 + b3 % 64 ∧ b0 % 8 * 262144 + b1 % 64 * 4096 + b2 % 64 * 64 + b3 % 64 ≤ 1114111) then (b0 % 8 * 262144 + b1 % 64 * 4096 + b2 % 64 * 64 + b3 % 64, 4) else (65533, 1))
  else (65533, 1)

theorem get!_by (s : ByteArray) (k : Nat) : (s.get! k).toNat = by' s k := by
  unfold by'
  by_cases h : k < s.size
  · have h2 : k < s.data.toList.length := by simpa using h
    rw [List.getD_eq_getElem?_getD, List.getElem?_eq_getElem h2, Option.getD_some]
    have : s.get! k = s.data[k]! := rfl
    rw [this, getElem!_pos s.data k (by simpa using h)]
    rfl
  · have h2 : ¬ k < s.data.toList.length := by simpa using h
    rw [List.getD_eq_getElem?_getD, List.getElem?_eq_none (by omega), Option.getD_none]
    have : s.get! k = s.data[k]! := rfl
    rw [this, getElem!_neg s.data k (by simpa using h)]
    rfl

theorem decode_decN (s : ByteArray) (i : Nat) : Utf8.decode s i = decN (s.size - i) (by' s i) (by' s (i + 1)) (by' s (i + 2)) (by' s (i + 3)) := by
  unfold Utf8.decode decN
  have e1 : (i + 1 < s.size) ↔ (1 < s.size - i) := by omega
  have e2 : (i + 2 < s.size) ↔ (2 < s.size - i) := by omega
  have e3 : (i + 3 < s.size) ↔ (3 < s.size - i) := by omega
  have v : ∀ c : Nat, Utf8.valid (c : Int) = true ↔ (c < 55296 ∨ 57344 ≤ c ∧ c ≤ 1114111) := by
    intro c; simp only [Utf8.valid, Bool.or_eq_true, Bool.and_eq_true, decide_eq_true_eq]; omega
  simp only [get!_by, Nat.add_zero, Bool.and_eq_true, decide_eq_true_eq, beq_iff_eq, e1, e2, e3, v, Utf8.runeError, and_assoc, ge_iff_le]

theorem tieN (m b0 b1 b2 b3 : Nat) (hm : 1 ≤ m) (h0 : b0 < 256) (h1 : b1 < 256) (h2 : b2 < 256) (h3 : b3 < 256) :
    rptN m b0 b1 b2 b3 = if (decN m b0 b1 b2 b3).1 = 65533 ∧ ¬ (3 ≤ m ∧ b0 = 239 ∧ b1 = 191 ∧ b2 = 189) then (0, 0) else decN m b0 b1 b2 b3 := by
  by_cases a0 : b0 < 128
  · have e1 : rptN m b0 b1 b2 b3 = (b0, 1) := by unfold rptN; rw [if_pos a0]
    have e2 : decN m b0 b1 b2 b3 = (b0, 1) := by unfold decN; rw [if_pos a0]
    rw [e1, e2, if_neg (by dsimp only; omega)]
  · have bad1 : rptN m b0 b1 b2 b3 = (0, 0) → decN m b0 b1 b2 b3 = (65533, 1) → ¬ (3 ≤ m ∧ b0 = 239 ∧ b1 = 191 ∧ b2 = 189) → rptN m b0 b1 b2 b3 = if (decN m b0 b1 b2 b3).1 = 65533 ∧ ¬ (3 ≤ m ∧ b0 = 239 ∧ b1 = 191 ∧ b2 = 189) then (0, 0) else decN m b0 b1 b2 b3 := by
      intro e1 e2 e3
      rw [e1, e2, if_pos ⟨rfl, e3⟩]
    have good : ∀ x y n : Nat, rptN m b0 b1 b2 b3 = (x, n) → decN m b0 b1 b2 b3 = (y, n) → x = y → (y = 65533 → (3 ≤ m ∧ b0 = 239 ∧ b1 = 191 ∧ b2 = 189)) → rptN m b0 b1 b2 b3 = if (decN m b0 b1 b2 b3).1 = 65533 ∧ ¬ (3 ≤ m ∧ b0 = 239 ∧ b1 = 191 ∧ b2 = 189) then (0, 0) else decN m b0 b1 b2 b3 := by
      intro x y n e1 e2 e3 e4
      rw [e1, e2, e3, if_neg (fun h => h.2 (e4 h.1))]
    by_cases a1 : b0 < 194
    · refine bad1 ?_ ?_ (by omega)
      · unfold rptN; rw [if_neg a0, if_neg (by omega), if_neg (by omega), if_neg (by omega)]
      · unfold decN; rw [if_neg a0]
        by_cases c : b0 / 32 = 6 ∧ 1 < m ∧ b1 / 64 = 2
        · rw [if_pos c, if_neg (by omega)]
        · rw [if_neg c, if_neg (by omega), if_neg (by omega)]
    · by_cases a2 : b0 ≤ 223
      · by_cases c : 2 ≤ m ∧ (128 ≤ b1 ∧ b1 ≤ 191)
        · refine good (64 * (b0 - 192) + b1 - 128) (b0 % 32 * 64 + b1 % 64) 2 ?_ ?_ (by omega) (by omega)
          · unfold rptN; rw [if_neg a0, if_pos (by omega), if_pos c]
          · unfold decN; rw [if_neg a0, if_pos (by omega), if_pos (by omega)]
        · refine bad1 ?_ ?_ (by omega)
          · unfold rptN; rw [if_neg a0, if_pos (by omega), if_neg c]
          · unfold decN; rw [if_neg a0, if_neg (by omega), if_neg (by omega), if_neg (by omega)]
      · by_cases a3 : b0 ≤ 239
        · by_cases c : 3 ≤ m ∧ (128 ≤ b1 ∧ b1 ≤ 191) ∧ (128 ≤ b2 ∧ b2 ≤ 191)
          · have e : 64 * (64 * (b0 - 224) + b1 - 128) + b2 - 128 = b0 % 16 * 4096 + b1 % 64 * 64 + b2 % 64 := by omega
            by_cases d : 2048 ≤ b0 % 16 * 4096 + b1 % 64 * 64 + b2 % 64 ∧ ¬ (55296 ≤ b0 % 16 * 4096 + b1 % 64 * 64 + b2 % 64 ∧ b0 % 16 * 4096 + b1 % 64 * 64 + b2 % 64 ≤ 57343)
            · refine good _ (b0 % 16 * 4096 + b1 % 64 * 64 + b2 % 64) 3 ?_ ?_ e (by omega)
              · unfold rptN; rw [if_neg a0, if_neg (by omega), if_pos (by omega), if_pos (by omega)]
              · unfold decN; rw [if_neg a0, if_neg (by omega), if_pos (by omega), if_pos (by omega)]
            · refine bad1 ?_ ?_ (by omega)
              · unfold rptN; rw [if_neg a0, if_neg (by omega), if_pos (by omega), if_neg (by omega)]
              · unfold decN; rw [if_neg a0, if_neg (by omega), if_pos (by omega), if_neg (by omega)]
          · refine bad1 ?_ ?_ (by omega)
            · unfold rptN; rw [if_neg a0, if_neg (by omega), if_pos (by omega), if_neg (by omega)]
            · unfold decN; rw [if_neg a0, if_neg (by omega), if_neg (by omega), if_neg (by omega)]
        · by_cases c : b0 ≤ 247 ∧ 4 ≤ m ∧ (128 ≤ b1 ∧ b1 ≤ 191) ∧ (128 ≤ b2 ∧ b2 ≤ 191) ∧ (128 ≤ b3 ∧ b3 ≤ 191)
          · by_cases d : 65536 ≤ b0 % 8 * 262144 + b1 % 64 * 4096 + b2 % 64 * 64 + b3 % 64 ∧ b0 % 8 * 262144 + b1 % 64 * 4096 + b2 % 64 * 64 + b3 % 64 ≤ 1114111
            · have e : 64 * (64 * (64 * (b0 - 240) + b1 - 128) + b2 - 128) + b3 - 128 = b0 % 8 * 262144 + b1 % 64 * 4096 + b2 % 64 * 64 + b3 % 64 := by omega
              refine good _ (b0 % 8 * 262144 + b1 % 64 * 4096 + b2 % 64 * 64 + b3 % 64) 4 ?_ ?_ e (by omega)
              · unfold rptN; rw [if_neg a0, if_neg (by omega), if_neg (by omega), if_pos (by omega), if_pos (by omega)]
              · unfold decN; rw [if_neg a0, if_neg (by omega), if_neg (by omega), if_pos (by omega), if_pos (by omega)]
            · refine bad1 ?_ ?_ (by omega)
              · unfold rptN; rw [if_neg a0, if_neg (by omega), if_neg (by omega)]
                by_cases a4 : b0 ≤ 244
                · rw [if_pos (by omega), if_neg (by omega)]
                · rw [if_neg (by omega)]
              · unfold decN; rw [if_neg a0, if_neg (by omega), if_neg (by omega), if_pos (by omega), if_neg (by omega)]
          · refine bad1 ?_ ?_ (by omega)
            · unfold rptN; rw [if_neg a0, if_neg (by omega), if_neg (by omega)]
              by_cases a4 : b0 ≤ 244
              · rw [if_pos (by omega), if_neg (by omega)]
              · rw [if_neg (by omega)]
            · unfold decN; rw [if_neg a0, if_neg (by omega), if_neg (by omega), if_neg (by omega)]

/-- The document's code point at a place of a text. -/
def rpt (s : ByteArray) (i : Nat) : Nat × Nat := rptN (s.size - i) (by' s i) (by' s (i + 1)) (by' s (i + 2)) (by' s (i + 3))
theorem bad_iff (s : ByteArray) (i : Nat) (h : i < s.size) : bad s i = true ↔ ((Utf8.decode s i).1 = 65533 ∧ ¬ (3 ≤ s.size - i ∧ by' s i = 239 ∧ by' s (i + 1) = 191 ∧ by' s (i + 2) = 189)) := by
  have e : (i + 3 ≤ s.size) ↔ (3 ≤ s.size - i) := by omega
  simp only [bad, repl, Bool.and_eq_true, decide_eq_true_eq, Bool.not_eq_true', Bool.and_eq_false_iff, decide_eq_false_iff_not, beq_eq_false_iff_ne, e]
  constructor
  · rintro ⟨h1, h2⟩; exact ⟨h1, by rintro ⟨a, b, c, d⟩; rcases h2 with h2 | (h2 | h2) | h2 <;> contradiction⟩
  · rintro ⟨h1, h2⟩
    refine ⟨h1, ?_⟩
    omega
theorem rpt_bad (s : ByteArray) (i : Nat) (h : i < s.size) (hb : bad s i = true) : rpt s i = (0, 0) := by
  have := (bad_iff s i h).1 hb
  unfold rpt
  rw [tieN _ _ _ _ _ (by omega) (by_lt _ _) (by_lt _ _) (by_lt _ _) (by_lt _ _), ← decode_decN, if_pos this]
theorem rpt_good (s : ByteArray) (i : Nat) (h : i < s.size) (hb : bad s i = false) : rpt s i = Utf8.decode s i := by
  have h2 : ¬ ((Utf8.decode s i).1 = 65533 ∧ ¬ (3 ≤ s.size - i ∧ by' s i = 239 ∧ by' s (i + 1) = 191 ∧ by' s (i + 2) = 189)) := fun h' => by
    rw [(bad_iff s i h).2 h'] at hb; cases hb
  unfold rpt
  rw [tieN _ _ _ _ _ (by omega) (by_lt _ _) (by_lt _ _) (by_lt _ _) (by_lt _ _), ← decode_decN, if_neg h2]

end Go.Proofs.YtjnbnejfdleocaaGreatDoor
