/- Plain mathematics: the code point that bytes begin with, by the document's words, and as a range over a text tells it. lintelref01.point: the document's code point that bytes begin with. units.Point and lintelref01.Point: the units of a number. lintelref01.Of: the document's units of UTF-8. -/
import Derived.Test.YtbkkkpfoaggejaaGreatDoorOf
import Derived.Test.YtbkkkpfoaggejaaGreatDoorMake
import Derived.Test.YtbkkkpfoaggejaaGreatDoorRUnits
import Derived.Lib.RuneCount
namespace Go.Proofs.YtbkkkpfoaggejaaGreatDoor
set_option linter.unusedVariables false

/-- The document's code point of m bytes that begin so; (0, 0): none. -/
def rptN (m b0 b1 b2 b3 : Nat) : Nat × Nat :=
  if b0 < 128 then (b0, 1)
  else if 194 ≤ b0 ∧ b0 ≤ 223 then (if 2 ≤ m ∧ (128 ≤ b1 ∧ b1 ≤ 191) then (64 * (b0 - 192) + b1 - 128, 2) else (0, 0))
  else if 224 ≤ b0 ∧ b0 ≤ 239 then (if 3 ≤ m ∧ (128 ≤ b1 ∧ b1 ≤ 191) ∧ (128 ≤ b2 ∧ b2 ≤ 191) ∧ 2048 ≤ 64 * (64 * (b0 - 224) + b1 - 128) + b2 - 128 ∧ ¬ (55296 ≤ 64 * (64 * (b0 - 224) + b1 - 128) + b2 - 128 ∧ 64 * (64 * (b0 - 224) + b1 - 128) + b2 - 128 ≤ 57343) then (64 * (64 * (b0 - 224) + b1 - 128) + b2 - 128, 3) else (0, 0))
  else if 240 ≤ b0 ∧ b0 ≤ 244 then (if 4 ≤ m ∧ (128 ≤ b1 ∧ b1 ≤ 191) ∧ (128 ≤ b2 ∧ b2 ≤ 191) ∧ (128 ≤ b3 ∧ b3 ≤ 191) ∧ 65536 ≤ 64 * (64 * (64 * (b0 - 240) + b1 - 128) + b2 - 128) + b3 - 128 ∧ 64 * (64 * (64 * (b0 - 240) + b1 - 128) + b2 - 128) + b3 - 128 ≤ 1114111 then (64 * (64 * (64 * (b0 - 240) + b1 - 128) + b2 - 128) + b3 - 128, 4) else (0, 0))
  else (0, 0)

/-- What a range over a text tells of them. -/
def decN (m b0 b1 b2 b3 : Nat) : Nat × Nat :=
  if b0 < 128 then (b0, 1)
  else if b0 / 32 = 6 ∧ 1 < m ∧ b1 / 64 = 2 then (if 128 ≤ b0 % 32 * 64 + b1 % 64 then (b0 % 32 * 64 + b1 % 64, 2) else (65533, 1))
  else if b0 / 16 = 14 ∧ (1 < m ∧ b1 / 64 = 2) ∧ (2 < m ∧ b2 / 64 = 2) then (if 2048 ≤ b0 % 16 * 4096 + b1 % 64 * 64 + b2 % 64 ∧ (b0 % 16 * 4096 + b1 % 64 * 64 + b2 % 64 < 55296 ∨ 57344 ≤ b0 % 16 * 4096 + b1 % 64 * 64 + b2 % 64 ∧ b0 % 16 * 4096 + b1 % 64 * 64 + b2 % 64 ≤ 1114111) then (b0 % 16 * 4096 + b1 % 64 * 64 + b2 % 64, 3) else (65533, 1))
  else if b0 / 8 = 30 ∧ (1 < m ∧ b1 / 64 = 2) ∧ (2 < m ∧ b2 / 64 = 2) ∧ (3 < m ∧ b3 / 64 = 2) then (if 65536 ≤ b0 % 8 * 262144 + b1 % 64 * 4096 + b2 % 64 * 64 + b3 % 64 ∧ (b0 % 8 * 262144 + b1 % 64 * 4096 + b2 % 64 * 64 + b3 % 64 < 55296 ∨ 57344 ≤ b0 % 8 * 262144 + b1 % 64 * 4096 + b2 % 64 * 64 + b3 % 64 ∧ b0 % 8 * 262144 + b1 % 64 * 4096 + b2 % 64 * 64 + b3 % 64 ≤ 1114111) then (b0 % 8 * 262144 + b1 % 64 * 4096 + b2 % 64 * 64 + b3 % 64, 4) else (65533, 1))
  else (65533, 1)

theorem get!_by (s : ByteArray) (k : Nat) : (s.get! k).toNat = by' s k := by
  unfold by'
  by_cases h : k < s.size
  · have h2 : k < s.data.toList.length := by simpa using h
    rw [List.getD_eq_getElem?_getD, List.getElem?_eq_getElem h2, Option.getD_some]
    have : s.get! k = s.data[k]! := rfl
    rw [this, getElem!_pos s.data k (by simpa using h)]
    rfl
  · have h2 : ¬ k < s.data.toList.length := by simpa using h
    rw [List.getD_eq_getElem?_getD, List.getElem?_eq_none (by omega), Option.getD_none]
    have : s.get! k = s.data[k]! := rfl
    rw [this, getElem!_neg s.data k (by simpa using h)]
    rfl

theorem decode_decN (s : ByteArray) (i : Nat) : Utf8.decode s i = decN (s.size - i) (by' s i) (by' s (i + 1)) (by' s (i + 2)) (by' s (i + 3)) := by
  unfold Utf8.decode decN
  have e1 : (i + 1 < s.size) ↔ (1 < s.size - i) := by omega
  have e2 : (i + 2 < s.size) ↔ (2 < s.size - i) := by omega
  have e3 : (i + 3 < s.size) ↔ (3 < s.size - i) := by omega
  have v : ∀ c : Nat, Utf8.valid (c : Int) = true ↔ (c < 55296 ∨ 57344 ≤ c ∧ c ≤ 1114111) := by
    intro c; simp only [Utf8.valid, Bool.or_eq_true, Bool.and_eq_true, decide_eq_true_eq]; omega
  simp only [get!_by, Nat.add_zero, Bool.and_eq_true, decide_eq_true_eq, beq_iff_eq, e1, e2, e3, v, Utf8.runeError, and_assoc, ge_iff_le]

theorem tieN (m b0 b1 b2 b3 : Nat) (hm : 1 ≤ m) (h0 : b0 < 256) (h1 : b1 < 256) (h2 : b2 < 256) (h3 : b3 < 256) :
    rptN m b0 b1 b2 b3 = if (decN m b0 b1 b2 b3).1 = 65533 ∧ ¬ (3 ≤ m ∧ b0 = 239 ∧ b1 = 191 ∧ b2 = 189) then (0, 0) else decN m b0 b1 b2 b3 := by
  by_cases a0 : b0 < 128
  · have e1 : rptN m b0 b1 b2 b3 = (b0, 1) := by unfold rptN; rw [if_pos a0]
    have e2 : decN m b0 b1 b2 b3 = (b0, 1) := by unfold decN; rw [if_pos a0]
    rw [e1, e2, if_neg (by dsimp only; omega)]
  · have bad1 : rptN m b0 b1 b2 b3 = (0, 0) → decN m b0 b1 b2 b3 = (65533, 1) → ¬ (3 ≤ m ∧ b0 = 239 ∧ b1 = 191 ∧ b2 = 189) → rptN m b0 b1 b2 b3 = if (decN m b0 b1 b2 b3).1 = 65533 ∧ ¬ (3 ≤ m ∧ b0 = 239 ∧ b1 = 191 ∧ b2 = 189) then (0, 0) else decN m b0 b1 b2 b3 := by
      intro e1 e2 e3
      rw [e1, e2, if_pos ⟨rfl, e3⟩]
    have good : ∀ x y n : Nat, rptN m b0 b1 b2 b3 = (x, n) → decN m b0 b1 b2 b3 = (y, n) → x = y → (y = 65533 → (3 ≤ m ∧ b0 = 239 ∧ b1 = 191 ∧ b2 = 189)) → rptN m b0 b1 b2 b3 = if (decN m b0 b1 b2 b3).1 = 65533 ∧ ¬ (3 ≤ m ∧ b0 = 239 ∧ b1 = 191 ∧ b2 = 189) then (0, 0) else decN m b0 b1 b2 b3 := by
      intro x y n e1 e2 e3 e4
      rw [e1, e2, e3, if_neg (fun h => h.2 (e4 h.1))]
    by_cases a1 : b0 < 194
    · refine bad1 ?_ ?_ (by omega)
      · unfold rptN; rw [if_neg a0, if_neg (by omega), if_neg (by omega), if_neg (by omega)]
      · unfold decN; rw [if_neg a0]
        by_cases c : b0 / 32 = 6 ∧ 1 < m ∧ b1 / 64 = 2
        · rw [if_pos c, if_neg (by omega)]
        · rw [if_neg c, if_neg (by omega), if_neg (by omega)]
    · by_cases a2 : b0 ≤ 223
      · by_cases c : 2 ≤ m ∧ (128 ≤ b1 ∧ b1 ≤ 191)
        · refine good (64 * (b0 - 192) + b1 - 128) (b0 % 32 * 64 + b1 % 64) 2 ?_ ?_ (by omega) (by omega)
          · unfold rptN; rw [if_neg a0, if_pos (by omega), if_pos c]
          · unfold decN; rw [if_neg a0, if_pos (by omega), if_pos (by omega)]
        · refine bad1 ?_ ?_ (by omega)
          · unfold rptN; rw [if_neg a0, if_pos (by omega), if_neg c]
          · unfold decN; rw [if_neg a0, if_neg (by omega), if_neg (by omega), if_neg (by omega)]
      · by_cases a3 : b0 ≤ 239
        · by_cases c : 3 ≤ m ∧ (128 ≤ b1 ∧ b1 ≤ 191) ∧ (128 ≤ b2 ∧ b2 ≤ 191)
          · have e : 64 * (64 * (b0 - 224) + b1 - 128) + b2 - 128 = b0 % 16 * 4096 + b1 % 64 * 64 + b2 % 64 := by omega
            by_cases d : 2048 ≤ b0 % 16 * 4096 + b1 % 64 * 64 + b2 % 64 ∧ ¬ (55296 ≤ b0 % 16 * 4096 + b1 % 64 * 64 + b2 % 64 ∧ b0 % 16 * 4096 + b1 % 64 * 64 + b2 % 64 ≤ 57343)
            · refine good _ (b0 % 16 * 4096 + b1 % 64 * 64 + b2 % 64) 3 ?_ ?_ e (by omega)
              · unfold rptN; rw [if_neg a0, if_neg (by omega), if_pos (by omega), if_pos (by omega)]
              · unfold decN; rw [if_neg a0, if_neg (by omega), if_pos (by omega), if_pos (by omega)]
            · refine bad1 ?_ ?_ (by omega)
              · unfold rptN; rw [if_neg a0, if_neg (by omega), if_pos (by omega), if_neg (by omega)]
              · unfold decN; rw [if_neg a0, if_neg (by omega), if_pos (by omega), if_neg (by omega)]
          · refine bad1 ?_ ?_ (by omega)
            · unfold rptN; rw [if_neg a0, if_neg (by omega), if_pos (by omega), if_neg (by omega)]
            · unfold decN; rw [if_neg a0, if_neg (by omega), if_neg (by omega), if_neg (by omega)]
        · by_cases c : b0 ≤ 247 ∧ 4 ≤ m ∧ (128 ≤ b1 ∧ b1 ≤ 191) ∧ (128 ≤ b2 ∧ b2 ≤ 191) ∧ (128 ≤ b3 ∧ b3 ≤ 191)
          · by_cases d : 65536 ≤ b0 % 8 * 262144 + b1 % 64 * 4096 + b2 % 64 * 64 + b3 % 64 ∧ b0 % 8 * 262144 + b1 % 64 * 4096 + b2 % 64 * 64 + b3 % 64 ≤ 1114111
            · have e : 64 * (64 * (64 * (b0 - 240) + b1 - 128) + b2 - 128) + b3 - 128 = b0 % 8 * 262144 + b1 % 64 * 4096 + b2 % 64 * 64 + b3 % 64 := by omega
              refine good _ (b0 % 8 * 262144 + b1 % 64 * 4096 + b2 % 64 * 64 + b3 % 64) 4 ?_ ?_ e (by omega)
              · unfold rptN; rw [if_neg a0, if_neg (by omega), if_neg (by omega), if_pos (by omega), if_pos (by omega)]
              · unfold decN; rw [if_neg a0, if_neg (by omega), if_neg (by omega), if_pos (by omega), if_pos (by omega)]
            · refine bad1 ?_ ?_ (by omega)
              · unfold rptN; rw [if_neg a0, if_neg (by omega), if_neg (by omega)]
                by_cases a4 : b0 ≤ 244
                · rw [if_pos (by omega), if_neg (by omega)]
                · rw [if_neg (by omega)]
              · unfold decN; rw [if_neg a0, if_neg (by omega), if_neg (by omega), if_pos (by omega), if_neg (by omega)]
          · refine bad1 ?_ ?_ (by omega)
            · unfold rptN; rw [if_neg a0, if_neg (by omega), if_neg (by omega)]
              by_cases a4 : b0 ≤ 244
              · rw [if_pos (by omega), if_neg (by omega)]
              · rw [if_neg (by omega)]
            · unfold decN; rw [if_neg a0, if_neg (by omega), if_neg (by omega), if_neg (by omega)]

/-- The document's code point at a place of a text. -/
def rpt (s : ByteArray) (i : Nat) : Nat × Nat := rptN (s.size - i) (by' s i) (by' s (i + 1)) (by' s (i + 2)) (by' s (i + 3))
theorem bad_iff (s : ByteArray) (i : Nat) (h : i < s.size) : bad s i = true ↔ ((Utf8.decode s i).1 = 65533 ∧ ¬ (3 ≤ s.size - i ∧ by' s i = 239 ∧ by' s (i + 1) = 191 ∧ by' s (i + 2) = 189)) := by
  have e : (i + 3 ≤ s.size) ↔ (3 ≤ s.size - i) := by omega
  simp only [bad, repl, Bool.and_eq_true, decide_eq_true_eq, Bool.not_eq_true', Bool.and_eq_false_iff, decide_eq_false_iff_not, beq_eq_false_iff_ne, e]
  constructor
  · rintro ⟨h1, h2⟩; exact ⟨h1, by rintro ⟨a, b, c, d⟩; rcases h2 with h2 | (h2 | h2) | h2 <;> contradiction⟩
  · rintro ⟨h1, h2⟩
    refine ⟨h1, ?_⟩
    omega
theorem rpt_bad (s : ByteArray) (i : Nat) (h : i < s.size) (hb : bad s i = true) : rpt s i = (0, 0) := by
  have := (bad_iff s i h).1 hb
  unfold rpt
  rw [tieN _ _ _ _ _ (by omega) (by_lt _ _) (by_lt _ _) (by_lt _ _) (by_lt _ _), ← decode_decN, if_pos this]
theorem rpt_good (s : ByteArray) (i : Nat) (h : i < s.size) (hb : bad s i = false) : rpt s i = Utf8.decode s i := by
  have h2 : ¬ ((Utf8.decode s i).1 = 65533 ∧ ¬ (3 ≤ s.size - i ∧ by' s i = 239 ∧ by' s (i + 1) = 191 ∧ by' s (i + 2) = 189)) := fun h' => by
    rw [(bad_iff s i h).2 h'] at hb; cases hb
  unfold rpt
  rw [tieN _ _ _ _ _ (by omega) (by_lt _ _) (by_lt _ _) (by_lt _ _) (by_lt _ _), ← decode_decN, if_neg h2]

end Go.Proofs.YtbkkkpfoaggejaaGreatDoor

namespace Go.Proofs.YtbkkkpfoaggejaaGreatDoor
set_option linter.unusedVariables false
open Go.RowKit

/-- What k bytes behind the first one come to. -/
def accI (t : ByteArray) (r0 : Int) : Nat → Int
  | 0 => r0
  | k + 1 => 64 * accI t r0 k + (by' t (k + 1) : Int) - 128
theorem acc1 (t : ByteArray) (r0 : Int) : accI t r0 1 = 64 * r0 + (by' t 1 : Int) - 128 := rfl
theorem acc2 (t : ByteArray) (r0 : Int) : accI t r0 2 = 64 * (64 * r0 + (by' t 1 : Int) - 128) + (by' t 2 : Int) - 128 := rfl
theorem acc3 (t : ByteArray) (r0 : Int) : accI t r0 3 = 64 * (64 * (64 * r0 + (by' t 1 : Int) - 128) + (by' t 2 : Int) - 128) + (by' t 3 : Int) - 128 := rfl
theorem rpt0 (t : ByteArray) : rpt t 0 = rptN t.size (by' t 0) (by' t 1) (by' t 2) (by' t 3) := by simp [rpt]
/-- The first k bytes behind the first one are of the form that they should have. -/
def Conts (t : ByteArray) (k : Nat) : Prop := ∀ j, 1 ≤ j → j ≤ k → 128 ≤ by' t j ∧ by' t j ≤ 191
theorem Conts.zero (t : ByteArray) : Conts t 0 := fun j h1 h2 => by omega
theorem Conts.succ {t : ByteArray} {k : Nat} (h : Conts t k) (h1 : 128 ≤ by' t (k + 1)) (h2 : by' t (k + 1) ≤ 191) : Conts t (k + 1) := fun j a b => by
  by_cases e : j = k + 1
  · subst e; exact ⟨h1, h2⟩
  · exact h j a (by omega)
theorem accI_bd (t : ByteArray) (r0 : Int) (h0 : 0 ≤ r0) (h1 : r0 ≤ 31) : ∀ k, k ≤ 3 → Conts t k → 0 ≤ accI t r0 k ∧ accI t r0 k ≤ 8388607 := by
  intro k hk hc
  have c1 : 1 ≤ k → 128 ≤ by' t 1 ∧ by' t 1 ≤ 191 := fun h => hc 1 (by omega) (by omega)
  have c2 : 2 ≤ k → 128 ≤ by' t 2 ∧ by' t 2 ≤ 191 := fun h => hc 2 (by omega) (by omega)
  have c3 : 3 ≤ k → 128 ≤ by' t 3 ∧ by' t 3 ≤ 191 := fun h => hc 3 (by omega) (by omega)
  match k, hk with
  | 0, _ => simp only [accI]; omega
  | 1, _ => rw [acc1]; have := c1 (by omega); omega
  | 2, _ => rw [acc2]; have := c1 (by omega); have := c2 (by omega); omega
  | 3, _ => rw [acc3]; have := c1 (by omega); have := c2 (by omega); have := c3 (by omega); omega

theorem ret_pair {k l : IntKind} {a b c d : Int} (h1 : a = c) (h2 : b = d) : Ending.returned (.tuple #[.int k a, .int l b]) = .returned (.tuple #[.int k c, .int l d]) := by rw [h1, h2]

/-- The first byte is none that a code point begins with, or one that stands for itself. -/
theorem rpt_one (t : ByteArray) (h : by' t 0 < 128) : rpt t 0 = (by' t 0, 1) := by rw [rpt0]; unfold rptN; rw [if_pos h]
theorem rpt_none (t : ByteArray) (h0 : 128 ≤ by' t 0) (h : by' t 0 < 194 ∨ 244 < by' t 0) : rpt t 0 = (0, 0) := by rw [rpt0]; unfold rptN; rw [if_neg (by omega), if_neg (by omega), if_neg (by omega), if_neg (by omega)]
theorem rpt2_no (t : ByteArray) (h0 : 194 ≤ by' t 0) (h1 : by' t 0 ≤ 223) (h : ¬ (2 ≤ t.size ∧ Conts t 1)) : rpt t 0 = (0, 0) := by
  rw [rpt0]; unfold rptN
  rw [if_neg (by omega), if_pos (by omega), if_neg]
  rintro ⟨a, b⟩
  exact h ⟨by omega, (Conts.zero t).succ b.1 b.2⟩
theorem rpt2_yes (t : ByteArray) (h0 : 194 ≤ by' t 0) (h1 : by' t 0 ≤ 223) (h2 : 2 ≤ t.size) (h : Conts t 1) : (((rpt t 0).1 : Nat) : Int) = accI t ((by' t 0 : Int) - 192) 1 ∧ (rpt t 0).2 = 2 := by
  have c1 := h 1 (by omega) (by omega)
  have e : rpt t 0 = (64 * (by' t 0 - 192) + by' t 1 - 128, 2) := by rw [rpt0]; unfold rptN; rw [if_neg (by omega), if_pos (by omega), if_pos ⟨by omega, c1⟩]
  rw [e, acc1]; refine ⟨?_, rfl⟩; dsimp only; omega
theorem rpt3_no (t : ByteArray) (h0 : 224 ≤ by' t 0) (h1 : by' t 0 ≤ 239) (h : ¬ (3 ≤ t.size ∧ Conts t 2 ∧ 2048 ≤ accI t ((by' t 0 : Int) - 224) 2 ∧ ¬ (55296 ≤ accI t ((by' t 0 : Int) - 224) 2 ∧ accI t ((by' t 0 : Int) - 224) 2 ≤ 57343))) : rpt t 0 = (0, 0) := by
  rw [rpt0]; unfold rptN
  rw [if_neg (by omega), if_neg (by omega), if_pos (by omega), if_neg]
  rintro ⟨a, b, c, d, f⟩
  refine h ⟨by omega, ((Conts.zero t).succ b.1 b.2).succ c.1 c.2, ?_, ?_⟩
  · rw [acc2]; omega
  · rw [acc2]; omega
theorem rpt3_yes (t : ByteArray) (h0 : 224 ≤ by' t 0) (h1 : by' t 0 ≤ 239) (h2 : 3 ≤ t.size) (h : Conts t 2) (h3 : 2048 ≤ accI t ((by' t 0 : Int) - 224) 2) (h4 : accI t ((by' t 0 : Int) - 224) 2 < 55296 ∨ 57343 < accI t ((by' t 0 : Int) - 224) 2) : (((rpt t 0).1 : Nat) : Int) = accI t ((by' t 0 : Int) - 224) 2 ∧ (rpt t 0).2 = 3 := by
  have c1 := h 1 (by omega) (by omega)
  have c2 := h 2 (by omega) (by omega)
  rw [acc2] at h3 h4
  have e : rpt t 0 = (64 * (64 * (by' t 0 - 224) + by' t 1 - 128) + by' t 2 - 128, 3) := by
    rw [rpt0]; unfold rptN
    rw [if_neg (by omega), if_neg (by omega), if_pos (by omega), if_pos ⟨by omega, c1, c2, by omega, by omega⟩]
  rw [e, acc2]; refine ⟨?_, rfl⟩; dsimp only; omega
theorem rpt4_no (t : ByteArray) (h0 : 240 ≤ by' t 0) (h1 : by' t 0 ≤ 244) (h : ¬ (4 ≤ t.size ∧ Conts t 3 ∧ 65536 ≤ accI t ((by' t 0 : Int) - 240) 3 ∧ accI t ((by' t 0 : Int) - 240) 3 ≤ 1114111)) : rpt t 0 = (0, 0) := by
  rw [rpt0]; unfold rptN
  rw [if_neg (by omega), if_neg (by omega), if_neg (by omega), if_pos (by omega), if_neg]
  rintro ⟨a, b, c, d, f, g⟩
  refine h ⟨by omega, (((Conts.zero t).succ b.1 b.2).succ c.1 c.2).succ d.1 d.2, ?_, ?_⟩
  · rw [acc3]; omega
  · rw [acc3]; omega
theorem rpt4_yes (t : ByteArray) (h0 : 240 ≤ by' t 0) (h1 : by' t 0 ≤ 244) (h2 : 4 ≤ t.size) (h : Conts t 3) (h3 : 65536 ≤ accI t ((by' t 0 : Int) - 240) 3) (h4 : accI t ((by' t 0 : Int) - 240) 3 ≤ 1114111) : (((rpt t 0).1 : Nat) : Int) = accI t ((by' t 0 : Int) - 240) 3 ∧ (rpt t 0).2 = 4 := by
  have c1 := h 1 (by omega) (by omega)
  have c2 := h 2 (by omega) (by omega)
  have c3 := h 3 (by omega) (by omega)
  rw [acc3] at h3 h4
  have e : rpt t 0 = (64 * (64 * (64 * (by' t 0 - 240) + by' t 1 - 128) + by' t 2 - 128) + by' t 3 - 128, 4) := by
    rw [rpt0]; unfold rptN
    rw [if_neg (by omega), if_neg (by omega), if_neg (by omega), if_pos (by omega), if_pos ⟨by omega, c1, c2, c3, by omega, by omega⟩]
  rw [e, acc3]; refine ⟨?_, rfl⟩; dsimp only; omega

set_option maxHeartbeats 2000000 in
set_option maxRecDepth 100000 in
theorem pt_cls2 (t : ByteArray) (w : World) (ht : (t.size : Int) ≤ 1048576) (hp : 0 < t.size) (hb0 : Hid (194 ≤ by' t 0)) (hb1 : Hid (by' t 0 ≤ 223)) :
    Calls Tryz.prog 76 #[.string t] w fun e w' => e = .returned (.tuple #[.int .i32 (rpt t 0).1, .int .i64 (rpt t 0).2]) ∧ w' = w := by
  have hp' : (0 : Int) < (t.size : Int) := by omega
  obtain ⟨z, hz⟩ : ∃ z : Int, (t[0].toNat : Int) = z := ⟨_, rfl⟩
  have HZ : Hid ((by' t 0 : Int) = z) := by show _ = _; rw [by_get t 0 hp]; exact hz
  have l1 : 194 ≤ z := by have := hb0.out; have := HZ.out; omega
  have l2 : z ≤ 223 := by have := hb1.out; have := HZ.out; omega
  by_cases hlt : (t.size : Int) < 2
  · rw [rpt2_no t hb0.out hb1.out (fun h => absurd h.1 (by omega))]
    go_enter Tryz.func76, Tryz.ntmps76
    go_wp2
    go_ret2
    exact ⟨rfl, rfl⟩
  · go_enter Tryz.func76, Tryz.ntmps76
    go_wp2
    go_loop [6, 7] (fun r i => ∃ (k : Nat) (a : Int), i = .int .i64 ((k : Int) + 1) ∧ r = .int .i32 a ∧ k ≤ 1 ∧ Hid (accI t ((by' t 0 : Int) - 192) k = a) ∧ Hid (Conts t k)) (fun _ i => (2 - intOf i).toNat)
    case atStart => exact ⟨0, _, rfl, rfl, Nat.zero_le _, by show _ = _; rw [HZ.out]; rfl, Conts.zero t⟩
    case round =>
      obtain ⟨k, a, rfl, rfl, hk, HA, hcs⟩ := hrel
      have bd := accI_bd t ((by' t 0 : Int) - 192) (by have := HZ.out; omega) (by have := HZ.out; omega) k (by omega) hcs.out
      rw [HA.out] at bd
      obtain ⟨bd1, bd2⟩ := bd
      by_cases hk2 : k < 1
      · have hkI : (k : Int) < 1 := by omega
        have hks : (k : Int) + 1 < (t.size : Int) := by omega
        have hk0 : (0 : Int) ≤ (k : Int) + 1 := by omega
        obtain ⟨y, hy⟩ : ∃ y : Int, (t[k + 1].toNat : Int) = y := ⟨_, rfl⟩
        have HY : Hid ((by' t (k + 1) : Int) = y) := by show _ = _; rw [by_get t (k + 1) (by omega)]; exact hy
        have y0 : 0 ≤ y := by omega
        have y1 : y < 256 := by have := by_lt t (k + 1); have := HY.out; omega
        by_cases c1 : y < 128
        · have HN := Hid.mk' (rpt2_no t hb0.out hb1.out (fun h => absurd (h.2 (k + 1) (by omega) (by omega)) (by have := HY.out; omega)))
          go_wp2
          go_ret2
          rw [HN.out]
          exact ⟨rfl, rfl⟩
        · by_cases c2 : 191 < y
          · have HN := Hid.mk' (rpt2_no t hb0.out hb1.out (fun h => absurd (h.2 (k + 1) (by omega) (by omega)) (by have := HY.out; omega)))
            go_wp2
            go_ret2
            rw [HN.out]
            exact ⟨rfl, rfl⟩
          · have HS := Hid.mk' (hcs.out.succ (by have := HY.out; omega) (by have := HY.out; omega))
            have HB : Hid (accI t ((by' t 0 : Int) - 192) (k + 1) = 64 * a + y - 128) := by show _ = _; simp only [accI]; rw [HA.out, HY.out]
            go_wp2
            go_round
            case rel => exact ⟨k + 1, _, by go_num, rfl, by omega, HB, HS⟩
            case measure => simp [intOf]; omega
      · obtain rfl : k = 1 := by omega
        have HF := Hid.mk' (rpt2_yes t hb0.out hb1.out (by omega) hcs.out)
        clear hcs
        go_wp2
        go_ret2
        exact ⟨ret_pair (by rw [HF.out.1, HA.out]) (by rw [HF.out.2]; rfl), rfl⟩

set_option maxHeartbeats 2000000 in
set_option maxRecDepth 100000 in
theorem pt_cls3 (t : ByteArray) (w : World) (ht : (t.size : Int) ≤ 1048576) (hp : 0 < t.size) (hb0 : Hid (224 ≤ by' t 0)) (hb1 : Hid (by' t 0 ≤ 239)) :
    Calls Tryz.prog 76 #[.string t] w fun e w' => e = .returned (.tuple #[.int .i32 (rpt t 0).1, .int .i64 (rpt t 0).2]) ∧ w' = w := by
  have hp' : (0 : Int) < (t.size : Int) := by omega
  obtain ⟨z, hz⟩ : ∃ z : Int, (t[0].toNat : Int) = z := ⟨_, rfl⟩
  have HZ : Hid ((by' t 0 : Int) = z) := by show _ = _; rw [by_get t 0 hp]; exact hz
  have l1 : 224 ≤ z := by have := hb0.out; have := HZ.out; omega
  have l2 : z ≤ 239 := by have := hb1.out; have := HZ.out; omega
  by_cases hlt : (t.size : Int) < 3
  · rw [rpt3_no t hb0.out hb1.out (fun h => absurd h.1 (by omega))]
    go_enter Tryz.func76, Tryz.ntmps76
    go_wp2
    go_ret2
    exact ⟨rfl, rfl⟩
  · go_enter Tryz.func76, Tryz.ntmps76
    go_wp2
    go_loop [6, 7] (fun r i => ∃ (k : Nat) (a : Int), i = .int .i64 ((k : Int) + 1) ∧ r = .int .i32 a ∧ k ≤ 2 ∧ Hid (accI t ((by' t 0 : Int) - 224) k = a) ∧ Hid (Conts t k)) (fun _ i => (3 - intOf i).toNat)
    case atStart => exact ⟨0, _, rfl, rfl, Nat.zero_le _, by show _ = _; rw [HZ.out]; rfl, Conts.zero t⟩
    case round =>
      obtain ⟨k, a, rfl, rfl, hk, HA, hcs⟩ := hrel
      have bd := accI_bd t ((by' t 0 : Int) - 224) (by have := HZ.out; omega) (by have := HZ.out; omega) k (by omega) hcs.out
      rw [HA.out] at bd
      obtain ⟨bd1, bd2⟩ := bd
      by_cases hk2 : k < 2
      · have hkI : (k : Int) < 2 := by omega
        have hks : (k : Int) + 1 < (t.size : Int) := by omega
        have hk0 : (0 : Int) ≤ (k : Int) + 1 := by omega
        obtain ⟨y, hy⟩ : ∃ y : Int, (t[k + 1].toNat : Int) = y := ⟨_, rfl⟩
        have HY : Hid ((by' t (k + 1) : Int) = y) := by show _ = _; rw [by_get t (k + 1) (by omega)]; exact hy
        have y0 : 0 ≤ y := by omega
        have y1 : y < 256 := by have := by_lt t (k + 1); have := HY.out; omega
        by_cases c1 : y < 128
        · have HN := Hid.mk' (rpt3_no t hb0.out hb1.out (fun h => absurd (h.2.1 (k + 1) (by omega) (by omega)) (by have := HY.out; omega)))
          go_wp2
          go_ret2
          rw [HN.out]
          exact ⟨rfl, rfl⟩
        · by_cases c2 : 191 < y
          · have HN := Hid.mk' (rpt3_no t hb0.out hb1.out (fun h => absurd (h.2.1 (k + 1) (by omega) (by omega)) (by have := HY.out; omega)))
            go_wp2
            go_ret2
            rw [HN.out]
            exact ⟨rfl, rfl⟩
          · have HS := Hid.mk' (hcs.out.succ (by have := HY.out; omega) (by have := HY.out; omega))
            have HB : Hid (accI t ((by' t 0 : Int) - 224) (k + 1) = 64 * a + y - 128) := by show _ = _; simp only [accI]; rw [HA.out, HY.out]
            go_wp2
            go_round
            case rel => exact ⟨k + 1, _, by go_num, rfl, by omega, HB, HS⟩
            case measure => simp [intOf]; omega
      · obtain rfl : k = 2 := by omega
        by_cases f1 : a < 2048
        · have HF := Hid.mk' (rpt3_no t hb0.out hb1.out (by rintro ⟨_, _, h, _⟩; rw [HA.out] at h; omega))
          clear hcs
          go_wp2
          go_ret2
          rw [HF.out]
          exact ⟨rfl, rfl⟩
        · by_cases f2 : 55296 ≤ a
          · by_cases f3 : a ≤ 57343
            · have HF := Hid.mk' (rpt3_no t hb0.out hb1.out (by rintro ⟨_, _, _, h⟩; rw [HA.out] at h; exact h ⟨f2, f3⟩))
              clear hcs
              go_wp2
              go_ret2
              rw [HF.out]
              exact ⟨rfl, rfl⟩
            · have HF := Hid.mk' (rpt3_yes t hb0.out hb1.out (by omega) hcs.out (by rw [HA.out]; omega) (by rw [HA.out]; omega))
              clear hcs
              go_wp2
              go_ret2
              exact ⟨ret_pair (by rw [HF.out.1, HA.out]) (by rw [HF.out.2]; rfl), rfl⟩
          · have HF := Hid.mk' (rpt3_yes t hb0.out hb1.out (by omega) hcs.out (by rw [HA.out]; omega) (by rw [HA.out]; omega))
            clear hcs
            go_wp2
            go_ret2
            exact ⟨ret_pair (by rw [HF.out.1, HA.out]) (by rw [HF.out.2]; rfl), rfl⟩

set_option maxHeartbeats 2000000 in
set_option maxRecDepth 100000 in
theorem pt_cls4 (t : ByteArray) (w : World) (ht : (t.size : Int) ≤ 1048576) (hp : 0 < t.size) (hb0 : Hid (240 ≤ by' t 0)) (hb1 : Hid (by' t 0 ≤ 244)) :
    Calls Tryz.prog 76 #[.string t] w fun e w' => e = .returned (.tuple #[.int .i32 (rpt t 0).1, .int .i64 (rpt t 0).2]) ∧ w' = w := by
  have hp' : (0 : Int) < (t.size : Int) := by omega
  obtain ⟨z, hz⟩ : ∃ z : Int, (t[0].toNat : Int) = z := ⟨_, rfl⟩
  have HZ : Hid ((by' t 0 : Int) = z) := by show _ = _; rw [by_get t 0 hp]; exact hz
  have l1 : 240 ≤ z := by have := hb0.out; have := HZ.out; omega
  have l2 : z ≤ 244 := by have := hb1.out; have := HZ.out; omega
  by_cases hlt : (t.size : Int) < 4
  · rw [rpt4_no t hb0.out hb1.out (fun h => absurd h.1 (by omega))]
    go_enter Tryz.func76, Tryz.ntmps76
    go_wp2
    go_ret2
    exact ⟨rfl, rfl⟩
  · go_enter Tryz.func76, Tryz.ntmps76
    go_wp2
    go_loop [6, 7] (fun r i => ∃ (k : Nat) (a : Int), i = .int .i64 ((k : Int) + 1) ∧ r = .int .i32 a ∧ k ≤ 3 ∧ Hid (accI t ((by' t 0 : Int) - 240) k = a) ∧ Hid (Conts t k)) (fun _ i => (4 - intOf i).toNat)
    case atStart => exact ⟨0, _, rfl, rfl, Nat.zero_le _, by show _ = _; rw [HZ.out]; rfl, Conts.zero t⟩
    case round =>
      obtain ⟨k, a, rfl, rfl, hk, HA, hcs⟩ := hrel
      have bd := accI_bd t ((by' t 0 : Int) - 240) (by have := HZ.out; omega) (by have := HZ.out; omega) k (by omega) hcs.out
      rw [HA.out] at bd
      obtain ⟨bd1, bd2⟩ := bd
      by_cases hk2 : k < 3
      · have hkI : (k : Int) < 3 := by omega
        have hks : (k : Int) + 1 < (t.size : Int) := by omega
        have hk0 : (0 : Int) ≤ (k : Int) + 1 := by omega
        obtain ⟨y, hy⟩ : ∃ y : Int, (t[k + 1].toNat : Int) = y := ⟨_, rfl⟩
        have HY : Hid ((by' t (k + 1) : Int) = y) := by show _ = _; rw [by_get t (k + 1) (by omega)]; exact hy
        have y0 : 0 ≤ y := by omega
        have y1 : y < 256 := by have := by_lt t (k + 1); have := HY.out; omega
        by_cases c1 : y < 128
        · have HN := Hid.mk' (rpt4_no t hb0.out hb1.out (fun h => absurd (h.2.1 (k + 1) (by omega) (by omega)) (by have := HY.out; omega)))
          go_wp2
          go_ret2
          rw [HN.out]
          exact ⟨rfl, rfl⟩
        · by_cases c2 : 191 < y
          · have HN := Hid.mk' (rpt4_no t hb0.out hb1.out (fun h => absurd (h.2.1 (k + 1) (by omega) (by omega)) (by have := HY.out; omega)))
            go_wp2
            go_ret2
            rw [HN.out]
            exact ⟨rfl, rfl⟩
          · have HS := Hid.mk' (hcs.out.succ (by have := HY.out; omega) (by have := HY.out; omega))
            have HB : Hid (accI t ((by' t 0 : Int) - 240) (k + 1) = 64 * a + y - 128) := by show _ = _; simp only [accI]; rw [HA.out, HY.out]
            go_wp2
            go_round
            case rel => exact ⟨k + 1, _, by go_num, rfl, by omega, HB, HS⟩
            case measure => simp [intOf]; omega
      · obtain rfl : k = 3 := by omega
        by_cases f1 : a < 65536
        · have HF := Hid.mk' (rpt4_no t hb0.out hb1.out (by rintro ⟨_, _, h, _⟩; rw [HA.out] at h; omega))
          clear hcs
          go_wp2
          go_ret2
          rw [HF.out]
          exact ⟨rfl, rfl⟩
        · by_cases f2 : 1114111 < a
          · have HF := Hid.mk' (rpt4_no t hb0.out hb1.out (by rintro ⟨_, _, _, h⟩; rw [HA.out] at h; omega))
            clear hcs
            go_wp2
            go_ret2
            rw [HF.out]
            exact ⟨rfl, rfl⟩
          · have HF := Hid.mk' (rpt4_yes t hb0.out hb1.out (by omega) hcs.out (by rw [HA.out]; omega) (by rw [HA.out]; omega))
            clear hcs
            go_wp2
            go_ret2
            exact ⟨ret_pair (by rw [HF.out.1, HA.out]) (by rw [HF.out.2]; rfl), rfl⟩

set_option maxHeartbeats 2000000 in
set_option maxRecDepth 100000 in
theorem pt_any (t : ByteArray) (w : World) (ht : (t.size : Int) ≤ 1048576) (hp : 0 < t.size) :
    Calls Tryz.prog 76 #[.string t] w fun e w' => e = .returned (.tuple #[.int .i32 (rpt t 0).1, .int .i64 (rpt t 0).2]) ∧ w' = w := by
  have hp' : (0 : Int) < (t.size : Int) := by omega
  obtain ⟨z, hz⟩ : ∃ z : Int, (t[0].toNat : Int) = z := ⟨_, rfl⟩
  have HZ : Hid ((by' t 0 : Int) = z) := by show _ = _; rw [by_get t 0 hp]; exact hz
  have z0 : 0 ≤ z := by omega
  have z1 : z < 256 := by have := by_lt t 0; have := HZ.out; omega
  by_cases a0 : z < 128
  · rw [rpt_one t (by have := HZ.out; omega)]
    dsimp only
    rw [HZ.out]
    go_enter Tryz.func76, Tryz.ntmps76
    go_wp2
    go_ret2
    exact ⟨rfl, rfl⟩
  · by_cases a1 : z < 194
    · rw [rpt_none t (by have := HZ.out; omega) (by have := HZ.out; omega)]
      go_enter Tryz.func76, Tryz.ntmps76
      go_wp2
      go_ret2
      exact ⟨rfl, rfl⟩
    · by_cases a2 : z ≤ 223
      · exact pt_cls2 t w ht hp (show _ ≤ _ by have := HZ.out; omega) (show _ ≤ _ by have := HZ.out; omega)
      · by_cases a3 : z ≤ 239
        · exact pt_cls3 t w ht hp (show _ ≤ _ by have := HZ.out; omega) (show _ ≤ _ by have := HZ.out; omega)
        · by_cases a4 : z ≤ 244
          · exact pt_cls4 t w ht hp (show _ ≤ _ by have := HZ.out; omega) (show _ ≤ _ by have := HZ.out; omega)
          · rw [rpt_none t (by have := HZ.out; omega) (by have := HZ.out; omega)]
            go_enter Tryz.func76, Tryz.ntmps76
            go_wp2
            go_ret2
            exact ⟨rfl, rfl⟩

end Go.Proofs.YtbkkkpfoaggejaaGreatDoor

namespace Go.Proofs.YtbkkkpfoaggejaaGreatDoor
set_option linter.unusedVariables false
open Go.RowKit

set_option maxHeartbeats 400000 in
set_option maxRecDepth 100000 in
theorem rpoint_bad (r : Int) (h : r < 0 ∨ 1114111 < r) (w : World) :
    Calls Tryz.prog 77 #[.int .i32 r] w fun e w' => e = .returned (.slice none 0 0) ∧ w' = w := by
  rcases h with h | h
  · go_enter Tryz.func77, Tryz.ntmps77
    go_wp2
    go_ret
    exact ⟨rfl, rfl⟩
  · have h' : ¬ r < 0 := by omega
    go_enter Tryz.func77, Tryz.ntmps77
    go_wp2
    go_ret
    exact ⟨rfl, rfl⟩

set_option maxHeartbeats 400000 in
set_option maxRecDepth 100000 in
theorem rpoint_one (r : Int) (h0 : 0 ≤ r) (h1 : r < 65536) (w : World) :
    Calls Tryz.prog 77 #[.int .i32 r] w fun e w' => e = .returned (.slice (some ⟨w.heap.size, 0, none⟩) 1 1) ∧ w' = w.alloc (.cells #[.int .u16 r] 110) := by
  go_enter Tryz.func77, Tryz.ntmps77
  go_wp2
  go_ret
  exact ⟨rfl, rfl⟩

set_option maxHeartbeats 400000 in
set_option maxRecDepth 100000 in
theorem rpoint_two (r : Int) (h0 : 65536 ≤ r) (h1 : r ≤ 1114111) (w : World) :
    Calls Tryz.prog 77 #[.int .i32 r] w fun e w' => e = .returned (.slice (some ⟨w.heap.size, 0, none⟩) 2 2) ∧ w' = w.alloc (.cells #[.int .u16 (55296 + (r - 65536) / 1024), .int .u16 (56320 + (r - 65536) % 1024)] 110) := by
  go_enter Tryz.func77, Tryz.ntmps77
  go_wp2
  go_ret
  exact ⟨rfl, rfl⟩

/-- lintelref01.Point at a code point: a slice of its units, in memory of its own. -/
theorem rpoint_any (r : Nat) (h : r ≤ 1114111) (w : World) :
    Calls Tryz.prog 77 #[.int .i32 r] w fun e w' => e = .returned (.slice (some ⟨w.heap.size, 0, none⟩) (pu r).length (pu r).length) ∧ w' = w.alloc (.cells (u16c (pu r)).toArray 110) := by
  by_cases h1 : r < 65536
  · rw [show pu r = [r] from by simp [pu, h1]]
    exact rpoint_one r (by omega) (by omega) w
  · rw [show pu r = [55296 + (r - 65536) / 1024, 56320 + (r - 65536) % 1024] from by simp [pu, h1]]
    have e1 : ((55296 + (r - 65536) / 1024 : Nat) : Int) = 55296 + ((r : Int) - 65536) / 1024 := by omega
    have e2 : ((56320 + (r - 65536) % 1024 : Nat) : Int) = 56320 + ((r : Int) - 65536) % 1024 := by omega
    have := rpoint_two r (by omega) (by omega) w
    rw [← e1, ← e2] at this
    exact this

end Go.Proofs.YtbkkkpfoaggejaaGreatDoor

namespace Go.Proofs.YtbkkkpfoaggejaaGreatDoor
set_option linter.unusedVariables false
open Go.RowKit

theorem by_extract (s : ByteArray) (i k : Nat) (h : i ≤ s.size) : by' (s.extract i s.size) k = by' s (i + k) := by
  unfold by'
  rw [ByteArray.data_extract, Array.toList_extract, List.extract_eq_take_drop]
  have hl : s.data.toList.length = s.size := by simp
  by_cases hk : i + k < s.size
  · rw [List.getD_eq_getElem?_getD, List.getD_eq_getElem?_getD, List.getElem?_take, if_pos (by omega), List.getElem?_drop]
  · rw [List.getD_eq_getElem?_getD, List.getD_eq_getElem?_getD, List.getElem?_eq_none (by rw [List.length_take, List.length_drop]; omega), List.getElem?_eq_none (by omega)]
theorem size_tail (s : ByteArray) (i : Nat) : (s.extract i s.size).size = s.size - i := by simp
theorem rpt_tail (s : ByteArray) (i : Nat) (h : i ≤ s.size) : rpt (s.extract i s.size) 0 = rpt s i := by
  unfold rpt
  rw [size_tail, by_extract _ _ _ h, by_extract _ _ _ h, by_extract _ _ _ h, by_extract _ _ _ h]
  simp

theorem Rd.of_own {w : World} {B : Nat} {v : Value} {us : List Nat} (h : w.ownsRow B 110 1 v us.length (u16c us)) : Rd w v us := by
  rcases h.2 with ⟨rfl, h0⟩ | ⟨g, cap, cur, rfl, hb, hg, _⟩
  · obtain rfl : us = [] := by simpa using h0
    exact .inl ⟨0, rfl, rfl⟩
  · refine .inr ⟨g, 0, cap, rfl, (Array.getElem?_eq_some_iff.1 hg).1, fun j hj => ?_⟩
    rw [Nat.zero_add]
    refine own_cell h ?_
    simp [u16c, hj]
set_option maxHeartbeats 1000000 in
set_option maxRecDepth 100000 in
theorem rof_any (s : ByteArray) (w : World) (hs : (s.size : Int) ≤ 524288) :
    Calls Tryz.prog 54 #[.string s] w fun e w' => e = ofEnd (ofS s) ∧ Below w.heap.size w w' := by
  obtain ⟨i0, hi, hz0, hz1, hz2⟩ := info_parts info16
  go_enter Tryz.func54, Tryz.ntmps54
  go_wp2
  go_loopw [5, 6] (fun v c wr => ∃ (pos fuel : Nat) (us : List Nat), c = .int .i64 pos ∧ wr.ownsRow w.heap.size 110 1 v us.length (u16c us) ∧ Below w.heap.size w wr ∧ Hid (ofFrom s fuel (mkB us) pos = ofS s) ∧ s.size ≤ pos + fuel ∧ us.length ≤ 2 * pos ∧ pos ≤ s.size ∧ Hid (∀ u ∈ us, u < 65536)) (fun _ c _ => s.size - (intOf c).toNat)
  case atStart => exact ⟨0, s.size, [], rfl, World.ownsRow_nil _ _ _ _, Below.refl _ _, Hid.mk' rfl, by omega, by simp, by omega, fun u hu => by cases hu⟩
  case round =>
    obtain ⟨pos, fuel, us, rfl, hown, hbw, HR, hfu, hal, hps, hu⟩ := hrel
    have hBW : w.heap.size ≤ wr.heap.size := hbw.size
    by_cases hp : pos < s.size
    · have hp' : (pos : Int) < (s.size : Int) := by omega
      obtain ⟨f, rfl⟩ : ∃ f, fuel = f + 1 := ⟨fuel - 1, by omega⟩
      have ht : ((s.extract pos s.size).size : Int) ≤ 1048576 := by rw [size_tail]; omega
      have HT := Hid.mk' (fun W => pt_any (s.extract pos s.size) W ht (by rw [size_tail]; omega))
      rw [rpt_tail s pos (by omega)] at HT
      clear ht
      cases hb : bad s pos
      · rw [rpt_good s pos hp hb] at HT
        have hwd := Lib.decode_width_pos s pos hp
        have hd1 := decode_max s pos
        have hfit := decode_fit s pos hp
        have HR2 : Hid (ofFrom s (f + 1) (mkB us) pos = ofFrom s f (mkB us ++ pb (Utf8.decode s pos).1) (pos + (Utf8.decode s pos).2)) := by
          show _ = _
          simp only [ofFrom, if_pos hp, hb]; rfl
        obtain ⟨r, hr⟩ : ∃ r, (Utf8.decode s pos).1 = r := ⟨_, rfl⟩
        obtain ⟨d, hd⟩ : ∃ d, (Utf8.decode s pos).2 = d := ⟨_, rfl⟩
        rw [hr, hd] at HR2 HT
        rw [hr] at hd1
        rw [hd] at hwd hfit
        clear hr hd hb
        have HP := Hid.mk' (fun W => rpoint_any r hd1 W)
        have HL := Hid.mk' (pu_lt r hd1)
        have hd0 : ((d : Int) == 0) = false := by simp; omega
        have hpl := pu_length r
        clear hd1
        go_wp2_with (first | (go_at_call 76; refine (HT.out _).mono ?_; rintro e w1 ⟨rfl, hw1⟩; rw [hw1]; clear hw1 w1) | (go_at_call 77; refine (HP.out _).mono ?_; rintro e w1 ⟨rfl, hw1⟩; rw [hw1]; clear hw1 w1) | (at_builtin; refine wpList_append_own _ rfl _ _ 87 rfl w.heap.size 110 i0 (.int .u16 0) 1 2 Tryz.underlying87 hi hz0 hz1 hz2 rfl (by decide) _ _ _ rfl (hown.alloc _) ⟨wr.heap.size, 0, none⟩ (pu r).length (pu r).length (u16c (pu r)) rfl (by rw [u16c_length, Nat.mul_one]) (cells_new _ _ _) (oneCell_u16c _) (by unfold maxLen; omega) (by omega) (by simp; omega) ?_; intro v1 w1 o1 g1 _))
        have k1 := kept_append hown (grown_of_alloc g1) hBW
        clear g1
        go_wp2
        go_roundw
        case rel =>
          refine ⟨pos + d, f, us ++ pu r, by go_num, ?_, hbw.trans k1.1, ?_, by omega, ?_, hfit, ?_⟩
          · rw [List.length_append, u16c_append]; exact o1
          · show _ = _; rw [mkB_append, ← pb_pu, ← HR2.out, HR.out]
          · rw [List.length_append]; omega
          · intro u h; rcases List.mem_append.1 h with h | h
            · exact hu.out u h
            · exact HL.out u h
        case measure => simp [intOf]; omega
      · rw [rpt_bad s pos hp hb] at HT
        have HR2 : Hid (ofFrom s (f + 1) (mkB us) pos = .error pos) := by
          show _ = _
          simp only [ofFrom, if_pos hp, hb]; rfl
        clear hb
        go_wp2_with (first | (go_at_call 76; refine (HT.out _).mono ?_; rintro e w1 ⟨rfl, hw1⟩; rw [hw1]; clear hw1 w1))
        go_ret3
        rw [← HR.out, HR2.out]
        exact ⟨rfl, hbw⟩
    · have HR2 := Hid.mk' (ofFrom_end s fuel pos (mkB us) hp)
      have HM := Hid.mk' (rmake_any us hu.out (by omega) _ wr (Rd.of_own hown))
      go_wp2_with (go_at_call 78; refine HM.out.mono ?_; rintro e w1 ⟨rfl, b1⟩)
      go_ret3
      rw [← HR.out, HR2.out]
      exact ⟨rfl, hbw.trans (b1.mono hBW)⟩

end Go.Proofs.YtbkkkpfoaggejaaGreatDoor
