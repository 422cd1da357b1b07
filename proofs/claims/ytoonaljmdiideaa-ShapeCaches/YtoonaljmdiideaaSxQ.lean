/- Questions of caches are compared. -/
import Derived.Test.YtoonaljmdiideaaSTc
import Derived.Laws.StructEq
namespace Go.Proofs.Ytoonaljmdiideaa
set_option linter.unusedVariables false
set_option linter.unusedSimpArgs false
open Go.RowKit
theorem keyFields : ∃ f0 f1 : Field, (Try.prog.fieldsOf 31).toList = [f0, f1] ∧ (f0.name ≠ "_" ∧ f0.type = 29 ∧ f0.offset = 0) ∧ (f1.name ≠ "_" ∧ f1.type = 3 ∧ f1.offset = 1) := by
  unfold Program.fieldsOf
  rw [Try.underlying31]
  exact ⟨_, _, rfl, ⟨by decide, rfl, rfl⟩, ⟨by decide, rfl, rfl⟩⟩
theorem questionFields : ∃ f0 f1 f2 : Field, (Try.prog.fieldsOf 105).toList = [f0, f1, f2] ∧ (f0.name ≠ "_" ∧ f0.type = 25 ∧ f0.offset = 0) ∧ (f1.name ≠ "_" ∧ f1.type = 3 ∧ f1.offset = 1) ∧ (f2.name ≠ "_" ∧ f2.type = 31 ∧ f2.offset = 2) := by
  unfold Program.fieldsOf
  rw [Try.underlying105]
  exact ⟨_, _, _, rfl, ⟨by decide, rfl, rfl⟩, ⟨by decide, rfl, rfl⟩, ⟨by decide, rfl, rfl⟩⟩
set_option maxRecDepth 100000 in
theorem eqQ (g : Nat) (s1 s2 z1 z2 : Int) (n1 n2 : ByteArray) (W : World) : (Op.equalIn 10000 105 (.agg #[.pointer (some ⟨g, 0, none⟩), .int .i64 s1, .string n1, .int .i64 z1]) (.agg #[.pointer (some ⟨g, 0, none⟩), .int .i64 s2, .string n2, .int .i64 z2])).run Try.prog W = .ok (s1 == s2 && (n1.toList == n2.toList && z1 == z2)) W := by
  have hp : ∀ d, (Op.equalIn (d + 1) 25 (.pointer (some ⟨g, 0, none⟩)) (.pointer (some ⟨g, 0, none⟩))).run Try.prog W = .ok true W := fun d => by
    simp [Op.equalIn, run_underlying Try.underlying25, Try.sizeOf68, run_sameAddr_same]
  have hi : ∀ d (a b : Int), (Op.equalIn (d + 1) 3 (.int .i64 a) (.int .i64 b)).run Try.prog W = .ok (a == b) W := fun d a b => run_equalIn_int W d 3 .i64 .i64 a b Try.underlying3
  have hs : ∀ d (a b : ByteArray), (Op.equalIn (d + 1) 29 (.string a) (.string b)).run Try.prog W = .ok (a.toList == b.toList) W := fun d a b => run_equalIn_string W d 29 a b Try.underlying29
  have hk : ∀ d, (Op.equalIn (d + 2) 31 (.agg #[.string n1, .int .i64 z1]) (.agg #[.string n2, .int .i64 z2])).run Try.prog W = .ok (n1.toList == n2.toList && z1 == z2) W := fun d => by
    rw [run_equalIn_struct W (d + 1) 31 _ _ (by kernel_rfl) (by kernel_rfl)]
    obtain ⟨f0, f1, hf, ⟨a1, a2, a3⟩, ⟨b1, b2, b3⟩⟩ := keyFields
    rw [hf]
    simp [Op.eqFields, a1, a2, a3, b1, b2, b3, part, sizeOf, typeInfo, Try.sizeOf29, Try.sizeOf3, hi, hs, Result.andThen]
    by_cases h1 : n1.toList = n2.toList <;> by_cases h2 : z1 = z2 <;> simp [h1, h2]
  rw [run_equalIn_struct W 9999 105 _ _ (by kernel_rfl) (by kernel_rfl)]
  obtain ⟨f0, f1, f2, hf, ⟨a1, a2, a3⟩, ⟨b1, b2, b3⟩, ⟨c1, c2, c3⟩⟩ := questionFields
  rw [hf]
  simp [Op.eqFields, a1, a2, a3, b1, b2, b3, c1, c2, c3, part, hp 9998, hi 9998, hk 9997, Result.andThen]
  by_cases h0 : s1 = s2 <;> by_cases h1 : n1.toList = n2.toList <;> by_cases h2 : z1 = z2 <;> simp [h0, h1, h2]
theorem toList_inj {a b : ByteArray} (h : a.toList = b.toList) : a = b := by
  rw [ByteArray.toList_eq, ByteArray.toList_eq] at h
  exact ByteArray.ext (Array.toList_inj.1 h)
theorem neqQ_same (g : Nat) (s z : Int) (n : ByteArray) (W : World) : (binOp .neq 105 (.agg #[.pointer (some ⟨g, 0, none⟩), .int .i64 s, .string n, .int .i64 z]) (.agg #[.pointer (some ⟨g, 0, none⟩), .int .i64 s, .string n, .int .i64 z])).run Try.prog W = .ok (.bool false) W := by
  rw [run_neq_struct, eqQ]
  simp [Result.andThen]
theorem neqQ_other (g : Nat) (s1 s2 z1 z2 : Int) (n1 n2 : ByteArray) (W : World) (h : ¬ (s1 = s2 ∧ n1 = n2 ∧ z1 = z2)) : (binOp .neq 105 (.agg #[.pointer (some ⟨g, 0, none⟩), .int .i64 s1, .string n1, .int .i64 z1]) (.agg #[.pointer (some ⟨g, 0, none⟩), .int .i64 s2, .string n2, .int .i64 z2])).run Try.prog W = .ok (.bool true) W := by
  have e : (s1 == s2 && (n1.toList == n2.toList && z1 == z2)) = false := by
    apply Bool.eq_false_iff.2
    intro hb
    simp only [Bool.and_eq_true, beq_iff_eq] at hb
    exact h ⟨hb.1, toList_inj hb.2.1, hb.2.2⟩
  rw [run_neq_struct, eqQ, e]
  simp [Result.andThen]
end Go.Proofs.Ytoonaljmdiideaa
