/- The chapter's examples: lex.Scan at three sources. -/
import Derived.Test.YtopdogpcachonaaGreatDoorLEx
import Derived.Test.YtopdogpcachonaaGreatDoorLSc
namespace Go.Proofs.YtopdogpcachonaaGreatDoor
set_option linter.unusedVariables false
open Go.RowKit Go.Shelf

abbrev S1 : ByteArray := ⟨#[97, 10, 43, 61, 49, 46, 53]⟩
abbrev S2 : ByteArray := ⟨#[96, 120, 36, 123, 32, 123, 125, 32, 125, 121, 96]⟩
abbrev S3 : ByteArray := ⟨#[97, 32, 35]⟩
def ks : List Int → List (Tk × Int) → Prop := fun l ts => ts.map (fun x => x.1.kind) = l
theorem of1 : ofS S1 = .ok [0, 97, 0, 10, 0, 43, 0, 61, 0, 49, 0, 46, 0, 53] := by kernel_rfl
theorem of2 : ofS S2 = .ok [0, 96, 0, 120, 0, 36, 0, 123, 0, 32, 0, 123, 0, 125, 0, 32, 0, 125, 0, 121, 0, 96] := by kernel_rfl
theorem of3 : ofS S3 = .ok [0, 97, 0, 32, 0, 35] := by kernel_rfl
def T1 : List (Tk × Int) := [(⟨1, S1.extract 0 1, ⟨#[]⟩, 0, 0, 1, false⟩, 0), (⟨3, ⟨#[43, 61]⟩, ⟨#[]⟩, 0, 2, 4, true⟩, 0), (⟨4, ⟨#[]⟩, ⟨#[]⟩, 4609434218613702656, 4, 7, false⟩, 0), (⟨0, ⟨#[]⟩, ⟨#[]⟩, 0, 7, 7, false⟩, 0)]
def T2 : List (Tk × Int) := [(⟨7, ⟨#[]⟩, ⟨(pb 120).toArray⟩, 0, 0, 4, false⟩, 0), (⟨3, ⟨#[123]⟩, ⟨#[]⟩, 0, 5, 6, false⟩, 0), (⟨3, ⟨#[125]⟩, ⟨#[]⟩, 0, 6, 7, false⟩, 0), (⟨9, ⟨#[]⟩, ⟨(pb 121).toArray⟩, 0, 8, 11, false⟩, 0), (⟨0, ⟨#[]⟩, ⟨#[]⟩, 0, 11, 11, false⟩, 0)]
def T3 : List (Tk × Int) := [(⟨1, S3.extract 0 1, ⟨#[]⟩, 0, 0, 1, false⟩, 0), (⟨0, ⟨#[]⟩, ⟨#[]⟩, 0, 2, 0, false⟩, 50)]
theorem gap0 (S : ByteArray) (a : Nat) (h1 : a ≤ S.size) (h2 : stp S a = true) : Gap S a 0 := ⟨h1, fun j hj => absurd hj (Nat.not_lt_zero j), h2⟩
theorem gap1 (S : ByteArray) (a : Nat) (h1 : a + 1 ≤ S.size) (h0 : blk' S a = true) (h2 : stp S (a + 1) = true) : Gap S a 1 := by
  refine ⟨h1, fun j hj => ?_, h2⟩
  obtain rfl : j = 0 := by omega
  exact h0
theorem no4 (R : ByteArray) (m k : Nat) (h : ((List.range (m + 1)).all fun j => decide (j ≤ k) || !signB (R.extract 0 j)) = true) : ∀ j, k < j → j ≤ m → signB (R.extract 0 j) = false := fun j h1 h2 => by
  have q := List.all_eq_true.1 h j (List.mem_range.2 (by omega))
  rw [show decide (j ≤ k) = false from decide_eq_false (by omega), Bool.false_or] at q
  simpa using q
theorem run1 (w0 : World) (hl : LaidN w0) : Run w0 S1 true 0 0 [] T1 :=
  .more (nx_name (k0 := 0) 1 (gap0 S1 0 (by decide) (by decide +kernel)) (by decide) (by decide) (by decide) (by decide +kernel) (by decide +kernel)) (by decide) (by decide) (by decide)
  (.more (nx_sign (k0 := 1) 2 4 ⟨#[43, 61]⟩ 43 (gap1 S1 1 (by decide) (by decide +kernel) (by decide +kernel)) (by decide) (by decide) (by decide) (by decide +kernel) (by decide +kernel) (by decide +kernel) (by decide +kernel) (no4 _ 4 2 (by decide +kernel)) rfl rfl rfl rfl rfl rfl rfl (by decide +kernel) (by decide +kernel)) (by decide) (by decide) (by decide)
  (.more (nx_num (k0 := 0) (gap0 S1 4 (by decide) (by decide +kernel)) (by decide) hl (by decide) rfl) (by decide) (by decide) (by decide)
  (.last (nx_end (k0 := 0) (gap0 S1 7 (by decide) (by decide +kernel)) (by decide) rfl) (.inr rfl))))
theorem run3 (w0 : World) : Run w0 S3 true 0 0 [] T3 :=
  .more (nx_name (k0 := 0) 1 (gap0 S3 0 (by decide) (by decide +kernel)) (by decide) (by decide) (by decide) (by decide +kernel) (by decide +kernel)) (by decide) (by decide) (by decide)
  (.last (nx_none (k0 := 1) 1 35 (gap1 S3 1 (by decide) (by decide +kernel) (by decide +kernel)) (by decide) (by decide) (by decide +kernel) (by decide +kernel) (by decide +kernel) (no4 _ 1 0 (by decide +kernel)) rfl rfl rfl rfl rfl rfl) (.inl (by decide)))
theorem pcx : Pc S2 1 120 2 120 ⟨#[36, 123]⟩ false true := ⟨by decide, by decide +kernel, by decide, rfl, by decide +kernel, by decide +kernel, rfl, by decide, rfl, rfl, rfl, by decide, by decide, by decide +kernel, by decide +kernel, rfl⟩
theorem pcy : Pc S2 9 121 1 121 ⟨#[96]⟩ true false := ⟨by decide, by decide +kernel, by decide, rfl, by decide +kernel, by decide +kernel, rfl, by decide, rfl, rfl, rfl, by decide, by decide, by decide +kernel, by decide +kernel, rfl⟩
theorem run2 (w0 : World) : Run w0 S2 true 0 0 [] T2 :=
  .more (nx_head (k0 := 0) (gap0 S2 0 (by decide) (by decide +kernel)) pcx (by decide) (by decide +kernel) (by decide +kernel) (by decide +kernel)) (by decide) (by decide) (by decide)
  (.more (nx_open (k0 := 1) 1 4 0 (gap1 S2 4 (by decide) (by decide +kernel) (by decide +kernel)) (by decide) (by decide) (by decide) (by decide +kernel) (by decide +kernel) (by decide +kernel) (by decide +kernel) (no4 _ 4 1 (by decide +kernel)) rfl (by decide)) (by decide) (by decide) (by decide)
  (.more (nx_shut (k0 := 0) 1 4 1 (gap0 S2 6 (by decide) (by decide +kernel)) (by decide) (by decide) (by decide) (by decide +kernel) (by decide +kernel) (by decide +kernel) (by decide +kernel) (no4 _ 4 1 (by decide +kernel)) rfl (by decide) rfl) (by decide) (by decide) (by decide)
  (.more (nx_tail (k0 := 1) (gap1 S2 7 (by decide) (by decide +kernel) (by decide +kernel)) pcy (by decide) (by decide +kernel) (by decide +kernel) (by decide +kernel)) (by decide) (by decide) (by decide)
  (.last (nx_end (k0 := 0) (gap0 S2 11 (by decide) (by decide +kernel)) (by decide) rfl) (.inr rfl)))))
theorem scan1 (w : World) (hl : LaidN w) : Calls Tryz.prog 8 #[.string S1] w fun e w' => (∃ v, e = .returned (.tuple #[v, .int .i64 0, .int .i64 0]) ∧ w'.ownsRow w.heap.size 31 7 v 4 (flat T1)) ∧ Below w.heap.size w w' :=
  (scan_any S1 _ T1 w (by decide) of1 (run1 w hl) (by decide)).mono (by
    rintro e w' ⟨⟨v, h1, _, h2⟩ | ⟨x, q, h1, h2, _⟩, hb⟩
    · exact ⟨⟨v, h1, h2⟩, hb⟩
    · exact absurd (h1.subset (List.mem_append_right q (List.mem_singleton.2 rfl))) (fun hm => h2 (by simp [T1] at hm; rcases hm with rfl | rfl | rfl | rfl <;> rfl)))
theorem scan2 (w : World) : Calls Tryz.prog 8 #[.string S2] w fun e w' => (∃ v, e = .returned (.tuple #[v, .int .i64 0, .int .i64 0]) ∧ w'.ownsRow w.heap.size 31 7 v 5 (flat T2)) ∧ Below w.heap.size w w' :=
  (scan_any S2 _ T2 w (by decide) of2 (run2 w) (by decide)).mono (by
    rintro e w' ⟨⟨v, h1, _, h2⟩ | ⟨x, q, h1, h2, _⟩, hb⟩
    · exact ⟨⟨v, h1, h2⟩, hb⟩
    · exact absurd (h1.subset (List.mem_append_right q (List.mem_singleton.2 rfl))) (fun hm => h2 (by simp [T2] at hm; rcases hm with rfl | rfl | rfl | rfl | rfl <;> rfl)))
theorem scan3 (w : World) : Calls Tryz.prog 8 #[.string S3] w fun e w' => e = .returned (.tuple #[.slice none 0 0, .int .i64 2, .int .i64 50]) ∧ Below w.heap.size w w' :=
  (scan_any S3 _ T3 w (by decide) of3 (run3 w) (by decide)).mono (by
    rintro e w' ⟨⟨v, h1, h2, _⟩ | ⟨x, q, h1, h2, h3⟩, hb⟩
    · exact absurd (h2 (⟨0, ⟨#[]⟩, ⟨#[]⟩, 0, 2, 0, false⟩, 50) (by simp [T3])) (by decide)
    · refine ⟨?_, hb⟩
      have hm := h1.subset (List.mem_append_right q (List.mem_singleton.2 rfl))
      simp [T3] at hm
      rcases hm with rfl | rfl
      · exact absurd rfl h2
      · exact h3)
end Go.Proofs.YtopdogpcachonaaGreatDoor
