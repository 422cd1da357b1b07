/- CheckGuards: the small functions of the law, the plain half. -/
import Derived.Test.YtcagfjogfbddeaaDoorChS
import Derived.Test.YtcagfjogfbddeaaDoorCdV
import Derived.Lib.OthersKept
namespace Go.Proofs.YtcagfjogfbddeaaDoor
set_option linter.unusedVariables false
set_option linter.unusedSimpArgs false
open Go.RowKit Go.Shelf

set_option maxHeartbeats 400000 in
theorem ends_any (w : World) (z : Int) : Calls Tryd.prog 16 #[.int .i64 z] w fun e w' => e = .returned (.bool (leaB z)) ∧ w' = w := by
  unfold leaB
  go_enter Tryd.func16, Tryd.ntmps16
  go_wp2
  all_goals
    go_ret
    exact ⟨by first | rfl | (simp_all; done) | (simp; intros; omega) | (simp_all; intros; omega), rfl⟩
set_option maxHeartbeats 400000 in
theorem rargs_any (w : World) (o a b c d : Int) : Calls Tryd.prog 27 #[.agg #[.int .i64 o, .int .i64 a, .int .i64 b, .int .i64 c, .int .i64 d]] w fun e w' => ∃ n, e = .returned (.slice (some ⟨n, 0, none⟩) 4 4) ∧ w'.heap[n]? = some (.cells #[.int .i64 a, .int .i64 b, .int .i64 c, .int .i64 d] 3 (0, 0)) ∧ Below w.heap.size w w' := by
  go_enter Tryd.func27, Tryd.ntmps27
  go_wp2
  go_ret
  exact ⟨_, rfl, at_new (by simp), (lay_below).alloc (by simp) _⟩

/-- What a function that is taken keeps to. -/
structure Grd (nf : Nat) (f : Fun) : Prop where
  pos : 0 < f.code.length
  last : leaB (insAt f (f.code.length - 1)).op = true
  regs : f.params ≤ f.regs
  rlow : f.regs ≤ 4000
  ins : ∀ j (h : j < f.code.length), 0 ≤ (f.code[j]).op ∧ (f.code[j]).op ≤ 70 ∧ ∀ k, k < (letsOf (f.code[j]).op.toNat).length → k < 4 ∧ opnB nf f ((letsOf (f.code[j]).op.toNat).getD k 0) (opx (f.code[j]) k) = true
theorem grd_of {fs : List Fun} {n : Nat} {f : Fun} (h : fnP fs n f = none) : Grd fs.length f := by
  obtain ⟨h1, h2, h3⟩ := fnP_none h
  have hall := fw_all.1 h2
  have hh : headB f = true := by
    simp only [Bool.or_eq_false_iff] at h1
    simpa using h1.1
  unfold headB at hh
  simp only [Bool.and_eq_true, Bool.not_eq_true', Bool.or_eq_false_iff, decide_eq_false_iff_not] at hh
  obtain ⟨⟨r1, r2⟩, ⟨⟨p1, p2⟩, p3⟩, p4⟩ := hh
  have hp : 0 < f.code.length := by omega
  refine ⟨hp, ?_, ?_, by omega, fun j hj => ?_⟩
  · have := hall (f.code.length - 1) (by omega)
    unfold insB at this
    simp only [Bool.and_eq_true, Bool.not_eq_true', Bool.and_eq_false_iff, decide_eq_false_iff_not, Bool.not_eq_false'] at this
    rcases this.2.2.2 with h | h
    · omega
    · exact h
  · split at p2 <;> omega
  · have hi := hall j hj
    have e : insAt f j = f.code[j] := by simp [insAt, List.getD_eq_getElem?_getD, List.getElem?_eq_getElem hj]
    rw [e] at hi
    generalize f.code[j] = i at hi
    unfold insB at hi
    simp only [Bool.and_eq_true, Bool.not_eq_true'] at hi
    obtain ⟨h0, ho, _⟩ := hi
    by_cases hr : 0 ≤ i.op ∧ i.op ≤ 70
    · have el : letz i.op = letsOf i.op.toNat := by unfold letz; rw [if_pos hr]
      have hl4 : (letsOf i.op.toNat).length ≤ 4 := by rw [← el]; exact letz_len _
      rw [el] at ho
      refine ⟨hr.1, hr.2, fun k hk => ⟨by omega, ?_⟩⟩
      unfold opsB at ho
      simp only [Bool.and_eq_true] at ho
      obtain ⟨⟨⟨o0, o1⟩, o2⟩, o3⟩ := ho
      have : k = 0 ∨ k = 1 ∨ k = 2 ∨ k = 3 := by omega
      rcases this with rfl | rfl | rfl | rfl
      · unfold opkB at o0; rwa [if_pos hk] at o0
      · unfold opkB at o1; rwa [if_pos hk] at o1
      · unfold opkB at o2; rwa [if_pos hk] at o2
      · unfold opkB at o3; rwa [if_pos hk] at o3
    · have el : letz i.op = [] := by unfold letz; rw [if_neg hr]
      rw [el] at h0
      simp at h0
/-- An operand that is right, by its letter. -/
theorem opn_cases {nf : Nat} {f : Fun} {c : UInt8} {n : Int} (h : opnB nf f c n = true) :
    0 ≤ n ∧ ((c = 114 ∧ n < f.regs) ∨ ((c = 107 ∨ c = 115) ∧ n < f.consts.length) ∨ (c = 110 ∧ n < 2147483648) ∨ (c = 116 ∧ n < f.code.length) ∨ (c = 102 ∧ n < nf) ∨ (c = 117 ∧ n < f.caps.length)) := by
  unfold opnB regB cstB txtB numB tgtB madB capB at h
  by_cases h1 : c = 114
  · rw [if_pos h1] at h; simp at h; exact ⟨h.1, .inl ⟨h1, h.2⟩⟩
  rw [if_neg h1] at h
  by_cases h2 : c = 107
  · rw [if_pos h2] at h; simp at h; exact ⟨h.1, .inr (.inl ⟨.inl h2, h.2⟩)⟩
  rw [if_neg h2] at h
  by_cases h3 : c = 115
  · rw [if_pos h3] at h; unfold cstB at h; simp at h; exact ⟨h.1.1, .inr (.inl ⟨.inr h3, h.1.2⟩)⟩
  rw [if_neg h3] at h
  by_cases h4 : c = 110
  · rw [if_pos h4] at h; simp at h; exact ⟨h.1, .inr (.inr (.inl ⟨h4, by omega⟩))⟩
  rw [if_neg h4] at h
  by_cases h5 : c = 116
  · rw [if_pos h5] at h; simp at h; exact ⟨h.1, .inr (.inr (.inr (.inl ⟨h5, h.2⟩)))⟩
  rw [if_neg h5] at h
  by_cases h6 : c = 102
  · rw [if_pos h6] at h; simp at h; exact ⟨by omega, .inr (.inr (.inr (.inr (.inl ⟨h6, h.2⟩))))⟩
  rw [if_neg h6] at h
  by_cases h7 : c = 117
  · rw [if_pos h7] at h; simp at h; exact ⟨h.1, .inr (.inr (.inr (.inr (.inr ⟨h7, h.2⟩))))⟩
  rw [if_neg h7] at h
  cases h
end Go.Proofs.YtcagfjogfbddeaaDoor
