/- A card's function becomes one in memory; the module of one function. -/
import Derived.Test.YtcagfjogfbddeaaDoorChU
namespace Go.Proofs.YtcagfjogfbddeaaDoor
set_option linter.unusedVariables false
set_option linter.unusedSimpArgs false
open Go.RowKit Go.Lib Go.ChangeShapes Go.WideShapes

section
variable {H : Type} {enc : TypeId × Value → H} {W : World}
set_option maxRecDepth 100000 in
theorem down_fn {base : Nat} {v : Value} {d : DataW H} {p : List MemPlace} (hval : Value.okWide Tryd.prog W .any base 28 v) (h : DataW.Trod enc Tryd.prog W 0 (fun _ => true) true 28 v d p) (hw : ∀ n ∈ DataW.weights Tryd.prog 28 d, n ≤ reachBytes) :
    ∃ q : FW, v = .agg q.cs.toArray ∧ q.rd W ∧ Fine' q.f := by
  obtain ⟨cs, rfl, _⟩ := okWide_struct Tryd.underlying28 hval
  obtain ⟨fuel, hf⟩ := h
  have hf' : DataW.trod enc Tryd.prog W 0 (fun _ => true) true fuel 28 cs.toList = some (d, p) := hf
  obtain ⟨q, e, h1, h2⟩ := one_fun fuel cs.toList (d, p) hf' hw
  refine ⟨q, ?_, h1, h2⟩
  rw [← e]
end
/-- One function in a row of its own is a module. -/
theorem Md.one {w : World} {g c : Nat} {q : FW} (hc : 1 ≤ c) (hb : c * (9 * 8) ≤ 140737488351232) (hg : w.heap[g]? = some (.cells q.cs.toArray 28 (0, 0))) (hr : q.rd w) (hf : Fine' q.f) : Md w (some ⟨g, 0, none⟩) c [q] := by
  refine ⟨⟨hc, hb, (fun e => by cases e), .inr ⟨g, 0, rfl, (Array.getElem?_eq_some_iff.1 hg).1, fun j hj k u hk hu => ?_⟩⟩, fun x hx => by rw [List.mem_singleton.1 hx]; exact hr, fun x hx => by rw [List.mem_singleton.1 hx]; exact hf⟩
  obtain rfl : j = 0 := by simp at hj; omega
  rw [show (0 + 0 * 9 + k) = k by omega]
  exact (cell_row _ _ k _ _ hg).trans (by simpa using hu)
end Go.Proofs.YtcagfjogfbddeaaDoor
