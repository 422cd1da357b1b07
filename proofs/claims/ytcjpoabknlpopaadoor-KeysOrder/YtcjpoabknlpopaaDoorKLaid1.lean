/- A key as an argument. -/
import Derived.Test.YtcjpoabknlpopaaDoorKLaid0
namespace Go.Proofs.YtcjpoabknlpopaaDoor
set_option linter.unusedVariables false
open Go.RowKit Go.Lib Go.ChangeShapes Go.WideShapes Go.ChangeAt
open Go.ChangeMaps (open_string shut_string)

set_option maxRecDepth 100000 in
/-- A key that came in. -/
theorem down_key {H : Type} {enc : TypeId × Value → H} {W : World} {base : Nat} {v : Value} {d : DataW H} {p : List MemPlace} (hval : Value.okWide Tryd.prog W .any base 25 v) (h : DataW.Trod enc Tryd.prog W 0 (fun _ => true) true 25 v d p) (hw : ∀ n ∈ DataW.weights Tryd.prog 25 d, n ≤ reachBytes) :
    ∃ (s : ByteArray) (z : Int), v = .agg #[.string s, .int .i64 z] ∧ (s.size : Int) ≤ 140737488351232 ∧ Lit.wf (.int .i64 z) = true := by
  obtain ⟨v0, v1, y0, y1, n, rfl, rfl, _, h0, h1⟩ := Joins.open_agg2 Tryd.underlying25 (by kernel_rfl) (by kernel_rfl) hval h
  obtain ⟨s, hs, hy0, _⟩ := DataW.trod_string Tryd.underlying23 h0
  obtain ⟨z, hz, hy1, hwf⟩ := DataW.trod_int Tryd.underlying3 h1
  simp at hs hz
  subst hs; subst hz; subst hy0; subst hy1
  refine ⟨s, z, rfl, ?_, hwf⟩
  have hq := hw s.data.toList.length (by simp [DataW.weights, Tryd.underlying25, DataW.weightsEach])
  simp only [reachBytes] at hq
  have : s.data.toList.length = s.size := by simp
  omega

end Go.Proofs.YtcjpoabknlpopaaDoor
