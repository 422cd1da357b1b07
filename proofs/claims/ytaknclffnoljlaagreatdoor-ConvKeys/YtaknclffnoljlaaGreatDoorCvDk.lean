/- A key as a card's argument. -/
import Derived.Test.YtaknclffnoljlaaGreatDoorCvD
namespace Go.Proofs.YtaknclffnoljlaaGreatDoor
set_option linter.unusedVariables false
open Go.RowKit Go.Lib Go.ChangeShapes Go.WideShapes Go.ChangeAt

set_option maxRecDepth 100000 in
/-- A key that came in. -/
theorem down_key {H : Type} {enc : TypeId × Value → H} {W : World} {base : Nat} {v : Value} {d : DataW H} {p : List MemPlace} (hval : Value.okWide Tryz.prog W .any base 27 v) (h : DataW.Trod enc Tryz.prog W 0 (fun _ => true) true 27 v d p) (hw : ∀ n ∈ DataW.weights Tryz.prog 27 d, n ≤ reachBytes) :
    ∃ (s : ByteArray) (z : Int), v = .agg #[.string s, .int .i64 z] ∧ (s.size : Int) ≤ 140737488351232 ∧ Lit.wf (.int .i64 z) = true := by
  obtain ⟨v0, v1, y0, y1, n, rfl, rfl, _, h0, h1⟩ := Joins.open_agg2 Tryz.underlying27 (by kernel_rfl) (by kernel_rfl) hval h
  obtain ⟨s, hs, hy0, _⟩ := DataW.trod_string Tryz.underlying23 h0
  obtain ⟨z, hz, hy1, hwf⟩ := DataW.trod_int Tryz.underlying3 h1
  simp at hs hz
  subst hs; subst hz; subst hy0; subst hy1
  refine ⟨s, z, rfl, ?_, hwf⟩
  have hq := hw s.data.toList.length (by simp [DataW.weights, Tryz.underlying27, DataW.weightsEach])
  simp only [reachBytes] at hq
  have : s.data.toList.length = s.size := by simp
  omega
end Go.Proofs.YtaknclffnoljlaaGreatDoor
