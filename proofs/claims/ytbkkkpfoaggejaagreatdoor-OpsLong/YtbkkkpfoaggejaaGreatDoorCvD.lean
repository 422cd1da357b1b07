/- A value as a card's argument; what the card's world has. -/
import Derived.Test.YtbkkkpfoaggejaaGreatDoorLaidC
import Derived.SizedLaws
import Derived.SliceStrings
import Derived.ChangeSlices
import Derived.ChangeSame
import Derived.Deep.Slices
import Derived.Deep.Fields
import Derived.Lib.SmallJoins
namespace Go.Proofs.YtbkkkpfoaggejaaGreatDoor
set_option linter.unusedVariables false
set_option linter.unusedSimpArgs false
open Go.RowKit Go.Lib Go.ChangeShapes Go.WideShapes

/-- A struct whose fields are one cell each. -/
theorem cv_one_fields {H : Type} {enc : TypeId × Value → H} {W : World} {t : TypeId} {fs : Array Field} {fuel : Nat} {cs : List Value} {x : DataW H × List MemPlace} (ht : Tryz.prog.underlying t = some (.struct fs)) (hone : Deep.oneCellFields Tryz.prog fs = true) (hC : Tryz.prog.cellsOf t = fs.size)
    (h : DataW.trod enc Tryz.prog W 0 (fun _ => true) true fuel t cs = some x) :
    cs.length = fs.size ∧ ∃ (Y : Nat → DataW H × List MemPlace) (n : Nat), (∀ (i : Nat) (f : Field), fs[i]? = some f → DataW.trod enc Tryz.prog W 0 (fun _ => true) true n f.type [cs.getD i (.int .i64 0)] = some (Y i) ∧ ∀ n ∈ DataW.weights Tryz.prog f.type (Y i).1, n ∈ DataW.weights Tryz.prog t x.1) := by
  obtain ⟨xs, n, _, rfl, hl, hlen, hf⟩ := DataW.trod_struct ht h
  rw [hC] at hl
  refine ⟨hl, fun i => xs.getD i (.nil, []), n, fun i f hi => ?_⟩
  have hlt : i < fs.size := (Array.getElem?_eq_some_iff.1 hi).1
  obtain ⟨ho, hc⟩ := Deep.hone_of hone i f hi
  have := hf i f hi
  rw [ho, hc, Deep.take1_drop cs i (.int .i64 0) (by omega), List.getElem?_eq_getElem (by omega)] at this
  have e : xs.getD i (.nil, []) = xs[i]'(by omega) := by rw [List.getD_eq_getElem?_getD, List.getElem?_eq_getElem (by omega)]; rfl
  refine ⟨this.trans (congrArg some e.symm), fun m hm => ?_⟩
  simp only [DataW.weights, ht]
  refine DataW.weights_mem_each (j := i) (t := f.type) (d := (xs.getD i (.nil, [])).1) ?_ ?_ m hm
  · rw [List.getElem?_map, Array.getElem?_toList, hi]; rfl
  · rw [List.getElem?_map, List.getElem?_eq_getElem (by omega), e]; rfl
theorem cv_list_four {l : List Value} (h : l.length = 4) : ∃ a b c d, l = [a, b, c, d] := by
  match l, h with
  | [a, b, c, d], _ => exact ⟨a, b, c, d, rfl⟩
theorem trod_float_wf {H : Type} {enc : TypeId × Value → H} {W : World} {fuel : Nat} {t : TypeId} {cs : List Value} {x : DataW H × List MemPlace} {k : FloatKind} (ht : Tryz.prog.underlying t = some (.float k)) (h : DataW.trod enc Tryz.prog W 0 (fun _ => true) true fuel t cs = some x) : ∃ n, cs = [.float k n] ∧ (Lit.float k n).wf = true := by
  cases fuel with
  | zero => simp [DataW.trod] at h
  | succ n =>
    unfold DataW.trod at h
    rw [ht] at h
    split at h <;> simp_all
set_option maxRecDepth 100000 in
/-- A value that came in. -/
theorem down_value {H : Type} {enc : TypeId × Value → H} {W : World} {base : Nat} {v : Value} {d : DataW H} {p : List MemPlace} (hval : Value.okWide Tryz.prog W .any base 26 v) (h : DataW.Trod enc Tryz.prog W 0 (fun _ => true) true 26 v d p) (hw : ∀ n ∈ DataW.weights Tryz.prog 26 d, n ≤ reachBytes) :
    ∃ (k : Int) (x : Nat) (s : ByteArray) (r : Int), v = .agg #[.int .i64 k, .float .f64 x, .string s, .int .i64 r] ∧ x < 18446744073709551616 ∧ (s.size : Int) ≤ 140737488351232 ∧ Lit.wf (.int .i64 k) = true ∧ Lit.wf (.int .i64 r) = true := by
  obtain ⟨cs, rfl, _⟩ := okWide_struct Tryz.underlying26 hval
  obtain ⟨fuel, hf⟩ := h
  have hf' : DataW.trod enc Tryz.prog W 0 (fun _ => true) true fuel 26 cs.toList = some (d, p) := hf
  obtain ⟨hl, Y, m, hY⟩ := cv_one_fields Tryz.underlying26 (by kernel_rfl) (by kernel_rfl) hf'
  obtain ⟨v0, v1, v2, v3, hcs⟩ := cv_list_four hl
  obtain ⟨z0, hz0, _, w0⟩ := DataW.trod_int Tryz.underlying3 (hY 0 _ rfl).1
  obtain ⟨z1, hz1, w1⟩ := trod_float_wf Tryz.underlying24 (hY 1 _ rfl).1
  obtain ⟨z2, hz2, hy2, _⟩ := DataW.trod_string Tryz.underlying22 (hY 2 _ rfl).1
  obtain ⟨z3, hz3, _, w3⟩ := DataW.trod_int Tryz.underlying3 (hY 3 _ rfl).1
  rw [hcs] at hz0 hz1 hz2 hz3
  simp at hz0 hz1 hz2 hz3
  subst hz0; subst hz1; subst hz2; subst hz3
  refine ⟨z0, z1, z2, z3, ?_, by simpa [Lit.wf] using w1, ?_, w0, w3⟩
  · congr 1
    exact Array.toList_inj.1 hcs
  · have hq := hw z2.data.toList.length ((hY 2 _ rfl).2 _ (by rw [hy2]; simp [DataW.weights, Tryz.underlying22]))
    simp only [reachBytes] at hq
    have : z2.data.toList.length = z2.size := by simp
    omega
end Go.Proofs.YtbkkkpfoaggejaaGreatDoor
