/- ShapeDoes: for every list of operations the law returns true: whatever is added and changed comes to the shapes that the document says, and each tells its keys, places and flags. No condition. -/
import Derived.Test.YtoonaljmdiideaaTdD
import Derived.Test.YtoonaljmdiideaaRows
import Derived.ProofKit
import Derived.OpenShut
import Derived.ShutString
import Derived.SizedLaws
import Derived.Lib.SmallJoins
import Derived.Carry
import Derived.SliceStrings
import Derived.ChangeSlices
import Derived.ChangeSame
import Derived.Deep.Slices
import Derived.Deep.Fields
namespace Go.Proofs.Ytoonaljmdiideaa
set_option linter.unusedVariables false
open Go.RowKit Go.Lib Go.ChangeShapes Go.WideShapes Go.ChangeAt
open Go.ChangeMaps (open_string shut_string)

theorem weights_in {H : Type} {e : TypeId} {n : Nat} {d : DataW H} : ∀ (ds : List (DataW H)), d ∈ ds → n ∈ DataW.weights Try.prog e d → n ∈ DataW.weightsAll Try.prog e ds
  | [], h, _ => by cases h
  | a :: r, h, hn => by
    simp only [DataW.weightsAll, List.mem_append]
    rcases List.mem_cons.1 h with rfl | h
    · exact .inl hn
    · exact .inr (weights_in r h hn)
/-- A struct whose fields are one cell each. -/
theorem one_fields {H : Type} {enc : TypeId × Value → H} {W : World} {t : TypeId} {fs : Array Field} {fuel : Nat} {cs : List Value} {x : DataW H × List MemPlace} (ht : Try.prog.underlying t = some (.struct fs)) (hone : Deep.oneCellFields Try.prog fs = true) (hC : Try.prog.cellsOf t = fs.size)
    (h : DataW.trod enc Try.prog W 0 (fun _ => true) true fuel t cs = some x) :
    cs.length = fs.size ∧ ∃ (Y : Nat → DataW H × List MemPlace) (n : Nat), (∀ (i : Nat) (f : Field), fs[i]? = some f → DataW.trod enc Try.prog W 0 (fun _ => true) true n f.type [cs.getD i (.int .i64 0)] = some (Y i) ∧ ∀ n ∈ DataW.weights Try.prog f.type (Y i).1, n ∈ DataW.weights Try.prog t x.1) := by
  obtain ⟨xs, n, _, rfl, hl, hlen, hf⟩ := DataW.trod_struct ht h
  rw [hC] at hl
  refine ⟨hl, fun i => xs.getD i (.nil, []), n, fun i f hi => ?_⟩
  have hlt : i < fs.size := (Array.getElem?_eq_some_iff.1 hi).1
  obtain ⟨ho, hc⟩ := Deep.hone_of hone i f hi
  have := hf i f hi
  rw [ho, hc, Deep.take1_drop cs i (.int .i64 0) (by omega), List.getElem?_eq_getElem (by omega)] at this
  have e : xs.getD i (.nil, []) = xs[i]'(by omega) := by rw [List.getD_eq_getElem?_getD, List.getElem?_eq_getElem (by omega)]; rfl
  refine ⟨this.trans (congrArg some e.symm), fun m hm => ?_⟩
  simp only [DataW.weights, ht]
  refine DataW.weights_mem_each (j := i) (t := f.type) (d := (xs.getD i (.nil, [])).1) ?_ ?_ m hm
  · rw [List.getElem?_map, Array.getElem?_toList, hi]; rfl
  · rw [List.getElem?_map, List.getElem?_eq_getElem (by omega), e]; rfl
theorem list_two {l : List Value} (h : l.length = 2) : ∃ a b, l = [a, b] := by
  match l, h with
  | [a, b], _ => exact ⟨a, b, rfl⟩
theorem list_six {l : List Value} (h : l.length = 6) : ∃ a b c d e f, l = [a, b, c, d, e, f] := by
  match l, h with
  | [a, b, c, d, e, f], _ => exact ⟨a, b, c, d, e, f, rfl⟩
/-- A slice that came in, by what one of its elements is. -/
theorem down_rdE {α H : Type} (df : α) {enc : TypeId × Value → H} {W : World} {t e : TypeId} {fuel : Nat} {cs : List Value} {x : DataW H × List MemPlace} {csα : α → List Value} {Q : α → Prop} {sz : Nat}
    (ht : Try.prog.underlying t = some (.slice e)) (hc : Try.prog.cellsOf e = sz) (hby : sz * 8 ≤ Try.prog.bytesOf e) (hpos : 0 < sz)
    (h : DataW.trod enc Try.prog W 0 (fun _ => true) true fuel t cs = some x) (hw : ∀ n ∈ DataW.weights Try.prog t x.1, n ≤ reachBytes)
    (hone : ∀ n cs' y, DataW.trod enc Try.prog W 0 (fun _ => true) true n e cs' = some y → (∀ n ∈ DataW.weights Try.prog e y.1, n ≤ reachBytes) → ∃ q, cs' = csα q ∧ Q q) :
    ∃ a c l, cs = [.slice a (l : List α).length c] ∧ RdE csα sz W a c l ∧ ∀ q ∈ l, Q q := by
  rcases Deep.open_slice ht h with ⟨rfl, _⟩ | ⟨a, len, cap, m, n, D, Pl, rfl, _, hl, hm, hmm, rfl, hx⟩
  · exact ⟨none, 0, [], rfl, ⟨by simp, by simp, fun _ => rfl, .inl rfl⟩, fun q hq => by cases hq⟩
  · have hmc : m = cap := by rw [hmm]; simp
    rw [hc] at hx
    simp only [DataW.weights, ht, List.mem_cons, List.mem_append] at hw
    haveI : Inhabited α := ⟨df⟩
    obtain ⟨f, hf⟩ := Deep.choose_lt (n := len) (p := fun i (q : α) => W.cells? 0 (a.add (i * sz)) sz = some (csα q) ∧ Q q) (fun i hi => by
      obtain ⟨cs', h1, h2⟩ := hx i (by omega)
      obtain ⟨q, rfl, hq⟩ := hone n cs' _ h2 (fun k hk => hw k (.inr (.inl (weights_in _ (List.mem_map.2 ⟨i, List.mem_range.2 hi, rfl⟩) hk))))
      exact ⟨q, h1, hq⟩)
    have hll : ((List.range len).map f).length = len := by simp
    refine ⟨some a, cap, (List.range len).map f, by rw [hll], ⟨by rw [hll]; exact hl, ?_, (fun h => by cases h), ?_⟩, ?_⟩
    · have hq := hw _ (.inl rfl)
      simp only [reachBytes, List.length_map, List.length_range] at hq
      rw [show len + (m - len) = cap by omega] at hq
      exact Nat.le_trans (Nat.mul_le_mul_left cap hby) hq
    · by_cases hn : len = 0
      · subst hn
        exact .inl rfl
      · have hcl : ∀ i, i < len → ∀ k, k < sz → W.cell? ((a.add (i * sz)).add k) = (csα (f i))[k]? := fun i hi k hk => (World.cells?_some (hf i hi).1).2.2 k hk
        have h00 := hcl 0 (by omega) 0 hpos
        have hlen0 := (World.cells?_some (hf 0 (by omega)).1).2.1
        rw [List.getElem?_eq_getElem (by omega)] at h00
        obtain ⟨b, off, spot⟩ := a
        have hspot : spot = none := by simpa [Addr.add] using World.cell?_spot h00
        subst hspot
        have hb := World.block_lt_of_cell? W _ h00
        refine .inr ⟨b, off, rfl, by simpa [Addr.add] using hb, fun j hj k u hk hu => ?_⟩
        have hj' : j < len := by rw [hll] at hj; exact hj
        have := hcl j hj' k hk
        rw [Addr.add_lit, Addr.add_lit] at this
        rw [this, ← hu]
        simp
    · intro q hq
      simp only [List.mem_map, List.mem_range] at hq
      obtain ⟨i, hi, rfl⟩ := hq
      exact (hf i hi).2

section
variable {H : Type} {enc : TypeId × Value → H} {W : World}
theorem cell_int {n : Nat} {v : Value} {y : DataW H × List MemPlace} (h : DataW.trod enc Try.prog W 0 (fun _ => true) true n 3 [v] = some y) : ∃ z, v = .int .i64 z ∧ Lit.wf (.int .i64 z) = true := by
  obtain ⟨z, hz, _, hw⟩ := DataW.trod_int Try.underlying3 h
  exact ⟨z, by simpa using hz, hw⟩
theorem cell_str {n : Nat} {v : Value} {y : DataW H × List MemPlace} (h : DataW.trod enc Try.prog W 0 (fun _ => true) true n 29 [v] = some y) : ∃ z, v = .string z ∧ y.1 = .lit (.string z.data.toList) := by
  obtain ⟨z, hz, hy, _⟩ := DataW.trod_string Try.underlying29 h
  exact ⟨z, by simpa using hz, congrArg Prod.fst hy⟩
set_option maxRecDepth 100000 in
/-- A key among the fields of an operation. -/
theorem one_key (n : Nat) (cs : List Value) (y : DataW H × List MemPlace) (h : DataW.trod enc Try.prog W 0 (fun _ => true) true n 31 cs = some y) (hw : ∀ n ∈ DataW.weights Try.prog 31 y.1, n ≤ reachBytes) :
    ∃ (s : ByteArray) (z : Int), cs = [.string s, .int .i64 z] ∧ (s.size : Int) ≤ 140737488351232 ∧ Lit.wf (.int .i64 z) = true := by
  obtain ⟨hl, Y, m, hf⟩ := one_fields Try.underlying31 (by kernel_rfl) (by kernel_rfl) h
  obtain ⟨v0, v1, rfl⟩ := list_two hl
  obtain ⟨s, rfl, hy⟩ := cell_str (v := v0) (hf 0 _ rfl).1
  obtain ⟨z, rfl, w1⟩ := cell_int (v := v1) (hf 1 _ rfl).1
  refine ⟨s, z, rfl, ?_, w1⟩
  have h2 := (hf 0 _ rfl).2 s.data.toList.length (by rw [hy]; simp [DataW.weights])
  have hq := hw _ h2
  simp only [reachBytes] at hq
  have : s.data.toList.length = s.size := by simp
  omega
theorem opFields : ∃ f0 f1 f2 f3 f4 : Field, Try.prog.underlying 33 = some (.struct #[f0, f1, f2, f3, f4]) ∧ (f0.offset = 0 ∧ f0.type = 3) ∧ (f1.offset = 1 ∧ f1.type = 3) ∧ (f2.offset = 2 ∧ f2.type = 31) ∧ (f3.offset = 4 ∧ f3.type = 3) ∧ (f4.offset = 5 ∧ f4.type = 3) :=
  ⟨_, _, _, _, _, Try.underlying33, ⟨rfl, rfl⟩, ⟨rfl, rfl⟩, ⟨rfl, rfl⟩, ⟨rfl, rfl⟩, ⟨rfl, rfl⟩⟩
set_option maxRecDepth 100000 in
theorem one_op (n : Nat) (cs : List Value) (y : DataW H × List MemPlace) (h : DataW.trod enc Try.prog W 0 (fun _ => true) true n 33 cs = some y) (hw : ∀ n ∈ DataW.weights Try.prog 33 y.1, n ≤ reachBytes) :
    ∃ o : OpR, cs = o.cs ∧ o.ok := by
  obtain ⟨f0, f1, f2, f3, f4, hU, ⟨o0, t0⟩, ⟨o1, t1⟩, ⟨o2, t2⟩, ⟨o3, t3⟩, ⟨o4, t4⟩⟩ := opFields
  obtain ⟨xs, m, _, rfl, hl, hlen, hf⟩ := DataW.trod_struct hU h
  rw [show Try.prog.cellsOf 33 = 6 by kernel_rfl] at hl
  obtain ⟨v0, v1, v2, v3, v4, v5, rfl⟩ := list_six hl
  have e0 := hf 0 f0 rfl
  have e1 := hf 1 f1 rfl
  have e2 := hf 2 f2 rfl
  have e3 := hf 3 f3 rfl
  have e4 := hf 4 f4 rfl
  rw [o0, t0, show Try.prog.cellsOf 3 = 1 by kernel_rfl, List.getElem?_eq_getElem (by rw [hlen]; exact Nat.lt_of_lt_of_le (by decide) (Nat.le_refl 5))] at e0
  rw [o1, t1, show Try.prog.cellsOf 3 = 1 by kernel_rfl, List.getElem?_eq_getElem (by rw [hlen]; exact Nat.lt_of_lt_of_le (by decide) (Nat.le_refl 5))] at e1
  rw [o2, t2, show Try.prog.cellsOf 31 = 2 by kernel_rfl, List.getElem?_eq_getElem (by rw [hlen]; exact Nat.lt_of_lt_of_le (by decide) (Nat.le_refl 5))] at e2
  rw [o3, t3, show Try.prog.cellsOf 3 = 1 by kernel_rfl, List.getElem?_eq_getElem (by rw [hlen]; exact Nat.lt_of_lt_of_le (by decide) (Nat.le_refl 5))] at e3
  rw [o4, t4, show Try.prog.cellsOf 3 = 1 by kernel_rfl, List.getElem?_eq_getElem (by rw [hlen]; exact Nat.lt_of_lt_of_le (by decide) (Nat.le_refl 5))] at e4
  simp only [List.drop_zero, List.drop_succ_cons, List.take_succ_cons, List.take_zero] at e0 e1 e2 e3 e4
  obtain ⟨z0, rfl, _⟩ := cell_int (v := v0) e0
  obtain ⟨z1, rfl, _⟩ := cell_int (v := v1) e1
  obtain ⟨z3, rfl, _⟩ := cell_int (v := v4) e3
  obtain ⟨z4, rfl, _⟩ := cell_int (v := v5) e4
  obtain ⟨s, z, hk, hs, hz⟩ := one_key _ _ _ e2 (fun k hk => hw k (by
    simp only [DataW.weights, hU]
    refine DataW.weights_mem_each (j := 2) (t := 31) (d := (xs[2]'(by rw [hlen]; exact Nat.lt_of_lt_of_le (by decide) (Nat.le_refl 5))).1) ?_ ?_ k hk
    · show some f2.type = _
      rw [t2]
    · rw [List.getElem?_map, List.getElem?_eq_getElem (by rw [hlen]; exact Nat.lt_of_lt_of_le (by decide) (Nat.le_refl 5))]
      rfl))
  simp only [List.cons.injEq, and_true] at hk
  obtain ⟨rfl, rfl⟩ := hk
  exact ⟨⟨z0, z1, s, z, z3, z4⟩, rfl, hs, hz⟩
end
set_option maxRecDepth 100000 in
/-- Operations that came in. -/
theorem down_ops {H : Type} {enc : TypeId × Value → H} {W : World} {base : Nat} {v : Value} {d : DataW H} {p : List MemPlace} (hval : Value.okWide Try.prog W .any base 22 v) (h : DataW.Trod enc Try.prog W 0 (fun _ => true) true 22 v d p) (hw : ∀ n ∈ DataW.weights Try.prog 22 d, n ≤ reachBytes) :
    ∃ a c l, v = .slice a (l : List OpR).length c ∧ RdE OpR.cs 6 W a c l ∧ ∀ o ∈ l, o.ok := by
  obtain ⟨a0, len0, cap0, rfl⟩ := okWide_slice Try.underlying22 hval
  obtain ⟨fuel, hd⟩ := h
  obtain ⟨a, c, l, hcs, hrd, hok⟩ := down_rdE (⟨0, 0, ⟨#[]⟩, 0, 0, 0⟩ : OpR) Try.underlying22 (sz := 6) (by kernel_rfl) (of_decide_eq_true (by kernel_rfl)) (by omega) hd hw (fun n cs' y => one_op n cs' y)
  simp [Value.cells] at hcs
  obtain ⟨rfl, rfl, rfl⟩ := hcs
  exact ⟨a0, cap0, l, rfl, hrd, hok⟩

theorem shapeDoes_own : ownKnob Try.prog.godebug = none := by kernel_rfl
set_option maxRecDepth 100000 in
theorem shapeDoes_lifted (os : Os) (started : os.Started) (H : Type) (enc : TypeId × Value → H) :
    ReturnsInHanded {} Try.checked os 3 .any (Rows.shapeDoesSpec.pre6 enc Try.prog Try.f3 Rows.shapeDoesRow.domain false) (Rows.shapeDoesSpec.post enc Try.prog Try.f3 false true false false) := by
  refine returnsInHanded_of_change_sized (C := Try.checked) shapeDoes_own started (by kernel_rfl) Try.func3
    (ChangeSpec.witness6 (enc := enc) (C := Try.checked) false ⟨#[], #[.slice none 0 0], []⟩ 8 (by kernel_rfl) (by kernel_rfl) (by kernel_rfl) (by kernel_rfl)) ?_
  intro W base args ds gs before hval0 hW hcnd hsz0 _
  have hval : ∀ (j : Nat) t v, Try.f3.params[j]? = some t → args[j]? = some v → Value.okWide Try.prog W .any base t v := hval0
  have hsz : (DataW.weightsEach Try.prog (Try.f3.params.toList ++ Rows.shapeDoesSpec.plain.varTypes Try.prog) (ds ++ gs)).all (· ≤ reachBytes) = true := hsz0
  have hW' := hW
  obtain ⟨p, q, hA0, hV, rfl, hfz, hnd⟩ := hW
  have hA : DataW.TrodAll enc Try.prog W 0 (fun _ => true) true Try.f3.params.toList args.toList ds p := hA0
  rw [Try.params3] at hA hval hsz
  obtain ⟨v0, vs0, d0, ds0, p0, q0, hargs, rfl, rfl, h0, r0⟩ := trodAll_cons hA
  obtain ⟨rfl, rfl, rfl⟩ := trodAll_nil r0
  obtain rfl : args = #[v0] := by cases args; simp_all
  obtain ⟨rfl, rfl⟩ := trodVars_none hV
  have k0 := h0
  have lt0 : ∀ x ∈ p0, x.block < W.heap.size := by obtain ⟨m, hm⟩ := k0; exact DataW.trod_lt m _ _ _ hm
  have hw0 : ∀ n ∈ DataW.weights Try.prog 22 d0, n ≤ reachBytes := fun n hn => of_decide_eq_true (List.all_eq_true.1 hsz _ (DataW.weights_mem_each (j := 0) (t := 22) rfl rfl _ hn))
  obtain ⟨a0, c0, l0, rfl, rd0, ok0⟩ := down_ops (hval 0 22 v0 rfl rfl) h0 hw0
  clear hA0 hval0 hsz0
  refine (does_all a0 c0 l0 W rd0 ok0).mono fun e W' ⟨he, hg⟩ => ?_
  subst he
  exact ⟨_, rfl, _, _, _, [], _, [], hW', trodAll_cons_mk (shut_bool Try.underlying4 _) trodAll_mk0, (trodAll_cons_mk (Below.trod shLaid (by kernel_rfl) (of_decide_eq_true (by kernel_rfl)) k0 hg lt0) trodAll_mk0), rfl, hg.frame _, fun h => by cases h⟩

theorem shapeDoes_proved : Rows.ShapeDoesSaid :=
  OpenClaim.holds_of_wide 3 Try.f3 rfl rfl rfl rfl rfl rfl rfl ⟨rfl, rfl, rfl, rfl, rfl⟩ rfl rfl rfl rfl rfl (by kernel_rfl) Try.func3 (by kernel_rfl)
    (of_decide_eq_true (by kernel_rfl)) (by unfold Func.isWrapper; first | (rw [if_pos (by decide +kernel)]; kernel_rfl) | (rw [if_neg (by decide +kernel)]; exact ⟨rfl, rfl⟩))
    (fun os started H enc _ => shapeDoes_lifted os started H enc)
#print axioms shapeDoes_proved
end Go.Proofs.Ytoonaljmdiideaa
