/- From the card's listed variables to what the contracts ask of the world; lists of texts and keys as arguments. -/
import Derived.Test.YthomeimnhipilaaDoorLawSym
import Derived.Test.YthomeimnhipilaaDoorRows
import Derived.Lib.LaidU8
import Derived.OpenShut
import Derived.HandedShaped
import Derived.Handed
import Derived.SliceStrings
import Derived.SizedLaws
import Derived.Lib.SmallJoins
namespace Go.Proofs.YthomeimnhipilaaDoor
set_option linter.unusedVariables false
open Go.RowKit Go.Lib Go.ChangeShapes Go.WideShapes Go.ChangeAt
open Go.ChangeMaps (open_string shut_string)

theorem laid_u64 {w : World} (h : VarReads Tryd.prog w "internal/strconv.uint64pow10" Rows.laid_internal_strconv_uint64pow10) : P10 w := by
  obtain ⟨g, t, cs, fuel, p, hg, hty, hvar, hd⟩ := h
  obtain rfl : g = 1 := (Option.some.inj ((show Tryd.prog.globalNamed "internal/strconv.uint64pow10" = some 1 by kernel_rfl).symm.trans hg)).symm
  obtain rfl : t = 127 := (Option.some.inj ((show (Tryd.prog.globals[1]?).map (·.type) = some 127 by kernel_rfl).symm.trans hty)).symm
  rw [show (Rows.laid_internal_strconv_uint64pow10 : DataW Unit) = tabData .u64 pow10Tab by rfl] at hd
  have hcs := cells_of_tab Tryd.underlying127 Tryd.underlying76 (by kernel_rfl) (by kernel_rfl) hd
  unfold P10 TabIs
  rw [hvar, ← hcs]
theorem handed_shaped {H : Type} {enc : TypeId × Value → H} {a : Assume} {C : Checked} {os : Os} {f : FuncId} {fn : Func} {s : ChangeSpec} {conds : List PathCond} {apart fresh handsOn again : Bool} {X : World → Array Value → Prop}
    (hX : ∀ (w w' : World) (args : Array Value), w.heap = w'.heap → X w args → X w' args)
    (own : ownKnob C.prog.godebug = none) (started : os.Started) (noInit : C.prog.inits.idxOf? f = none) (hfn : C.prog.funcs[f]? = some fn)
    (witness : ∃ (w : World) (tape : Tape) (i : Input), w.os = os ∧ (w.forCall tape i).Shaped C.prog ∧ i.vars = [] ∧ Input.okWide C.prog (w.forCall tape i) .any w.heap.size f i ∧
      ((s.pre enc C.prog fn conds apart (w.forCall tape i).memory i.args ∧ X (w.forCall tape i).memory i.args) ∧ sizedMet enc C.prog fn (OpenSpec.ofChange s) apart (w.forCall tape i).memory i.args) ∧ a.holds C.prog (lone (Frame.enter C.prog f i.args .normal) [] (w.forCall tape i)))
    (contract : ∀ (W : World) (base : Nat) (args : Array Value) (ds gs : List (DataW H)) (before : List MemPlace),
      (∀ (j : Nat) t v, fn.params[j]? = some t → args[j]? = some v → Value.okWide C.prog W .any base t v) →
      DataW.Whole enc C.prog fn.params.toList s.vars apart W args.toList ds gs before →
      (DataW.weightsEach C.prog (fn.params.toList ++ s.plain.varTypes C.prog) (ds ++ gs)).all (· ≤ reachBytes) = true → X W args → W.ShapedOpen C.prog →
      Calls C.prog f args W fun e W' => ∃ v, e = .returned v ∧ s.post enc C.prog fn apart fresh handsOn again W args v W') :
    ReturnsInHanded a C os f .any (fun w args => (s.pre enc C.prog fn conds apart w args ∧ X w args) ∧ sizedMet enc C.prog fn (OpenSpec.ofChange s) apart w args) (s.post enc C.prog fn apart fresh handsOn again) := by
  refine returnsInHanded_of_calls own started noInit witness ?_
  intro w tape i _ hsh _ hok hpre hholds
  obtain ⟨_, _, _, fn', hfn', _, _, _, _, hval⟩ := hok
  have e : fn' = fn := Option.some.inj (hfn'.symm.trans hfn)
  subst e
  obtain ⟨⟨⟨ds, gs, before, hw, hc⟩, hx⟩, hz⟩ := hpre
  have hw' := DataW.Whole.of_heap (w' := w.forCall tape i) (by rfl) hw
  refine (contract (w.forCall tape i) w.heap.size i.args ds gs before hval hw' (hz.weights hw) (hX _ _ _ (by rfl) hx) hsh).mono fun e W' ⟨v, he, hp⟩ => ?_
  subst he
  exact ChangeSpec.post_blind hp

theorem weight_all {H : Type} {e : TypeId} (ss : List ByteArray) : ∀ s ∈ ss, s.data.toList.length ∈ DataW.weightsAll (H := H) Tryd.prog e (strs ss) := by
  induction ss with
  | nil => intro s hs; cases hs
  | cons a r ih =>
    intro s hs
    simp only [strs, List.map_cons, DataW.weightsAll, DataW.weights, List.mem_append]
    rcases List.mem_cons.1 hs with rfl | hs
    · exact .inl (by simp)
    · exact .inr (ih s hs)
set_option maxRecDepth 100000 in
/-- A list of texts that came in. -/
theorem down_strs {H : Type} {enc : TypeId × Value → H} {W : World} {base : Nat} {v : Value} {d : DataW H} {p : List MemPlace} (hval : Value.okWide Tryd.prog W .any base 33 v) (h : DataW.Trod enc Tryd.prog W 0 (fun _ => true) true 33 v d p) (hw : ∀ n ∈ DataW.weights Tryd.prog 33 d, n ≤ reachBytes) :
    ∃ a c ss, v = .slice a (ss : List ByteArray).length c ∧ RdT W v ss ∧ (∀ s ∈ ss, (s.size : Int) ≤ 140737488351232) ∧ (ss.length : Int) * 16 ≤ 140737488351232 := by
  obtain ⟨a0, len0, cap0, rfl⟩ := okWide_slice Tryd.underlying33 hval
  obtain ⟨fuel, hf⟩ := h
  have hby : Tryd.prog.bytesOf 23 = 16 := by kernel_rfl
  rcases open_strings Tryd.underlying33 Tryd.underlying23 (by kernel_rfl) hf with ⟨hcs, _⟩ | ⟨a, l, c, ss, hcs, _, hl, hm, hz, hx, hcell, hwz⟩
  · simp [Value.cells] at hcs
    obtain ⟨rfl, rfl, rfl⟩ := hcs
    exact ⟨none, 0, [], rfl, .inl ⟨none, 0, rfl, rfl⟩, (fun s hs => by cases hs), by simp⟩
  · simp [Value.cells] at hcs
    obtain ⟨rfl, rfl, rfl⟩ := hcs
    have hz' : ss.length = cap0 := by simpa using hz
    unfold maxLen at hm
    have hlt : (ss.take len0).length = len0 := by rw [List.length_take]; omega
    have hx' : d = .slice (strs (ss.take len0)) (strs (ss.drop len0)) := by simpa using congrArg Prod.fst hx
    refine ⟨_, cap0, ss.take len0, by rw [hlt], ?_, ?_, ?_⟩
    · by_cases hn : len0 = 0
      · subst hn
        exact .inl ⟨_, _, rfl, by simp⟩
      · obtain ⟨b, off, spot⟩ := a
        have hspot : spot = none := by simpa [Addr.add] using World.cell?_spot (hcell 0 (by omega))
        subst hspot
        have hb := World.block_lt_of_cell? W _ (hcell 0 (by omega))
        refine .inr ⟨b, off, cap0, by rw [hlt], by omega, by simpa [Addr.add] using hb, fun j hj => ?_⟩
        rw [hlt] at hj
        have := hcell j (by omega)
        rw [Addr.add_lit] at this
        rw [this]
        simp [List.getD, show j < ss.length by omega]
    · intro s hs
      have hw1 : s.data.toList.length ∈ DataW.weights Tryd.prog 33 d := by
        rw [hx']
        simp only [DataW.weights, Tryd.underlying33, List.mem_cons, List.mem_append]
        exact .inr (.inl (weight_all _ s hs))
      have hq := hw _ hw1
      simp only [reachBytes] at hq
      have : s.data.toList.length = s.size := by simp
      omega
    · have hw1 : ((strs (H := H) (ss.take len0)).length + (strs (H := H) (ss.drop len0)).length) * Tryd.prog.bytesOf 23 ∈ DataW.weights Tryd.prog 33 d := by
        rw [hx']
        simp only [DataW.weights, Tryd.underlying33, List.mem_cons, true_or]
      have hq := hw _ hw1
      rw [hby] at hq
      simp only [reachBytes, strs, List.length_map, List.length_take, List.length_drop] at hq
      omega
set_option maxRecDepth 100000 in
/-- A key that came in. -/
theorem down_key {H : Type} {enc : TypeId × Value → H} {W : World} {base : Nat} {v : Value} {d : DataW H} {p : List MemPlace} (hval : Value.okWide Tryd.prog W .any base 25 v) (h : DataW.Trod enc Tryd.prog W 0 (fun _ => true) true 25 v d p) (hw : ∀ n ∈ DataW.weights Tryd.prog 25 d, n ≤ reachBytes) :
    ∃ (s : ByteArray) (z : Int), v = .agg #[.string s, .int .i64 z] ∧ (s.size : Int) ≤ 140737488351232 ∧ Lit.wf (.int .i64 z) = true := by
  obtain ⟨v0, v1, y0, y1, n, rfl, rfl, _, h0, h1⟩ := Joins.open_agg2 Tryd.underlying25 (by kernel_rfl) (by kernel_rfl) hval h
  obtain ⟨s, hs, hy0, _⟩ := DataW.trod_string Tryd.underlying23 h0
  obtain ⟨z, hz, hy1, hwf⟩ := DataW.trod_int Tryd.underlying3 h1
  simp at hs hz
  subst hs; subst hz; subst hy0; subst hy1
  refine ⟨s, z, rfl, ?_, hwf⟩
  have hq := hw s.data.toList.length (by simp [DataW.weights, Tryd.underlying25, DataW.weightsEach])
  simp only [reachBytes] at hq
  have : s.data.toList.length = s.size := by simp
  omega

end Go.Proofs.YthomeimnhipilaaDoor
