/- From the card's listed variables to what the contracts ask of the world; lists of keys as arguments. -/
import Derived.Test.YtmgngbhkgmkggaaGreatDoorKOrd0
import Derived.Test.YtmgngbhkgmkggaaGreatDoorRows
import Derived.Lib.LaidU8
import Derived.OpenShut
import Derived.HandedShaped
import Derived.Handed
import Derived.SizedLaws
import Derived.Lib.SmallJoins
import Derived.Deep.SlicePairs
namespace Go.Proofs.YtmgngbhkgmkggaaGreatDoor
set_option linter.unusedVariables false
open Go.RowKit Go.Lib Go.ChangeShapes Go.WideShapes Go.ChangeAt

theorem laid_u64 {w : World} (h : VarReads Tryz.prog w "internal/strconv.uint64pow10" Rows.laid_internal_strconv_uint64pow10) : P10 w := by
  obtain ⟨g, t, cs, fuel, p, hg, hty, hvar, hd⟩ := h
  obtain rfl : g = 1 := (Option.some.inj ((show Tryz.prog.globalNamed "internal/strconv.uint64pow10" = some 1 by kernel_rfl).symm.trans hg)).symm
  obtain rfl : t = 215 := (Option.some.inj ((show (Tryz.prog.globals[1]?).map (·.type) = some 215 by kernel_rfl).symm.trans hty)).symm
  rw [show (Rows.laid_internal_strconv_uint64pow10 : DataW Unit) = tabData .u64 pow10Tab by rfl] at hd
  have hcs := cells_of_tab Tryz.underlying215 Tryz.underlying170 (by kernel_rfl) (by kernel_rfl) hd
  unfold P10 TabIs
  rw [hvar, ← hcs]
theorem handed_shaped {H : Type} {enc : TypeId × Value → H} {a : Assume} {C : Checked} {os : Os} {f : FuncId} {fn : Func} {s : ChangeSpec} {conds : List PathCond} {apart fresh handsOn again : Bool} {X : World → Array Value → Prop}
    (hX : ∀ (w w' : World) (args : Array Value), w.heap = w'.heap → X w args → X w' args)
    (own : ownKnob C.prog.godebug = none) (started : os.Started) (noInit : C.prog.inits.idxOf? f = none) (hfn : C.prog.funcs[f]? = some fn)
    (witness : ∃ (w : World) (tape : Tape) (i : Input), w.os = os ∧ (w.forCall tape i).Shaped C.prog ∧ i.vars = [] ∧ Input.okWide C.prog (w.forCall tape i) .any w.heap.size f i ∧
      ((s.pre enc C.prog fn conds apart (w.forCall tape i).memory i.args ∧ X (w.forCall tape i).memory i.args) ∧ sizedMet enc C.prog fn (OpenSpec.ofChange s) apart (w.forCall tape i).memory i.args) ∧ a.holds C.prog (lone (Frame.enter C.prog f i.args .normal) [] (w.forCall tape i)))
    (contract : ∀ (W : World) (base : Nat) (args : Array Value) (ds gs : List (DataW H)) (before : List MemPlace),
      (∀ (j : Nat) t v, fn.params[j]? = some t → args[j]? = some v → Value.okWide C.prog W .any base t v) →
      DataW.Whole enc C.prog fn.params.toList s.vars apart W args.toList ds gs before →
      (DataW.weightsEach C.prog (fn.params.toList ++ s.plain.varTypes C.prog) (ds ++ gs)).all (· ≤ reachBytes) = true → X W args → W.ShapedOpen C.prog →
      Calls C.prog f args W fun e W' => ∃ v, e = .returned v ∧ s.post enc C.prog fn apart fresh handsOn again W args v W') :
    ReturnsInHanded a C os f .any (fun w args => (s.pre enc C.prog fn conds apart w args ∧ X w args) ∧ sizedMet enc C.prog fn (OpenSpec.ofChange s) apart w args) (s.post enc C.prog fn apart fresh handsOn again) := by
  refine returnsInHanded_of_calls own started noInit witness ?_
  intro w tape i _ hsh _ hok hpre hholds
  obtain ⟨_, _, _, fn', hfn', _, _, _, _, hval⟩ := hok
  have e : fn' = fn := Option.some.inj (hfn'.symm.trans hfn)
  subst e
  obtain ⟨⟨⟨ds, gs, before, hw, hc⟩, hx⟩, hz⟩ := hpre
  have hw' := DataW.Whole.of_heap (w' := w.forCall tape i) (by rfl) hw
  refine (contract (w.forCall tape i) w.heap.size i.args ds gs before hval hw' (hz.weights hw) (hX _ _ _ (by rfl) hx) hsh).mono fun e W' ⟨v, he, hp⟩ => ?_
  subst he
  exact ChangeSpec.post_blind hp

theorem weights_in {H : Type} {e : TypeId} {n : Nat} {d : DataW H} : ∀ (ds : List (DataW H)), d ∈ ds → n ∈ DataW.weights Tryz.prog e d → n ∈ DataW.weightsAll Tryz.prog e ds
  | [], h, _ => by cases h
  | a :: r, h, hn => by
    simp only [DataW.weightsAll, List.mem_append]
    rcases List.mem_cons.1 h with rfl | h
    · exact .inl hn
    · exact .inr (weights_in r h hn)
/-- The text and the number in two cells. -/
def sOf : Value → ByteArray
  | .string s => s
  | _ => ⟨#[]⟩
def zOf : Value → Int
  | .int _ z => z
  | _ => 0
set_option maxRecDepth 100000 in
/-- A list of keys that came in. -/
theorem down_keys {H : Type} {enc : TypeId × Value → H} {W : World} {base : Nat} {v : Value} {d : DataW H} {p : List MemPlace} (hval : Value.okWide Tryz.prog W .any base 53 v) (h : DataW.Trod enc Tryz.prog W 0 (fun _ => true) true 53 v d p) (hw : ∀ n ∈ DataW.weights Tryz.prog 53 d, n ≤ reachBytes) :
    ∃ a c l, v = .slice a (l : KL).length c ∧ RdK W v l ∧ (∀ p ∈ l, (p.1.size : Int) ≤ 140737488351232) ∧ (l.length : Int) * 24 ≤ 140737488351232 := by
  obtain ⟨a0, len0, cap0, rfl⟩ := okWide_slice Tryz.underlying53 hval
  obtain ⟨fuel, hf⟩ := h
  have hby : Tryz.prog.bytesOf 31 = 24 := by kernel_rfl
  rcases Deep.open_slice_pairs Tryz.underlying53 Tryz.underlying31 (by kernel_rfl) (by kernel_rfl) (by kernel_rfl) (by kernel_rfl) (by kernel_rfl) hf with ⟨hcs, _⟩ | ⟨a, len, cap, m, n, V0, V1, D0, D1, P0, P1, hcs, _, hl, hm, hmm, hx, hcell⟩
  · simp [Value.cells] at hcs
    obtain ⟨rfl, rfl, rfl⟩ := hcs
    exact ⟨none, 0, [], rfl, .inl ⟨none, 0, rfl, rfl, fun _ => rfl⟩, (fun s hs => by cases hs), by simp⟩
  · simp [Value.cells] at hcs
    obtain ⟨rfl, rfl, rfl⟩ := hcs
    have hmc : m = cap0 := by rw [hmm]; simp
    unfold maxLen at hm
    have hx' : d = .slice ((List.range len0).map fun i => .agg [D0 i, D1 i]) ((List.range (m - len0)).map fun j => .agg [D0 (len0 + j), D1 (len0 + j)]) := by simpa using congrArg Prod.fst hx
    have hstr : ∀ i, i < m → V0 i = .string (sOf (V0 i)) ∧ D0 i = .lit (.string (sOf (V0 i)).data.toList) := fun i hi => by
      obtain ⟨s, hs, hy, _⟩ := DataW.trod_string Tryz.underlying29 (hcell i hi).2.2.1
      simp at hs
      rw [hs]
      exact ⟨rfl, by have := congrArg Prod.fst hy; exact this⟩
    have hint : ∀ i, i < m → V1 i = .int .i64 (zOf (V1 i)) := fun i hi => by
      obtain ⟨z, hs, _⟩ := DataW.trod_int Tryz.underlying3 (hcell i hi).2.2.2
      simp at hs
      rw [hs]
      rfl
    have hll : ((List.range len0).map fun i => (sOf (V0 i), zOf (V1 i))).length = len0 := by simp
    refine ⟨_, cap0, (List.range len0).map fun i => (sOf (V0 i), zOf (V1 i)), by rw [hll], ?_, ?_, ?_⟩
    · by_cases hn : len0 = 0
      · subst hn
        exact .inl ⟨_, _, rfl, by simp, fun h => by cases h⟩
      · obtain ⟨b, off, spot⟩ := a
        have hspot : spot = none := by simpa [Addr.add] using World.cell?_spot (hcell 0 (by omega)).1
        subst hspot
        have hb := World.block_lt_of_cell? W _ (hcell 0 (by omega)).1
        refine .inr ⟨b, off, cap0, by rw [hll], by rw [hll]; exact hl, by simpa [Addr.add] using hb, fun j hj => ?_⟩
        rw [hll] at hj
        have hc := hcell j (by omega)
        rw [Addr.add_lit, Addr.add_lit] at hc
        have e1 : ((List.range len0).map fun i => (sOf (V0 i), zOf (V1 i)))[j]'(by rw [hll]; exact hj) = (sOf (V0 j), zOf (V1 j)) := by simp
        rw [e1]
        exact ⟨hc.1.trans (congrArg some (hstr j (by omega)).1), by rw [show off + j * 2 + 1 = off + (j * 2 + 1) from by omega]; exact hc.2.1.trans (congrArg some (hint j (by omega)))⟩
    · intro q hq
      simp only [List.mem_map, List.mem_range] at hq
      obtain ⟨i, hi, rfl⟩ := hq
      have hw1 : (sOf (V0 i)).data.toList.length ∈ DataW.weights Tryz.prog 53 d := by
        rw [hx']
        simp only [DataW.weights, Tryz.underlying53, List.mem_cons, List.mem_append]
        refine .inr (.inl (weights_in _ (List.mem_map.2 ⟨i, List.mem_range.2 hi, rfl⟩) ?_))
        rw [(hstr i (by omega)).2]
        simp [DataW.weights, Tryz.underlying31, DataW.weightsEach]
      have hq := hw _ hw1
      simp only [reachBytes] at hq
      have : (sOf (V0 i)).data.toList.length = (sOf (V0 i)).size := by simp
      show (((sOf (V0 i)).size : Nat) : Int) ≤ _
      omega
    · have hw1 : (((List.range len0).map fun i => (DataW.agg [D0 i, D1 i] : DataW H)).length + ((List.range (m - len0)).map fun j => (DataW.agg [D0 (len0 + j), D1 (len0 + j)] : DataW H)).length) * Tryz.prog.bytesOf 31 ∈ DataW.weights Tryz.prog 53 d := by
        rw [hx']
        simp only [DataW.weights, Tryz.underlying53, List.mem_cons, true_or]
      have hq := hw _ hw1
      rw [hby] at hq
      simp only [reachBytes, List.length_map, List.length_range] at hq
      rw [hll]
      omega

end Go.Proofs.YtmgngbhkgmkggaaGreatDoor
