/- From the card's listed variables to what FormatFloat asks of the world; the frame of a call. -/
import Derived.Test.YtbkkkpfoaggejaaGreatDoorFFloat
import Derived.Test.YtbkkkpfoaggejaaGreatDoorRows
import Derived.Lib.LaidU8
import Derived.OpenShut
import Derived.HandedShaped
import Derived.Handed
namespace Go.Proofs.YtbkkkpfoaggejaaGreatDoor
set_option linter.unusedVariables false
open Go.RowKit Go.Lib

theorem mixed_struct {H : Type} {enc : TypeId × Value → H} {P : Program} {w : World} {base : Nat} {sp : Nat → Bool} {held : Bool} {fuel : Nat} {t : TypeId} {fs : Array Field} {cs : List Value} {kz : List (IntKind × Int)} {p : List MemPlace} (ht : P.underlying t = some (.struct fs)) (hn : kz.length = fs.size)
    (hf : ∀ (i : Nat) (f : Field) (x : IntKind × Int), fs[i]? = some f → kz[i]? = some x → P.underlying f.type = some (.int x.1) ∧ f.offset = i ∧ P.cellsOf f.type = 1) (hct : P.cellsOf t = fs.size)
    (h : DataW.trod enc P w base sp held fuel t cs = some (.agg (kz.map fun x => .lit (.int x.1 x.2)), p)) : cs = kz.map fun x => Value.int x.1 x.2 := by
  obtain ⟨xs, n, rfl, hx, hl, hxl, hall⟩ := DataW.trod_struct ht h
  have hxs : xs.map (·.1) = kz.map fun x => (DataW.lit (.int x.1 x.2) : DataW H) := by
    have := congrArg Prod.fst hx
    simpa using this.symm
  apply List.ext_getElem?
  intro i
  by_cases hi : i < fs.size
  · have hik : i < kz.length := by omega
    obtain ⟨hu, ho, hc⟩ := hf i fs[i] kz[i] (by simp [hi]) (List.getElem?_eq_getElem hik)
    have h1 := hall i fs[i] (by simp [hi])
    obtain ⟨b, hb⟩ : ∃ b, xs[i]? = some b := ⟨xs[i]'(by omega), List.getElem?_eq_getElem (by omega)⟩
    rw [hb, ho, hc] at h1
    obtain ⟨z, hcz, rfl, _⟩ := DataW.trod_int hu h1
    have h2 : cs[i]? = some (.int kz[i].1 z) := by
      have := congrArg (·[0]?) hcz
      simpa [List.getElem?_take, List.getElem?_drop] using this
    have h3 : (xs.map (·.1))[i]? = some (DataW.lit (.int kz[i].1 z) : DataW H) := by simp [hb]
    rw [hxs] at h3
    simp [hik] at h3
    rw [h2]
    simp [hik, h3]
  · rw [List.getElem?_eq_none (by omega), List.getElem?_eq_none (by simp; omega)]

theorem laid_u64 {w : World} (h : VarReads Tryz.prog w "internal/strconv.uint64pow10" Rows.laid_internal_strconv_uint64pow10) : TabIs Tryz.prog w "internal/strconv.uint64pow10" .u64 pow10Tab := by
  obtain ⟨g, t, cs, fuel, p, hg, hty, hvar, hd⟩ := h
  obtain rfl : g = 8 := (Option.some.inj ((show Tryz.prog.globalNamed "internal/strconv.uint64pow10" = some 8 by kernel_rfl).symm.trans hg)).symm
  obtain rfl : t = 252 := (Option.some.inj ((show (Tryz.prog.globals[8]?).map (·.type) = some 252 by kernel_rfl).symm.trans hty)).symm
  rw [show (Rows.laid_internal_strconv_uint64pow10 : DataW Unit) = tabData .u64 pow10Tab by rfl] at hd
  have hcs := cells_of_tab Tryz.underlying252 Tryz.underlying80 (by kernel_rfl) (by kernel_rfl) hd
  unfold TabIs
  rw [hvar, ← hcs]
theorem rows_len : Go.Pinned.pow10Rows.length = 696 := by kernel_rfl
theorem laid_p10 {w : World} (h : VarReads Tryz.prog w "internal/strconv.pow10Tab" Rows.laid_internal_strconv_pow10Tab) : TabP w := by
  obtain ⟨g, t, cs, fuel, p, hg, hty, hvar, hd⟩ := h
  obtain rfl : g = 11 := (Option.some.inj ((show Tryz.prog.globalNamed "internal/strconv.pow10Tab" = some 11 by kernel_rfl).symm.trans hg)).symm
  obtain rfl : t = 295 := (Option.some.inj ((show (Tryz.prog.globals[11]?).map (·.type) = some 295 by kernel_rfl).symm.trans hty)).symm
  intro i hi
  unfold Rows.laid_internal_strconv_pow10Tab Go.Pinned.pow10Tab at hd
  obtain ⟨fuel', d, q, hdi, he⟩ := array_elem Tryz.underlying295 hd i hi
  have hil : i < Go.Pinned.pow10Rows.length := by rw [rows_len]; exact hi
  have hx : Go.Pinned.pow10Rows[i]? = some Go.Pinned.pow10Rows[i] := List.getElem?_eq_getElem hil
  have e1 : hiT i = Go.Pinned.pow10Rows[i].1 := by unfold hiT; rw [List.getD_eq_getElem?_getD, hx]; rfl
  have e2 : loT i = Go.Pinned.pow10Rows[i].2 := by unfold loT; rw [List.getD_eq_getElem?_getD, hx]; rfl
  rw [List.getElem?_map, hx, Option.map_some, Option.some.injEq] at hdi
  rw [← e1, ← e2] at hdi
  rw [show Tryz.prog.cellsOf 294 = 2 by kernel_rfl, ← hdi] at he
  have hcs := mixed_struct (kz := [(.u64, (hiT i : Int)), (.u64, (loT i : Int))]) Tryz.underlying294 (by kernel_rfl) (fun j f x hj hx => by
    match j, hj, hx with
    | 0, hj, hx => simp at hj hx; subst hj; subst hx; exact ⟨by kernel_rfl, rfl, by kernel_rfl⟩
    | 1, hj, hx => simp at hj hx; subst hj; subst hx; exact ⟨by kernel_rfl, rfl, by kernel_rfl⟩
    | j + 2, hj, hx => simp at hx) (by kernel_rfl) he
  have c0 := congrArg (·[0]?) hcs
  have c1 := congrArg (·[1]?) hcs
  simp only [List.getElem?_take, List.getElem?_drop] at c0 c1
  refine ⟨?_, ?_⟩
  · rw [World.var?_cell hg hvar (i * 2), ← Array.getElem?_toList]
    simpa using c0
  · rw [World.var?_cell hg hvar (i * 2 + 1), ← Array.getElem?_toList]
    simpa using c1
theorem handed_shaped {H : Type} {enc : TypeId × Value → H} {a : Assume} {C : Checked} {os : Os} {f : FuncId} {fn : Func} {s : ChangeSpec} {conds : List PathCond} {apart fresh handsOn again : Bool} {X : World → Array Value → Prop}
    (hX : ∀ (w w' : World) (args : Array Value), w.heap = w'.heap → X w args → X w' args)
    (own : ownKnob C.prog.godebug = none) (started : os.Started) (noInit : C.prog.inits.idxOf? f = none) (hfn : C.prog.funcs[f]? = some fn)
    (witness : ∃ (w : World) (tape : Tape) (i : Input), w.os = os ∧ (w.forCall tape i).Shaped C.prog ∧ i.vars = [] ∧ Input.okWide C.prog (w.forCall tape i) .any w.heap.size f i ∧
      ((s.pre enc C.prog fn conds apart (w.forCall tape i).memory i.args ∧ X (w.forCall tape i).memory i.args) ∧ sizedMet enc C.prog fn (OpenSpec.ofChange s) apart (w.forCall tape i).memory i.args) ∧ a.holds C.prog (lone (Frame.enter C.prog f i.args .normal) [] (w.forCall tape i)))
    (contract : ∀ (W : World) (base : Nat) (args : Array Value) (ds gs : List (DataW H)) (before : List MemPlace),
      (∀ (j : Nat) t v, fn.params[j]? = some t → args[j]? = some v → Value.okWide C.prog W .any base t v) →
      DataW.Whole enc C.prog fn.params.toList s.vars apart W args.toList ds gs before →
      (DataW.weightsEach C.prog (fn.params.toList ++ s.plain.varTypes C.prog) (ds ++ gs)).all (· ≤ reachBytes) = true → X W args → W.ShapedOpen C.prog →
      Calls C.prog f args W fun e W' => ∃ v, e = .returned v ∧ s.post enc C.prog fn apart fresh handsOn again W args v W') :
    ReturnsInHanded a C os f .any (fun w args => (s.pre enc C.prog fn conds apart w args ∧ X w args) ∧ sizedMet enc C.prog fn (OpenSpec.ofChange s) apart w args) (s.post enc C.prog fn apart fresh handsOn again) := by
  refine returnsInHanded_of_calls own started noInit witness ?_
  intro w tape i _ hsh _ hok hpre hholds
  obtain ⟨_, _, _, fn', hfn', _, _, _, _, hval⟩ := hok
  have e : fn' = fn := Option.some.inj (hfn'.symm.trans hfn)
  subst e
  obtain ⟨⟨⟨ds, gs, before, hw, hc⟩, hx⟩, hz⟩ := hpre
  have hw' := DataW.Whole.of_heap (w' := w.forCall tape i) (by rfl) hw
  refine (contract (w.forCall tape i) w.heap.size i.args ds gs before hval hw' (hz.weights hw) (hX _ _ _ (by rfl) hx) hsh).mono fun e W' ⟨v, he, hp⟩ => ?_
  subst he
  exact ChangeSpec.post_blind hp
end Go.Proofs.YtbkkkpfoaggejaaGreatDoor
