/- From the card's listed variables to what the contracts ask of the world; the frame of a call. -/
import Derived.Test.YtopdogpcachonaaGreatDoorLaidN
import Derived.Test.YtopdogpcachonaaGreatDoorShelf
import Derived.Test.YtopdogpcachonaaGreatDoorRows
import Derived.Lib.LaidU8
import Derived.OpenShut
import Derived.HandedShaped
import Derived.Handed
namespace Go.Proofs.YtopdogpcachonaaGreatDoor
set_option linter.unusedVariables false
open Go.RowKit Go.Lib

theorem mixed_struct {H : Type} {enc : TypeId × Value → H} {P : Program} {w : World} {base : Nat} {sp : Nat → Bool} {held : Bool} {fuel : Nat} {t : TypeId} {fs : Array Field} {cs : List Value} {kz : List (IntKind × Int)} {p : List MemPlace} (ht : P.underlying t = some (.struct fs)) (hn : kz.length = fs.size)
    (hf : ∀ (i : Nat) (f : Field) (x : IntKind × Int), fs[i]? = some f → kz[i]? = some x → P.underlying f.type = some (.int x.1) ∧ f.offset = i ∧ P.cellsOf f.type = 1) (hct : P.cellsOf t = fs.size)
    (h : DataW.trod enc P w base sp held fuel t cs = some (.agg (kz.map fun x => .lit (.int x.1 x.2)), p)) : cs = kz.map fun x => Value.int x.1 x.2 := by
  obtain ⟨xs, n, rfl, hx, hl, hxl, hall⟩ := DataW.trod_struct ht h
  have hxs : xs.map (·.1) = kz.map fun x => (DataW.lit (.int x.1 x.2) : DataW H) := by
    have := congrArg Prod.fst hx
    simpa using this.symm
  apply List.ext_getElem?
  intro i
  by_cases hi : i < fs.size
  · have hik : i < kz.length := by omega
    obtain ⟨hu, ho, hc⟩ := hf i fs[i] kz[i] (by simp [hi]) (List.getElem?_eq_getElem hik)
    have h1 := hall i fs[i] (by simp [hi])
    obtain ⟨b, hb⟩ : ∃ b, xs[i]? = some b := ⟨xs[i]'(by omega), List.getElem?_eq_getElem (by omega)⟩
    rw [hb, ho, hc] at h1
    obtain ⟨z, hcz, rfl, _⟩ := DataW.trod_int hu h1
    have h2 : cs[i]? = some (.int kz[i].1 z) := by
      have := congrArg (·[0]?) hcz
      simpa [List.getElem?_take, List.getElem?_drop] using this
    have h3 : (xs.map (·.1))[i]? = some (DataW.lit (.int kz[i].1 z) : DataW H) := by simp [hb]
    rw [hxs] at h3
    simp [hik] at h3
    rw [h2]
    simp [hik, h3]
  · rw [List.getElem?_eq_none (by omega), List.getElem?_eq_none (by simp; omega)]

theorem handed_shaped {H : Type} {enc : TypeId × Value → H} {a : Assume} {C : Checked} {os : Os} {f : FuncId} {fn : Func} {s : ChangeSpec} {conds : List PathCond} {apart fresh handsOn again : Bool} {X : World → Array Value → Prop}
    (hX : ∀ (w w' : World) (args : Array Value), w.heap = w'.heap → X w args → X w' args)
    (own : ownKnob C.prog.godebug = none) (started : os.Started) (noInit : C.prog.inits.idxOf? f = none) (hfn : C.prog.funcs[f]? = some fn)
    (witness : ∃ (w : World) (tape : Tape) (i : Input), w.os = os ∧ (w.forCall tape i).Shaped C.prog ∧ i.vars = [] ∧ Input.okWide C.prog (w.forCall tape i) .any w.heap.size f i ∧
      ((s.pre enc C.prog fn conds apart (w.forCall tape i).memory i.args ∧ X (w.forCall tape i).memory i.args) ∧ sizedMet enc C.prog fn (OpenSpec.ofChange s) apart (w.forCall tape i).memory i.args) ∧ a.holds C.prog (lone (Frame.enter C.prog f i.args .normal) [] (w.forCall tape i)))
    (contract : ∀ (W : World) (base : Nat) (args : Array Value) (ds gs : List (DataW H)) (before : List MemPlace),
      (∀ (j : Nat) t v, fn.params[j]? = some t → args[j]? = some v → Value.okWide C.prog W .any base t v) →
      DataW.Whole enc C.prog fn.params.toList s.vars apart W args.toList ds gs before →
      (DataW.weightsEach C.prog (fn.params.toList ++ s.plain.varTypes C.prog) (ds ++ gs)).all (· ≤ reachBytes) = true → X W args → W.ShapedOpen C.prog →
      Calls C.prog f args W fun e W' => ∃ v, e = .returned v ∧ s.post enc C.prog fn apart fresh handsOn again W args v W') :
    ReturnsInHanded a C os f .any (fun w args => (s.pre enc C.prog fn conds apart w args ∧ X w args) ∧ sizedMet enc C.prog fn (OpenSpec.ofChange s) apart w args) (s.post enc C.prog fn apart fresh handsOn again) := by
  refine returnsInHanded_of_calls own started noInit witness ?_
  intro w tape i _ hsh _ hok hpre hholds
  obtain ⟨_, _, _, fn', hfn', _, _, _, _, hval⟩ := hok
  have e : fn' = fn := Option.some.inj (hfn'.symm.trans hfn)
  subst e
  obtain ⟨⟨⟨ds, gs, before, hw, hc⟩, hx⟩, hz⟩ := hpre
  have hw' := DataW.Whole.of_heap (w' := w.forCall tape i) (by rfl) hw
  refine (contract (w.forCall tape i) w.heap.size i.args ds gs before hval hw' (hz.weights hw) (hX _ _ _ (by rfl) hx) hsh).mono fun e W' ⟨v, he, hp⟩ => ?_
  subst he
  exact ChangeSpec.post_blind hp

theorem laid_info {w : World} (h : VarReads Tryz.prog w "internal/strconv.float64info" Rows.laid_internal_strconv_float64info) : w.cell? ⟨9, 0, none⟩ = some (.int .u64 52) ∧ w.cell? ⟨9, 1, none⟩ = some (.int .u64 11) ∧ w.cell? ⟨9, 2, none⟩ = some (.int .i64 (-1023)) := by
  obtain ⟨g, t, cs, fuel, p, hg, hty, hvar, hd⟩ := h
  obtain rfl : g = 9 := (Option.some.inj ((show Tryz.prog.globalNamed "internal/strconv.float64info" = some 9 by kernel_rfl).symm.trans hg)).symm
  obtain rfl : t = 187 := (Option.some.inj ((show (Tryz.prog.globals[9]?).map (·.type) = some 187 by kernel_rfl).symm.trans hty)).symm
  have hcs := mixed_struct (kz := [(.u64, 52), (.u64, 11), (.i64, -1023)]) Tryz.underlying187 (by kernel_rfl) (fun j f x hj hx => by
    match j, hj, hx with
    | 0, hj, hx => simp at hj hx; subst hj; subst hx; exact ⟨by kernel_rfl, rfl, by kernel_rfl⟩
    | 1, hj, hx => simp at hj hx; subst hj; subst hx; exact ⟨by kernel_rfl, rfl, by kernel_rfl⟩
    | 2, hj, hx => simp at hj hx; subst hj; subst hx; exact ⟨by kernel_rfl, rfl, by kernel_rfl⟩
    | j + 3, hj, hx => simp at hx) (by kernel_rfl) hd
  have hget := fun i => World.var?_cell hg hvar i
  refine ⟨?_, ?_, ?_⟩
  · rw [hget 0, ← Array.getElem?_toList, hcs]; rfl
  · rw [hget 1, ← Array.getElem?_toList, hcs]; rfl
  · rw [hget 2, ← Array.getElem?_toList, hcs]; rfl
theorem laid_opt {w : World} (h : VarReads Tryz.prog w "internal/strconv.optimize" Rows.laid_internal_strconv_optimize) : w.cell? ⟨8, 0, none⟩ = some (.bool true) := by
  obtain ⟨g, t, cs, fuel, p, hg, hty, hvar, hd⟩ := h
  obtain rfl : g = 8 := (Option.some.inj ((show Tryz.prog.globalNamed "internal/strconv.optimize" = some 8 by kernel_rfl).symm.trans hg)).symm
  obtain rfl : t = 4 := (Option.some.inj ((show (Tryz.prog.globals[8]?).map (·.type) = some 4 by kernel_rfl).symm.trans hty)).symm
  obtain ⟨b, hcs, hx⟩ := DataW.trod_bool Tryz.underlying4 hd
  have hb : b = true := by
    have := congrArg Prod.fst hx
    simp [Rows.laid_internal_strconv_optimize] at this
    exact this
  rw [World.var?_cell hg hvar 0, ← Array.getElem?_toList, hcs, hb]
  rfl
theorem laid_lets' {w : World} (h : VarReads Tryz.prog w "lintel/digits.byLetter" Rows.laid_lintel_digits_byLetter) : ∀ j, j < 6 → w.cell? ⟨6, j, none⟩ = some ([.int .u8 120, .int .i64 16, .int .u8 111, .int .i64 8, .int .u8 98, .int .i64 2].getD j (.int .u8 0)) := by
  obtain ⟨g, t, cs, fuel, p, hg, hty, hvar, hd⟩ := h
  obtain rfl : g = 6 := (Option.some.inj ((show Tryz.prog.globalNamed "lintel/digits.byLetter" = some 6 by kernel_rfl).symm.trans hg)).symm
  obtain rfl : t = 163 := (Option.some.inj ((show (Tryz.prog.globals[6]?).map (·.type) = some 163 by kernel_rfl).symm.trans hty)).symm
  have hel : ∀ i, i < 3 → ∀ a b, [(120, 16), (111, 8), (98, 2)][i]? = some (a, b) → cs[2 * i]? = some (.int .u8 a) ∧ cs[2 * i + 1]? = some (.int .i64 b) := fun i hi a b hab => by
    obtain ⟨fuel', d, q, hdi, he⟩ := array_elem Tryz.underlying163 hd i hi
    rw [show Tryz.prog.cellsOf 162 = 2 by kernel_rfl] at he
    have hdd : d = .agg ([(IntKind.u8, a), (IntKind.i64, b)].map fun x => .lit (.int x.1 x.2)) := by
      match i, hi, hab, hdi with
      | 0, _, hab, hdi => simp at hab hdi; rw [← hdi, ← hab.1, ← hab.2]; rfl
      | 1, _, hab, hdi => simp at hab hdi; rw [← hdi, ← hab.1, ← hab.2]; rfl
      | 2, _, hab, hdi => simp at hab hdi; rw [← hdi, ← hab.1, ← hab.2]; rfl
    rw [hdd] at he
    have hcs := mixed_struct (kz := [(.u8, a), (.i64, b)]) Tryz.underlying162 (by kernel_rfl) (fun j f x hj hx => by
      match j, hj, hx with
      | 0, hj, hx => simp at hj hx; subst hj; subst hx; exact ⟨by kernel_rfl, rfl, by kernel_rfl⟩
      | 1, hj, hx => simp at hj hx; subst hj; subst hx; exact ⟨by kernel_rfl, rfl, by kernel_rfl⟩
      | j + 2, hj, hx => simp at hx) (by kernel_rfl) he
    have e0 := congrArg (·[0]?) hcs
    have e1 := congrArg (·[1]?) hcs
    simp only [List.getElem?_take, List.getElem?_drop] at e0 e1
    refine ⟨?_, ?_⟩
    · simpa [Nat.mul_comm] using e0
    · simpa [Nat.mul_comm] using e1
  intro j hj
  rw [World.var?_cell hg hvar j]
  have h0 := hel 0 (by omega) _ _ rfl
  have h1 := hel 1 (by omega) _ _ rfl
  have h2 := hel 2 (by omega) _ _ rfl
  match j, hj with
  | 0, _ => exact h0.1
  | 1, _ => exact h0.2
  | 2, _ => exact h1.1
  | 3, _ => exact h1.2
  | 4, _ => exact h2.1
  | 5, _ => exact h2.2
theorem trod_float' {H : Type} {enc : TypeId × Value → H} {P : Program} {w : World} {base : Nat} {sp : Nat → Bool} {held : Bool} {fuel : Nat} {t : TypeId} {k : FloatKind} {cs : List Value} {x : DataW H × List MemPlace} (ht : P.underlying t = some (.float k)) (h : DataW.trod enc P w base sp held fuel t cs = some x) : ∃ n, cs = [.float k n] ∧ x = (.lit (.float k n), []) := by
  cases fuel with
  | zero => simp [DataW.trod] at h
  | succ n =>
    unfold DataW.trod at h
    rw [ht] at h
    split at h <;> simp_all
theorem laid_f64 {w : World} (h : VarReads Tryz.prog w "internal/strconv.float64pow10" Rows.laid_internal_strconv_float64pow10) : ∃ b o c : Nat, w.cell? ⟨15, 0, none⟩ = some (.slice (some ⟨b, o, none⟩) 23 c) ∧ ∀ j, j < 23 → w.cell? ⟨b, o + j, none⟩ = some (.float .f64 (p10L.getD j 0)) := by
  obtain ⟨g, t, cs, fuel, p, hg, hty, hvar, hd⟩ := h
  obtain rfl : g = 15 := (Option.some.inj ((show Tryz.prog.globalNamed "internal/strconv.float64pow10" = some 15 by kernel_rfl).symm.trans hg)).symm
  obtain rfl : t = 235 := (Option.some.inj ((show (Tryz.prog.globals[15]?).map (·.type) = some 235 by kernel_rfl).symm.trans hty)).symm
  have hdat : (Rows.laid_internal_strconv_float64pow10 : DataW Unit) = .slice (p10L.map fun x => .lit (.float .f64 x)) [] := rfl
  rw [hdat] at hd
  have hpl : p10L.length = 23 := by decide
  rcases DataW.trod_slice Tryz.underlying235 hd with ⟨_, hx⟩ | ⟨a, len, cap, el, rs, m, rfl, hcs, hx, _, hlc, _, hel, helem, hsp, _⟩
  · cases hx
  have e0 := congrArg Prod.fst hx
  simp only [DataW.slice.injEq] at e0
  obtain ⟨eE, eR⟩ := e0
  have hlen : len = 23 := by
    have := congrArg List.length eE
    simp at this
    omega
  have hcell : ∀ i, i < 23 → w.cell? (a.add i) = some (.float .f64 (p10L.getD i 0)) := by
    intro i hi
    have h1 := helem i (by omega)
    rw [show Tryz.prog.cellsOf 29 = 1 by kernel_rfl] at h1
    obtain ⟨b, hb⟩ : ∃ b, el[i]? = some b := ⟨el[i]'(by omega), List.getElem?_eq_getElem (by omega)⟩
    rw [hb] at h1
    obtain ⟨ce, hce, hte⟩ := Option.bind_eq_some_iff.1 h1
    obtain ⟨z, hz, hbz⟩ := trod_float' Tryz.underlying29 hte
    have hb1 : b.1 = .lit (.float .f64 (p10L.getD i 0)) := by
      have := congrArg (·[i]?) eE
      have hi2 : i < p10L.length := by omega
      simp [hb, hi2] at this
      rw [← this, List.getD_eq_getElem?_getD, List.getElem?_eq_getElem hi2]
      rfl
    rw [hbz] at hb1
    simp only [DataW.lit.injEq, Lit.float.injEq, true_and] at hb1
    obtain ⟨_, _, hcc⟩ := World.cells?_some hce
    have := hcc 0 (by omega)
    rw [hz] at this
    simp only [Nat.mul_one] at this
    have e1 : (a.add i).add 0 = a.add i := by simp [Addr.add]
    rw [e1] at this
    rw [this, ← hb1]
    rfl
  obtain ⟨b, o, s⟩ := a
  have hs : s = none := cell_spot (by have := hcell 0 (by omega); rwa [show (⟨b, o, s⟩ : Addr).add 0 = ⟨b, o, s⟩ by simp [Addr.add]] at this)
  subst hs
  refine ⟨b, o, cap, ?_, fun j hj => ?_⟩
  · rw [World.var?_cell hg hvar 0, ← Array.getElem?_toList, hcs, hlen]
    rfl
  · have := hcell j hj
    rwa [add_plain] at this
/-- What the card's world has. -/
theorem laidN_of {w : World} {l : List (String × DataW Unit)} (h : laidMet Tryz.prog l w) (hsh : w.ShapedOpen Tryz.prog) (m3 : ("lintel/digits.byLetter", Rows.laid_lintel_digits_byLetter) ∈ l)
    (m4 : ("internal/strconv.optimize", Rows.laid_internal_strconv_optimize) ∈ l) (m5 : ("internal/strconv.float64info", Rows.laid_internal_strconv_float64info) ∈ l) (m6 : ("internal/strconv.float64pow10", Rows.laid_internal_strconv_float64pow10) ∈ l) : LaidN w :=
  ⟨Tryz.laysM145.s1_3 w hsh, laid_lets' (laidMet.reads h m3), laid_opt (laidMet.reads h m4), laid_info (laidMet.reads h m5), laid_f64 (laidMet.reads h m6)⟩
end Go.Proofs.YtopdogpcachonaaGreatDoor
