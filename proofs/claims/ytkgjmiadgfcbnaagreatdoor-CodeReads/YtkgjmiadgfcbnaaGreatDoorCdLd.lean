/- From the card's listed variables to what the contracts ask of the world; bytes as an argument. -/
import Derived.Test.YtkgjmiadgfcbnaaGreatDoorCdLw
import Derived.Test.YtkgjmiadgfcbnaaGreatDoorRows
import Derived.Lib.LaidU8
import Derived.OpenShut
import Derived.HandedShaped
import Derived.Handed
import Derived.SizedLaws
import Derived.SliceStrings
import Derived.ChangeSlices
namespace Go.Proofs.YtkgjmiadgfcbnaaGreatDoor
set_option linter.unusedVariables false
open Go.RowKit Go.Lib Go.ChangeShapes Go.WideShapes

theorem laid_at {w : World} {g t n : Nat} {nm : String} {cs : Array Value} {fuel : Nat} {p : List MemPlace} {ds : List (DataW Unit)} (hg : Tryz.prog.globalNamed nm = some g) (hvar : w.var? Tryz.prog nm = some cs) (ht : Tryz.prog.underlying t = some (.array n 9)) (hd : DataW.trod (fun _ => ()) Tryz.prog w 0 (fun _ => true) false fuel t cs.toList = some (.agg ds, p)) (i : Nat) (hi : i < n) (l : List UInt8) (hl : ds[i]? = some (.lit (.string l))) : w.cell? ⟨g, i, none⟩ = some (.string (Sb l)) := by
  obtain ⟨fuel', d, q, hdi, he⟩ := array_elem ht hd i hi
  rw [hl] at hdi
  rw [show Tryz.prog.cellsOf 9 = 1 by kernel_rfl] at he
  obtain ⟨s, hs, hy, _⟩ := DataW.trod_string Tryz.underlying9 he
  obtain rfl := Option.some.inj hdi
  have hy' : l = s.data.toList := by have e := congrArg (fun d : DataW Unit => match d with | .lit (.string x) => x | _ => []) (congrArg Prod.fst hy); first | simpa using e | (simp at hy; exact hy) | (simp at hy; exact hy.1)
  have hsb : Sb l = s := by rw [hy']; cases s; simp [Sb]
  rw [World.var?_cell hg hvar i, ← Array.getElem?_toList, hsb]
  have := congrArg (·[0]?) hs
  simpa [List.getElem?_take, List.getElem?_drop] using this
set_option maxRecDepth 100000 in
theorem laid_letters {w : World} (h : VarReads Tryz.prog w "lintel/code.letters" Rows.laid_lintel_code_letters) : LaidL w := by
  obtain ⟨g, t, cs, fuel, p, hg, hty, hvar, hd⟩ := h
  obtain rfl : g = 1 := (Option.some.inj ((show Tryz.prog.globalNamed "lintel/code.letters" = some 1 by kernel_rfl).symm.trans hg)).symm
  obtain rfl : t = 95 := (Option.some.inj ((show (Tryz.prog.globals[1]?).map (·.type) = some 95 by kernel_rfl).symm.trans hty)).symm
  rw [show (Rows.laid_lintel_code_letters : DataW Unit) = .agg (lets.map fun l => .lit (.string l)) by rfl] at hd
  intro k hk
  have hk' : k < lets.length := hk
  refine laid_at hg hvar Tryz.underlying95 hd k hk _ ?_
  rw [List.getElem?_map, List.getD_eq_getElem?_getD, List.getElem?_eq_getElem hk']
  rfl
set_option maxRecDepth 100000 in
theorem laid_names {w : World} (h : VarReads Tryz.prog w "lintel/code.names" Rows.laid_lintel_code_names) : LaidNm w := by
  obtain ⟨g, t, cs, fuel, p, hg, hty, hvar, hd⟩ := h
  obtain rfl : g = 0 := (Option.some.inj ((show Tryz.prog.globalNamed "lintel/code.names" = some 0 by kernel_rfl).symm.trans hg)).symm
  obtain rfl : t = 94 := (Option.some.inj ((show (Tryz.prog.globals[0]?).map (·.type) = some 94 by kernel_rfl).symm.trans hty)).symm
  obtain ⟨ds, hds, h0, h1⟩ : ∃ ds, (Rows.laid_lintel_code_names : DataW Unit) = .agg ds ∧ ds[0]? = some (.lit (.string (nmE 0))) ∧ ds[34]? = some (.lit (.string (nmE 1))) := ⟨_, rfl, rfl, rfl⟩
  rw [hds] at hd
  exact ⟨laid_at hg hvar Tryz.underlying94 hd 0 (by omega) _ h0, laid_at hg hvar Tryz.underlying94 hd 34 (by omega) _ h1⟩
theorem handed_shaped {H : Type} {enc : TypeId × Value → H} {a : Assume} {C : Checked} {os : Os} {f : FuncId} {fn : Func} {s : ChangeSpec} {conds : List PathCond} {apart fresh handsOn again : Bool} {X : World → Array Value → Prop}
    (hX : ∀ (w w' : World) (args : Array Value), w.heap = w'.heap → X w args → X w' args)
    (own : ownKnob C.prog.godebug = none) (started : os.Started) (noInit : C.prog.inits.idxOf? f = none) (hfn : C.prog.funcs[f]? = some fn)
    (witness : ∃ (w : World) (tape : Tape) (i : Input), w.os = os ∧ (w.forCall tape i).Shaped C.prog ∧ i.vars = [] ∧ Input.okWide C.prog (w.forCall tape i) .any w.heap.size f i ∧
      ((s.pre enc C.prog fn conds apart (w.forCall tape i).memory i.args ∧ X (w.forCall tape i).memory i.args) ∧ sizedMet enc C.prog fn (OpenSpec.ofChange s) apart (w.forCall tape i).memory i.args) ∧ a.holds C.prog (lone (Frame.enter C.prog f i.args .normal) [] (w.forCall tape i)))
    (contract : ∀ (W : World) (base : Nat) (args : Array Value) (ds gs : List (DataW H)) (before : List MemPlace),
      (∀ (j : Nat) t v, fn.params[j]? = some t → args[j]? = some v → Value.okWide C.prog W .any base t v) →
      DataW.Whole enc C.prog fn.params.toList s.vars apart W args.toList ds gs before →
      (DataW.weightsEach C.prog (fn.params.toList ++ s.plain.varTypes C.prog) (ds ++ gs)).all (· ≤ reachBytes) = true → X W args → W.ShapedOpen C.prog →
      Calls C.prog f args W fun e W' => ∃ v, e = .returned v ∧ s.post enc C.prog fn apart fresh handsOn again W args v W') :
    ReturnsInHanded a C os f .any (fun w args => (s.pre enc C.prog fn conds apart w args ∧ X w args) ∧ sizedMet enc C.prog fn (OpenSpec.ofChange s) apart w args) (s.post enc C.prog fn apart fresh handsOn again) := by
  refine returnsInHanded_of_calls own started noInit witness ?_
  intro w tape i _ hsh _ hok hpre hholds
  obtain ⟨_, _, _, fn', hfn', _, _, _, _, hval⟩ := hok
  have e : fn' = fn := Option.some.inj (hfn'.symm.trans hfn)
  subst e
  obtain ⟨⟨⟨ds, gs, before, hw, hc⟩, hx⟩, hz⟩ := hpre
  have hw' := DataW.Whole.of_heap (w' := w.forCall tape i) (by rfl) hw
  refine (contract (w.forCall tape i) w.heap.size i.args ds gs before hval hw' (hz.weights hw) (hX _ _ _ (by rfl) hx) hsh).mono fun e W' ⟨v, he, hp⟩ => ?_
  subst he
  exact ChangeSpec.post_blind hp

set_option maxRecDepth 100000 in
/-- Bytes that came in. -/
theorem down_bytes {H : Type} {enc : TypeId × Value → H} {W : World} {base : Nat} {v : Value} {d : DataW H} {p : List MemPlace} (hval : Value.okWide Tryz.prog W .any base 22 v) (h : DataW.Trod enc Tryz.prog W 0 (fun _ => true) true 22 v d p) (hw : ∀ n ∈ DataW.weights Tryz.prog 22 d, n ≤ reachBytes) :
    ∃ a c L, v = .slice a (L : List UInt8).length c ∧ Bw W a c L ∧ (L.length : Int) ≤ 140737488351232 := by
  obtain ⟨a0, len0, cap0, rfl⟩ := okWide_slice Tryz.underlying22 hval
  obtain ⟨fuel, hf⟩ := h
  have hby : Tryz.prog.bytesOf 5 = 1 := by kernel_rfl
  rcases open_ints Tryz.underlying22 Tryz.underlying5 (by kernel_rfl) hf with ⟨hcs, _⟩ | ⟨a, l, c, zs, hcs, _, hl, hm, hz, hx, hcell, hwz⟩
  · simp [Value.cells] at hcs
    obtain ⟨rfl, rfl, rfl⟩ := hcs
    exact ⟨none, 0, [], rfl, ⟨⟨by simp, by omega, .inl rfl⟩, .inl ⟨rfl, rfl, rfl⟩⟩, by simp⟩
  · simp [Value.cells] at hcs
    obtain ⟨rfl, rfl, rfl⟩ := hcs
    have hz' : zs.length = cap0 := by simpa using hz
    unfold maxLen at hm
    have hx' : d = .slice (lits .u8 (zs.take len0)) (lits .u8 (zs.drop len0)) := by simpa using congrArg Prod.fst hx
    obtain ⟨L, hL⟩ : ∃ L, ((zs.take len0).map fun n => UInt8.ofNat n.toNat) = L := ⟨_, rfl⟩
    have hlt : L.length = len0 := by rw [← hL]; simp; omega
    have hcl : ∀ (j : Nat) (hj : j < L.length), W.cell? (a.add j) = some (.int .u8 (L[j].toNat : Int)) := by
      intro j hj
      rw [hlt] at hj
      rw [hcell j (by omega)]
      have hb := range_u8 hwz j
      have e : zs[j]?.getD 0 = zs[j]'(by omega) := by simp [List.getElem?_eq_getElem (show j < zs.length by omega)]
      rw [e] at hb
      have e2 : zs.getD j 0 = zs[j]'(by omega) := by rw [List.getD_eq_getElem?_getD]; exact e
      rw [e2]
      simp only [← hL, List.getElem_map, List.getElem_take]
      congr 2
      have : (UInt8.ofNat (zs[j]'(by omega)).toNat).toNat = (zs[j]'(by omega)).toNat := by
        rw [UInt8.toNat_ofNat']
        omega
      rw [this]
      omega
    refine ⟨some a, cap0, L, by rw [hlt], ⟨⟨by omega, by omega, ?_⟩, .inr ⟨a, rfl, ?_⟩⟩, ?_⟩
    · by_cases hn : len0 = 0
      · exact .inl (List.eq_nil_of_length_eq_zero (by omega))
      · obtain ⟨b, off, spot⟩ := a
        have hspot : spot = none := by simpa [Addr.add] using World.cell?_spot (hcell 0 (by omega))
        subst hspot
        have hb := World.block_lt_of_cell? W _ (hcell 0 (by omega))
        refine .inr ⟨b, off, rfl, fun j hj => ?_, by simpa [Addr.add] using hb⟩
        have := hcl j hj
        rwa [Addr.add_lit] at this
    · intro j u hu
      have hj : j < L.length := by
        rcases Nat.lt_or_ge j L.length with h | h
        · exact h
        · rw [List.getElem?_eq_none (by rw [byteCells_length]; exact h)] at hu; cases hu
      rw [hcl j hj]
      simpa [byteCells, hj] using hu
    · have hw1 : ((lits (H := H) .u8 (zs.take len0)).length + (lits (H := H) .u8 (zs.drop len0)).length) * Tryz.prog.bytesOf 5 ∈ DataW.weights Tryz.prog 22 d := by
        rw [hx']
        simp only [DataW.weights, Tryz.underlying22, List.mem_cons, true_or]
      have hq := hw _ hw1
      rw [hby] at hq
      simp only [reachBytes, lits, List.length_map, List.length_take, List.length_drop] at hq
      omega
end Go.Proofs.YtkgjmiadgfcbnaaGreatDoor
