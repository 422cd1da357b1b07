/- From the card's listed variable and its argument to what the contracts ask of the world: a module that came in. -/
import Derived.Test.YtcagfjogfbddeaaDoorChP
import Derived.Test.YtcagfjogfbddeaaDoorRows
import Derived.Lib.LaidU8
import Derived.OpenShut
import Derived.HandedShaped
import Derived.Handed
import Derived.SizedLaws
import Derived.SliceStrings
import Derived.ChangeSlices
import Derived.ChangeSame
import Derived.Deep.Slices
import Derived.Deep.Fields
namespace Go.Proofs.YtcagfjogfbddeaaDoor
set_option linter.unusedVariables false
set_option linter.unusedSimpArgs false
open Go.RowKit Go.Lib Go.ChangeShapes Go.WideShapes

theorem laid_at {w : World} {g t n : Nat} {nm : String} {cs : Array Value} {fuel : Nat} {p : List MemPlace} {ds : List (DataW Unit)} (hg : Tryd.prog.globalNamed nm = some g) (hvar : w.var? Tryd.prog nm = some cs) (ht : Tryd.prog.underlying t = some (.array n 9)) (hd : DataW.trod (fun _ => ()) Tryd.prog w 0 (fun _ => true) false fuel t cs.toList = some (.agg ds, p)) (i : Nat) (hi : i < n) (l : List UInt8) (hl : ds[i]? = some (.lit (.string l))) : w.cell? ⟨g, i, none⟩ = some (.string (Sb l)) := by
  obtain ⟨fuel', d, q, hdi, he⟩ := array_elem ht hd i hi
  rw [hl] at hdi
  rw [show Tryd.prog.cellsOf 9 = 1 by kernel_rfl] at he
  obtain ⟨s, hs, hy, _⟩ := DataW.trod_string Tryd.underlying9 he
  obtain rfl := Option.some.inj hdi
  have hy' : l = s.data.toList := by have e := congrArg (fun d : DataW Unit => match d with | .lit (.string x) => x | _ => []) (congrArg Prod.fst hy); first | simpa using e | (simp at hy; exact hy) | (simp at hy; exact hy.1)
  have hsb : Sb l = s := by rw [hy']; cases s; simp [Sb]
  rw [World.var?_cell hg hvar i, ← Array.getElem?_toList, hsb]
  have := congrArg (·[0]?) hs
  simpa [List.getElem?_take, List.getElem?_drop] using this
set_option maxRecDepth 100000 in
theorem laid_letters {w : World} (h : VarReads Tryd.prog w "lintel/code.letters" Rows.laid_lintel_code_letters) : LaidL w := by
  obtain ⟨g, t, cs, fuel, p, hg, hty, hvar, hd⟩ := h
  obtain rfl : g = 0 := (Option.some.inj ((show Tryd.prog.globalNamed "lintel/code.letters" = some 0 by kernel_rfl).symm.trans hg)).symm
  obtain rfl : t = 74 := (Option.some.inj ((show (Tryd.prog.globals[0]?).map (·.type) = some 74 by kernel_rfl).symm.trans hty)).symm
  rw [show (Rows.laid_lintel_code_letters : DataW Unit) = .agg (lets.map fun l => .lit (.string l)) by rfl] at hd
  intro k hk
  have hk' : k < lets.length := hk
  refine laid_at hg hvar Tryd.underlying74 hd k hk _ ?_
  rw [List.getElem?_map, List.getD_eq_getElem?_getD, List.getElem?_eq_getElem hk']
  rfl
theorem handed_shaped {H : Type} {enc : TypeId × Value → H} {a : Assume} {C : Checked} {os : Os} {f : FuncId} {fn : Func} {s : ChangeSpec} {conds : List PathCond} {apart fresh handsOn again : Bool} {X : World → Array Value → Prop}
    (hX : ∀ (w w' : World) (args : Array Value), w.heap = w'.heap → X w args → X w' args)
    (own : ownKnob C.prog.godebug = none) (started : os.Started) (noInit : C.prog.inits.idxOf? f = none) (hfn : C.prog.funcs[f]? = some fn)
    (witness : ∃ (w : World) (tape : Tape) (i : Input), w.os = os ∧ (w.forCall tape i).Shaped C.prog ∧ i.vars = [] ∧ Input.okWide C.prog (w.forCall tape i) .any w.heap.size f i ∧
      ((s.pre enc C.prog fn conds apart (w.forCall tape i).memory i.args ∧ X (w.forCall tape i).memory i.args) ∧ sizedMet enc C.prog fn (OpenSpec.ofChange s) apart (w.forCall tape i).memory i.args) ∧ a.holds C.prog (lone (Frame.enter C.prog f i.args .normal) [] (w.forCall tape i)))
    (contract : ∀ (W : World) (base : Nat) (args : Array Value) (ds gs : List (DataW H)) (before : List MemPlace),
      (∀ (j : Nat) t v, fn.params[j]? = some t → args[j]? = some v → Value.okWide C.prog W .any base t v) →
      DataW.Whole enc C.prog fn.params.toList s.vars apart W args.toList ds gs before →
      (DataW.weightsEach C.prog (fn.params.toList ++ s.plain.varTypes C.prog) (ds ++ gs)).all (· ≤ reachBytes) = true → X W args → W.ShapedOpen C.prog →
      Calls C.prog f args W fun e W' => ∃ v, e = .returned v ∧ s.post enc C.prog fn apart fresh handsOn again W args v W') :
    ReturnsInHanded a C os f .any (fun w args => (s.pre enc C.prog fn conds apart w args ∧ X w args) ∧ sizedMet enc C.prog fn (OpenSpec.ofChange s) apart w args) (s.post enc C.prog fn apart fresh handsOn again) := by
  refine returnsInHanded_of_calls own started noInit witness ?_
  intro w tape i _ hsh _ hok hpre hholds
  obtain ⟨_, _, _, fn', hfn', _, _, _, _, hval⟩ := hok
  have e : fn' = fn := Option.some.inj (hfn'.symm.trans hfn)
  subst e
  obtain ⟨⟨⟨ds, gs, before, hw, hc⟩, hx⟩, hz⟩ := hpre
  have hw' := DataW.Whole.of_heap (w' := w.forCall tape i) (by rfl) hw
  refine (contract (w.forCall tape i) w.heap.size i.args ds gs before hval hw' (hz.weights hw) (hX _ _ _ (by rfl) hx) hsh).mono fun e W' ⟨v, he, hp⟩ => ?_
  subst he
  exact ChangeSpec.post_blind hp

theorem weights_in {H : Type} {e : TypeId} {n : Nat} {d : DataW H} : ∀ (ds : List (DataW H)), d ∈ ds → n ∈ DataW.weights Tryd.prog e d → n ∈ DataW.weightsAll Tryd.prog e ds
  | [], h, _ => by cases h
  | a :: r, h, hn => by
    simp only [DataW.weightsAll, List.mem_append]
    rcases List.mem_cons.1 h with rfl | h
    · exact .inl hn
    · exact .inr (weights_in r h hn)
theorem trod_float' {H : Type} {enc : TypeId × Value → H} {W : World} {base : Nat} {spare : Nat → Bool} {held : Bool} {fuel : Nat} {t : TypeId} {cs : List Value} {x : DataW H × List MemPlace} {k : FloatKind} (ht : Tryd.prog.underlying t = some (.float k)) (h : DataW.trod enc Tryd.prog W base spare held fuel t cs = some x) : ∃ n, cs = [.float k n] := by
  cases fuel with
  | zero => simp [DataW.trod] at h
  | succ n =>
    unfold DataW.trod at h
    rw [ht] at h
    split at h <;> simp_all
/-- A struct whose fields are one cell each. -/
theorem one_fields {H : Type} {enc : TypeId × Value → H} {W : World} {t : TypeId} {fs : Array Field} {fuel : Nat} {cs : List Value} {x : DataW H × List MemPlace} (ht : Tryd.prog.underlying t = some (.struct fs)) (hone : Deep.oneCellFields Tryd.prog fs = true) (hC : Tryd.prog.cellsOf t = fs.size)
    (h : DataW.trod enc Tryd.prog W 0 (fun _ => true) true fuel t cs = some x) :
    cs.length = fs.size ∧ ∃ (Y : Nat → DataW H × List MemPlace) (n : Nat), (∀ (i : Nat) (f : Field), fs[i]? = some f → DataW.trod enc Tryd.prog W 0 (fun _ => true) true n f.type [cs.getD i (.int .i64 0)] = some (Y i) ∧ ∀ n ∈ DataW.weights Tryd.prog f.type (Y i).1, n ∈ DataW.weights Tryd.prog t x.1) := by
  obtain ⟨xs, n, _, rfl, hl, hlen, hf⟩ := DataW.trod_struct ht h
  rw [hC] at hl
  refine ⟨hl, fun i => xs.getD i (.nil, []), n, fun i f hi => ?_⟩
  have hlt : i < fs.size := (Array.getElem?_eq_some_iff.1 hi).1
  obtain ⟨ho, hc⟩ := Deep.hone_of hone i f hi
  have := hf i f hi
  rw [ho, hc, Deep.take1_drop cs i (.int .i64 0) (by omega), List.getElem?_eq_getElem (by omega)] at this
  have e : xs.getD i (.nil, []) = xs[i]'(by omega) := by rw [List.getD_eq_getElem?_getD, List.getElem?_eq_getElem (by omega)]; rfl
  refine ⟨this.trans (congrArg some e.symm), fun m hm => ?_⟩
  simp only [DataW.weights, ht]
  refine DataW.weights_mem_each (j := i) (t := f.type) (d := (xs.getD i (.nil, [])).1) ?_ ?_ m hm
  · rw [List.getElem?_map, Array.getElem?_toList, hi]; rfl
  · rw [List.getElem?_map, List.getElem?_eq_getElem (by omega), e]; rfl
theorem list_one {l : List Value} (h : l.length = 1) : ∃ a, l = [a] := by
  match l, h with
  | [a], _ => exact ⟨a, rfl⟩
theorem list_two {l : List Value} (h : l.length = 2) : ∃ a b, l = [a, b] := by
  match l, h with
  | [a, b], _ => exact ⟨a, b, rfl⟩
theorem list_four {l : List Value} (h : l.length = 4) : ∃ a b c d, l = [a, b, c, d] := by
  match l, h with
  | [a, b, c, d], _ => exact ⟨a, b, c, d, rfl⟩
theorem list_five {l : List Value} (h : l.length = 5) : ∃ a b c d e, l = [a, b, c, d, e] := by
  match l, h with
  | [a, b, c, d, e], _ => exact ⟨a, b, c, d, e, rfl⟩
theorem list_nine {l : List Value} (h : l.length = 9) : ∃ a b c d e f g i j, l = [a, b, c, d, e, f, g, i, j] := by
  match l, h with
  | [a, b, c, d, e, f, g, i, j], _ => exact ⟨a, b, c, d, e, f, g, i, j, rfl⟩
/-- A slice that came in, by what one of its elements is. -/
theorem down_rdE {α H : Type} (df : α) {enc : TypeId × Value → H} {W : World} {t e : TypeId} {fuel : Nat} {cs : List Value} {x : DataW H × List MemPlace} {csα : α → List Value} {Q : α → Prop} {sz : Nat}
    (ht : Tryd.prog.underlying t = some (.slice e)) (hc : Tryd.prog.cellsOf e = sz) (hby : sz * 8 ≤ Tryd.prog.bytesOf e) (hpos : 0 < sz)
    (h : DataW.trod enc Tryd.prog W 0 (fun _ => true) true fuel t cs = some x) (hw : ∀ n ∈ DataW.weights Tryd.prog t x.1, n ≤ reachBytes)
    (hone : ∀ n cs' y, DataW.trod enc Tryd.prog W 0 (fun _ => true) true n e cs' = some y → (∀ n ∈ DataW.weights Tryd.prog e y.1, n ≤ reachBytes) → ∃ q, cs' = csα q ∧ Q q) :
    ∃ a c l, cs = [.slice a (l : List α).length c] ∧ RdE csα sz W a c l ∧ ∀ q ∈ l, Q q := by
  rcases Deep.open_slice ht h with ⟨rfl, _⟩ | ⟨a, len, cap, m, n, D, Pl, rfl, _, hl, hm, hmm, rfl, hx⟩
  · exact ⟨none, 0, [], rfl, ⟨by simp, by simp, fun _ => rfl, .inl rfl⟩, fun q hq => by cases hq⟩
  · have hmc : m = cap := by rw [hmm]; simp
    rw [hc] at hx
    simp only [DataW.weights, ht, List.mem_cons, List.mem_append] at hw
    haveI : Inhabited α := ⟨df⟩
    obtain ⟨f, hf⟩ := Deep.choose_lt (n := len) (p := fun i (q : α) => W.cells? 0 (a.add (i * sz)) sz = some (csα q) ∧ Q q) (fun i hi => by
      obtain ⟨cs', h1, h2⟩ := hx i (by omega)
      obtain ⟨q, rfl, hq⟩ := hone n cs' _ h2 (fun k hk => hw k (.inr (.inl (weights_in _ (List.mem_map.2 ⟨i, List.mem_range.2 hi, rfl⟩) hk))))
      exact ⟨q, h1, hq⟩)
    have hll : ((List.range len).map f).length = len := by simp
    refine ⟨some a, cap, (List.range len).map f, by rw [hll], ⟨by rw [hll]; exact hl, ?_, (fun h => by cases h), ?_⟩, ?_⟩
    · have hq := hw _ (.inl rfl)
      simp only [reachBytes, List.length_map, List.length_range] at hq
      rw [show len + (m - len) = cap by omega] at hq
      exact Nat.le_trans (Nat.mul_le_mul_left cap hby) hq
    · by_cases hn : len = 0
      · subst hn
        exact .inl rfl
      · have hcl : ∀ i, i < len → ∀ k, k < sz → W.cell? ((a.add (i * sz)).add k) = (csα (f i))[k]? := fun i hi k hk => (World.cells?_some (hf i hi).1).2.2 k hk
        have h00 := hcl 0 (by omega) 0 hpos
        have hlen0 := (World.cells?_some (hf 0 (by omega)).1).2.1
        rw [List.getElem?_eq_getElem (by omega)] at h00
        obtain ⟨b, off, spot⟩ := a
        have hspot : spot = none := by simpa [Addr.add] using World.cell?_spot h00
        subst hspot
        have hb := World.block_lt_of_cell? W _ h00
        refine .inr ⟨b, off, rfl, by simpa [Addr.add] using hb, fun j hj k u hk hu => ?_⟩
        have hj' : j < len := by rw [hll] at hj; exact hj
        have := hcl j hj' k hk
        rw [Addr.add_lit, Addr.add_lit] at this
        rw [this, ← hu]
        simp
    · intro q hq
      simp only [List.mem_map, List.mem_range] at hq
      obtain ⟨i, hi, rfl⟩ := hq
      exact (hf i hi).2

section
variable {H : Type} {enc : TypeId × Value → H} {W : World}
theorem cell_int {n : Nat} {v : Value} {y : DataW H × List MemPlace} (h : DataW.trod enc Tryd.prog W 0 (fun _ => true) true n 3 [v] = some y) : ∃ z, v = .int .i64 z ∧ Lit.wf (.int .i64 z) = true := by
  obtain ⟨z, hz, _, hw⟩ := DataW.trod_int Tryd.underlying3 h
  exact ⟨z, by simpa using hz, hw⟩
theorem cell_bool {n : Nat} {v : Value} {y : DataW H × List MemPlace} (h : DataW.trod enc Tryd.prog W 0 (fun _ => true) true n 4 [v] = some y) : ∃ z, v = .bool z := by
  obtain ⟨z, hz, _⟩ := DataW.trod_bool Tryd.underlying4 h
  exact ⟨z, by simpa using hz⟩
theorem cell_str {n : Nat} {v : Value} {y : DataW H × List MemPlace} (h : DataW.trod enc Tryd.prog W 0 (fun _ => true) true n 22 [v] = some y) : ∃ z, v = .string z ∧ y.1 = .lit (.string z.data.toList) := by
  obtain ⟨z, hz, hy, _⟩ := DataW.trod_string Tryd.underlying22 h
  exact ⟨z, by simpa using hz, congrArg Prod.fst hy⟩
theorem cell_float {n : Nat} {v : Value} {y : DataW H × List MemPlace} (h : DataW.trod enc Tryd.prog W 0 (fun _ => true) true n 89 [v] = some y) : ∃ z, v = .float .f64 z := by
  obtain ⟨z, hz⟩ := trod_float' Tryd.underlying89 h
  exact ⟨z, by simpa using hz⟩
theorem one_ins (n : Nat) (cs : List Value) (y : DataW H × List MemPlace) (h : DataW.trod enc Tryd.prog W 0 (fun _ => true) true n 44 cs = some y) (hw : ∀ n ∈ DataW.weights Tryd.prog 44 y.1, n ≤ reachBytes) :
    ∃ q : Ins, cs = q.cs ∧ (Lit.wf (.int .i64 q.op) = true ∧ Lit.wf (.int .i64 q.a) = true ∧ Lit.wf (.int .i64 q.b) = true ∧ Lit.wf (.int .i64 q.c) = true ∧ Lit.wf (.int .i64 q.d) = true) := by
  obtain ⟨hl, Y, m, hf⟩ := one_fields Tryd.underlying44 (by kernel_rfl) (by kernel_rfl) h
  obtain ⟨v0, v1, v2, v3, v4, rfl⟩ := list_five hl
  obtain ⟨z0, rfl, w0⟩ := cell_int (v := v0) (hf 0 _ rfl).1
  obtain ⟨z1, rfl, w1⟩ := cell_int (v := v1) (hf 1 _ rfl).1
  obtain ⟨z2, rfl, w2⟩ := cell_int (v := v2) (hf 2 _ rfl).1
  obtain ⟨z3, rfl, w3⟩ := cell_int (v := v3) (hf 3 _ rfl).1
  obtain ⟨z4, rfl, w4⟩ := cell_int (v := v4) (hf 4 _ rfl).1
  exact ⟨⟨z0, z1, z2, z3, z4⟩, rfl, w0, w1, w2, w3, w4⟩
theorem one_tri (n : Nat) (cs : List Value) (y : DataW H × List MemPlace) (h : DataW.trod enc Tryd.prog W 0 (fun _ => true) true n 59 cs = some y) (hw : ∀ n ∈ DataW.weights Tryd.prog 59 y.1, n ≤ reachBytes) :
    ∃ q : Tri, cs = q.cs ∧ True := by
  obtain ⟨hl, Y, m, hf⟩ := one_fields Tryd.underlying59 (by kernel_rfl) (by kernel_rfl) h
  obtain ⟨v0, v1, v2, v3, rfl⟩ := list_four hl
  obtain ⟨z0, rfl, w0⟩ := cell_int (v := v0) (hf 0 _ rfl).1
  obtain ⟨z1, rfl, w1⟩ := cell_int (v := v1) (hf 1 _ rfl).1
  obtain ⟨z2, rfl, w2⟩ := cell_int (v := v2) (hf 2 _ rfl).1
  obtain ⟨z3, rfl, w3⟩ := cell_int (v := v3) (hf 3 _ rfl).1
  exact ⟨⟨z0, z1, z2, z3⟩, rfl, trivial⟩
theorem one_cap (n : Nat) (cs : List Value) (y : DataW H × List MemPlace) (h : DataW.trod enc Tryd.prog W 0 (fun _ => true) true n 88 cs = some y) (hw : ∀ n ∈ DataW.weights Tryd.prog 88 y.1, n ≤ reachBytes) :
    ∃ q : Cap, cs = q.cs ∧ True := by
  obtain ⟨hl, Y, m, hf⟩ := one_fields Tryd.underlying88 (by kernel_rfl) (by kernel_rfl) h
  obtain ⟨v0, v1, rfl⟩ := list_two hl
  obtain ⟨z0, rfl⟩ := cell_bool (v := v0) (hf 0 _ rfl).1
  obtain ⟨z1, rfl, w1⟩ := cell_int (v := v1) (hf 1 _ rfl).1
  exact ⟨⟨z0, z1⟩, rfl, trivial⟩
theorem one_cst (n : Nat) (cs : List Value) (y : DataW H × List MemPlace) (h : DataW.trod enc Tryd.prog W 0 (fun _ => true) true n 91 cs = some y) (hw : ∀ n ∈ DataW.weights Tryd.prog 91 y.1, n ≤ reachBytes) :
    ∃ q : Cst, cs = q.cs ∧ (q.str.size : Int) ≤ 140737488351232 := by
  obtain ⟨hl, Y, m, hf⟩ := one_fields Tryd.underlying91 (by kernel_rfl) (by kernel_rfl) h
  obtain ⟨v0, v1, v2, v3, rfl⟩ := list_four hl
  obtain ⟨z0, rfl, w0⟩ := cell_int (v := v0) (hf 0 _ rfl).1
  obtain ⟨z1, rfl⟩ := cell_float (v := v1) (hf 1 _ rfl).1
  obtain ⟨z2, rfl, e2⟩ := cell_str (v := v2) (hf 2 _ rfl).1
  obtain ⟨z3, rfl, w3⟩ := cell_int (v := v3) (hf 3 _ rfl).1
  refine ⟨⟨z0, z1, z2, z3⟩, rfl, ?_⟩
  have hq := hw _ ((hf 2 _ rfl).2 z2.data.toList.length (by rw [e2]; simp [DataW.weights]))
  simp only [reachBytes] at hq
  have : z2.data.toList.length = z2.size := by simp
  show (z2.size : Int) ≤ _
  omega
set_option maxRecDepth 100000 in
theorem one_fun (n : Nat) (cs : List Value) (y : DataW H × List MemPlace) (h : DataW.trod enc Tryd.prog W 0 (fun _ => true) true n 28 cs = some y) (hw : ∀ n ∈ DataW.weights Tryd.prog 28 y.1, n ≤ reachBytes) :
    ∃ q : FW, cs = q.cs ∧ q.rd W ∧ Fine' q.f := by
  obtain ⟨hl, Y, m, hf⟩ := one_fields Tryd.underlying28 (by kernel_rfl) (by kernel_rfl) h
  obtain ⟨v0, v1, v2, v3, v4, v5, v6, v7, v8, rfl⟩ := list_nine hl
  obtain ⟨z0, rfl, _⟩ := cell_str (v := v0) (hf 0 _ rfl).1
  obtain ⟨z1, rfl, w1⟩ := cell_int (v := v1) (hf 1 _ rfl).1
  obtain ⟨z2, rfl⟩ := cell_bool (v := v2) (hf 2 _ rfl).1
  obtain ⟨z3, rfl⟩ := cell_bool (v := v3) (hf 3 _ rfl).1
  obtain ⟨z4, rfl, w4⟩ := cell_int (v := v4) (hf 4 _ rfl).1
  obtain ⟨xa, xc, lx, e5, r5, q5⟩ := down_rdE (⟨0, 0, ⟨#[]⟩, 0⟩ : Cst) (cs := [v5]) Tryd.underlying23 (sz := 4) (by kernel_rfl) (of_decide_eq_true (by kernel_rfl)) (by omega) (hf 5 _ rfl).1 (fun n hn => hw n ((hf 5 _ rfl).2 n hn)) one_cst
  obtain ⟨ya, yc, ly, e6, r6, q6⟩ := down_rdE (⟨0, 0, 0, 0, 0⟩ : Ins) (cs := [v6]) Tryd.underlying24 (sz := 5) (by kernel_rfl) (of_decide_eq_true (by kernel_rfl)) (by omega) (hf 6 _ rfl).1 (fun n hn => hw n ((hf 6 _ rfl).2 n hn)) one_ins
  obtain ⟨za, zc, lz, e7, r7, _⟩ := down_rdE (⟨0, 0, 0, 0⟩ : Tri) (cs := [v7]) Tryd.underlying25 (sz := 4) (by kernel_rfl) (of_decide_eq_true (by kernel_rfl)) (by omega) (hf 7 _ rfl).1 (fun n hn => hw n ((hf 7 _ rfl).2 n hn)) one_tri
  obtain ⟨ua, uc, lu, e8, r8, _⟩ := down_rdE (⟨false, 0⟩ : Cap) (cs := [v8]) Tryd.underlying26 (sz := 2) (by kernel_rfl) (of_decide_eq_true (by kernel_rfl)) (by omega) (hf 8 _ rfl).1 (fun n hn => hw n ((hf 8 _ rfl).2 n hn)) one_cap
  simp only [List.cons.injEq, and_true] at e5 e6 e7 e8
  subst e5 e6 e7 e8
  exact ⟨⟨⟨z0, z1, z2, z3, z4, lx, ly, lz, lu⟩, xa, xc, ya, yc, za, zc, ua, uc⟩, rfl, ⟨r5, r6, r7, r8⟩, ⟨w1, w4, q6, q5⟩⟩
set_option maxRecDepth 100000 in
/-- A module that came in. -/
theorem down_module {base : Nat} {v : Value} {d : DataW H} {p : List MemPlace} (hval : Value.okWide Tryd.prog W .any base 33 v) (h : DataW.Trod enc Tryd.prog W 0 (fun _ => true) true 33 v d p) (hw : ∀ n ∈ DataW.weights Tryd.prog 33 d, n ≤ reachBytes) :
    ∃ a c qs, v = .agg #[.slice a (qs : List FW).length c] ∧ Md W a c qs := by
  obtain ⟨cs, rfl, _⟩ := okWide_struct Tryd.underlying33 hval
  obtain ⟨fuel, hf⟩ := h
  have hf' : DataW.trod enc Tryd.prog W 0 (fun _ => true) true fuel 33 cs.toList = some (d, p) := hf
  obtain ⟨hl, Y, m, hg⟩ := one_fields Tryd.underlying33 (by kernel_rfl) (by kernel_rfl) hf'
  obtain ⟨v0, e0⟩ := list_one hl
  obtain rfl : cs = #[v0] := by cases cs; simp_all
  obtain ⟨a, c, qs, e, r, q⟩ := down_rdE (⟨noFun, none, 0, none, 0, none, 0, none, 0⟩ : FW) (cs := [v0]) Tryd.underlying31 (sz := 9) (by kernel_rfl) (of_decide_eq_true (by kernel_rfl)) (by omega) (hg 0 _ rfl).1 (fun n hn => hw n ((hg 0 _ rfl).2 n hn)) one_fun
  simp only [List.cons.injEq, and_true] at e
  subst e
  exact ⟨a, c, qs, rfl, r, fun q' hq => (q q' hq).1, fun q' hq => (q q' hq).2⟩
end
end Go.Proofs.YtcagfjogfbddeaaDoor
