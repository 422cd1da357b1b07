/- From the card's listed variables to what the contracts ask of the world. -/
import Derived.Test.YtbkkkpfoaggejaaGreatDoorLaidP
import Derived.Test.YtbkkkpfoaggejaaGreatDoorRows
import Derived.Lib.LaidU8
import Derived.OpenShut
import Derived.HandedShaped
import Derived.Handed
namespace Go.Proofs.YtbkkkpfoaggejaaGreatDoor
set_option linter.unusedVariables false
open Go.RowKit Go.Lib

theorem laid_info {w : World} (h : VarReads Tryz.prog w "internal/strconv.float64info" Rows.laid_internal_strconv_float64info) : w.cell? ⟨10, 0, none⟩ = some (.int .u64 52) ∧ w.cell? ⟨10, 1, none⟩ = some (.int .u64 11) ∧ w.cell? ⟨10, 2, none⟩ = some (.int .i64 (-1023)) := by
  obtain ⟨g, t, cs, fuel, p, hg, hty, hvar, hd⟩ := h
  obtain rfl : g = 10 := (Option.some.inj ((show Tryz.prog.globalNamed "internal/strconv.float64info" = some 10 by kernel_rfl).symm.trans hg)).symm
  obtain rfl : t = 281 := (Option.some.inj ((show (Tryz.prog.globals[10]?).map (·.type) = some 281 by kernel_rfl).symm.trans hty)).symm
  have hcs := mixed_struct (kz := [(.u64, 52), (.u64, 11), (.i64, -1023)]) Tryz.underlying281 (by kernel_rfl) (fun j f x hj hx => by
    match j, hj, hx with
    | 0, hj, hx => simp at hj hx; subst hj; subst hx; exact ⟨by kernel_rfl, rfl, by kernel_rfl⟩
    | 1, hj, hx => simp at hj hx; subst hj; subst hx; exact ⟨by kernel_rfl, rfl, by kernel_rfl⟩
    | 2, hj, hx => simp at hj hx; subst hj; subst hx; exact ⟨by kernel_rfl, rfl, by kernel_rfl⟩
    | j + 3, hj, hx => simp at hx) (by kernel_rfl) hd
  have hget := fun i => World.var?_cell hg hvar i
  refine ⟨?_, ?_, ?_⟩
  · rw [hget 0, ← Array.getElem?_toList, hcs]; rfl
  · rw [hget 1, ← Array.getElem?_toList, hcs]; rfl
  · rw [hget 2, ← Array.getElem?_toList, hcs]; rfl
theorem laid_opt {w : World} (h : VarReads Tryz.prog w "internal/strconv.optimize" Rows.laid_internal_strconv_optimize) : w.cell? ⟨3, 0, none⟩ = some (.bool true) := by
  obtain ⟨g, t, cs, fuel, p, hg, hty, hvar, hd⟩ := h
  obtain rfl : g = 3 := (Option.some.inj ((show Tryz.prog.globalNamed "internal/strconv.optimize" = some 3 by kernel_rfl).symm.trans hg)).symm
  obtain rfl : t = 4 := (Option.some.inj ((show (Tryz.prog.globals[3]?).map (·.type) = some 4 by kernel_rfl).symm.trans hty)).symm
  obtain ⟨b, hcs, hx⟩ := DataW.trod_bool Tryz.underlying4 hd
  have hb : b = true := by
    have := congrArg Prod.fst hx
    simp [Rows.laid_internal_strconv_optimize] at this
    exact this
  rw [World.var?_cell hg hvar 0, ← Array.getElem?_toList, hcs, hb]
  rfl
theorem laid_lets' {w : World} (h : VarReads Tryz.prog w "lintel/digits.byLetter" Rows.laid_lintel_digits_byLetter) : ∀ j, j < 6 → w.cell? ⟨2, j, none⟩ = some ([.int .u8 120, .int .i64 16, .int .u8 111, .int .i64 8, .int .u8 98, .int .i64 2].getD j (.int .u8 0)) := by
  obtain ⟨g, t, cs, fuel, p, hg, hty, hvar, hd⟩ := h
  obtain rfl : g = 2 := (Option.some.inj ((show Tryz.prog.globalNamed "lintel/digits.byLetter" = some 2 by kernel_rfl).symm.trans hg)).symm
  obtain rfl : t = 163 := (Option.some.inj ((show (Tryz.prog.globals[2]?).map (·.type) = some 163 by kernel_rfl).symm.trans hty)).symm
  have hel : ∀ i, i < 3 → ∀ a b, [(120, 16), (111, 8), (98, 2)][i]? = some (a, b) → cs[2 * i]? = some (.int .u8 a) ∧ cs[2 * i + 1]? = some (.int .i64 b) := fun i hi a b hab => by
    obtain ⟨fuel', d, q, hdi, he⟩ := array_elem Tryz.underlying163 hd i hi
    rw [show Tryz.prog.cellsOf 162 = 2 by kernel_rfl] at he
    have hdd : d = .agg ([(IntKind.u8, a), (IntKind.i64, b)].map fun x => .lit (.int x.1 x.2)) := by
      match i, hi, hab, hdi with
      | 0, _, hab, hdi => simp at hab hdi; rw [← hdi, ← hab.1, ← hab.2]; rfl
      | 1, _, hab, hdi => simp at hab hdi; rw [← hdi, ← hab.1, ← hab.2]; rfl
      | 2, _, hab, hdi => simp at hab hdi; rw [← hdi, ← hab.1, ← hab.2]; rfl
    rw [hdd] at he
    have hcs := mixed_struct (kz := [(.u8, a), (.i64, b)]) Tryz.underlying162 (by kernel_rfl) (fun j f x hj hx => by
      match j, hj, hx with
      | 0, hj, hx => simp at hj hx; subst hj; subst hx; exact ⟨by kernel_rfl, rfl, by kernel_rfl⟩
      | 1, hj, hx => simp at hj hx; subst hj; subst hx; exact ⟨by kernel_rfl, rfl, by kernel_rfl⟩
      | j + 2, hj, hx => simp at hx) (by kernel_rfl) he
    have e0 := congrArg (·[0]?) hcs
    have e1 := congrArg (·[1]?) hcs
    simp only [List.getElem?_take, List.getElem?_drop] at e0 e1
    refine ⟨?_, ?_⟩
    · simpa [Nat.mul_comm] using e0
    · simpa [Nat.mul_comm] using e1
  intro j hj
  rw [World.var?_cell hg hvar j]
  have h0 := hel 0 (by omega) _ _ rfl
  have h1 := hel 1 (by omega) _ _ rfl
  have h2 := hel 2 (by omega) _ _ rfl
  match j, hj with
  | 0, _ => exact h0.1
  | 1, _ => exact h0.2
  | 2, _ => exact h1.1
  | 3, _ => exact h1.2
  | 4, _ => exact h2.1
  | 5, _ => exact h2.2
theorem trod_float' {H : Type} {enc : TypeId × Value → H} {P : Program} {w : World} {base : Nat} {sp : Nat → Bool} {held : Bool} {fuel : Nat} {t : TypeId} {k : FloatKind} {cs : List Value} {x : DataW H × List MemPlace} (ht : P.underlying t = some (.float k)) (h : DataW.trod enc P w base sp held fuel t cs = some x) : ∃ n, cs = [.float k n] ∧ x = (.lit (.float k n), []) := by
  cases fuel with
  | zero => simp [DataW.trod] at h
  | succ n =>
    unfold DataW.trod at h
    rw [ht] at h
    split at h <;> simp_all
theorem laid_f64 {w : World} (h : VarReads Tryz.prog w "internal/strconv.float64pow10" Rows.laid_internal_strconv_float64pow10) : ∃ b o c : Nat, w.cell? ⟨15, 0, none⟩ = some (.slice (some ⟨b, o, none⟩) 23 c) ∧ ∀ j, j < 23 → w.cell? ⟨b, o + j, none⟩ = some (.float .f64 (p10L.getD j 0)) := by
  obtain ⟨g, t, cs, fuel, p, hg, hty, hvar, hd⟩ := h
  obtain rfl : g = 15 := (Option.some.inj ((show Tryz.prog.globalNamed "internal/strconv.float64pow10" = some 15 by kernel_rfl).symm.trans hg)).symm
  obtain rfl : t = 304 := (Option.some.inj ((show (Tryz.prog.globals[15]?).map (·.type) = some 304 by kernel_rfl).symm.trans hty)).symm
  have hdat : (Rows.laid_internal_strconv_float64pow10 : DataW Unit) = .slice (p10L.map fun x => .lit (.float .f64 x)) [] := rfl
  rw [hdat] at hd
  have hpl : p10L.length = 23 := by decide
  rcases DataW.trod_slice Tryz.underlying304 hd with ⟨_, hx⟩ | ⟨a, len, cap, el, rs, m, rfl, hcs, hx, _, hlc, _, hel, helem, hsp, _⟩
  · cases hx
  have e0 := congrArg Prod.fst hx
  simp only [DataW.slice.injEq] at e0
  obtain ⟨eE, eR⟩ := e0
  have hlen : len = 23 := by
    have := congrArg List.length eE
    simp at this
    omega
  have hcell : ∀ i, i < 23 → w.cell? (a.add i) = some (.float .f64 (p10L.getD i 0)) := by
    intro i hi
    have h1 := helem i (by omega)
    rw [show Tryz.prog.cellsOf 24 = 1 by kernel_rfl] at h1
    obtain ⟨b, hb⟩ : ∃ b, el[i]? = some b := ⟨el[i]'(by omega), List.getElem?_eq_getElem (by omega)⟩
    rw [hb] at h1
    obtain ⟨ce, hce, hte⟩ := Option.bind_eq_some_iff.1 h1
    obtain ⟨z, hz, hbz⟩ := trod_float' Tryz.underlying24 hte
    have hb1 : b.1 = .lit (.float .f64 (p10L.getD i 0)) := by
      have := congrArg (·[i]?) eE
      have hi2 : i < p10L.length := by omega
      simp [hb, hi2] at this
      rw [← this, List.getD_eq_getElem?_getD, List.getElem?_eq_getElem hi2]
      rfl
    rw [hbz] at hb1
    simp only [DataW.lit.injEq, Lit.float.injEq, true_and] at hb1
    obtain ⟨_, _, hcc⟩ := World.cells?_some hce
    have := hcc 0 (by omega)
    rw [hz] at this
    simp only [Nat.mul_one] at this
    have e1 : (a.add i).add 0 = a.add i := by simp [Addr.add]
    rw [e1] at this
    rw [this, ← hb1]
    rfl
  obtain ⟨b, o, s⟩ := a
  have hs : s = none := cell_spot (by have := hcell 0 (by omega); rwa [show (⟨b, o, s⟩ : Addr).add 0 = ⟨b, o, s⟩ by simp [Addr.add]] at this)
  subst hs
  refine ⟨b, o, cap, ?_, fun j hj => ?_⟩
  · rw [World.var?_cell hg hvar 0, ← Array.getElem?_toList, hcs, hlen]
    rfl
  · have := hcell j hj
    rwa [add_plain] at this
/-- What the card's world has. -/
theorem laid_of {w : World} {l : List (String × DataW Unit)} (h : laidMet Tryz.prog l w) (hsh : w.ShapedOpen Tryz.prog)
    (m1 : ("internal/strconv.pow10Tab", Rows.laid_internal_strconv_pow10Tab) ∈ l) (m2 : ("internal/strconv.uint64pow10", Rows.laid_internal_strconv_uint64pow10) ∈ l) (m3 : ("lintel/digits.byLetter", Rows.laid_lintel_digits_byLetter) ∈ l)
    (m4 : ("internal/strconv.optimize", Rows.laid_internal_strconv_optimize) ∈ l) (m5 : ("internal/strconv.float64info", Rows.laid_internal_strconv_float64info) ∈ l) (m6 : ("internal/strconv.float64pow10", Rows.laid_internal_strconv_float64pow10) ∈ l) : Laid w :=
  ⟨laid_p10 (laidMet.reads h m1), laid_u64 (laidMet.reads h m2), Tryz.laysM145.s1_3 w hsh, laid_lets' (laidMet.reads h m3), laid_opt (laidMet.reads h m4), laid_info (laidMet.reads h m5), laid_f64 (laidMet.reads h m6)⟩
end Go.Proofs.YtbkkkpfoaggejaaGreatDoor
