/- Package ops: the maps of method expressions. Written by tools/mkopm.py. Package ops: Binary, by a contract of its method. Written by tools/mkopb.py. -/
import Derived.Test.YtbkkkpfoaggejaaGreatDoorCvP
import Derived.BigQuiet
import Derived.Maps.OwnSet
import Derived.Maps.Views
import Derived.MapViews
import Derived.StringKeys
import Derived.Test.YtbkkkpfoaggejaaGreatDoorOpB
import Derived.Defers
import Derived.Recover
namespace Go.Proofs.YtbkkkpfoaggejaaGreatDoor
set_option linter.unusedVariables false
set_option linter.unusedSimpArgs false
open Go.RowKit Go.Maps Go.WideMaps

theorem op_lay {w : World} {o : Obj} : Below w.heap.size w (w.alloc o) := (Below.refl _ _).alloc (Nat.le_refl _) _
/-- How a function of the program without captures reads. -/
def fnR (v : Value) : Option (DataW Unit × List MemPlace) := match v with
  | .func (.func k) x y => if x.size = 0 ∧ y.size = 0 then some (.lit (.int .i64 (k : Int)), []) else none
  | .nilFunc => some (.lit (.int .i64 (-1)), [])
  | _ => none
theorem fnR_inv {v : Value} {k : Nat} {ps : List MemPlace} (h : fnR v = some (.lit (.int .i64 (k : Int)), ps)) : v = .func (.func k) #[] #[] := by
  unfold fnR at h
  split at h
  · rename_i k' x y
    split at h
    · rename_i hs
      simp at h
      obtain ⟨h1, h2⟩ := hs
      have e1 : x = #[] := Array.eq_empty_of_size_eq_zero h1
      have e2 : y = #[] := Array.eq_empty_of_size_eq_zero h2
      have e3 : k' = k := Int.ofNat_inj.1 h.1
      rw [e1, e2, e3]
    · simp at h
  · simp at h
  · simp at h
theorem fnR_nil {v : Value} {ps : List MemPlace} (h : fnR v = some (.lit (.int .i64 (-1)), ps)) : v = .nilFunc := by
  unfold fnR at h
  split at h
  · rename_i k' x y
    split at h
    · simp at h
    · simp at h
  · rfl
  · simp at h
theorem keyedS : Keyed Tryz.prog 9 := string_keyed Tryz.underlying9

def sumsTab : List (List UInt8 × Nat) := [([43], 26), ([45], 27), ([42], 28), ([47], 29), ([37], 30), ([42, 42], 31)]
def sumsNot : List (List UInt8) := [[61, 61, 61], [33, 61, 61], [61, 61], [33, 61], [60], [62], [60, 61], [62, 61], [60, 60], [62, 62], [62, 62, 62], [38], [124], [94], [33], [116, 121, 112, 101, 111, 102], [118, 111, 105, 100], [126]]
/-- The map of sums. -/
def MSums (w : World) (mp : Nat) : Prop := ∃ D n, w.ownsMap Tryz.prog 9 fnR mp n D ∧ (∀ p ∈ sumsTab, D.atKey (.string p.1) (.lit (.int .i64 (-1))) = .lit (.int .i64 (p.2 : Int)) ∧ Maps.has D (.string p.1) = true) ∧ (∀ p ∈ sumsNot, D.atKey (.string p) (.lit (.int .i64 (-1))) = .lit (.int .i64 (-1)) ∧ Maps.has D (.string p) = false)
theorem MSums.below {w w' : World} {mp : Nat} (h : MSums w mp) (hb : Below w.heap.size w w') : MSums w' mp := by
  obtain ⟨D, n, h, ht⟩ := h
  have hl := h.lt
  obtain ⟨es, clock, he, rest⟩ := h
  exact ⟨D, n, ⟨es, clock, (hb.block mp hl).trans he, rest⟩, ht⟩
theorem MSums.look {w : World} {mp : Nat} (h : MSums w mp) (s : ByteArray) (k : Nat) (hs : s.size ≤ maxLen) (hm : (s.data.toList, k) ∈ sumsTab) : (Instr.lookup 43 (.map (some mp)) (.string s) true).run Tryz.prog w = .ok (.tuple #[.func (.func k) #[] #[], .bool true]) w := by
  obtain ⟨D, n, h, ht, _⟩ := h
  obtain ⟨v, ps, hrun, hv⟩ := h.look_ok keyedS Tryz.underlying43 (Tryz.zeroValue41 w) (zd := .lit (.int .i64 (-1))) (zp := []) rfl (keyOf_string_mk Tryz.underlying9 hs)
  rw [(ht _ hm).1] at hv
  rw [hrun, fnR_inv hv, (ht _ hm).2]
theorem MSums.none {w : World} {mp : Nat} (h : MSums w mp) (s : ByteArray) (hs : s.size ≤ maxLen) (hm : s.data.toList ∈ sumsNot) : (Instr.lookup 43 (.map (some mp)) (.string s) true).run Tryz.prog w = .ok (.tuple #[.nilFunc, .bool false]) w := by
  obtain ⟨D, n, h, _, ht⟩ := h
  obtain ⟨v, ps, hrun, hv⟩ := h.look_ok keyedS Tryz.underlying43 (Tryz.zeroValue41 w) (zd := .lit (.int .i64 (-1))) (zp := []) rfl (keyOf_string_mk Tryz.underlying9 hs)
  rw [(ht _ hm).1] at hv
  rw [hrun, fnR_nil hv, (ht _ hm).2]
set_option maxHeartbeats 1000000 in
set_option maxRecDepth 100000 in
theorem sums_any (w : World) : Calls Tryz.prog 16 #[] w fun e w' => ∃ mp, e = .returned (.map (some mp)) ∧ w.heap.size ≤ mp ∧ mp < w'.heap.size ∧ MSums w' mp ∧ Below w.heap.size w w' := by
  have hmm := @run_makeMap Tryz.prog
  have m0 := World.ownsMap_made w Tryz.prog 9 fnR
  obtain ⟨w1, h1, m1, t1⟩ := m0.store keyedS Tryz.underlying43 (by decide) (keyOf_string_mk Tryz.underlying9 (s := ⟨#[43]⟩) (by decide)) (val := .func (.func 26) #[] #[]) rfl
  obtain ⟨w2, h2, m2, t2⟩ := m1.store keyedS Tryz.underlying43 (by decide) (keyOf_string_mk Tryz.underlying9 (s := ⟨#[45]⟩) (by decide)) (val := .func (.func 27) #[] #[]) rfl
  obtain ⟨w3, h3, m3, t3⟩ := m2.store keyedS Tryz.underlying43 (by decide) (keyOf_string_mk Tryz.underlying9 (s := ⟨#[42]⟩) (by decide)) (val := .func (.func 28) #[] #[]) rfl
  obtain ⟨w4, h4, m4, t4⟩ := m3.store keyedS Tryz.underlying43 (by decide) (keyOf_string_mk Tryz.underlying9 (s := ⟨#[47]⟩) (by decide)) (val := .func (.func 29) #[] #[]) rfl
  obtain ⟨w5, h5, m5, t5⟩ := m4.store keyedS Tryz.underlying43 (by decide) (keyOf_string_mk Tryz.underlying9 (s := ⟨#[37]⟩) (by decide)) (val := .func (.func 30) #[] #[]) rfl
  obtain ⟨w6, h6, m6, t6⟩ := m5.store keyedS Tryz.underlying43 (by decide) (keyOf_string_mk Tryz.underlying9 (s := ⟨#[42, 42]⟩) (by decide)) (val := .func (.func 31) #[] #[]) rfl
  have hB : Hid (Below w.heap.size w w6) := Hid.mk' (by
    have g : ∀ {X Y : World}, Below w.heap.size w X → X.mapTurned Y w.heap.size → Below w.heap.size w Y := fun hX hT => hX.grown hT.grown hX.size (fun j hj => by cases hj; exact Nat.le_refl _)
    exact (g (g (g (g (g (g op_lay t1) t2) t3) t4) t5) t6))
  have hL : Hid (w.heap.size < w6.heap.size) := Hid.mk' m6.lt
  have hK : Hid (MSums w6 w.heap.size) := Hid.mk' ⟨_, _, m6, fun p hp => by
    simp only [sumsTab, List.mem_cons, List.not_mem_nil, or_false] at hp
    rcases hp with rfl | rfl | rfl | rfl | rfl | rfl <;> exact ⟨by kernel_rfl, by kernel_rfl⟩, fun p hp => by
    simp only [sumsNot, List.mem_cons, List.not_mem_nil, or_false] at hp
    rcases hp with rfl | rfl | rfl | rfl | rfl | rfl | rfl | rfl | rfl | rfl | rfl | rfl | rfl | rfl | rfl | rfl | rfl | rfl <;> exact ⟨by kernel_rfl, by kernel_rfl⟩⟩
  clear m0 m1 m2 m3 m4 m5 m6 t1 t2 t3 t4 t5 t6
  go_enter Tryz.func16, Tryz.ntmps16
  go_wp2
  go_ret
  exact ⟨_, rfl, Nat.le_refl _, hL.out, hK.out, hB.out⟩
def comparisonsTab : List (List UInt8 × Nat) := [([61, 61, 61], 32), ([33, 61, 61], 33), ([61, 61], 34), ([33, 61], 35), ([60], 36), ([62], 37), ([60, 61], 38), ([62, 61], 39)]
def comparisonsNot : List (List UInt8) := [[43], [45], [42], [47], [37], [42, 42], [60, 60], [62, 62], [62, 62, 62], [38], [124], [94], [33], [116, 121, 112, 101, 111, 102], [118, 111, 105, 100], [126]]
/-- The map of comparisons. -/
def MComparisons (w : World) (mp : Nat) : Prop := ∃ D n, w.ownsMap Tryz.prog 9 fnR mp n D ∧ (∀ p ∈ comparisonsTab, D.atKey (.string p.1) (.lit (.int .i64 (-1))) = .lit (.int .i64 (p.2 : Int)) ∧ Maps.has D (.string p.1) = true) ∧ (∀ p ∈ comparisonsNot, D.atKey (.string p) (.lit (.int .i64 (-1))) = .lit (.int .i64 (-1)) ∧ Maps.has D (.string p) = false)
theorem MComparisons.below {w w' : World} {mp : Nat} (h : MComparisons w mp) (hb : Below w.heap.size w w') : MComparisons w' mp := by
  obtain ⟨D, n, h, ht⟩ := h
  have hl := h.lt
  obtain ⟨es, clock, he, rest⟩ := h
  exact ⟨D, n, ⟨es, clock, (hb.block mp hl).trans he, rest⟩, ht⟩
theorem MComparisons.look {w : World} {mp : Nat} (h : MComparisons w mp) (s : ByteArray) (k : Nat) (hs : s.size ≤ maxLen) (hm : (s.data.toList, k) ∈ comparisonsTab) : (Instr.lookup 47 (.map (some mp)) (.string s) true).run Tryz.prog w = .ok (.tuple #[.func (.func k) #[] #[], .bool true]) w := by
  obtain ⟨D, n, h, ht, _⟩ := h
  obtain ⟨v, ps, hrun, hv⟩ := h.look_ok keyedS Tryz.underlying47 (Tryz.zeroValue45 w) (zd := .lit (.int .i64 (-1))) (zp := []) rfl (keyOf_string_mk Tryz.underlying9 hs)
  rw [(ht _ hm).1] at hv
  rw [hrun, fnR_inv hv, (ht _ hm).2]
theorem MComparisons.none {w : World} {mp : Nat} (h : MComparisons w mp) (s : ByteArray) (hs : s.size ≤ maxLen) (hm : s.data.toList ∈ comparisonsNot) : (Instr.lookup 47 (.map (some mp)) (.string s) true).run Tryz.prog w = .ok (.tuple #[.nilFunc, .bool false]) w := by
  obtain ⟨D, n, h, _, ht⟩ := h
  obtain ⟨v, ps, hrun, hv⟩ := h.look_ok keyedS Tryz.underlying47 (Tryz.zeroValue45 w) (zd := .lit (.int .i64 (-1))) (zp := []) rfl (keyOf_string_mk Tryz.underlying9 hs)
  rw [(ht _ hm).1] at hv
  rw [hrun, fnR_nil hv, (ht _ hm).2]
set_option maxHeartbeats 1000000 in
set_option maxRecDepth 100000 in
theorem comparisons_any (w : World) : Calls Tryz.prog 17 #[] w fun e w' => ∃ mp, e = .returned (.map (some mp)) ∧ w.heap.size ≤ mp ∧ mp < w'.heap.size ∧ MComparisons w' mp ∧ Below w.heap.size w w' := by
  have hmm := @run_makeMap Tryz.prog
  have m0 := World.ownsMap_made w Tryz.prog 9 fnR
  obtain ⟨w1, h1, m1, t1⟩ := m0.store keyedS Tryz.underlying47 (by decide) (keyOf_string_mk Tryz.underlying9 (s := ⟨#[61, 61, 61]⟩) (by decide)) (val := .func (.func 32) #[] #[]) rfl
  obtain ⟨w2, h2, m2, t2⟩ := m1.store keyedS Tryz.underlying47 (by decide) (keyOf_string_mk Tryz.underlying9 (s := ⟨#[33, 61, 61]⟩) (by decide)) (val := .func (.func 33) #[] #[]) rfl
  obtain ⟨w3, h3, m3, t3⟩ := m2.store keyedS Tryz.underlying47 (by decide) (keyOf_string_mk Tryz.underlying9 (s := ⟨#[61, 61]⟩) (by decide)) (val := .func (.func 34) #[] #[]) rfl
  obtain ⟨w4, h4, m4, t4⟩ := m3.store keyedS Tryz.underlying47 (by decide) (keyOf_string_mk Tryz.underlying9 (s := ⟨#[33, 61]⟩) (by decide)) (val := .func (.func 35) #[] #[]) rfl
  obtain ⟨w5, h5, m5, t5⟩ := m4.store keyedS Tryz.underlying47 (by decide) (keyOf_string_mk Tryz.underlying9 (s := ⟨#[60]⟩) (by decide)) (val := .func (.func 36) #[] #[]) rfl
  obtain ⟨w6, h6, m6, t6⟩ := m5.store keyedS Tryz.underlying47 (by decide) (keyOf_string_mk Tryz.underlying9 (s := ⟨#[62]⟩) (by decide)) (val := .func (.func 37) #[] #[]) rfl
  obtain ⟨w7, h7, m7, t7⟩ := m6.store keyedS Tryz.underlying47 (by decide) (keyOf_string_mk Tryz.underlying9 (s := ⟨#[60, 61]⟩) (by decide)) (val := .func (.func 38) #[] #[]) rfl
  obtain ⟨w8, h8, m8, t8⟩ := m7.store keyedS Tryz.underlying47 (by decide) (keyOf_string_mk Tryz.underlying9 (s := ⟨#[62, 61]⟩) (by decide)) (val := .func (.func 39) #[] #[]) rfl
  have hB : Hid (Below w.heap.size w w8) := Hid.mk' (by
    have g : ∀ {X Y : World}, Below w.heap.size w X → X.mapTurned Y w.heap.size → Below w.heap.size w Y := fun hX hT => hX.grown hT.grown hX.size (fun j hj => by cases hj; exact Nat.le_refl _)
    exact (g (g (g (g (g (g (g (g op_lay t1) t2) t3) t4) t5) t6) t7) t8))
  have hL : Hid (w.heap.size < w8.heap.size) := Hid.mk' m8.lt
  have hK : Hid (MComparisons w8 w.heap.size) := Hid.mk' ⟨_, _, m8, fun p hp => by
    simp only [comparisonsTab, List.mem_cons, List.not_mem_nil, or_false] at hp
    rcases hp with rfl | rfl | rfl | rfl | rfl | rfl | rfl | rfl <;> exact ⟨by kernel_rfl, by kernel_rfl⟩, fun p hp => by
    simp only [comparisonsNot, List.mem_cons, List.not_mem_nil, or_false] at hp
    rcases hp with rfl | rfl | rfl | rfl | rfl | rfl | rfl | rfl | rfl | rfl | rfl | rfl | rfl | rfl | rfl | rfl <;> exact ⟨by kernel_rfl, by kernel_rfl⟩⟩
  clear m0 m1 m2 m3 m4 m5 m6 m7 m8 t1 t2 t3 t4 t5 t6 t7 t8
  go_enter Tryz.func17, Tryz.ntmps17
  go_wp2
  go_ret
  exact ⟨_, rfl, Nat.le_refl _, hL.out, hK.out, hB.out⟩
def shiftsTab : List (List UInt8 × Nat) := [([60, 60], 40), ([62, 62], 41), ([62, 62, 62], 42), ([38], 43), ([124], 44), ([94], 45)]
def shiftsNot : List (List UInt8) := [[43], [45], [42], [47], [37], [42, 42], [61, 61, 61], [33, 61, 61], [61, 61], [33, 61], [60], [62], [60, 61], [62, 61], [33], [116, 121, 112, 101, 111, 102], [118, 111, 105, 100], [126]]
/-- The map of shifts. -/
def MShifts (w : World) (mp : Nat) : Prop := ∃ D n, w.ownsMap Tryz.prog 9 fnR mp n D ∧ (∀ p ∈ shiftsTab, D.atKey (.string p.1) (.lit (.int .i64 (-1))) = .lit (.int .i64 (p.2 : Int)) ∧ Maps.has D (.string p.1) = true) ∧ (∀ p ∈ shiftsNot, D.atKey (.string p) (.lit (.int .i64 (-1))) = .lit (.int .i64 (-1)) ∧ Maps.has D (.string p) = false)
theorem MShifts.below {w w' : World} {mp : Nat} (h : MShifts w mp) (hb : Below w.heap.size w w') : MShifts w' mp := by
  obtain ⟨D, n, h, ht⟩ := h
  have hl := h.lt
  obtain ⟨es, clock, he, rest⟩ := h
  exact ⟨D, n, ⟨es, clock, (hb.block mp hl).trans he, rest⟩, ht⟩
theorem MShifts.look {w : World} {mp : Nat} (h : MShifts w mp) (s : ByteArray) (k : Nat) (hs : s.size ≤ maxLen) (hm : (s.data.toList, k) ∈ shiftsTab) : (Instr.lookup 52 (.map (some mp)) (.string s) true).run Tryz.prog w = .ok (.tuple #[.func (.func k) #[] #[], .bool true]) w := by
  obtain ⟨D, n, h, ht, _⟩ := h
  obtain ⟨v, ps, hrun, hv⟩ := h.look_ok keyedS Tryz.underlying52 (Tryz.zeroValue50 w) (zd := .lit (.int .i64 (-1))) (zp := []) rfl (keyOf_string_mk Tryz.underlying9 hs)
  rw [(ht _ hm).1] at hv
  rw [hrun, fnR_inv hv, (ht _ hm).2]
theorem MShifts.none {w : World} {mp : Nat} (h : MShifts w mp) (s : ByteArray) (hs : s.size ≤ maxLen) (hm : s.data.toList ∈ shiftsNot) : (Instr.lookup 52 (.map (some mp)) (.string s) true).run Tryz.prog w = .ok (.tuple #[.nilFunc, .bool false]) w := by
  obtain ⟨D, n, h, _, ht⟩ := h
  obtain ⟨v, ps, hrun, hv⟩ := h.look_ok keyedS Tryz.underlying52 (Tryz.zeroValue50 w) (zd := .lit (.int .i64 (-1))) (zp := []) rfl (keyOf_string_mk Tryz.underlying9 hs)
  rw [(ht _ hm).1] at hv
  rw [hrun, fnR_nil hv, (ht _ hm).2]
set_option maxHeartbeats 1000000 in
set_option maxRecDepth 100000 in
theorem shifts_any (w : World) : Calls Tryz.prog 19 #[] w fun e w' => ∃ mp, e = .returned (.map (some mp)) ∧ w.heap.size ≤ mp ∧ mp < w'.heap.size ∧ MShifts w' mp ∧ Below w.heap.size w w' := by
  have hmm := @run_makeMap Tryz.prog
  have m0 := World.ownsMap_made w Tryz.prog 9 fnR
  obtain ⟨w1, h1, m1, t1⟩ := m0.store keyedS Tryz.underlying52 (by decide) (keyOf_string_mk Tryz.underlying9 (s := ⟨#[60, 60]⟩) (by decide)) (val := .func (.func 40) #[] #[]) rfl
  obtain ⟨w2, h2, m2, t2⟩ := m1.store keyedS Tryz.underlying52 (by decide) (keyOf_string_mk Tryz.underlying9 (s := ⟨#[62, 62]⟩) (by decide)) (val := .func (.func 41) #[] #[]) rfl
  obtain ⟨w3, h3, m3, t3⟩ := m2.store keyedS Tryz.underlying52 (by decide) (keyOf_string_mk Tryz.underlying9 (s := ⟨#[62, 62, 62]⟩) (by decide)) (val := .func (.func 42) #[] #[]) rfl
  obtain ⟨w4, h4, m4, t4⟩ := m3.store keyedS Tryz.underlying52 (by decide) (keyOf_string_mk Tryz.underlying9 (s := ⟨#[38]⟩) (by decide)) (val := .func (.func 43) #[] #[]) rfl
  obtain ⟨w5, h5, m5, t5⟩ := m4.store keyedS Tryz.underlying52 (by decide) (keyOf_string_mk Tryz.underlying9 (s := ⟨#[124]⟩) (by decide)) (val := .func (.func 44) #[] #[]) rfl
  obtain ⟨w6, h6, m6, t6⟩ := m5.store keyedS Tryz.underlying52 (by decide) (keyOf_string_mk Tryz.underlying9 (s := ⟨#[94]⟩) (by decide)) (val := .func (.func 45) #[] #[]) rfl
  have hB : Hid (Below w.heap.size w w6) := Hid.mk' (by
    have g : ∀ {X Y : World}, Below w.heap.size w X → X.mapTurned Y w.heap.size → Below w.heap.size w Y := fun hX hT => hX.grown hT.grown hX.size (fun j hj => by cases hj; exact Nat.le_refl _)
    exact (g (g (g (g (g (g op_lay t1) t2) t3) t4) t5) t6))
  have hL : Hid (w.heap.size < w6.heap.size) := Hid.mk' m6.lt
  have hK : Hid (MShifts w6 w.heap.size) := Hid.mk' ⟨_, _, m6, fun p hp => by
    simp only [shiftsTab, List.mem_cons, List.not_mem_nil, or_false] at hp
    rcases hp with rfl | rfl | rfl | rfl | rfl | rfl <;> exact ⟨by kernel_rfl, by kernel_rfl⟩, fun p hp => by
    simp only [shiftsNot, List.mem_cons, List.not_mem_nil, or_false] at hp
    rcases hp with rfl | rfl | rfl | rfl | rfl | rfl | rfl | rfl | rfl | rfl | rfl | rfl | rfl | rfl | rfl | rfl | rfl | rfl <;> exact ⟨by kernel_rfl, by kernel_rfl⟩⟩
  clear m0 m1 m2 m3 m4 m5 m6 t1 t2 t3 t4 t5 t6
  go_enter Tryz.func19, Tryz.ntmps19
  go_wp2
  go_ret
  exact ⟨_, rfl, Nat.le_refl _, hL.out, hK.out, hB.out⟩
def signsTab : List (List UInt8 × Nat) := [([33], 48), ([116, 121, 112, 101, 111, 102], 49), ([118, 111, 105, 100], 50), ([43], 51), ([45], 52), ([126], 53)]
def signsNot : List (List UInt8) := [[42], [47], [37], [42, 42], [61, 61, 61], [33, 61, 61], [61, 61], [33, 61], [60], [62], [60, 61], [62, 61], [60, 60], [62, 62], [62, 62, 62], [38], [124], [94]]
/-- The map of signs. -/
def MSigns (w : World) (mp : Nat) : Prop := ∃ D n, w.ownsMap Tryz.prog 9 fnR mp n D ∧ (∀ p ∈ signsTab, D.atKey (.string p.1) (.lit (.int .i64 (-1))) = .lit (.int .i64 (p.2 : Int)) ∧ Maps.has D (.string p.1) = true) ∧ (∀ p ∈ signsNot, D.atKey (.string p) (.lit (.int .i64 (-1))) = .lit (.int .i64 (-1)) ∧ Maps.has D (.string p) = false)
theorem MSigns.below {w w' : World} {mp : Nat} (h : MSigns w mp) (hb : Below w.heap.size w w') : MSigns w' mp := by
  obtain ⟨D, n, h, ht⟩ := h
  have hl := h.lt
  obtain ⟨es, clock, he, rest⟩ := h
  exact ⟨D, n, ⟨es, clock, (hb.block mp hl).trans he, rest⟩, ht⟩
theorem MSigns.look {w : World} {mp : Nat} (h : MSigns w mp) (s : ByteArray) (k : Nat) (hs : s.size ≤ maxLen) (hm : (s.data.toList, k) ∈ signsTab) : (Instr.lookup 59 (.map (some mp)) (.string s) true).run Tryz.prog w = .ok (.tuple #[.func (.func k) #[] #[], .bool true]) w := by
  obtain ⟨D, n, h, ht, _⟩ := h
  obtain ⟨v, ps, hrun, hv⟩ := h.look_ok keyedS Tryz.underlying59 (Tryz.zeroValue57 w) (zd := .lit (.int .i64 (-1))) (zp := []) rfl (keyOf_string_mk Tryz.underlying9 hs)
  rw [(ht _ hm).1] at hv
  rw [hrun, fnR_inv hv, (ht _ hm).2]
theorem MSigns.none {w : World} {mp : Nat} (h : MSigns w mp) (s : ByteArray) (hs : s.size ≤ maxLen) (hm : s.data.toList ∈ signsNot) : (Instr.lookup 59 (.map (some mp)) (.string s) true).run Tryz.prog w = .ok (.tuple #[.nilFunc, .bool false]) w := by
  obtain ⟨D, n, h, _, ht⟩ := h
  obtain ⟨v, ps, hrun, hv⟩ := h.look_ok keyedS Tryz.underlying59 (Tryz.zeroValue57 w) (zd := .lit (.int .i64 (-1))) (zp := []) rfl (keyOf_string_mk Tryz.underlying9 hs)
  rw [(ht _ hm).1] at hv
  rw [hrun, fnR_nil hv, (ht _ hm).2]
set_option maxHeartbeats 1000000 in
set_option maxRecDepth 100000 in
theorem signs_any (w : World) : Calls Tryz.prog 24 #[] w fun e w' => ∃ mp, e = .returned (.map (some mp)) ∧ w.heap.size ≤ mp ∧ mp < w'.heap.size ∧ MSigns w' mp ∧ Below w.heap.size w w' := by
  have hmm := @run_makeMap Tryz.prog
  have m0 := World.ownsMap_made w Tryz.prog 9 fnR
  obtain ⟨w1, h1, m1, t1⟩ := m0.store keyedS Tryz.underlying59 (by decide) (keyOf_string_mk Tryz.underlying9 (s := ⟨#[33]⟩) (by decide)) (val := .func (.func 48) #[] #[]) rfl
  obtain ⟨w2, h2, m2, t2⟩ := m1.store keyedS Tryz.underlying59 (by decide) (keyOf_string_mk Tryz.underlying9 (s := ⟨#[116, 121, 112, 101, 111, 102]⟩) (by decide)) (val := .func (.func 49) #[] #[]) rfl
  obtain ⟨w3, h3, m3, t3⟩ := m2.store keyedS Tryz.underlying59 (by decide) (keyOf_string_mk Tryz.underlying9 (s := ⟨#[118, 111, 105, 100]⟩) (by decide)) (val := .func (.func 50) #[] #[]) rfl
  obtain ⟨w4, h4, m4, t4⟩ := m3.store keyedS Tryz.underlying59 (by decide) (keyOf_string_mk Tryz.underlying9 (s := ⟨#[43]⟩) (by decide)) (val := .func (.func 51) #[] #[]) rfl
  obtain ⟨w5, h5, m5, t5⟩ := m4.store keyedS Tryz.underlying59 (by decide) (keyOf_string_mk Tryz.underlying9 (s := ⟨#[45]⟩) (by decide)) (val := .func (.func 52) #[] #[]) rfl
  obtain ⟨w6, h6, m6, t6⟩ := m5.store keyedS Tryz.underlying59 (by decide) (keyOf_string_mk Tryz.underlying9 (s := ⟨#[126]⟩) (by decide)) (val := .func (.func 53) #[] #[]) rfl
  have hB : Hid (Below w.heap.size w w6) := Hid.mk' (by
    have g : ∀ {X Y : World}, Below w.heap.size w X → X.mapTurned Y w.heap.size → Below w.heap.size w Y := fun hX hT => hX.grown hT.grown hX.size (fun j hj => by cases hj; exact Nat.le_refl _)
    exact (g (g (g (g (g (g op_lay t1) t2) t3) t4) t5) t6))
  have hL : Hid (w.heap.size < w6.heap.size) := Hid.mk' m6.lt
  have hK : Hid (MSigns w6 w.heap.size) := Hid.mk' ⟨_, _, m6, fun p hp => by
    simp only [signsTab, List.mem_cons, List.not_mem_nil, or_false] at hp
    rcases hp with rfl | rfl | rfl | rfl | rfl | rfl <;> exact ⟨by kernel_rfl, by kernel_rfl⟩, fun p hp => by
    simp only [signsNot, List.mem_cons, List.not_mem_nil, or_false] at hp
    rcases hp with rfl | rfl | rfl | rfl | rfl | rfl | rfl | rfl | rfl | rfl | rfl | rfl | rfl | rfl | rfl | rfl | rfl | rfl <;> exact ⟨by kernel_rfl, by kernel_rfl⟩⟩
  clear m0 m1 m2 m3 m4 m5 m6 t1 t2 t3 t4 t5 t6
  go_enter Tryz.func24, Tryz.ntmps24
  go_wp2
  go_ret
  exact ⟨_, rfl, Nat.le_refl _, hL.out, hK.out, hB.out⟩
end Go.Proofs.YtbkkkpfoaggejaaGreatDoor

namespace Go.Proofs.YtbkkkpfoaggejaaGreatDoor
set_option linter.unusedVariables false
set_option linter.unusedSimpArgs false
open Go.RowKit Go.Sort Fl

/-- The boxes of Binary: its result, its error, its pair. -/
structure BinW (w : World) (b : Nat) (ka : Int) (xa : Nat) (sa : ByteArray) (ra : Int) (kb : Int) (xb : Nat) (sb : ByteArray) (rb : Int) : Prop where
  lt : b + 4 < w.heap.size
  o0 : w.cell? ⟨b + 1 + 1, 0, none⟩ = some (.int .i64 0)
  o1 : w.cell? ⟨b + 1 + 1, 1, none⟩ = some (.float .f64 0)
  o2 : w.cell? ⟨b + 1 + 1, 2, none⟩ = some (.string ⟨#[]⟩)
  o3 : w.cell? ⟨b + 1 + 1, 3, none⟩ = some (.int .i64 0)
  fo : ∀ i, w.frozen? ⟨b + 1 + 1, i, none⟩ = false
  e0 : w.cell? ⟨b + 1 + 1 + 1, 0, none⟩ = some (.int .i64 0)
  fe : w.frozen? ⟨b + 1 + 1 + 1, 0, none⟩ = false
  c0 : w.cell? ⟨b + 1 + 1 + 1 + 1, 0, none⟩ = some (.int .i64 ka)
  c1 : w.cell? ⟨b + 1 + 1 + 1 + 1, 1, none⟩ = some (.float .f64 xa)
  c2 : w.cell? ⟨b + 1 + 1 + 1 + 1, 2, none⟩ = some (.string sa)
  c3 : w.cell? ⟨b + 1 + 1 + 1 + 1, 3, none⟩ = some (.int .i64 ra)
  c4 : w.cell? ⟨b + 1 + 1 + 1 + 1, 4, none⟩ = some (.int .i64 kb)
  c5 : w.cell? ⟨b + 1 + 1 + 1 + 1, 5, none⟩ = some (.float .f64 xb)
  c6 : w.cell? ⟨b + 1 + 1 + 1 + 1, 6, none⟩ = some (.string sb)
  c7 : w.cell? ⟨b + 1 + 1 + 1 + 1, 7, none⟩ = some (.int .i64 rb)
theorem BinW.below {w : World} {b : Nat} {ka : Int} {xa : Nat} {sa : ByteArray} {ra : Int} {kb : Int} {xb : Nat} {sb : ByteArray} {rb : Int} {w' : World} (h : BinW w b ka xa sa ra kb xb sb rb) (hb : Below w.heap.size w w') : BinW w' b ka xa sa ra kb xb sb rb :=
  have l : b + 4 < w.heap.size := h.lt
  ⟨Nat.lt_of_lt_of_le h.lt hb.size, (hb.cell (p := ⟨b + 1 + 1, 0, none⟩) (show b + 1 + 1 < w.heap.size by omega)).trans h.o0, (hb.cell (p := ⟨b + 1 + 1, 1, none⟩) (show b + 1 + 1 < w.heap.size by omega)).trans h.o1, (hb.cell (p := ⟨b + 1 + 1, 2, none⟩) (show b + 1 + 1 < w.heap.size by omega)).trans h.o2, (hb.cell (p := ⟨b + 1 + 1, 3, none⟩) (show b + 1 + 1 < w.heap.size by omega)).trans h.o3, fun i => (hb.frozen (p := ⟨b + 1 + 1, i, none⟩) (show b + 1 + 1 < w.heap.size by omega)).trans (h.fo i), (hb.cell (p := ⟨b + 1 + 1 + 1, 0, none⟩) (show b + 1 + 1 + 1 < w.heap.size by omega)).trans h.e0, (hb.frozen (p := ⟨b + 1 + 1 + 1, 0, none⟩) (show b + 1 + 1 + 1 < w.heap.size by omega)).trans h.fe, (hb.cell (p := ⟨b + 1 + 1 + 1 + 1, 0, none⟩) (show b + 1 + 1 + 1 + 1 < w.heap.size by omega)).trans h.c0, (hb.cell (p := ⟨b + 1 + 1 + 1 + 1, 1, none⟩) (show b + 1 + 1 + 1 + 1 < w.heap.size by omega)).trans h.c1, (hb.cell (p := ⟨b + 1 + 1 + 1 + 1, 2, none⟩) (show b + 1 + 1 + 1 + 1 < w.heap.size by omega)).trans h.c2, (hb.cell (p := ⟨b + 1 + 1 + 1 + 1, 3, none⟩) (show b + 1 + 1 + 1 + 1 < w.heap.size by omega)).trans h.c3, (hb.cell (p := ⟨b + 1 + 1 + 1 + 1, 4, none⟩) (show b + 1 + 1 + 1 + 1 < w.heap.size by omega)).trans h.c4, (hb.cell (p := ⟨b + 1 + 1 + 1 + 1, 5, none⟩) (show b + 1 + 1 + 1 + 1 < w.heap.size by omega)).trans h.c5, (hb.cell (p := ⟨b + 1 + 1 + 1 + 1, 6, none⟩) (show b + 1 + 1 + 1 + 1 < w.heap.size by omega)).trans h.c6, (hb.cell (p := ⟨b + 1 + 1 + 1 + 1, 7, none⟩) (show b + 1 + 1 + 1 + 1 < w.heap.size by omega)).trans h.c7⟩
theorem BinW.drew {w : World} {b : Nat} {ka : Int} {xa : Nat} {sa : ByteArray} {ra : Int} {kb : Int} {xb : Nat} {sb : ByteArray} {rb : Int} (h : BinW w b ka xa sa ra kb xb sb rb) : BinW w.drew b ka xa sa ra kb xb sb rb := ⟨h.lt, h.o0, h.o1, h.o2, h.o3, h.fo, h.e0, h.fe, h.c0, h.c1, h.c2, h.c3, h.c4, h.c5, h.c6, h.c7⟩
set_option maxHeartbeats 1000000 in
set_option maxRecDepth 100000 in
theorem BinW.new (X w : World) (hX : X.heap.size = w.heap.size + 1 + 1) (ka : Int) (xa : Nat) (sa : ByteArray) (ra : Int) (kb : Int) (xb : Nat) (sb : ByteArray) (rb : Int) : BinW (((X.alloc (.cells #[.int .i64 0, .float .f64 0, .string ⟨#[]⟩, .int .i64 0] 26)).alloc (.cells #[.int .i64 0] 27)).alloc (.cells #[.int .i64 ka, .float .f64 xa, .string sa, .int .i64 ra, .int .i64 kb, .float .f64 xb, .string sb, .int .i64 rb] 40)) w.heap.size ka xa sa ra kb xb sb rb := by
  have l1 : Below (X.alloc (.cells #[.int .i64 0, .float .f64 0, .string ⟨#[]⟩, .int .i64 0] 26)).heap.size (X.alloc (.cells #[.int .i64 0, .float .f64 0, .string ⟨#[]⟩, .int .i64 0] 26)) (((X.alloc (.cells #[.int .i64 0, .float .f64 0, .string ⟨#[]⟩, .int .i64 0] 26)).alloc (.cells #[.int .i64 0] 27)).alloc (.cells #[.int .i64 ka, .float .f64 xa, .string sa, .int .i64 ra, .int .i64 kb, .float .f64 xb, .string sb, .int .i64 rb] 40)) := ((Below.refl _ _).alloc (Nat.le_refl _) _).alloc (by simp) _
  have l2 : Below ((X.alloc (.cells #[.int .i64 0, .float .f64 0, .string ⟨#[]⟩, .int .i64 0] 26)).alloc (.cells #[.int .i64 0] 27)).heap.size ((X.alloc (.cells #[.int .i64 0, .float .f64 0, .string ⟨#[]⟩, .int .i64 0] 26)).alloc (.cells #[.int .i64 0] 27)) (((X.alloc (.cells #[.int .i64 0, .float .f64 0, .string ⟨#[]⟩, .int .i64 0] 26)).alloc (.cells #[.int .i64 0] 27)).alloc (.cells #[.int .i64 ka, .float .f64 xa, .string sa, .int .i64 ra, .int .i64 kb, .float .f64 xb, .string sb, .int .i64 rb] 40)) := (Below.refl _ _).alloc (Nat.le_refl _) _
  have s1 : (X.alloc (.cells #[.int .i64 0, .float .f64 0, .string ⟨#[]⟩, .int .i64 0] 26)).heap.size = w.heap.size + 1 + 1 + 1 := by simp [hX]
  have s2 : ((X.alloc (.cells #[.int .i64 0, .float .f64 0, .string ⟨#[]⟩, .int .i64 0] 26)).alloc (.cells #[.int .i64 0] 27)).heap.size = w.heap.size + 1 + 1 + 1 + 1 := by simp [hX]
  have hp : CellP (((X.alloc (.cells #[.int .i64 0, .float .f64 0, .string ⟨#[]⟩, .int .i64 0] 26)).alloc (.cells #[.int .i64 0] 27)).alloc (.cells #[.int .i64 ka, .float .f64 xa, .string sa, .int .i64 ra, .int .i64 kb, .float .f64 xb, .string sb, .int .i64 rb] 40)) (w.heap.size + 1 + 1 + 1 + 1) ka xa sa ra kb xb sb rb := by
    have q := CellP.new ((X.alloc (.cells #[.int .i64 0, .float .f64 0, .string ⟨#[]⟩, .int .i64 0] 26)).alloc (.cells #[.int .i64 0] 27)) ka xa sa ra kb xb sb rb
    rw [s2] at q
    exact q
  constructor
  · simp [hX]
  · rw [← hX]; exact (l1.cell (p := ⟨X.heap.size, 0, none⟩) (by simp)).trans (by simp)
  · rw [← hX]; exact (l1.cell (p := ⟨X.heap.size, 1, none⟩) (by simp)).trans (by simp)
  · rw [← hX]; exact (l1.cell (p := ⟨X.heap.size, 2, none⟩) (by simp)).trans (by simp)
  · rw [← hX]; exact (l1.cell (p := ⟨X.heap.size, 3, none⟩) (by simp)).trans (by simp)
  · intro i; rw [← hX]; exact (l1.frozen (p := ⟨X.heap.size, i, none⟩) (by simp)).trans (by simp)
  · rw [← s1]; exact (l2.cell (p := ⟨(X.alloc (.cells #[.int .i64 0, .float .f64 0, .string ⟨#[]⟩, .int .i64 0] 26)).heap.size, 0, none⟩) (by simp)).trans (by simp)
  · rw [← s1]; exact (l2.frozen (p := ⟨(X.alloc (.cells #[.int .i64 0, .float .f64 0, .string ⟨#[]⟩, .int .i64 0] 26)).heap.size, 0, none⟩) (by simp)).trans (by simp)
  · exact hp.c0
  · exact hp.c1
  · exact hp.c2
  · exact hp.c3
  · exact hp.c4
  · exact hp.c5
  · exact hp.c6
  · exact hp.c7
theorem op_other (W : World) (a p : Addr) (v : Value) (h : a ≠ p) : (W.setCell a v).cell? p = W.cell? p := by
  apply World.cell?_setCell_other
  exact h
theorem op_same (W : World) (a : Addr) (v u : Value) (h : W.cell? a = some u) : (W.setCell a v).cell? a = some v := by
  apply World.cell?_setCell_same
  exact h
set_option maxHeartbeats 1000000 in
set_option maxRecDepth 100000 in
theorem BinW.put {w : World} {b : Nat} {ka : Int} {xa : Nat} {sa : ByteArray} {ra : Int} {kb : Int} {xb : Nat} {sb : ByteArray} {rb : Int} (h : BinW w b ka xa sa ra kb xb sb rb) (v0 v1 v2 v3 v4 : Value) : (((((w.setCell ⟨b + 1 + 1, 0, none⟩ v0).setCell ⟨b + 1 + 1, 1, none⟩ v1).setCell ⟨b + 1 + 1, 2, none⟩ v2).setCell ⟨b + 1 + 1, 3, none⟩ v3).setCell ⟨b + 1 + 1 + 1, 0, none⟩ v4).cell? ⟨b + 1 + 1, 0, none⟩ = some v0 ∧ (((((w.setCell ⟨b + 1 + 1, 0, none⟩ v0).setCell ⟨b + 1 + 1, 1, none⟩ v1).setCell ⟨b + 1 + 1, 2, none⟩ v2).setCell ⟨b + 1 + 1, 3, none⟩ v3).setCell ⟨b + 1 + 1 + 1, 0, none⟩ v4).cell? ⟨b + 1 + 1, 1, none⟩ = some v1 ∧ (((((w.setCell ⟨b + 1 + 1, 0, none⟩ v0).setCell ⟨b + 1 + 1, 1, none⟩ v1).setCell ⟨b + 1 + 1, 2, none⟩ v2).setCell ⟨b + 1 + 1, 3, none⟩ v3).setCell ⟨b + 1 + 1 + 1, 0, none⟩ v4).cell? ⟨b + 1 + 1, 2, none⟩ = some v2 ∧ (((((w.setCell ⟨b + 1 + 1, 0, none⟩ v0).setCell ⟨b + 1 + 1, 1, none⟩ v1).setCell ⟨b + 1 + 1, 2, none⟩ v2).setCell ⟨b + 1 + 1, 3, none⟩ v3).setCell ⟨b + 1 + 1 + 1, 0, none⟩ v4).cell? ⟨b + 1 + 1, 3, none⟩ = some v3 ∧ (((((w.setCell ⟨b + 1 + 1, 0, none⟩ v0).setCell ⟨b + 1 + 1, 1, none⟩ v1).setCell ⟨b + 1 + 1, 2, none⟩ v2).setCell ⟨b + 1 + 1, 3, none⟩ v3).setCell ⟨b + 1 + 1 + 1, 0, none⟩ v4).cell? ⟨b + 1 + 1 + 1, 0, none⟩ = some v4 := by
  refine ⟨?_, ?_, ?_, ?_, ?_⟩
  · exact (op_other _ ⟨b + 1 + 1 + 1, 0, none⟩ ⟨b + 1 + 1, 0, none⟩ v4 (by intro q; injection q with q1; omega)).trans ((op_other _ ⟨b + 1 + 1, 3, none⟩ ⟨b + 1 + 1, 0, none⟩ v3 (by intro q; cases q)).trans ((op_other _ ⟨b + 1 + 1, 2, none⟩ ⟨b + 1 + 1, 0, none⟩ v2 (by intro q; cases q)).trans ((op_other _ ⟨b + 1 + 1, 1, none⟩ ⟨b + 1 + 1, 0, none⟩ v1 (by intro q; cases q)).trans (op_same _ ⟨b + 1 + 1, 0, none⟩ v0 _ (h.o0)))))
  · exact (op_other _ ⟨b + 1 + 1 + 1, 0, none⟩ ⟨b + 1 + 1, 1, none⟩ v4 (by intro q; injection q with q1; omega)).trans ((op_other _ ⟨b + 1 + 1, 3, none⟩ ⟨b + 1 + 1, 1, none⟩ v3 (by intro q; cases q)).trans ((op_other _ ⟨b + 1 + 1, 2, none⟩ ⟨b + 1 + 1, 1, none⟩ v2 (by intro q; cases q)).trans (op_same _ ⟨b + 1 + 1, 1, none⟩ v1 _ ((op_other _ ⟨b + 1 + 1, 0, none⟩ ⟨b + 1 + 1, 1, none⟩ v0 (by intro q; cases q)).trans (h.o1)))))
  · exact (op_other _ ⟨b + 1 + 1 + 1, 0, none⟩ ⟨b + 1 + 1, 2, none⟩ v4 (by intro q; injection q with q1; omega)).trans ((op_other _ ⟨b + 1 + 1, 3, none⟩ ⟨b + 1 + 1, 2, none⟩ v3 (by intro q; cases q)).trans (op_same _ ⟨b + 1 + 1, 2, none⟩ v2 _ ((op_other _ ⟨b + 1 + 1, 1, none⟩ ⟨b + 1 + 1, 2, none⟩ v1 (by intro q; cases q)).trans ((op_other _ ⟨b + 1 + 1, 0, none⟩ ⟨b + 1 + 1, 2, none⟩ v0 (by intro q; cases q)).trans (h.o2)))))
  · exact (op_other _ ⟨b + 1 + 1 + 1, 0, none⟩ ⟨b + 1 + 1, 3, none⟩ v4 (by intro q; injection q with q1; omega)).trans (op_same _ ⟨b + 1 + 1, 3, none⟩ v3 _ ((op_other _ ⟨b + 1 + 1, 2, none⟩ ⟨b + 1 + 1, 3, none⟩ v2 (by intro q; cases q)).trans ((op_other _ ⟨b + 1 + 1, 1, none⟩ ⟨b + 1 + 1, 3, none⟩ v1 (by intro q; cases q)).trans ((op_other _ ⟨b + 1 + 1, 0, none⟩ ⟨b + 1 + 1, 3, none⟩ v0 (by intro q; cases q)).trans (h.o3)))))
  · exact op_same _ ⟨b + 1 + 1 + 1, 0, none⟩ v4 _ ((op_other _ ⟨b + 1 + 1, 3, none⟩ ⟨b + 1 + 1 + 1, 0, none⟩ v3 (by intro q; injection q with q1; omega)).trans ((op_other _ ⟨b + 1 + 1, 2, none⟩ ⟨b + 1 + 1 + 1, 0, none⟩ v2 (by intro q; injection q with q1; omega)).trans ((op_other _ ⟨b + 1 + 1, 1, none⟩ ⟨b + 1 + 1 + 1, 0, none⟩ v1 (by intro q; injection q with q1; omega)).trans ((op_other _ ⟨b + 1 + 1, 0, none⟩ ⟨b + 1 + 1 + 1, 0, none⟩ v0 (by intro q; injection q with q1; omega)).trans (h.e0)))))
set_option maxHeartbeats 1000000 in
set_option maxRecDepth 100000 in
theorem op_idle (p q : Addr) (w : World) :
    CallsD Tryz.prog 15 #[.pointer (some p), .pointer (some q)] .returning w fun e u' w' => e = .returned (.tuple #[]) ∧ u' = .returning ∧ w' = w := by
  refine callsD_of_wpS Tryz.func15 rfl fun c₀ cs hu => ?_
  apply wpS_seq
  apply wpS_region
  simp [wpOpsS, go_sem, recoverD, hu, Tryz.ntmps15, Exit.thenS]
  apply wpS_seq
  apply wpS_region
  simp [wpOpsS, go_sem, Exit.thenS]
  refine wpS_cond (t := false) (by simp [Act.eval, Array.replicate]) ?_
  simp only [Bool.false_eq_true, if_false]
  refine wpS_of_wp (wp_skip ?_)
  cases c₀
  simp_all [bodyPostS, results, Tryz.results15]
set_option maxHeartbeats 4000000 in
set_option maxRecDepth 100000 in
theorem bin_sum (op : ByteArray) (k : Nat) (HE : ∀ (args : Array Value) (W : World), (callFunc k args).run Tryz.prog W = .ok (.enter k args) W) (ka : Int) (xa : Nat) (sa : ByteArray) (ra : Int) (kb : Int) (xb : Nat) (sb : ByteArray) (rb : Int) (Q : Int → Nat → ByteArray → Int → Prop) (hm : (op.data.toList, k) ∈ sumsTab) (HM : Hid (∀ W, Hid (Laid W) → Calls Tryz.prog k #[.agg #[.int .i64 ka, .float .f64 xa, .string sa, .int .i64 ra, .int .i64 kb, .float .f64 xb, .string sb, .int .i64 rb]] W fun e w' => ∃ kr xr sr rr, e = .returned (.agg #[.int .i64 kr, .float .f64 xr, .string sr, .int .i64 rr]) ∧ Q kr xr sr rr ∧ Below W.heap.size W w')) (ho : op.size ≤ maxLen) (w : World) (hl : Hid (Laid w)) :
    Calls Tryz.prog 7 #[.string op, .agg #[.int .i64 ka, .float .f64 xa, .string sa, .int .i64 ra], .agg #[.int .i64 kb, .float .f64 xb, .string sb, .int .i64 rb]] w fun e w' => ∃ kr xr sr rr, e = .returned (.tuple #[.agg #[.int .i64 kr, .float .f64 xr, .string sr, .int .i64 rr], .int .i64 0]) ∧ Q kr xr sr rr ∧ Below w.heap.size w w' := by
  have hmf : ∀ (fn : Fn) (first cap : Array Value) (w : World), (Instr.makeFunc fn first cap).run Tryz.prog w = .ok (.func fn first cap) w := fun _ _ _ _ => rfl
  have HS := Hid.mk' (fun W => sums_any W)
  have HLO := Hid.mk' (fun W m (h : MSums W m) => h.look op k ho hm)
  clear hm ho
  go_enter_defers Tryz.func7, Tryz.ntmps7
  go_wp2_with fail
  refine (HS.out _).mono ?_
  rintro e w1 ⟨m1, rfl, hm1, hlt1, HM1, b1⟩
  have c1 : Below w.heap.size w w1 := bl_chain (by (repeat' (first | (with_reducible exact Below.refl _ _) | (with_reducible assumption) | (with_reducible refine Below.drew ?_) | (with_reducible refine below_drewN ?_ _) | (with_reducible refine Below.alloc ?_ ?_ _) | (with_reducible refine Below.setCell ?_ ?_ _) | exact Below.size (show Below w.heap.size w _ by assumption) | (simp; done) | (simp; omega)))) b1
  have B1 : BinW w1 w.heap.size ka xa sa ra kb xb sb rb := BinW.below (by first | (with_reducible assumption) | (with_reducible refine BinW.drew ?_; assumption) | exact BinW.new _ w (by simp) _ _ _ _ _ _ _ _) b1; obtain ⟨-, o10, o11, o12, o13, of1, e10, ef1, p10, p11, p12, p13, p14, p15, p16, p17⟩ := id B1
  clear b1
  have HL1 := HLO.out _ _ HM1
  go_wp2_with fail
  refine (HM.out _ (Hid.mk' (hl.out.below (by (repeat' (first | (with_reducible exact Below.refl _ _) | (with_reducible assumption) | (with_reducible refine Below.drew ?_) | (with_reducible refine below_drewN ?_ _) | (with_reducible refine Below.alloc ?_ ?_ _) | (with_reducible refine Below.setCell ?_ ?_ _) | exact Below.size (show Below w.heap.size w _ by assumption) | (simp; done) | (simp; omega))))))).mono ?_
  rintro e w2 ⟨kr, xr, sr, rr, rfl, hq, b2⟩
  have c2 : Below w.heap.size w w2 := bl_chain (by (repeat' (first | (with_reducible exact Below.refl _ _) | (with_reducible assumption) | (with_reducible refine Below.drew ?_) | (with_reducible refine below_drewN ?_ _) | (with_reducible refine Below.alloc ?_ ?_ _) | (with_reducible refine Below.setCell ?_ ?_ _) | exact Below.size (show Below w.heap.size w _ by assumption) | (simp; done) | (simp; omega)))) b2
  have B2 : BinW w2 w.heap.size ka xa sa ra kb xb sb rb := BinW.below (by first | (with_reducible assumption) | (with_reducible refine BinW.drew ?_; assumption) | exact BinW.new _ w (by simp) _ _ _ _ _ _ _ _) b2; obtain ⟨-, o20, o21, o22, o23, of2, e20, ef2, p20, p21, p22, p23, p24, p25, p26, p27⟩ := id B2
  clear b2
  have HQ := Hid.mk' hq
  clear hq
  go_wp2
  obtain ⟨y0, y1, y2, y3, y4⟩ := BinW.put B2 (.int .i64 kr) (.float .f64 xr) (.string sr) (.int .i64 rr) (.int .i64 0)
  clear o20 o21 o22 o23 e20
  refine leaves_cons (f := 15) (args := #[.pointer (some ⟨w.heap.size + 1 + 1, 0, none⟩), .pointer (some ⟨w.heap.size + 1 + 1 + 1, 0, none⟩)]) (by simp) (by simp [go_sem]) ?_
  refine (op_idle _ _ _).mono ?_
  rintro e u' w9 ⟨rfl, rfl, hw9⟩
  rw [hw9]
  clear hw9 w9
  refine ⟨.tuple #[.agg #[.int .i64 kr, .float .f64 xr, .string sr, .int .i64 rr], .int .i64 0], ?_, kr, xr, sr, rr, rfl, HQ.out, by (repeat' (first | (with_reducible exact Below.refl _ _) | (with_reducible assumption) | (with_reducible refine Below.drew ?_) | (with_reducible refine below_drewN ?_ _) | (with_reducible refine Below.alloc ?_ ?_ _) | (with_reducible refine Below.setCell ?_ ?_ _) | exact Below.size (show Below w.heap.size w _ by assumption) | (simp; done) | (simp; omega)))⟩
  simp [results, Tryz.results7, go_sem, y0, y1, y2, y3, y4]
set_option maxHeartbeats 4000000 in
set_option maxRecDepth 100000 in
theorem bin_cmp (op : ByteArray) (k : Nat) (HE : ∀ (args : Array Value) (W : World), (callFunc k args).run Tryz.prog W = .ok (.enter k args) W) (ka : Int) (xa : Nat) (sa : ByteArray) (ra : Int) (kb : Int) (xb : Nat) (sb : ByteArray) (rb : Int) (b : Bool) (hm : (op.data.toList, k) ∈ comparisonsTab) (hn : op.data.toList ∈ sumsNot) (HM : Hid (∀ W, Hid (Laid W) → Calls Tryz.prog k #[.agg #[.int .i64 ka, .float .f64 xa, .string sa, .int .i64 ra, .int .i64 kb, .float .f64 xb, .string sb, .int .i64 rb]] W fun e w' => e = .returned (.bool b) ∧ Below W.heap.size W w')) (ho : op.size ≤ maxLen) (w : World) (hl : Hid (Laid w)) :
    Calls Tryz.prog 7 #[.string op, .agg #[.int .i64 ka, .float .f64 xa, .string sa, .int .i64 ra], .agg #[.int .i64 kb, .float .f64 xb, .string sb, .int .i64 rb]] w fun e w' => e = .returned (.tuple #[.agg #[.int .i64 2, .float .f64 (truthN b), .string ⟨#[]⟩, .int .i64 0], .int .i64 0]) ∧ Below w.heap.size w w' := by
  have hmf : ∀ (fn : Fn) (first cap : Array Value) (w : World), (Instr.makeFunc fn first cap).run Tryz.prog w = .ok (.func fn first cap) w := fun _ _ _ _ => rfl
  have HS := Hid.mk' (fun W => sums_any W)
  have HNO := Hid.mk' (fun W m (h : MSums W m) => h.none op ho hn)
  have HC := Hid.mk' (fun W => comparisons_any W)
  have HLO := Hid.mk' (fun W m (h : MComparisons W m) => h.look op k ho hm)
  have HT := Hid.mk' (fun W => op_truth b W)
  clear hm hn ho
  go_enter_defers Tryz.func7, Tryz.ntmps7
  go_wp2_with fail
  refine (HS.out _).mono ?_
  rintro e w1 ⟨m1, rfl, hm1, hlt1, HM1, b1⟩
  have c1 : Below w.heap.size w w1 := bl_chain (by (repeat' (first | (with_reducible exact Below.refl _ _) | (with_reducible assumption) | (with_reducible refine Below.drew ?_) | (with_reducible refine below_drewN ?_ _) | (with_reducible refine Below.alloc ?_ ?_ _) | (with_reducible refine Below.setCell ?_ ?_ _) | exact Below.size (show Below w.heap.size w _ by assumption) | (simp; done) | (simp; omega)))) b1
  have B1 : BinW w1 w.heap.size ka xa sa ra kb xb sb rb := BinW.below (by first | (with_reducible assumption) | (with_reducible refine BinW.drew ?_; assumption) | exact BinW.new _ w (by simp) _ _ _ _ _ _ _ _) b1; obtain ⟨-, o10, o11, o12, o13, of1, e10, ef1, p10, p11, p12, p13, p14, p15, p16, p17⟩ := id B1
  clear b1
  have HL1 := HNO.out _ _ HM1
  go_wp2_with fail
  refine (HC.out _).mono ?_
  rintro e w2 ⟨m2, rfl, hm2, hlt2, HM2, b2⟩
  have c2 : Below w.heap.size w w2 := bl_chain (by (repeat' (first | (with_reducible exact Below.refl _ _) | (with_reducible assumption) | (with_reducible refine Below.drew ?_) | (with_reducible refine below_drewN ?_ _) | (with_reducible refine Below.alloc ?_ ?_ _) | (with_reducible refine Below.setCell ?_ ?_ _) | exact Below.size (show Below w.heap.size w _ by assumption) | (simp; done) | (simp; omega)))) b2
  have B2 : BinW w2 w.heap.size ka xa sa ra kb xb sb rb := BinW.below (by first | (with_reducible assumption) | (with_reducible refine BinW.drew ?_; assumption) | exact BinW.new _ w (by simp) _ _ _ _ _ _ _ _) b2; obtain ⟨-, o20, o21, o22, o23, of2, e20, ef2, p20, p21, p22, p23, p24, p25, p26, p27⟩ := id B2
  clear b2
  have HL2 := HLO.out _ _ HM2
  go_wp2_with fail
  refine (HM.out _ (Hid.mk' (hl.out.below (by (repeat' (first | (with_reducible exact Below.refl _ _) | (with_reducible assumption) | (with_reducible refine Below.drew ?_) | (with_reducible refine below_drewN ?_ _) | (with_reducible refine Below.alloc ?_ ?_ _) | (with_reducible refine Below.setCell ?_ ?_ _) | exact Below.size (show Below w.heap.size w _ by assumption) | (simp; done) | (simp; omega))))))).mono ?_
  rintro e w3 ⟨rfl, b3⟩
  have c3 : Below w.heap.size w w3 := bl_chain (by (repeat' (first | (with_reducible exact Below.refl _ _) | (with_reducible assumption) | (with_reducible refine Below.drew ?_) | (with_reducible refine below_drewN ?_ _) | (with_reducible refine Below.alloc ?_ ?_ _) | (with_reducible refine Below.setCell ?_ ?_ _) | exact Below.size (show Below w.heap.size w _ by assumption) | (simp; done) | (simp; omega)))) b3
  have B3 : BinW w3 w.heap.size ka xa sa ra kb xb sb rb := BinW.below (by first | (with_reducible assumption) | (with_reducible refine BinW.drew ?_; assumption) | exact BinW.new _ w (by simp) _ _ _ _ _ _ _ _) b3; obtain ⟨-, o30, o31, o32, o33, of3, e30, ef3, p30, p31, p32, p33, p34, p35, p36, p37⟩ := id B3
  clear b3
  go_wp2_with fail
  refine (HT.out _).mono ?_
  rintro e w4 ⟨rfl, b4⟩
  have c4 : Below w.heap.size w w4 := bl_chain (by (repeat' (first | (with_reducible exact Below.refl _ _) | (with_reducible assumption) | (with_reducible refine Below.drew ?_) | (with_reducible refine below_drewN ?_ _) | (with_reducible refine Below.alloc ?_ ?_ _) | (with_reducible refine Below.setCell ?_ ?_ _) | exact Below.size (show Below w.heap.size w _ by assumption) | (simp; done) | (simp; omega)))) b4
  have B4 : BinW w4 w.heap.size ka xa sa ra kb xb sb rb := BinW.below (by first | (with_reducible assumption) | (with_reducible refine BinW.drew ?_; assumption) | exact BinW.new _ w (by simp) _ _ _ _ _ _ _ _) b4; obtain ⟨-, o40, o41, o42, o43, of4, e40, ef4, p40, p41, p42, p43, p44, p45, p46, p47⟩ := id B4
  clear b4
  go_wp2
  obtain ⟨y0, y1, y2, y3, y4⟩ := BinW.put B4 (.int .i64 2) (.float .f64 (truthN b)) (.string ⟨#[]⟩) (.int .i64 0) (.int .i64 0)
  clear o40 o41 o42 o43 e40
  refine leaves_cons (f := 15) (args := #[.pointer (some ⟨w.heap.size + 1 + 1, 0, none⟩), .pointer (some ⟨w.heap.size + 1 + 1 + 1, 0, none⟩)]) (by simp) (by simp [go_sem]) ?_
  refine (op_idle _ _ _).mono ?_
  rintro e u' w9 ⟨rfl, rfl, hw9⟩
  rw [hw9]
  clear hw9 w9
  refine ⟨.tuple #[.agg #[.int .i64 2, .float .f64 (truthN b), .string ⟨#[]⟩, .int .i64 0], .int .i64 0], ?_, rfl, by (repeat' (first | (with_reducible exact Below.refl _ _) | (with_reducible assumption) | (with_reducible refine Below.drew ?_) | (with_reducible refine below_drewN ?_ _) | (with_reducible refine Below.alloc ?_ ?_ _) | (with_reducible refine Below.setCell ?_ ?_ _) | exact Below.size (show Below w.heap.size w _ by assumption) | (simp; done) | (simp; omega)))⟩
  simp [results, Tryz.results7, go_sem, y0, y1, y2, y3, y4]
set_option maxHeartbeats 4000000 in
set_option maxRecDepth 100000 in
theorem bin_shift (op : ByteArray) (k : Nat) (HE : ∀ (args : Array Value) (W : World), (callFunc k args).run Tryz.prog W = .ok (.enter k args) W) (ka : Int) (xa : Nat) (sa : ByteArray) (ra : Int) (kb : Int) (xb : Nat) (sb : ByteArray) (rb : Int) (f : Nat) (hm : (op.data.toList, k) ∈ shiftsTab) (hn : op.data.toList ∈ sumsNot) (hc : op.data.toList ∈ comparisonsNot) (HM : Hid (∀ W, Hid (Laid W) → Calls Tryz.prog k #[.agg #[.int .i64 ka, .float .f64 xa, .string sa, .int .i64 ra, .int .i64 kb, .float .f64 xb, .string sb, .int .i64 rb]] W fun e w' => e = .returned (.float .f64 f) ∧ Below W.heap.size W w')) (ho : op.size ≤ maxLen) (w : World) (hl : Hid (Laid w)) :
    Calls Tryz.prog 7 #[.string op, .agg #[.int .i64 ka, .float .f64 xa, .string sa, .int .i64 ra], .agg #[.int .i64 kb, .float .f64 xb, .string sb, .int .i64 rb]] w fun e w' => e = .returned (.tuple #[.agg #[.int .i64 3, .float .f64 f, .string ⟨#[]⟩, .int .i64 0], .int .i64 0]) ∧ Below w.heap.size w w' := by
  have hmf : ∀ (fn : Fn) (first cap : Array Value) (w : World), (Instr.makeFunc fn first cap).run Tryz.prog w = .ok (.func fn first cap) w := fun _ _ _ _ => rfl
  have HS := Hid.mk' (fun W => sums_any W)
  have HNO := Hid.mk' (fun W m (h : MSums W m) => h.none op ho hn)
  have HC := Hid.mk' (fun W => comparisons_any W)
  have HNC := Hid.mk' (fun W m (h : MComparisons W m) => h.none op ho hc)
  have HI := Hid.mk' (fun W => shifts_any W)
  have HLO := Hid.mk' (fun W m (h : MShifts W m) => h.look op k ho hm)
  have HT := Hid.mk' (fun W => op_number f W)
  clear hm hn hc ho
  go_enter_defers Tryz.func7, Tryz.ntmps7
  go_wp2_with fail
  refine (HS.out _).mono ?_
  rintro e w1 ⟨m1, rfl, hm1, hlt1, HM1, b1⟩
  have c1 : Below w.heap.size w w1 := bl_chain (by (repeat' (first | (with_reducible exact Below.refl _ _) | (with_reducible assumption) | (with_reducible refine Below.drew ?_) | (with_reducible refine below_drewN ?_ _) | (with_reducible refine Below.alloc ?_ ?_ _) | (with_reducible refine Below.setCell ?_ ?_ _) | exact Below.size (show Below w.heap.size w _ by assumption) | (simp; done) | (simp; omega)))) b1
  have B1 : BinW w1 w.heap.size ka xa sa ra kb xb sb rb := BinW.below (by first | (with_reducible assumption) | (with_reducible refine BinW.drew ?_; assumption) | exact BinW.new _ w (by simp) _ _ _ _ _ _ _ _) b1; obtain ⟨-, o10, o11, o12, o13, of1, e10, ef1, p10, p11, p12, p13, p14, p15, p16, p17⟩ := id B1
  clear b1
  have HL1 := HNO.out _ _ HM1
  go_wp2_with fail
  refine (HC.out _).mono ?_
  rintro e w2 ⟨m2, rfl, hm2, hlt2, HM2, b2⟩
  have c2 : Below w.heap.size w w2 := bl_chain (by (repeat' (first | (with_reducible exact Below.refl _ _) | (with_reducible assumption) | (with_reducible refine Below.drew ?_) | (with_reducible refine below_drewN ?_ _) | (with_reducible refine Below.alloc ?_ ?_ _) | (with_reducible refine Below.setCell ?_ ?_ _) | exact Below.size (show Below w.heap.size w _ by assumption) | (simp; done) | (simp; omega)))) b2
  have B2 : BinW w2 w.heap.size ka xa sa ra kb xb sb rb := BinW.below (by first | (with_reducible assumption) | (with_reducible refine BinW.drew ?_; assumption) | exact BinW.new _ w (by simp) _ _ _ _ _ _ _ _) b2; obtain ⟨-, o20, o21, o22, o23, of2, e20, ef2, p20, p21, p22, p23, p24, p25, p26, p27⟩ := id B2
  clear b2
  have HL2 := HNC.out _ _ HM2
  go_wp2_with fail
  refine (HI.out _).mono ?_
  rintro e w3 ⟨m3, rfl, hm3, hlt3, HM3, b3⟩
  have c3 : Below w.heap.size w w3 := bl_chain (by (repeat' (first | (with_reducible exact Below.refl _ _) | (with_reducible assumption) | (with_reducible refine Below.drew ?_) | (with_reducible refine below_drewN ?_ _) | (with_reducible refine Below.alloc ?_ ?_ _) | (with_reducible refine Below.setCell ?_ ?_ _) | exact Below.size (show Below w.heap.size w _ by assumption) | (simp; done) | (simp; omega)))) b3
  have B3 : BinW w3 w.heap.size ka xa sa ra kb xb sb rb := BinW.below (by first | (with_reducible assumption) | (with_reducible refine BinW.drew ?_; assumption) | exact BinW.new _ w (by simp) _ _ _ _ _ _ _ _) b3; obtain ⟨-, o30, o31, o32, o33, of3, e30, ef3, p30, p31, p32, p33, p34, p35, p36, p37⟩ := id B3
  clear b3
  have HL3 := HLO.out _ _ HM3
  go_wp2_with fail
  refine (HM.out _ (Hid.mk' (hl.out.below (by (repeat' (first | (with_reducible exact Below.refl _ _) | (with_reducible assumption) | (with_reducible refine Below.drew ?_) | (with_reducible refine below_drewN ?_ _) | (with_reducible refine Below.alloc ?_ ?_ _) | (with_reducible refine Below.setCell ?_ ?_ _) | exact Below.size (show Below w.heap.size w _ by assumption) | (simp; done) | (simp; omega))))))).mono ?_
  rintro e w4 ⟨rfl, b4⟩
  have c4 : Below w.heap.size w w4 := bl_chain (by (repeat' (first | (with_reducible exact Below.refl _ _) | (with_reducible assumption) | (with_reducible refine Below.drew ?_) | (with_reducible refine below_drewN ?_ _) | (with_reducible refine Below.alloc ?_ ?_ _) | (with_reducible refine Below.setCell ?_ ?_ _) | exact Below.size (show Below w.heap.size w _ by assumption) | (simp; done) | (simp; omega)))) b4
  have B4 : BinW w4 w.heap.size ka xa sa ra kb xb sb rb := BinW.below (by first | (with_reducible assumption) | (with_reducible refine BinW.drew ?_; assumption) | exact BinW.new _ w (by simp) _ _ _ _ _ _ _ _) b4; obtain ⟨-, o40, o41, o42, o43, of4, e40, ef4, p40, p41, p42, p43, p44, p45, p46, p47⟩ := id B4
  clear b4
  go_wp2_with fail
  refine (HT.out _).mono ?_
  rintro e w5 ⟨rfl, b5⟩
  have c5 : Below w.heap.size w w5 := bl_chain (by (repeat' (first | (with_reducible exact Below.refl _ _) | (with_reducible assumption) | (with_reducible refine Below.drew ?_) | (with_reducible refine below_drewN ?_ _) | (with_reducible refine Below.alloc ?_ ?_ _) | (with_reducible refine Below.setCell ?_ ?_ _) | exact Below.size (show Below w.heap.size w _ by assumption) | (simp; done) | (simp; omega)))) b5
  have B5 : BinW w5 w.heap.size ka xa sa ra kb xb sb rb := BinW.below (by first | (with_reducible assumption) | (with_reducible refine BinW.drew ?_; assumption) | exact BinW.new _ w (by simp) _ _ _ _ _ _ _ _) b5; obtain ⟨-, o50, o51, o52, o53, of5, e50, ef5, p50, p51, p52, p53, p54, p55, p56, p57⟩ := id B5
  clear b5
  go_wp2
  obtain ⟨y0, y1, y2, y3, y4⟩ := BinW.put B5 (.int .i64 3) (.float .f64 f) (.string ⟨#[]⟩) (.int .i64 0) (.int .i64 0)
  clear o50 o51 o52 o53 e50
  refine leaves_cons (f := 15) (args := #[.pointer (some ⟨w.heap.size + 1 + 1, 0, none⟩), .pointer (some ⟨w.heap.size + 1 + 1 + 1, 0, none⟩)]) (by simp) (by simp [go_sem]) ?_
  refine (op_idle _ _ _).mono ?_
  rintro e u' w9 ⟨rfl, rfl, hw9⟩
  rw [hw9]
  clear hw9 w9
  refine ⟨.tuple #[.agg #[.int .i64 3, .float .f64 f, .string ⟨#[]⟩, .int .i64 0], .int .i64 0], ?_, rfl, by (repeat' (first | (with_reducible exact Below.refl _ _) | (with_reducible assumption) | (with_reducible refine Below.drew ?_) | (with_reducible refine below_drewN ?_ _) | (with_reducible refine Below.alloc ?_ ?_ _) | (with_reducible refine Below.setCell ?_ ?_ _) | exact Below.size (show Below w.heap.size w _ by assumption) | (simp; done) | (simp; omega)))⟩
  simp [results, Tryz.results7, go_sem, y0, y1, y2, y3, y4]
end Go.Proofs.YtbkkkpfoaggejaaGreatDoor
