/- Package shape: trees and caches that nobody made. -/
import Derived.Test.YtoonaljmdiideaaCut
import Derived.Laws.LoneSync
import Derived.RangeFuncLeaves
import Derived.RangeFuncBound
import Derived.OwnWalk
import Derived.Deep.Cut
import Derived.Deep.CutRange
import Derived.Deep.CutBlock
import Derived.Deep.RegionLaw
import Derived.Shelf.Abstract
import Derived.Deep.RegionWith
namespace Go.Proofs.Ytoonaljmdiideaa
set_option linter.unusedVariables false
set_option linter.unusedSimpArgs false
open Go.RowKit

theorem eqT_no (W : World) (a : Addr) : (binOp .eql 25 (.pointer none) (.pointer (some a))).run Try.prog W = .ok (.bool false) W := by
  have e : ∀ d, (Op.equalIn (d + 1) 25 (.pointer none) (.pointer (some a))).run Try.prog W = .ok false W := fun d => by
    simp [Op.equalIn, run_underlying Try.underlying25]
  simp only [binOp]
  simp [Op.equal, Op.maxDepth, e 9999]
theorem eqC_no (W : World) (a : Addr) : (binOp .eql 45 (.pointer none) (.pointer (some a))).run Try.prog W = .ok (.bool false) W := by
  have e : ∀ d, (Op.equalIn (d + 1) 45 (.pointer none) (.pointer (some a))).run Try.prog W = .ok false W := fun d => by
    simp [Op.equalIn, run_underlying Try.underlying45]
  simp only [binOp]
  simp [Op.equal, Op.maxDepth, e 9999]
theorem eqC_yes (W : World) (a : Addr) : (binOp .eql 45 (.pointer (some a)) (.pointer (some a))).run Try.prog W = .ok (.bool true) W := by
  have e : ∀ d, (Op.equalIn (d + 1) 45 (.pointer (some a)) (.pointer (some a))).run Try.prog W = .ok true W := fun d => by
    simp [Op.equalIn, run_underlying Try.underlying45, Try.sizeOf102, run_sameAddr_same]
  simp only [binOp]
  simp [Op.equal, Op.maxDepth, e 9999]

/-- A tree, or a cache, that nobody made. -/
def Un (t : Value) (w : World) : Prop := t = .pointer none ∨ ∃ g, t = .pointer (some ⟨g, 0, none⟩) ∧ w.cell? ⟨g, 0, none⟩ = some (.pointer none)
theorem Un.lt {t : Value} {w w' : World} {B : Nat} (h : Un t w) (hb : Below B w w') (hB : ∀ g, t = .pointer (some ⟨g, 0, none⟩) → g < B) : Un t w' := by
  rcases h with h | ⟨g, h, hc⟩
  · exact .inl h
  · exact .inr ⟨g, h, (hb.cell (p := ⟨g, 0, none⟩) (hB g h)).trans hc⟩
theorem Un.below {t : Value} {w w' : World} (h : Un t w) (hb : Below w.heap.size w w') : Un t w' := by
  rcases h with h | ⟨g, h, hc⟩
  · exact .inl h
  · exact .inr ⟨g, h, (hb.cell (p := ⟨g, 0, none⟩) (World.block_lt_of_cell? w _ hc)).trans hc⟩

set_option maxHeartbeats 400000 in
set_option maxRecDepth 100000 in
theorem isMade_no (t : Value) (w : World) (h : Un t w) : Calls Try.prog 35 #[t] w fun e w' => e = .returned (.bool false) ∧ w' = w := by
  have he := eqT_no
  rcases h with rfl | ⟨g, rfl, hc⟩
  · go_enter Try.func35, Try.ntmps35
    go_wp2
    go_ret
    exact ⟨rfl, rfl⟩
  · go_enter Try.func35, Try.ntmps35
    go_wp2
    go_ret
    exact ⟨rfl, rfl⟩
set_option maxHeartbeats 400000 in
set_option maxRecDepth 100000 in
theorem isMadeC_no (t : Value) (w : World) (h : Un t w) : Calls Try.prog 38 #[t] w fun e w' => e = .returned (.bool false) ∧ w' = w := by
  have he := eqC_no
  rcases h with rfl | ⟨g, rfl, hc⟩
  · go_enter Try.func38, Try.ntmps38
    go_wp2
    go_ret
    exact ⟨rfl, rfl⟩
  · go_enter Try.func38, Try.ntmps38
    go_wp2
    go_ret
    exact ⟨rfl, rfl⟩
set_option maxHeartbeats 400000 in
set_option maxRecDepth 100000 in
theorem has_no (t : Value) (s : Int) (w : World) (h : Un t w) : Calls Try.prog 46 #[t, .int .i64 s] w fun e w' => e = .returned (.bool false) ∧ w' = w := by
  have HM := Hid.mk' (isMade_no t w h)
  clear h
  go_enter Try.func46, Try.ntmps46
  go_wp2_with fail
  refine HM.out.mono ?_
  rintro e w1 ⟨rfl, rfl⟩
  go_wp2
  go_ret
  exact ⟨rfl, rfl⟩
set_option maxHeartbeats 400000 in
set_option maxRecDepth 100000 in
theorem refusal_no (t : Value) (s fl : Int) (w : World) (h : Un t w) : Calls Try.prog 23 #[t, .int .i64 s, .int .i64 fl] w fun e w' => e = .returned (.int .i64 140) ∧ w' = w := by
  have HM := Hid.mk' (has_no t s w h)
  clear h
  go_enter Try.func23, Try.ntmps23
  go_wp2_with fail
  refine HM.out.mono ?_
  rintro e w1 ⟨rfl, rfl⟩
  go_wp2
  go_ret
  exact ⟨rfl, rfl⟩
set_option maxHeartbeats 400000 in
set_option maxRecDepth 100000 in
theorem add_no (t : Value) (s fl : Int) (n : ByteArray) (z : Int) (w : World) (h : Un t w) : Calls Try.prog 11 #[t, .int .i64 s, .agg #[.string n, .int .i64 z], .int .i64 fl] w fun e w' => e = .returned (.tuple #[.int .i64 0, .int .i64 140]) ∧ Below w.heap.size w w' := by
  have b0 : Below w.heap.size w (w.alloc (.cells #[.string n, .int .i64 z] 31)) := (Below.refl _ _).alloc (Nat.le_refl _) _
  have HM := Hid.mk' (refusal_no t s fl _ (h.below b0))
  have HB := Hid.mk' b0
  clear h b0
  go_enter Try.func11, Try.ntmps11
  go_wp2_with fail
  refine HM.out.mono ?_
  rintro e w1 ⟨rfl, rfl⟩
  go_wp2
  go_ret2
  exact ⟨rfl, HB.out⟩
set_option maxHeartbeats 400000 in
set_option maxRecDepth 100000 in
theorem change_no (t : Value) (s fl : Int) (n : ByteArray) (z : Int) (w : World) (h : Un t w) : Calls Try.prog 9 #[t, .int .i64 s, .agg #[.string n, .int .i64 z], .int .i64 fl] w fun e w' => e = .returned (.tuple #[.int .i64 0, .int .i64 140]) ∧ Below w.heap.size w w' := by
  have b0 : Below w.heap.size w (w.alloc (.cells #[.string n, .int .i64 z] 31)) := (Below.refl _ _).alloc (Nat.le_refl _) _
  have HM := Hid.mk' (refusal_no t s fl _ (h.below b0))
  have HB := Hid.mk' b0
  clear h b0
  go_enter Try.func9, Try.ntmps9
  go_wp2_with fail
  refine HM.out.mono ?_
  rintro e w1 ⟨rfl, rfl⟩
  go_wp2
  go_ret2
  exact ⟨rfl, HB.out⟩
set_option maxHeartbeats 400000 in
set_option maxRecDepth 100000 in
theorem find_no (t : Value) (s : Int) (n : ByteArray) (z : Int) (w : World) (h : Un t w) : Calls Try.prog 22 #[t, .int .i64 s, .agg #[.string n, .int .i64 z]] w fun e w' => e = .returned (.tuple #[.int .i64 0, .int .i64 0, .bool false]) ∧ Below w.heap.size w w' := by
  have b0 : Below w.heap.size w (w.alloc (.cells #[.string n, .int .i64 z] 31)) := (Below.refl _ _).alloc (Nat.le_refl _) _
  have HM := Hid.mk' (has_no t s _ (h.below b0))
  have HB := Hid.mk' b0
  clear h b0
  go_enter Try.func22, Try.ntmps22
  go_wp2_with fail
  refine HM.out.mono ?_
  rintro e w1 ⟨rfl, rfl⟩
  go_wp2
  go_ret3
  exact ⟨rfl, HB.out⟩
set_option maxHeartbeats 400000 in
set_option maxRecDepth 100000 in
theorem keys_no (t : Value) (s : Int) (w : World) (h : Un t w) : Calls Try.prog 36 #[t, .int .i64 s] w fun e w' => e = .returned (.tuple #[.slice none 0 0, .int .i64 140]) ∧ w' = w := by
  have HM := Hid.mk' (has_no t s _ h)
  clear h
  refine (callsIn_wide (n := 3)).1 ?_
  refine callsIn_of_wp_marks Try.func36 rfl trivial ?_ rfl
  refine wpIn_wide.2 ?_
  simp only [Try.ntmps36, List.size_toArray, List.length_cons, List.length_nil, Nat.reduceAdd, Nat.reduceSub, Array.replicate_succ, Array.replicate_zero, List.push_toArray, List.append_toArray, List.nil_append, List.cons_append]
  go_wp2_with fail
  refine HM.out.mono ?_
  rintro e w1 ⟨rfl, rfl⟩
  go_wp2
  exact ⟨_, by simp [results, Try.results36, go_sem], rfl, rfl⟩
end Go.Proofs.Ytoonaljmdiideaa
