/- Package shape: New, number, keep. -/
import Derived.Test.YtmbnkpfaeiellaaShH
namespace Go.Proofs.Ytmbnkpfaeiellaa
set_option linter.unusedVariables false
set_option linter.unusedSimpArgs false
open Go.RowKit Go.Maps Go.ChangeShapes
theorem sh_new {X : World} {ob : Obj} {k : Nat} (h : X.heap.size = k) : (X.alloc ob).heap[k]? = some ob := by rw [← h]; exact World.alloc_heap_new X ob
theorem sh_old {X : World} {ob : Obj} {k : Nat} {v : Option Obj} (h : k < X.heap.size) (hv : X.heap[k]? = v) : (X.alloc ob).heap[k]? = v := (((Below.refl _ _).alloc (Nat.le_refl _) _).block k h).trans hv
section
variable {C : List (Nat × Obj)} {B g mn mw lb : Nat} {vk vs vl : Value} {ks : List ByteArray} {ln : List Int} {fs : List (List Int)} {fv : List Value} {nw : Nat} {Dn Dw : DataW Unit}

set_option maxHeartbeats 1000000 in
set_option maxRecDepth 100000 in
theorem number_no (s : ByteArray) (w : World) (h : T1 C B g mn mw lb vk vs vl ks ln fs fv nw Dn Dw w) (hn : NumOk Dn ks) (hs : s.size ≤ maxLen) (hno : s ∉ ks) (hl : ks.length < 2000000000) :
    Calls Try.prog 27 #[.pointer (some ⟨g, 0, none⟩), .agg #[.string s, .int .i64 0]] w fun e w' => e = .returned (.int .i32 (ks.length : Nat)) ∧ Below w.heap.size w w' := by
  obtain ⟨W1, hW1⟩ : ∃ W1, w.alloc (.cells #[.string s, .int .i64 0] 31) = W1 := ⟨_, rfl⟩
  have b1 : Below w.heap.size w W1 := by rw [← hW1]; exact (Below.refl _ _).alloc (Nat.le_refl _) _
  have q1 : W1.heap[w.heap.size]? = some (.cells #[.string s, .int .i64 0] 31 (0, 0)) := by rw [← hW1]; exact World.alloc_heap_new _ _
  obtain ⟨_, _, g0, g1⟩ := pair_facts q1
  have h1 := h.below b1
  obtain ⟨c0, c1, c2, c3, c4, cf, l0, lf⟩ := h1.cells
  obtain ⟨a, cap, hvk, _⟩ := own_slice' h1.k
  rw [hvk] at c2
  have hrun : ∀ n, (Instr.lookup 58 (.map (some mn)) (.agg #[.string s, .int .i64 0]) true).run Try.prog (W1.drewN n) = .ok (.tuple #[.int .i32 0, .bool false]) (W1.drewN n) := fun n => num_no (show (W1.drewN n).ownsMap Try.prog 31 (plainElem Try.prog 21) mn ks.length Dn from h1.n) (key_mk s hs) (hn.no s hs hno)
  have HB := Hid.mk' b1
  have HH := Hid.mk' hW1
  obtain ⟨n, hnn⟩ : ∃ n, ks.length = n := ⟨_, rfl⟩
  rw [hnn] at c2 hl ⊢
  have hw : IntKind.i32.wrap (n : Int) = (n : Int) := by rw [IntKind.wrap_i32]; omega
  have hw2 : wrap32 (n : Int) = (n : Int) := by unfold wrap32; omega
  clear h hn hs hno b1 q1 h1 cf lf hvk hnn hW1 c0 c3 c4 l0
  go_enter Try.func27, Try.ntmps27
  go_upto_region 1 with fail
  rw [HH.out]
  go_quiet (fail)
  clear hrun
  go_wp2
  go_ret
  exact ⟨rfl, below_drewN HB.out _⟩
set_option maxHeartbeats 1000000 in
set_option maxRecDepth 100000 in
theorem number_yes (s : ByteArray) (i : Nat) (w : World) (h : T1 C B g mn mw lb vk vs vl ks ln fs fv nw Dn Dw w) (hn : NumOk Dn ks) (hs : s.size ≤ maxLen) (hi : ks[i]? = some s) :
    Calls Try.prog 27 #[.pointer (some ⟨g, 0, none⟩), .agg #[.string s, .int .i64 0]] w fun e w' => e = .returned (.int .i32 (i : Nat)) ∧ Below w.heap.size w w' := by
  obtain ⟨W1, hW1⟩ : ∃ W1, w.alloc (.cells #[.string s, .int .i64 0] 31) = W1 := ⟨_, rfl⟩
  have b1 : Below w.heap.size w W1 := by rw [← hW1]; exact (Below.refl _ _).alloc (Nat.le_refl _) _
  have q1 : W1.heap[w.heap.size]? = some (.cells #[.string s, .int .i64 0] 31 (0, 0)) := by rw [← hW1]; exact World.alloc_heap_new _ _
  obtain ⟨_, _, g0, g1⟩ := pair_facts q1
  have h1 := h.below b1
  obtain ⟨c0, c1, c2, c3, c4, cf, l0, lf⟩ := h1.cells
  have hrun : ∀ n, (Instr.lookup 58 (.map (some mn)) (.agg #[.string s, .int .i64 0]) true).run Try.prog (W1.drewN n) = .ok (.tuple #[.int .i32 i, .bool true]) (W1.drewN n) := fun n => num_yes (show (W1.drewN n).ownsMap Try.prog 31 (plainElem Try.prog 21) mn ks.length Dn from h1.n) (key_mk s hs) (hn.yes i s hi).1 (hn.yes i s hi).2
  have HB := Hid.mk' b1
  have HH := Hid.mk' hW1
  clear h hn hs hi b1 q1 h1 cf lf hW1 c0 c3 c4 l0 c2
  go_enter Try.func27, Try.ntmps27
  go_upto_region 1 with fail
  rw [HH.out]
  go_quiet (fail)
  clear hrun
  go_wp2
  go_ret
  exact ⟨rfl, below_drewN HB.out _⟩
set_option maxHeartbeats 1000000 in
set_option maxRecDepth 100000 in
theorem keep_old (s : ByteArray) (i : Nat) (w : World) (h : T1 C B g mn mw lb vk vs vl ks ln fs fv nw Dn Dw w) (hi : i < ks.length) (hl : ks.length < 2000000000) :
    Calls Try.prog 36 #[.pointer (some ⟨g, 0, none⟩), .int .i32 (i : Nat), .agg #[.string s, .int .i64 0]] w fun e w' => e = .returned (.tuple #[]) ∧ Below w.heap.size w w' := by
  have b1 : Below w.heap.size w (w.alloc (.cells #[.string s, .int .i64 0] 31)) := (Below.refl _ _).alloc (Nat.le_refl _) _
  have h1 := h.below b1
  obtain ⟨c0, c1, c2, c3, c4, cf, l0, lf⟩ := h1.cells
  obtain ⟨a, cap, hvk, _⟩ := own_slice' h1.k
  rw [hvk] at c2
  obtain ⟨n, hnn⟩ : ∃ n, ks.length = n := ⟨_, rfl⟩
  rw [hnn] at c2 hl hi
  have i1 : (i : Int) < (n : Int) := by omega
  have HB := Hid.mk' b1
  clear h b1 h1 c0 c1 c3 c4 cf l0 lf hvk hnn
  go_enter Try.func36, Try.ntmps36
  go_wp2
  exact bodyPost_ret (v := .tuple #[]) (results_none rfl _ _ _) rfl ⟨rfl, HB.out⟩
end
set_option maxHeartbeats 1000000 in
theorem shnew_any (w : World) : Calls Try.prog 9 #[] w fun e w' => ∃ g mn mw lb vs, e = .returned (.pointer (some ⟨g, 0, none⟩)) ∧ T1 [] w.heap.size g mn mw lb (.slice none 0 0) vs (.slice none 0 0) [] [] [[]] [.slice none 0 0] 0 (.map []) (.map []) w' ∧ Below w.heap.size w w' := by
  have hmm := @run_makeMap Try.prog
  go_enter Try.func9, Try.ntmps9
  go_wp2
  go_ret
  obtain ⟨b, hb⟩ : ∃ b, w.heap.size = b := ⟨_, rfl⟩
  refine ⟨w.heap.size + 1 + 1 + 1 + 1, w.heap.size, w.heap.size + 1 + 1 + 1, w.heap.size + 1, .slice (some ⟨w.heap.size + 1 + 1, 0, none⟩) 1 1, rfl, ⟨⟨by omega, by omega, by omega, by omega⟩, ?_, ?_, World.ownsRow_nil _ _ _ _, ⟨rfl, .inr ⟨w.heap.size + 1 + 1, 1, #[.pointer (some ⟨w.heap.size + 1, 0, none⟩), .slice none 0 0], rfl, by omega, ?_, Nat.le_refl _, by decide, rfl, rfl⟩⟩, World.ownsRow_nil _ _ _ _, fun i hi => ?_, ?_, ?_, by omega, (fun p hp => by cases hp), (fun p hp => by cases hp)⟩, ?_⟩
  · exact sh_new (by simp only [World.size_alloc])
  · exact sh_old (by simp only [World.size_alloc]; omega) (sh_old (by simp only [World.size_alloc]; omega) (sh_old (by simp only [World.size_alloc]; omega) (sh_new (by simp only [World.size_alloc]))))
  · exact sh_old (by simp only [World.size_alloc]; omega) (sh_old (by simp only [World.size_alloc]; omega) (sh_new (by simp only [World.size_alloc])))
  · obtain rfl : i = 0 := by simp at hi; omega
    exact World.ownsRow_nil _ _ _ _
  · have h0 := World.ownsMap_made (H := Unit) w Try.prog 31 (plainElem Try.prog 21)
    refine Sv.map (X := []) (Sv.below ?_) h0 (by simp)
    refine Below.alloc ?_ (by simp only [World.size_alloc]; omega) _
    refine Below.alloc ?_ (by simp only [World.size_alloc]; omega) _
    refine Below.alloc ?_ (by simp only [World.size_alloc]; omega) _
    exact Below.alloc (Below.refl _ _) (Nat.le_refl _) _
  · have h0 := World.ownsMap_made (H := Unit) (((w.alloc (Obj.map #[] 0)).alloc (Obj.cells #[Value.slice none 0 0] 81)).alloc (Obj.cells #[Value.pointer (some { block := w.heap.size + 1, off := 0, spot := none }), Value.slice none 0 0] 84)) Try.prog 90 (plainElem Try.prog 3)
    simp only [World.size_alloc] at h0
    refine Sv.map (X := []) (Sv.below ?_) h0 (by simp)
    exact Below.alloc (Below.refl _ _) (Nat.le_refl _) _
  · refine Below.alloc ?_ (by simp only [World.size_alloc]; omega) _
    refine Below.alloc ?_ (by simp only [World.size_alloc]; omega) _
    refine Below.alloc ?_ (by simp only [World.size_alloc]; omega) _
    refine Below.alloc ?_ (by simp only [World.size_alloc]; omega) _
    exact Below.alloc (Below.refl _ _) (Nat.le_refl _) _
end Go.Proofs.Ytmbnkpfaeiellaa
