/- Package heap: bare, copied, slotOf; New, and a first object. Package heap: New; a first object. Package heap: Make a first object. -/
import Derived.Test.YtmgngbhkgmkggaaGreatDoorHpC
import Derived.Test.YtmgngbhkgmkggaaGreatDoorHpB
namespace Go.Proofs.YtmgngbhkgmkggaaGreatDoor
set_option linter.unusedVariables false
set_option linter.unusedSimpArgs false
open Go.RowKit Go.Maps Go.ChangeShapes

set_option maxHeartbeats 400000 in
theorem hpbare_sym (s : ByteArray) (z : Int) (w : World) (h : 0 < z) :
    Calls Tryz.prog 49 #[.agg #[.string s, .int .i64 z]] w fun e w' => e = .returned (.agg #[.string ⟨#[]⟩, .int .i64 z]) ∧ Below w.heap.size w w' := by
  go_enter Tryz.func49, Tryz.ntmps49
  go_wp2
  (try simp only [Exit.inBlock, Exit.then])
  refine bodyPost_ret (v := .agg #[.string ⟨#[]⟩, .int .i64 z]) ?_ rfl ⟨rfl, ?_⟩
  · rw [sh_results_cell rfl]
    go_simp
  · repeat' (first | exact Below.refl _ _ | refine Below.alloc ?_ (by simp <;> omega) _ | refine Below.setCell ?_ (by simp) _)
set_option maxHeartbeats 400000 in
theorem hpbare_text (s : ByteArray) (z : Int) (w : World) (hs : (s.size : Int) ≤ 140737488351232) (h : ¬ 0 < z) :
    Calls Tryz.prog 49 #[.agg #[.string s, .int .i64 z]] w fun e w' => e = .returned (.agg #[.string (evenS s), .int .i64 0]) ∧ Below w.heap.size w w' := by
  have hm : s.size ≤ maxLen := by unfold maxLen; omega
  have HL := Hid.mk' (fun W => len_any s W hm)
  obtain ⟨k, hk⟩ : ∃ k, s.size / 2 = k := ⟨_, rfl⟩
  rw [hk] at HL
  have HE : Hid (evenS s = s.extract 0 (2 * (k : Int)).toNat) := Hid.mk' (by rw [sh_even_eq s, hk, show (2 * (k : Int)).toNat = 2 * k from by omega])
  have h1 : (0 : Int) ≤ 2 * (k : Int) := by omega
  have h2 : 2 * (k : Int) ≤ (s.size : Int) := by omega
  have x1 : IntKind.i64.wrap (2 * (k : Int)) = 2 * (k : Int) := by rw [IntKind.wrap_i64]; omega
  clear hk
  go_enter Tryz.func49, Tryz.ntmps49
  go_wp2_with fail
  go_region_with (first | (go_at_call 63; refine (HL.out _).mono ?_; rintro e w1 ⟨rfl, hw1⟩; rw [hw1]; clear hw1 w1))
  all_goals go_wp2
  all_goals (try simp only [Exit.inBlock, Exit.then])
  all_goals refine bodyPost_ret (v := .agg #[.string (evenS s), .int .i64 0]) ?_ rfl ⟨rfl, ?_⟩
  all_goals first
    | (rw [sh_results_cell rfl, HE.out]; go_simp)
    | (repeat' (first | exact Below.refl _ _ | refine Below.drew ?_ | refine Below.alloc ?_ (by simp <;> omega) _ | refine Below.setCell ?_ (by simp) _))
theorem hpbare_any (s : ByteArray) (z : Int) (w : World) (hs : (s.size : Int) ≤ 140737488351232) :
    Calls Tryz.prog 49 #[.agg #[.string s, .int .i64 z]] w fun e w' => e = .returned (.agg #[.string (bareS s z), .int .i64 (bareZ z)]) ∧ Below w.heap.size w w' := by
  unfold bareS bareZ
  by_cases h : 0 < z
  · rw [if_pos h, if_pos h]; exact hpbare_sym s z w h
  · rw [if_neg h, if_neg h]; exact hpbare_text s z w hs h
theorem st_float (p : Addr) (x : Nat) (md : Mode) (W : World) : (store p (.float .f64 x) md).run Tryz.prog W = stored Tryz.prog W p (.float .f64 x) md := run_store Tryz.prog W p _ md rfl
/-- The cells of a value that is undefined; of a slot that holds it; of a property. -/
def zv : List Value := [.int .i64 0, .float .f64 0, .string ⟨#[]⟩, .int .i64 0]
def zslot : List Value := zv ++ [.pointer none]
def zprop (f : Int) : List Value := zv ++ zv ++ zv ++ [.int .i64 f]
set_option maxHeartbeats 400000 in
theorem clone_nil (w : World) : Calls Tryz.prog 76 #[.string ⟨#[]⟩] w fun e w' => e = .returned (.string ⟨#[]⟩) ∧ w' = w := by
  have HC : Hid (Calls Tryz.prog 89 #[.string ⟨#[]⟩] w fun e w' => e = .returned (.string ⟨#[]⟩) ∧ w' = w) := Hid.mk' (by
    go_enter Tryz.func89, Tryz.ntmps89
    go_wp2
    go_ret
    exact ⟨rfl, rfl⟩)
  go_enter Tryz.func76, Tryz.ntmps76
  go_wp2_with fail
  refine HC.out.mono ?_
  rintro e w1 ⟨rfl, rfl⟩
  go_wp2
  go_ret
  exact ⟨rfl, rfl⟩
set_option maxHeartbeats 1000000 in
set_option maxRecDepth 100000 in
theorem copied_nil (w : World) : Calls Tryz.prog 64 #[.agg zv.toArray] w fun e w' => e = .returned (.agg zv.toArray) ∧ Below w.heap.size w w' := by
  have HC := Hid.mk' clone_nil
  have hst := st_float
  unfold zv
  go_enter Tryz.func64, Tryz.ntmps64
  go_wp2_with (go_at_call 76; refine (HC.out _).mono ?_; rintro e w1 ⟨rfl, hw1⟩; rw [hw1]; clear hw1 w1)
  (try simp only [Exit.inBlock, Exit.then])
  refine bodyPost_ret (v := .agg #[.int .i64 0, .float .f64 0, .string ⟨#[]⟩, .int .i64 0]) ?_ rfl ⟨rfl, ?_⟩
  · rw [sh_results_cell rfl]
    go_simp
  · repeat' (first | exact Below.refl _ _ | refine Below.alloc ?_ (by simp <;> omega) _ | refine Below.setCell ?_ (by simp) _)
set_option maxHeartbeats 1000000 in
set_option maxRecDepth 100000 in
theorem slotOf_nil (w : World) : Calls Tryz.prog 57 #[.agg (zprop 7).toArray] w fun e w' => e = .returned (.agg zslot.toArray) ∧ Below w.heap.size w w' := by
  have HC := Hid.mk' copied_nil
  have hst := st_float
  obtain ⟨W1, hW1⟩ : ∃ W1, (w.alloc (.cells (zprop 7).toArray 36)).alloc (.cells zslot.toArray 122) = W1 := ⟨_, rfl⟩
  have b1 : Below w.heap.size w W1 := by rw [← hW1]; exact ((Below.refl _ _).alloc (Nat.le_refl _) _).alloc (by simp) _
  have q1 : W1.heap[w.heap.size + 1]? = some (.cells zslot.toArray 122 (0, 0)) := by rw [← hW1]; have := World.alloc_heap_new (w.alloc (.cells (zprop 7).toArray 36)) (.cells zslot.toArray 122); simpa using this
  have HB := Hid.mk' b1
  have HQ := Hid.mk' q1
  have HH := Hid.mk' hW1
  unfold zv zslot zprop zv at *
  simp only [List.cons_append, List.nil_append] at *
  clear b1 q1 hW1
  go_enter Tryz.func57, Tryz.ntmps57
  go_wp2_with fail
  rw [HH.out]
  refine (HC.out _).mono ?_
  rintro e w2 ⟨rfl, b2⟩
  have q2 := (b2.block _ (Array.getElem?_eq_some_iff.1 HQ.out).1).trans HQ.out
  obtain ⟨x0, hx0⟩ : ∃ x0, w.heap.size + 1 = x0 := ⟨_, rfl⟩
  rw [hx0] at q2
  have c0 : w2.cell? ⟨x0, 0, none⟩ = some (.int .i64 0) := by simp [World.cell?, q2]
  have c1 : w2.cell? ⟨x0, 1, none⟩ = some (.float .f64 0) := by simp [World.cell?, q2]
  have c2 : w2.cell? ⟨x0, 2, none⟩ = some (.string ⟨#[]⟩) := by simp [World.cell?, q2]
  have c3 : w2.cell? ⟨x0, 3, none⟩ = some (.int .i64 0) := by simp [World.cell?, q2]
  have c4 : w2.cell? ⟨x0, 4, none⟩ = some (.pointer none) := by simp [World.cell?, q2]
  have cf : ∀ j, w2.frozen? ⟨x0, j, none⟩ = false := fun j => by simp [World.frozen?, q2]
  have f0 := cf 0; have f1 := cf 1; have f2 := cf 2; have f3 := cf 3; have f4 := cf 4
  have HB2 := Hid.mk' (HB.out.trans (b2.mono HB.out.size))
  have HX0 : Hid (w.heap.size ≤ x0) := Hid.mk' (by omega)
  clear b2 q2 cf
  simp only [hx0]
  go_wp2
  (try simp only [Exit.inBlock, Exit.then])
  refine bodyPost_ret (v := .agg #[.int .i64 0, .float .f64 0, .string ⟨#[]⟩, .int .i64 0, .pointer none]) ?_ rfl ⟨rfl, ?_⟩
  · rw [sh_results_cell rfl]
    go_simp
  · repeat' (first | exact HB2.out | refine Below.setCell ?_ HX0.out _)
end Go.Proofs.YtmgngbhkgmkggaaGreatDoor

namespace Go.Proofs.YtmgngbhkgmkggaaGreatDoor
set_option linter.unusedVariables false
set_option linter.unusedSimpArgs false
open Go.RowKit Go.Maps Go.ChangeShapes

/-- A heap, and an object's fast mode, as they lie. -/
def Hobj (hb : Nat) (lim used : Int) (g : Nat) (vo : Value) : Obj := .cells #[.pointer (some ⟨hb, 0, none⟩), .int .i64 lim, .int .i64 used, .pointer (some ⟨g, 0, none⟩), vo] 66 (0, 0)
def Fobj (g : Nat) (sh : Int) (vsl : Value) : Obj := .cells #[.pointer (some ⟨g, 0, none⟩), .int .i64 sh, vsl] 119 (0, 0)
theorem Hobj.cells {w : World} {hb g : Nat} {lim used : Int} {vo : Value} (h : w.heap[hb]? = some (Hobj hb lim used g vo)) : w.cell? ⟨hb, 0, none⟩ = some (.pointer (some ⟨hb, 0, none⟩)) ∧ w.cell? ⟨hb, 1, none⟩ = some (.int .i64 lim) ∧ w.cell? ⟨hb, 2, none⟩ = some (.int .i64 used) ∧ w.cell? ⟨hb, 3, none⟩ = some (.pointer (some ⟨g, 0, none⟩)) ∧ w.cell? ⟨hb, 4, none⟩ = some vo ∧ ∀ j, w.frozen? ⟨hb, j, none⟩ = false := by
  unfold Hobj at h
  refine ⟨?_, ?_, ?_, ?_, ?_, fun j => ?_⟩ <;> simp [World.cell?, World.frozen?, h]
theorem Fobj.cells {w : World} {fb g : Nat} {sh : Int} {vsl : Value} (h : w.heap[fb]? = some (Fobj g sh vsl)) : w.cell? ⟨fb, 0, none⟩ = some (.pointer (some ⟨g, 0, none⟩)) ∧ w.cell? ⟨fb, 1, none⟩ = some (.int .i64 sh) ∧ w.cell? ⟨fb, 2, none⟩ = some vsl ∧ ∀ j, w.frozen? ⟨fb, j, none⟩ = false := by
  unfold Fobj at h
  refine ⟨?_, ?_, ?_, fun j => ?_⟩ <;> simp [World.cell?, World.frozen?, h]
set_option maxHeartbeats 400000 in
theorem hisMade_yes (g : Nat) (w : World) (h : w.cell? ⟨g, 0, none⟩ = some (.pointer (some ⟨g, 0, none⟩))) : Calls Tryz.prog 53 #[.pointer (some ⟨g, 0, none⟩)] w fun e w' => e = .returned (.bool true) ∧ w' = w := by
  have he := eqH_yes
  go_enter Tryz.func53, Tryz.ntmps53
  go_wp2
  go_ret
  exact ⟨rfl, rfl⟩
set_option maxHeartbeats 400000 in
theorem hisProto0 (g : Nat) (w : World) : Calls Tryz.prog 55 #[.pointer (some ⟨g, 0, none⟩), .int .i64 0] w fun e w' => e = .returned (.bool true) ∧ w' = w := by
  go_enter Tryz.func55, Tryz.ntmps55
  go_wp2
  go_ret
  exact ⟨rfl, rfl⟩
set_option maxHeartbeats 400000 in
theorem hisFull_no (g : Nat) (lim used : Int) (w : World) (h1 : w.cell? ⟨g, 1, none⟩ = some (.int .i64 lim)) (h2 : w.cell? ⟨g, 2, none⟩ = some (.int .i64 used)) (hu : used < lim) : Calls Tryz.prog 56 #[.pointer (some ⟨g, 0, none⟩)] w fun e w' => e = .returned (.bool false) ∧ Below w.heap.size w w' := by
  have hd : ¬ used ≥ lim := by omega
  go_enter Tryz.func56, Tryz.ntmps56
  go_upto_region 1 with fail
  go_quiet (fail)
  go_wp2
  go_ret
  exact ⟨by first | rfl | simp [hd], below_drewN (Below.refl _ _) _⟩
set_option maxHeartbeats 400000 in
set_option maxRecDepth 100000 in
theorem hhas_one (g : Nat) (a : Option Addr) (c : Nat) (w : World) (h : w.cell? ⟨g, 0, none⟩ = some (.pointer (some ⟨g, 0, none⟩))) (h4 : w.cell? ⟨g, 4, none⟩ = some (.slice a 1 c)) : Calls Tryz.prog 26 #[.pointer (some ⟨g, 0, none⟩), .int .i64 1] w fun e w' => e = .returned (.bool true) ∧ w' = w := by
  have HM := Hid.mk' (hisMade_yes g w h)
  go_enter Tryz.func26, Tryz.ntmps26
  go_wp2_with fail
  refine HM.out.mono ?_
  rintro e w1 ⟨rfl, rfl⟩
  go_wp2
  go_ret
  exact ⟨rfl, rfl⟩
set_option maxHeartbeats 400000 in
set_option maxRecDepth 100000 in
theorem hobj_one (g ob c : Nat) (w : World) (h : w.cell? ⟨g, 0, none⟩ = some (.pointer (some ⟨g, 0, none⟩))) (h4 : w.cell? ⟨g, 4, none⟩ = some (.slice (some ⟨ob, 0, none⟩) 1 c)) : Calls Tryz.prog 48 #[.pointer (some ⟨g, 0, none⟩), .int .i64 1] w fun e w' => e = .returned (.pointer (some ⟨ob, 0, none⟩)) ∧ w' = w := by
  have HM := Hid.mk' (hhas_one g _ c w h h4)
  go_enter Tryz.func48, Tryz.ntmps48
  go_wp2_with fail
  refine HM.out.mono ?_
  rintro e w1 ⟨rfl, rfl⟩
  go_wp2
  go_ret
  exact ⟨rfl, rfl⟩
set_option maxHeartbeats 400000 in
theorem hused_yes (g : Nat) (u : Int) (w : World) (h : w.cell? ⟨g, 0, none⟩ = some (.pointer (some ⟨g, 0, none⟩))) (h2 : w.cell? ⟨g, 2, none⟩ = some (.int .i64 u)) : Calls Tryz.prog 21 #[.pointer (some ⟨g, 0, none⟩)] w fun e w' => e = .returned (.int .i64 u) ∧ w' = w := by
  have HM := Hid.mk' (hisMade_yes g w h)
  go_enter Tryz.func21, Tryz.ntmps21
  go_wp2_with fail
  refine HM.out.mono ?_
  rintro e w1 ⟨rfl, rfl⟩
  go_wp2
  go_ret
  exact ⟨rfl, rfl⟩
section
variable {C : List (Nat × Obj)} {B g : Nat} {ks : List ByteArray} {ln : List Int} {fs : List (List Int)} {ws : List ((Int × Int × Int) × Int)} {w w' : World}
set_option maxHeartbeats 1000000 in
set_option maxRecDepth 100000 in
theorem hnew_any (lim : Int) (w : World) : Calls Tryz.prog 10 #[.int .i64 lim] w fun e w' => ∃ g hb, e = .returned (.pointer (some ⟨hb, 0, none⟩)) ∧ TT w.heap.size g [] [] [[]] [] [(hb, Hobj hb lim 0 g (.slice none 0 0))] w' ∧ w.heap.size ≤ hb ∧ Below w.heap.size w w' := by
  have HN := Hid.mk' (fun W => tt_new W)
  go_enter Tryz.func10, Tryz.ntmps10
  go_wp2_with fail
  refine (HN.out _).mono ?_
  rintro e w1 ⟨g, rfl, hT, b1⟩
  have HT := Hid.mk' hT
  have HB1 := Hid.mk' b1
  clear hT b1
  go_wp2
  go_ret
  refine ⟨g, w1.heap.size, rfl, ?_, HB1.out.size, ?_⟩
  · have b2 : Below w1.heap.size w1 (w1.alloc (.cells #[.pointer (some ⟨w1.heap.size, 0, none⟩), .int .i64 lim, .int .i64 0, .pointer (some ⟨g, 0, none⟩), .slice none 0 0] 66)) := (Below.refl _ _).alloc (Nat.le_refl _) _
    have hh := HT.out.turn (C' := [(w1.heap.size, Hobj w1.heap.size lim 0 g (.slice none 0 0))]) (Sv.below b2) (fun b hb => by cases hb) (fun p hp => by
      rcases List.mem_singleton.1 hp with rfl
      exact ⟨World.alloc_heap_new _ _, .inr (Nat.le_refl _)⟩)
    first | exact hh | simpa using hh
  · exact HB1.out.alloc HB1.out.size _
end
end Go.Proofs.YtmgngbhkgmkggaaGreatDoor

namespace Go.Proofs.YtmgngbhkgmkggaaGreatDoor
set_option linter.unusedVariables false
set_option linter.unusedSimpArgs false
open Go.RowKit Go.Maps Go.ChangeShapes

theorem hp_infoO : (Tryz.prog.info? 102).map (fun i => (i.zero, i.size, i.bytes)) = some (some (.agg #[.int .i64 0, .int .i64 0, .bool false, .nilIface]), 4, 40) := by kernel_rfl
theorem hp_infoS : (Tryz.prog.info? 122).map (fun i => (i.zero, i.size, i.bytes)) = some (some (.agg #[.int .i64 0, .float .f64 0, .string ⟨#[]⟩, .int .i64 0, .pointer none]), 5, 48) := by kernel_rfl
/-- A row's block, as it lies. -/
theorem row_block {w : World} {B : Nat} {e : TypeId} {sz : Nat} {v : Value} {n : Nat} {xs : List Value} (h : w.ownsRow B e sz v n xs) (hn : 0 < n) : ∃ b c cur, v = .slice (some ⟨b, 0, none⟩) n c ∧ B ≤ b ∧ w.heap[b]? = some (.cells cur e (0, 0)) ∧ cur.toList.take (n * sz) = xs ∧ v.ownBlock = some b ∧ n ≤ c := by
  rcases h.2 with ⟨_, h0⟩ | ⟨g, cap, cur, rfl, hB, hg, hc, _, _, ht⟩
  · omega
  · exact ⟨g, cap, cur, rfl, hB, hg, ht, rfl, hc⟩
theorem cells_new2 (W : World) (a : Obj) (l : List Value) (t : TypeId) : ∀ j u, l[j]? = some u → ((W.alloc a).alloc (.cells l.toArray t)).drew.cell? ((⟨W.heap.size + 1, 0, none⟩ : Addr).add j) = some u := fun j u hj => by
  have := cells_new (W.alloc a) l t j u hj
  rw [World.size_alloc] at this
  exact this
theorem setH {w : World} {hb g : Nat} {lim used u : Int} {vo : Value} (h : w.heap[hb]? = some (Hobj hb lim used g vo)) : (w.setCell ⟨hb, 2, none⟩ (.int .i64 u)).heap[hb]? = some (Hobj hb lim u g vo) := by
  unfold Hobj at h ⊢
  have := set_blk2' (j := 2) (v := .int .i64 u) h
  simpa using this
theorem setO {w : World} {hb g : Nat} {lim used : Int} {vo v : Value} (h : w.heap[hb]? = some (Hobj hb lim used g vo)) : (w.setCell ⟨hb, 4, none⟩ v).heap[hb]? = some (Hobj hb lim used g v) := by
  unfold Hobj at h ⊢
  have := set_blk2' (j := 4) (v := v) h
  simpa using this
section
variable {B g : Nat} {ks : List ByteArray} {ln : List Int} {fs : List (List Int)} {ws : List ((Int × Int × Int) × Int)} {w w' : World}
/-- An object's cells: its class, its prototype, whether it is shut, its mode. -/
def Ocur (cur : Array Value) (md : Value) : Prop := cur.toList.take 4 = [.int .i64 0, .int .i64 0, .bool false, md]
theorem make_end {lim : Int} {hb c5 : Nat} {a5 : Option Addr} {w W2 X w5 : World} (HT : TT B g ks ln fs ws [(hb, Hobj hb lim 0 g (.slice none 0 0))] w) (s2 : Sv [hb] w W2) (B2 : Below B w W2) (hB : B ≤ hb) (hX : Below W2.heap.size W2 X) (qf : X.heap[W2.heap.size]? = some (Fobj g 0 (.slice none 0 0))) (g5 : X.grownBy w5 none)
    (o5 : w5.ownsRow B 102 4 (.slice a5 1 c5) 1 [.int .i64 0, .int .i64 0, .bool false, .iface 116 (.pointer (some ⟨W2.heap.size, 0, none⟩))]) (r5 : w5.heap[hb]? = some (Hobj hb lim 1 g (.slice none 0 0))) (hl5 : (Value.slice a5 1 c5).ownBlock = (Value.slice none 0 0).ownBlock ∨ (Value.slice a5 1 c5).ownBlock = some X.heap.size) :
    (∃ ob fb oc cur, TT B g ks ln fs ws [(hb, Hobj hb lim 1 g (.slice (some ⟨ob, 0, none⟩) 1 oc)), (ob, .cells cur 102 (0, 0)), (fb, Fobj g 0 (.slice none 0 0))] (w5.setCell ⟨hb, 4, none⟩ (.slice a5 1 c5)) ∧ Ocur cur (.iface 116 (.pointer (some ⟨fb, 0, none⟩))) ∧ B ≤ ob ∧ B ≤ fb) ∧ Below B w (w5.setCell ⟨hb, 4, none⟩ (.slice a5 1 c5)) := by
  obtain ⟨ob, oc, cur, hv, hob, qo, ht, hown, _⟩ := row_block o5 (by omega)
  rw [hv]
  have hoX : ob = X.heap.size := by
    rcases hl5 with e | e
    · rw [hown] at e; cases e
    · rw [hown] at e; cases e; rfl
  have hBW : B ≤ w.heap.size := by have := HT.ge; omega
  have z1 := s2.size; have z2 := hX.size
  have s5 : Sv [] X w5 := Sv.grown g5
  have qf5 := s5.all _ _ (by simp) qf
  have n1 : ob ≠ hb := fun e => by subst e; rw [qo] at r5; unfold Hobj at r5; cases r5
  have n2 : W2.heap.size ≠ hb := fun e => by rw [e] at qf5; rw [qf5] at r5; unfold Hobj Fobj at r5; cases r5
  have s6 := Sv.set w5 hb 4 (.slice (some ⟨ob, 0, none⟩) 1 oc)
  refine ⟨⟨ob, W2.heap.size, oc, cur, HT.turn (X := [hb]) (((s2.trans' (Sv.of_below hX)).trans' (s5.mono (by simp))).trans' s6) (fun b hb' => ?_) (fun p hp => ?_), ht, hob, by omega⟩, ?_⟩
  · rcases List.mem_singleton.1 hb' with rfl
    exact ⟨_, List.mem_singleton_self _, fun c fz e => by unfold Hobj at e; cases e⟩
  · simp only [List.mem_cons, List.not_mem_nil, or_false] at hp
    rcases hp with rfl | rfl | rfl
    · exact ⟨setO r5, .inl ⟨_, List.mem_singleton_self _⟩⟩
    · exact ⟨s6.all _ _ (by simpa using n1) qo, .inr (by show w.heap.size ≤ ob; omega)⟩
    · exact ⟨s6.all _ _ (by simpa using n2) qf5, .inr (by show w.heap.size ≤ W2.heap.size; omega)⟩
  · refine Below.setCell ?_ (p := ⟨hb, 4, none⟩) hB _
    exact B2.trans (((hX.mono (by omega)).trans ((Below.refl _ _).grown g5 (by omega) (fun k hk => by cases hk))))
set_option maxHeartbeats 4000000 in
set_option maxRecDepth 100000 in
theorem hmake_one (lim : Int) (hb : Nat) (w : World) (h : TT B g ks ln fs ws [(hb, Hobj hb lim 0 g (.slice none 0 0))] w) (hl : 0 < lim) (hB : B ≤ hb) :
    Calls Tryz.prog 24 #[.pointer (some ⟨hb, 0, none⟩), .int .i64 0, .int .i64 0] w fun e w' => e = .returned (.tuple #[.int .i64 1, .int .i64 0]) ∧ (∃ ob fb oc cur, TT B g ks ln fs ws [(hb, Hobj hb lim 1 g (.slice (some ⟨ob, 0, none⟩) 1 oc)), (ob, .cells cur 102 (0, 0)), (fb, Fobj g 0 (.slice none 0 0))] w' ∧ Ocur cur (.iface 116 (.pointer (some ⟨fb, 0, none⟩))) ∧ B ≤ ob ∧ B ≤ fb) ∧ Below B w w' := by
  obtain ⟨i0, hif, hz0, hz1, hz2⟩ := sh_parts hp_infoO
  have hq := h.c _ (List.mem_singleton_self _)
  obtain ⟨c0, c1, c2, c3, c4, cf⟩ := Hobj.cells hq
  have HM := Hid.mk' (hisMade_yes hb w c0)
  have HP := Hid.mk' (hisProto0 hb w)
  have HF := Hid.mk' (hisFull_no hb lim 0 w c1 c2 hl)
  have HT := Hid.mk' h
  have HBB := Hid.mk' hB
  have HBW : Hid (B ≤ w.heap.size) := Hid.mk' (by have := h.ge; omega)
  clear h hq c0 c1 c2 c3 c4 cf hB
  go_enter Tryz.func24, Tryz.ntmps24
  go_wp2_with (first
    | (go_at_call 53; refine HM.out.mono ?_; rintro e w1 ⟨rfl, hw1⟩; rw [hw1]; clear hw1 w1)
    | (go_at_call 55; refine HP.out.mono ?_; rintro e w1 ⟨rfl, hw1⟩; rw [hw1]; clear hw1 w1))
  refine HF.out.mono ?_
  rintro e w1 ⟨rfl, b1⟩
  have hq := (HT.out.below b1).c _ (List.mem_singleton_self _)
  obtain ⟨c0, c1, c2, c3, c4, cf⟩ := Hobj.cells hq
  have f2 := cf 2
  obtain ⟨W2, hW2⟩ : ∃ W2, w1.setCell ⟨hb, 2, none⟩ (.int .i64 1) = W2 := ⟨_, rfl⟩
  have q2 : W2.heap[hb]? = some (Hobj hb lim 1 g (.slice none 0 0)) := by rw [← hW2]; exact setH hq
  have s2 : Sv [hb] w W2 := by rw [← hW2]; exact ((Sv.of_below b1).trans' (Sv.set w1 hb 2 _))
  have B2 : Below B w W2 := by rw [← hW2]; exact (b1.mono HBW.out).setCell (p := ⟨hb, 2, none⟩) HBB.out _
  obtain ⟨k0, k1, k2, k3, k4, kf⟩ := Hobj.cells q2
  have kf4 := kf 4
  have HH2 := Hid.mk' hW2
  have HQ2 := Hid.mk' q2
  have HS2 := Hid.mk' s2
  have HB2 := Hid.mk' B2
  have HR : Hid (∀ X w5, Below W2.heap.size W2 X → X.grownBy w5 none → w5.heap[hb]? = some (Hobj hb lim 1 g (.slice none 0 0)) ∧ w5.cell? ⟨hb, 4, none⟩ = some (.slice none 0 0) ∧ w5.frozen? ⟨hb, 4, none⟩ = false) := Hid.mk' (fun X w5 hX hg => by
    have e1 := (hX.block hb (Array.getElem?_eq_some_iff.1 q2).1).trans q2
    have e2 := (hg.block hb (Array.getElem?_eq_some_iff.1 e1).1 (by simp)).trans e1
    exact ⟨e2, (Hobj.cells e2).2.2.2.2.1, (Hobj.cells e2).2.2.2.2.2 4⟩)
  clear hq c0 c1 c3 c4 cf q2 s2 B2 hW2 kf b1
  have m4 := al_cell (.cells #[.pointer (some ⟨g, 0, none⟩), .int .i64 0, .slice none 0 0] 119) k4
  have n4 := al_cell (.cells #[.int .i64 0, .int .i64 0, .bool false, .iface 116 (.pointer (some ⟨W2.heap.size, 0, none⟩))] 102) m4
  go_upto_region 10 with fail
  rw [HH2.out]
  clear c2 f2
  go_region_law (refine sh_append rfl (.tmp 38) (.tmp 50) 64 rfl B 102 i0 (.agg #[.int .i64 0, .int .i64 0, .bool false, .nilIface]) 4 40 Tryz.underlying64 hif hz0 hz1 hz2 rfl (by decide) (.slice none 0 0) 0 [] rfl (World.ownsRow_nil _ _ _ _) _ 1 1 _ rfl (by rfl) (cells_new2 _ _ _ _) (by simp [Value.oneCell']) (by unfold maxLen; omega) (by omega) (by have := HB2.out.size; have := HBW.out; simp <;> omega) ?_; intro v5 w5 o5 g5 hl5; obtain ⟨a5, c5, hv5, _⟩ := own_slice' o5; subst hv5; have HX : Hid (Below W2.heap.size W2 ((W2.alloc (Fobj g 0 (.slice none 0 0))).alloc (.cells [.int .i64 0, .int .i64 0, .bool false, .iface 116 (.pointer (some ⟨W2.heap.size, 0, none⟩))].toArray 102)).drew) := Hid.mk' (((((Below.refl _ _).alloc (Nat.le_refl _) _).alloc (by simp) _).drew)); obtain ⟨r5, e5, z5⟩ := HR.out _ _ HX.out g5; have HG5 := Hid.mk' g5; have HO5 := Hid.mk' o5; have HL5 := Hid.mk' hl5; have HR5 := Hid.mk' r5; clear g5 o5 hl5 r5)
  all_goals
    go_wp2
    go_ret2
    exact ⟨rfl, make_end HT.out HS2.out HB2.out HBB.out HX.out (World.alloc_heap_new _ _ |> sh_old (by simp)) HG5.out HO5.out HR5.out HL5.out⟩
end
end Go.Proofs.YtmgngbhkgmkggaaGreatDoor
