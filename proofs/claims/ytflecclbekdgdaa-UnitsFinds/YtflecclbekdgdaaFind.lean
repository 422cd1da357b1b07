/- units.places, units.Find, units.Last. -/
import Derived.Test.YtflecclbekdgdaaPlaces
import Derived.Test.YtflecclbekdgdaaMake
import Derived.Test.YtflecclbekdgdaaClone
import Derived.Test.YtflecclbekdgdaaCmp
import Derived.RegionIn
namespace Go.Proofs.Ytflecclbekdgdaa
set_option linter.unusedVariables false
open Go.RowKit Go.Shelf
attribute [local go_sem] Oper.semAt_some

set_option maxHeartbeats 1000000 in
theorem places_in (s t : ByteArray) (a : Int) (w : World) :
    Calls Try.prog 13 #[.string s, .string t, .int .i64 a] w fun e w' => e = .returned (.func (.func 23) #[] #[.pointer (some ⟨w.heap.size + 1, 0, none⟩), .pointer (some ⟨w.heap.size, 0, none⟩), .pointer (some ⟨w.heap.size + 1 + 1, 0, none⟩)]) ∧ w' = ((w.alloc (.cells #[.string s] 22)).alloc (.cells #[.string t] 22)).alloc (.cells #[.int .i64 a] 3) := by
  go_enter Try.func13, Try.ntmps13
  go_wp2
  go_ret
  exact ⟨rfl, rfl⟩

theorem places_stops (n : Nat) (hn : 1 ≤ n) (Bt Bs Bf Bl : Nat) (s t : ByteArray) (a : Nat) (hs : (s.size : Int) ≤ 1048576) (ht : (t.size : Int) ≤ 1048576) (hm : 1 ≤ t.size / 2) (ha : (a : Int) ≤ 9223372036854775807) (w : World) (hl1 : Bt < w.heap.size) (hl2 : Bs < w.heap.size) (hl3 : Bf < w.heap.size) (hl4 : Bl < w.heap.size)
    (hBt : Boxed w Bt 22 (.string t)) (hBs : Boxed w Bs 22 (.string s)) (hBf : Boxed w Bf 3 (.int .i64 a)) (n1 : Bt ≠ Bl) (n2 : Bs ≠ Bl) (n3 : Bf ≠ Bl) :
    SeqStopsK Fence.wide n Try.prog 23 #[.pointer (some ⟨Bt, 0, none⟩), .pointer (some ⟨Bs, 0, none⟩), .pointer (some ⟨Bf, 0, none⟩)] encN (CKB Bl) (fun ys => ys = occ (un t) (un s) (t.size / 2) a (s.size / 2)) (fun pre => pre <+: occ (un t) (un s) (t.size / 2) a (s.size / 2)) (occ (un t) (un s) (t.size / 2) a (s.size / 2)).length w :=
  fun l J Jx W hW hJ _ hY h0 => places1_in n hn l Bt Bs Bf Bl _ s t a hs ht hm ha J Jx hJ hY W ((hW.block Bt hl1).trans hBt) ((hW.block Bs hl2).trans hBs) ((hW.block Bf hl3).trans hBf) n1 n2 n3 (Nat.lt_of_lt_of_le hl4 hW.size) h0

def firstOf : List Nat → Int
  | [] => -1
  | p :: _ => (p : Int)
theorem boxed_grown {W W' : World} {row : Option Nat} (hg : W.grownBy W' row) (hr : ∀ r, row = some r → ∃ o : Obj, W.heap[r]? = some o ∧ o.isCells = false) {b : Nat} {t : TypeId} {v : Value} (hb : Boxed W b t v) : Boxed W' b t v := by
  show W'.heap[b]? = _
  rw [hg.block b hb.lt]
  · exact hb
  · intro e
    obtain ⟨o, ho, hc⟩ := hr b e.symm
    have hb' : W.heap[b]? = _ := hb
    rw [hb'] at ho
    cases ho
    cases hc
theorem leave_find {w : World} {D n : Nat} {W : World} {tmps : Array Value} {z : Int} (hb : Boxed W w.heap.size 3 (.int .i64 z)) (hB : Below w.heap.size w W) (hK : W.heap[D]? = some (.deferred (some []))) (hD : w.heap.size < D) (ht : tmps[6]? = some (.pointer (some ⟨w.heap.size, 0, none⟩)) := by rfl) :
    bodyPostM Fence.wide n Try.prog Try.f5 (fun e w' => e = .returned (.int .i64 z) ∧ Below w.heap.size w w') Exit.ret { tmps := tmps, defers := [{ target := .collected D, args := #[] }] } W := by
  have hbx : Boxed (W.putObj D (.deferred none)) w.heap.size 3 (.int .i64 z) := by
    show (W.putObj D (.deferred none)).heap[w.heap.size]? = _
    rw [World.putObj_heap_other (by omega)]
    exact hb
  refine ⟨by simp, .inl ⟨_, _, rfl, run_takeDeferred hK, ?_⟩⟩
  have hc := hbx.cell
  refine ⟨.int .i64 z, ?_, rfl, ?_⟩
  · simp [results, Try.results5, go_sem, ht, hc]
  · exact hB.trans (belowK_b (w := w) (Nat.le_refl _) _ D _ _ (by omega) hK rfl rfl)

set_option maxRecDepth 100000 in
set_option maxHeartbeats 4000000 in
theorem find_some (s t : ByteArray) (f : Int) (a : Nat) (w : World) (hs : (s.size : Int) ≤ 1048576) (ht : (t.size : Int) ≤ 1048576) (hm : 1 ≤ t.size / 2) (hf : (if 0 > f then 0 else f) = (a : Int)) (ha : (a : Int) ≤ 9223372036854775807) :
    Calls Try.prog 5 #[.string s, .string t, .int .i64 f] w fun e w' => e = .returned (.int .i64 (firstOf (occ (un t) (un s) (t.size / 2) a (s.size / 2)))) ∧ Below w.heap.size w w' := by
  have hmt : t.size ≤ maxLen := by unfold maxLen; omega
  have hms : s.size ≤ maxLen := by unfold maxLen; omega
  have HL := Hid.mk' (fun W => len_any t W hmt)
  have hm' : ((t.size : Int) / 2 == 0) = false := by simp; omega
  refine (callsIn_wide (n := 3)).1 ?_
  refine callsIn_of_wp_marks Try.func5 rfl trivial ?_ rfl
  simp only [Try.ntmps5, List.size_toArray, List.length_cons, List.length_nil, Nat.reduceAdd, Nat.reduceSub, Array.replicate_succ, Array.replicate_zero, List.push_toArray, List.append_toArray, List.nil_append, List.cons_append]
  gi_wp2_with (first | (refine ⟨trivial, ?_⟩; gi_at_call 12; refine (callsIn_wide.2 (HL.out _)).mono ?_; rintro e w1 ⟨rfl, hw1⟩; rw [hw1]; clear hw1 w1) | (refine ⟨trivial, ?_⟩; gi_at_call 13; refine (callsIn_wide.2 (places_in _ _ _ _)).mono ?_; rintro e w1 ⟨rfl, hw1⟩; rw [hw1]; clear hw1 w1))
  have b0 := Boxed.new w 3 (.int .i64 0)
  have b1 := Boxed.new (w.alloc (.cells #[.int .i64 0] 3)) 22 (.string s)
  have b2 := Boxed.new ((w.alloc (.cells #[.int .i64 0] 3)).alloc (.cells #[.string s] 22)) 22 (.string t)
  have b3 := Boxed.new (((w.alloc (.cells #[.int .i64 0] 3)).alloc (.cells #[.string s] 22)).alloc (.cells #[.string t] 22)) 3 (.int .i64 a)
  rw [World.size_alloc] at b1
  rw [World.size_alloc, World.size_alloc] at b2
  rw [World.size_alloc, World.size_alloc, World.size_alloc] at b3
  have c0 := ((b0.alloc (.cells #[.string s] 22)).alloc (.cells #[.string t] 22)).alloc (.cells #[.int .i64 a] 3)
  have c1 := (b1.alloc (.cells #[.string t] 22)).alloc (.cells #[.int .i64 a] 3)
  have c2 := b2.alloc (.cells #[.int .i64 a] 3)
  have hB0 : Below w.heap.size w ((((w.alloc (.cells #[.int .i64 0] 3)).alloc (.cells #[.string s] 22)).alloc (.cells #[.string t] 22)).alloc (.cells #[.int .i64 a] 3)) := ((((Below.refl _ _).alloc (Nat.le_refl _) _).alloc (by simp) _).alloc (by simp; omega) _).alloc (by simp; omega) _
  have hsz : ((((w.alloc (.cells #[.int .i64 0] 3)).alloc (.cells #[.string s] 22)).alloc (.cells #[.string t] 22)).alloc (.cells #[.int .i64 a] 3)).heap.size = w.heap.size + 1 + 1 + 1 + 1 := by simp
  obtain ⟨W0, hW0⟩ : ∃ W0, (((w.alloc (.cells #[.int .i64 0] 3)).alloc (.cells #[.string s] 22)).alloc (.cells #[.string t] 22)).alloc (.cells #[.int .i64 a] 3) = W0 := ⟨_, rfl⟩
  rw [hW0] at c0 c1 c2 b3 hB0 hsz ⊢
  clear hW0 b0 b1 b2
  refine wpIn_rangeFunc_ownG rfl (by omega) (gf := 23) (lb := #[.pointer (some ⟨w.heap.size + 1 + 1, 0, none⟩), .pointer (some ⟨w.heap.size + 1, 0, none⟩), .pointer (some ⟨w.heap.size + 1 + 1 + 1, 0, none⟩)]) rfl trivial (enters_of Try.func23 (by kernel_rfl) rfl)
    (places_stops (3 - 1) (by omega) (w.heap.size + 1 + 1) (w.heap.size + 1) (w.heap.size + 1 + 1 + 1) w.heap.size s t a hs ht hm ha W0 (by omega) (by omega) (by omega) (by omega) c2 c1 b3 (by omega) (by omega) (by omega)) CKB.trans (fun W l o o' h1 h2 h3 h4 => CKB.put (n := 0) W l o o' (Nat.zero_le _) h2 h3 h4) (Below.refl _ _) (fun _ => rfl)
    (fun pre W => pre = [] ∧ Boxed W w.heap.size 3 (.int .i64 0) ∧ Below w.heap.size w W)
    (fun c pre W => c = .ret ∧ ∃ x : Nat, pre = [x] ∧ Boxed W w.heap.size 3 (.int .i64 x) ∧ Below w.heap.size w W)
    ?ownJ ?ownX ⟨rfl, c0, hB0⟩
    (fun x => { tmps := #[Value.string s, Value.string t, Value.int .i64 a, undef, undef, undef, Value.pointer (some ⟨w.heap.size, 0, none⟩), Value.int .i64 (x : Nat), Value.int .i64 f, Value.int .i64 a, Value.string t, Value.int .i64 ((t.size : Int) / 2), Value.bool false, undef, undef, undef, undef, Value.string s, Value.string t, Value.int .i64 a, Value.func (Fn.func 23) #[] #[Value.pointer (some ⟨w.heap.size + 1 + 1, 0, none⟩), Value.pointer (some ⟨w.heap.size + 1, 0, none⟩), Value.pointer (some ⟨w.heap.size + 1 + 1 + 1, 0, none⟩)], Value.int .i64 (x : Nat), undef], defers := [] }) ?assign ?body ?done ?stop
  case ownJ =>
    intro pre W W' row h hg hr
    exact ⟨h.1, boxed_grown hg (fun r e => (hr r e).2) h.2.1, h.2.2.grown hg h.2.2.size (fun k e => Nat.le_trans (by omega) (hr k e).1)⟩
  case ownX =>
    rintro c pre W W' row ⟨h1, x, h2, h3, h4⟩ hg hr
    exact ⟨h1, x, h2, boxed_grown hg (fun r e => (hr r e).2) h3, h4.grown hg h4.size (fun k e => Nat.le_trans (by omega) (hr k e).1)⟩
  case assign =>
    intro l x W K hK
    simp only [encN]
    gi_wp2
    exact hK
  case body =>
    rintro l pre x W ⟨rfl, hb, hB⟩ hlt
    have hc := hb.cell
    have hfz := hb.frozen
    gi_wp2
    exact ⟨(KeepsOthers.setCell _ _ _).from _, rfl, x, rfl, hb.set _, hB.setCell (p := ⟨w.heap.size, 0, none⟩) (Nat.le_refl _) _⟩
  case done =>
    rintro D ys W hD rfl ⟨hy, hb, hB⟩ hK
    have hc := hb.cell
    have hfz := hb.frozen
    have hx : firstOf (occ (un t) (un s) (t.size / 2) a (s.size / 2)) = -1 := by rw [hy]; rfl
    clear hy
    gi_wp2
    have ko := KeepsOthers.setCell W ⟨w.heap.size, 0, none⟩ (.int .i64 (-1))
    first
      | exact leave_find (hb.set _) (hB.setCell (p := ⟨w.heap.size, 0, none⟩) (Nat.le_refl _) _) (ko.same D _ hK rfl) (by omega)
      | (rw [hx]; exact leave_find (hb.set _) (hB.setCell (p := ⟨w.heap.size, 0, none⟩) (Nat.le_refl _) _) (ko.same D _ hK rfl) (by omega))
  case stop =>
    rintro D c pre W hD hpre ⟨rfl, x, rfl, hb, hB⟩ hK
    obtain ⟨rest, hrest⟩ := hpre
    have hx : firstOf (occ (un t) (un s) (t.size / 2) a (s.size / 2)) = (x : Int) := by rw [← hrest]; rfl
    clear hrest
    gi_wp2
    first
      | exact leave_find hb hB hK (by omega)
      | (rw [hx]; exact leave_find hb hB hK (by omega))

theorem find_leave0 {w : World} {n : Nat} {W : World} {tmps : Array Value} {z : Int} (hb : Boxed W w.heap.size 3 (.int .i64 z)) (hB : Below w.heap.size w W) (ht : tmps[6]? = some (.pointer (some ⟨w.heap.size, 0, none⟩)) := by rfl) :
    bodyPostM Fence.wide n Try.prog Try.f5 (fun e w' => e = .returned (.int .i64 z) ∧ Below w.heap.size w w') Exit.ret { tmps := tmps, defers := [] } W := by
  have hc := hb.cell
  refine ⟨.int .i64 z, ?_, rfl, hB⟩
  simp [results, Try.results5, go_sem, ht, hc]

set_option maxRecDepth 100000 in
set_option maxHeartbeats 4000000 in
theorem find_none (s t : ByteArray) (f : Int) (a : Nat) (w : World) (hs : (s.size : Int) ≤ 1048576) (ht : (t.size : Int) ≤ 1048576) (hm : t.size / 2 = 0) (hf : (if 0 > f then 0 else f) = (a : Int)) :
    Calls Try.prog 5 #[.string s, .string t, .int .i64 f] w fun e w' => e = .returned (.int .i64 (min a (s.size / 2) : Nat)) ∧ Below w.heap.size w w' := by
  have hmt : t.size ≤ maxLen := by unfold maxLen; omega
  have hms : s.size ≤ maxLen := by unfold maxLen; omega
  have HT := Hid.mk' (fun W => len_any t W hmt)
  have HS := Hid.mk' (fun W => len_any s W hms)
  rw [hm] at HT
  have hmin : (if ((s.size / 2 : Nat) : Int) < (a : Int) then ((s.size / 2 : Nat) : Int) else (a : Int)) = ((min a (s.size / 2) : Nat) : Int) := by split <;> omega
  obtain ⟨q, hq⟩ : ∃ q, s.size / 2 = q := ⟨_, rfl⟩
  rw [hq] at HS hmin ⊢
  have b0 := Boxed.new w 3 (.int .i64 0)
  have hc0 := b0.cell
  have hf0 := b0.frozen
  refine (callsIn_wide (n := 3)).1 ?_
  refine callsIn_of_wp_marks Try.func5 rfl trivial ?_ rfl
  simp only [Try.ntmps5, List.size_toArray, List.length_cons, List.length_nil, Nat.reduceAdd, Nat.reduceSub, Array.replicate_succ, Array.replicate_zero, List.push_toArray, List.append_toArray, List.nil_append, List.cons_append]
  gi_wp2_with (first | (refine ⟨trivial, ?_⟩; gi_at_call 12; first | (refine (callsIn_wide.2 (HT.out _)).mono ?_; rintro e w1 ⟨rfl, hw1⟩; rw [hw1]; clear hw1 w1) | (refine (callsIn_wide.2 (HS.out _)).mono ?_; rintro e w1 ⟨rfl, hw1⟩; rw [hw1]; clear hw1 w1)))
  · rename_i h
    rw [show min a q = q by omega]
    exact find_leave0 (Boxed.new w _ _) ((Below.refl _ _).alloc (Nat.le_refl _) _)
  · rename_i h
    rw [show min a q = a by omega]
    exact find_leave0 (Boxed.new w _ _) ((Below.refl _ _).alloc (Nat.le_refl _) _)
end Go.Proofs.Ytflecclbekdgdaa
