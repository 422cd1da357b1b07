/- units.Last. -/
import Derived.Test.YtflecclbekdgdaaFind
namespace Go.Proofs.Ytflecclbekdgdaa
set_option linter.unusedVariables false
open Go.RowKit Go.Shelf
attribute [local go_sem] Oper.semAt_some

def lastOf (l : List Nat) : Int := match l.getLast? with
  | none => -1
  | some p => (p : Int)
theorem CKB.set (Bl : Nat) (W : World) (v : Value) : CKB Bl W (W.setCell ⟨Bl, 0, none⟩ v) := fun k c t fz hk hx => by
  rw [(grownBy_setCell' W Bl v).block k (Array.getElem?_eq_some_iff.1 hx).1 (fun e => hk (by simpa using e))]
  exact hx
theorem lastOf_snoc (l : List Nat) (x : Nat) : lastOf (l ++ [x]) = (x : Int) := by simp [lastOf]

set_option maxRecDepth 100000 in
set_option maxHeartbeats 4000000 in
theorem last_some (s t : ByteArray) (f : Int) (a : Nat) (w : World) (hs : (s.size : Int) ≤ 1048576) (ht : (t.size : Int) ≤ 1048576) (hm : 1 ≤ t.size / 2) (hf : (if (s.size : Int) / 2 - (t.size : Int) / 2 < f then (s.size : Int) / 2 - (t.size : Int) / 2 else f) = (a : Int)) (ha : a + t.size / 2 ≤ s.size / 2) :
    Calls Try.prog 7 #[.string s, .string t, .int .i64 f] w fun e w' => e = .returned (.int .i64 (lastOf (occ (un t) (un (s.extract (2 * 0) (2 * (a + t.size / 2)))) (t.size / 2) 0 (a + t.size / 2)))) ∧ Below w.heap.size w w' := by
  have hmt : t.size ≤ maxLen := by unfold maxLen; omega
  have hms : s.size ≤ maxLen := by unfold maxLen; omega
  have HT := Hid.mk' (fun W => len_any t W hmt)
  have HS := Hid.mk' (fun W => len_any s W hms)
  have HP := Hid.mk' (fun W => piece_any s 0 (a + t.size / 2) W hs (by omega) ha)
  have hm' : ((t.size : Int) / 2 == 0) = false := by simp; omega
  have hS : (s.extract (2 * 0) (2 * (a + t.size / 2))).size / 2 = a + t.size / 2 := by simp; omega
  have hSz : ((s.extract (2 * 0) (2 * (a + t.size / 2))).size : Int) ≤ 1048576 := by simp; omega
  rw [show ((a + t.size / 2 : Nat) : Int) = (a : Int) + (t.size : Int) / 2 by omega, show ((0 : Nat) : Int) = 0 from rfl] at HP
  obtain ⟨S, hSe⟩ : ∃ S, s.extract (2 * 0) (2 * (a + t.size / 2)) = S := ⟨_, rfl⟩
  rw [hSe] at HP hS hSz ⊢
  refine (callsIn_wide (n := 3)).1 ?_
  refine callsIn_of_wp_marks Try.func7 rfl trivial ?_ rfl
  simp only [Try.ntmps7, List.size_toArray, List.length_cons, List.length_nil, Nat.reduceAdd, Nat.reduceSub, Array.replicate_succ, Array.replicate_zero, List.push_toArray, List.append_toArray, List.nil_append, List.cons_append]
  gi_wp2_with (first | (refine ⟨trivial, ?_⟩; gi_at_call 12; first | (refine (callsIn_wide.2 (HS.out _)).mono ?_; rintro e w1 ⟨rfl, hw1⟩; rw [hw1]; clear hw1 w1) | (refine (callsIn_wide.2 (HT.out _)).mono ?_; rintro e w1 ⟨rfl, hw1⟩; rw [hw1]; clear hw1 w1)) | (refine ⟨trivial, ?_⟩; gi_at_call 17; refine (callsIn_wide.2 (HP.out _)).mono ?_; rintro e w1 ⟨rfl, hw1⟩; rw [hw1]; clear hw1 w1) | (refine ⟨trivial, ?_⟩; gi_at_call 13; refine (callsIn_wide.2 (places_in _ _ _ _)).mono ?_; rintro e w1 ⟨rfl, hw1⟩; rw [hw1]; clear hw1 w1))
  have b0 := Boxed.new w 3 (.int .i64 (-1))
  have b1 := Boxed.new (w.alloc (.cells #[.int .i64 (-1)] 3)) 22 (.string S)
  have b2 := Boxed.new ((w.alloc (.cells #[.int .i64 (-1)] 3)).alloc (.cells #[.string S] 22)) 22 (.string t)
  have b3 := Boxed.new (((w.alloc (.cells #[.int .i64 (-1)] 3)).alloc (.cells #[.string S] 22)).alloc (.cells #[.string t] 22)) 3 (.int .i64 0)
  rw [World.size_alloc] at b1
  rw [World.size_alloc, World.size_alloc] at b2
  rw [World.size_alloc, World.size_alloc, World.size_alloc] at b3
  have c0 := ((b0.alloc (.cells #[.string S] 22)).alloc (.cells #[.string t] 22)).alloc (.cells #[.int .i64 0] 3)
  have c1 := (b1.alloc (.cells #[.string t] 22)).alloc (.cells #[.int .i64 0] 3)
  have c2 := b2.alloc (.cells #[.int .i64 0] 3)
  have hB0 : Below w.heap.size w ((((w.alloc (.cells #[.int .i64 (-1)] 3)).alloc (.cells #[.string S] 22)).alloc (.cells #[.string t] 22)).alloc (.cells #[.int .i64 0] 3)) := ((((Below.refl _ _).alloc (Nat.le_refl _) _).alloc (by simp) _).alloc (by simp; omega) _).alloc (by simp; omega) _
  have hsz : ((((w.alloc (.cells #[.int .i64 (-1)] 3)).alloc (.cells #[.string S] 22)).alloc (.cells #[.string t] 22)).alloc (.cells #[.int .i64 0] 3)).heap.size = w.heap.size + 1 + 1 + 1 + 1 := by simp
  obtain ⟨W0, hW0⟩ : ∃ W0, (((w.alloc (.cells #[.int .i64 (-1)] 3)).alloc (.cells #[.string S] 22)).alloc (.cells #[.string t] 22)).alloc (.cells #[.int .i64 0] 3) = W0 := ⟨_, rfl⟩
  rw [hW0] at c0 c1 c2 b3 hB0 hsz ⊢
  clear hW0 b0 b1 b2
  have hst := places_stops (3 - 1) (by omega) (w.heap.size + 1 + 1) (w.heap.size + 1) (w.heap.size + 1 + 1 + 1) w.heap.size S t 0 hSz ht hm (by omega) W0 (by omega) (by omega) (by omega) (by omega) c2 c1 b3 (by omega) (by omega) (by omega)
  rw [hS] at hst
  refine wpIn_rangeFunc_ownG rfl (by omega) (gf := 23) (lb := #[.pointer (some ⟨w.heap.size + 1 + 1, 0, none⟩), .pointer (some ⟨w.heap.size + 1, 0, none⟩), .pointer (some ⟨w.heap.size + 1 + 1 + 1, 0, none⟩)]) rfl trivial (enters_of Try.func23 (by kernel_rfl) rfl)
    hst CKB.trans (fun W l o o' h1 h2 h3 h4 => CKB.put (n := 0) W l o o' (Nat.zero_le _) h2 h3 h4) (Below.refl _ _) (fun _ => rfl)
    (fun pre W => Boxed W w.heap.size 3 (.int .i64 (lastOf pre)) ∧ Below w.heap.size w W)
    (fun c pre W => False)
    ?ownJ (fun _ _ _ _ _ hs _ _ => hs) ⟨c0, hB0⟩
    (fun x => { tmps := #[Value.string s, Value.string t, Value.int .i64 a, undef, undef, undef, Value.int .i64 0, Value.pointer (some ⟨w.heap.size, 0, none⟩), Value.int .i64 (x : Nat), Value.int .i64 f, Value.string s, Value.int .i64 ((s.size : Int) / 2), Value.string t, Value.int .i64 ((t.size : Int) / 2), Value.int .i64 ((s.size : Int) / 2 - (t.size : Int) / 2), Value.int .i64 a, Value.int .i64 a, Value.bool (decide ((a : Int) < 0)), Value.string t, Value.int .i64 ((t.size : Int) / 2), Value.bool false, undef, Value.string s, Value.int .i64 a, Value.string t, Value.int .i64 ((t.size : Int) / 2), Value.int .i64 ((a : Int) + (t.size : Int) / 2), Value.string S, Value.string t, Value.func (Fn.func 23) #[] #[Value.pointer (some ⟨w.heap.size + 1 + 1, 0, none⟩), Value.pointer (some ⟨w.heap.size + 1, 0, none⟩), Value.pointer (some ⟨w.heap.size + 1 + 1 + 1, 0, none⟩)], Value.int .i64 (x : Nat), undef, undef], defers := [] }) ?assign ?body ?done ?stop
  case ownJ =>
    intro pre W W' row h hg hr
    exact ⟨boxed_grown hg (fun r e => (hr r e).2) h.1, h.2.grown hg h.2.size (fun k e => Nat.le_trans (by omega) (hr k e).1)⟩
  case assign =>
    intro l x W K hK
    simp only [encN]
    gi_wp2
    exact hK
  case body =>
    rintro l pre x W ⟨hb, hB⟩ hlt
    have hc := hb.cell
    have hfz := hb.frozen
    gi_wp2
    exact ⟨(KeepsOthers.setCell _ _ _).from _, CKB.set _ _ _, by rw [lastOf_snoc]; exact hb.set _, hB.setCell (p := ⟨w.heap.size, 0, none⟩) (Nat.le_refl _) _⟩
  case done =>
    rintro D ys W hD rfl ⟨hb, hB⟩ hK
    have hc := hb.cell
    gi_wp2
    refine ⟨by simp, .inl ⟨_, _, rfl, run_takeDeferred hK, ?_⟩⟩
    exact ⟨_, results_tmp rfl _ _ _, rfl, hB.trans (belowK_b (w := w) (Nat.le_refl _) W D _ _ (by omega) hK rfl rfl)⟩
  case stop =>
    rintro D c pre W _ _ h _
    exact h.elim

set_option maxRecDepth 100000 in
set_option maxHeartbeats 4000000 in
theorem last_none (s t : ByteArray) (f k : Int) (w : World) (hs : (s.size : Int) ≤ 1048576) (ht : (t.size : Int) ≤ 1048576) (hf : (if (s.size : Int) / 2 - (t.size : Int) / 2 < f then (s.size : Int) / 2 - (t.size : Int) / 2 else f) = k) (h : k < 0 ∨ t.size / 2 = 0) :
    Calls Try.prog 7 #[.string s, .string t, .int .i64 f] w fun e w' => e = .returned (.int .i64 (if k < 0 then -1 else k)) ∧ Below w.heap.size w w' := by
  have hmt : t.size ≤ maxLen := by unfold maxLen; omega
  have hms : s.size ≤ maxLen := by unfold maxLen; omega
  have HT := Hid.mk' (fun W => len_any t W hmt)
  have HS := Hid.mk' (fun W => len_any s W hms)
  by_cases hk : k < 0
  · rw [if_pos hk]
    refine (callsIn_wide (n := 3)).1 ?_
    refine callsIn_of_wp_marks Try.func7 rfl trivial ?_ rfl
    simp only [Try.ntmps7, List.size_toArray, List.length_cons, List.length_nil, Nat.reduceAdd, Nat.reduceSub, Array.replicate_succ, Array.replicate_zero, List.push_toArray, List.append_toArray, List.nil_append, List.cons_append]
    gi_wp2_with (first | (refine ⟨trivial, ?_⟩; gi_at_call 12; first | (refine (callsIn_wide.2 (HS.out _)).mono ?_; rintro e w1 ⟨rfl, hw1⟩; rw [hw1]; clear hw1 w1) | (refine (callsIn_wide.2 (HT.out _)).mono ?_; rintro e w1 ⟨rfl, hw1⟩; rw [hw1]; clear hw1 w1)))
    exact ⟨_, results_tmp rfl _ _ _, rfl, Below.refl _ _⟩
  · rw [if_neg hk]
    have h0 : t.size / 2 = 0 := h.resolve_left hk
    have hm' : ((t.size : Int) / 2 == 0) = true := by simp; omega
    clear h h0
    refine (callsIn_wide (n := 3)).1 ?_
    refine callsIn_of_wp_marks Try.func7 rfl trivial ?_ rfl
    simp only [Try.ntmps7, List.size_toArray, List.length_cons, List.length_nil, Nat.reduceAdd, Nat.reduceSub, Array.replicate_succ, Array.replicate_zero, List.push_toArray, List.append_toArray, List.nil_append, List.cons_append]
    gi_wp2_with (first | (refine ⟨trivial, ?_⟩; gi_at_call 12; first | (refine (callsIn_wide.2 (HS.out _)).mono ?_; rintro e w1 ⟨rfl, hw1⟩; rw [hw1]; clear hw1 w1) | (refine (callsIn_wide.2 (HT.out _)).mono ?_; rintro e w1 ⟨rfl, hw1⟩; rw [hw1]; clear hw1 w1)))
    exact ⟨_, results_tmp rfl _ _ _, rfl, Below.refl _ _⟩
end Go.Proofs.Ytflecclbekdgdaa
