/- lintellaw06.awake: the chapter's example. -/
import Derived.Test.YtkiofkppdpkboaaDoorTPl
import Derived.Test.YtkiofkppdpkboaaDoorTKof
namespace Go.Proofs.YtkiofkppdpkboaaDoor
set_option linter.unusedVariables false
open Go.RowKit Go.Shelf
attribute [local go_sem] Oper.semAt_some

/-- What Walk hands back of a tree. -/
structure WkOf (w : World) (kb nb : Nat) (L : List Nd) (w' : World) : Prop where
  b : Below w.heap.size w w'
  kB : w.heap.size ≤ kb
  hk : ∀ Bk, Bk < w.heap.size → ∃ v, w'.cell? ⟨kb, 0, none⟩ = some v ∧ RdK2 Bk w' v (L.map (fun n => n.kids))
  hn : w'.cell? ⟨nb, 0, none⟩ = some (.int .i64 ((L.length - 1 : Nat) : Int))
set_option maxHeartbeats 2000000 in
set_option maxRecDepth 100000 in
theorem walk_tree (L : List Nd) (hlen : L.length ≤ 100000) (h0 : 0 < L.length) (hks : ∀ n ∈ L, (n.kids.length : Int) * 8 ≤ 140737488351232) (x : Option Addr) (c : Nat) (w : World) (hv : RdN w (.slice x L.length c) L) (z : Int)
    (hchk : Calls Tryd.prog 13 #[.slice x L.length c] w fun e w' => e = .returned (.tuple #[.int .i64 z, .int .i64 0]) ∧ Below w.heap.size w w') :
    Calls Tryd.prog 8 #[.slice x L.length c] w fun e w' => ∃ kb nb, e = .returned (.func (.func 36) #[] #[.pointer (some ⟨kb, 0, none⟩), .pointer (some ⟨nb, 0, none⟩)]) ∧ WkOf w kb nb L w' := by
  have HC := Hid.mk' hchk
  have HV := Hid.mk' hv
  have HK := Hid.mk' (fun W h => kidsOf_any L (by omega) hks x c W h)
  have HFIN : Hid (∀ W W2, Below w.heap.size w W → KR W L L.length W2 → WkOf w W2.heap.size (W2.heap.size + 1) L ((W2.alloc (.cells #[.slice (some ⟨W.heap.size, 0, none⟩) L.length L.length] 48)).alloc (.cells #[.int .i64 ((L.length - 1 : Nat) : Int)] 3))) := Hid.mk' (fun W W2 hW hR => by
    have b1 : Below W2.heap.size W2 ((W2.alloc (.cells #[.slice (some ⟨W.heap.size, 0, none⟩) L.length L.length] 48)).alloc (.cells #[.int .i64 ((L.length - 1 : Nat) : Int)] 3)) := ((Below.refl _ _).alloc (Nat.le_refl _) _).alloc (by simp) _
    have hWW : Below W.heap.size W W2 := hR.b
    have bw2 : Below w.heap.size w W2 := hW.trans (hWW.mono hW.size)
    refine ⟨bw2.trans (b1.mono bw2.size), bw2.size, fun Bk hB => ?_, ?_⟩
    · refine ⟨.slice (some ⟨W.heap.size, 0, none⟩) L.length L.length, ?_, (hR.done Bk (Nat.lt_of_lt_of_le hB hW.size) L.length (Nat.le_refl _)).keep (KN.of_below b1)⟩
      exact (((Below.refl (W2.heap.size + 1) (W2.alloc (.cells #[.slice (some ⟨W.heap.size, 0, none⟩) L.length L.length] 48))).alloc (by simp) _).cell (p := ⟨W2.heap.size, 0, none⟩) (by simp)).trans (World.cell?_alloc_new W2 _ _ 0)
    · have e := World.cell?_alloc_new (W2.alloc (.cells #[.slice (some ⟨W.heap.size, 0, none⟩) L.length L.length] 48)) #[.int .i64 ((L.length - 1 : Nat) : Int)] 3 0
      rw [World.size_alloc] at e
      exact e)
  have x1 : wrap64 ((L.length : Int) - 1) = ((L.length - 1 : Nat) : Int) := by unfold wrap64; omega
  obtain ⟨N, hN⟩ : ∃ N, L.length = N := ⟨_, rfl⟩
  obtain ⟨M, hM⟩ : ∃ M : Nat, L.length - 1 = M := ⟨_, rfl⟩
  rw [hN] at HC HV HK HFIN hlen h0 ⊢
  rw [hN] at x1 hM
  rw [hM] at x1
  rw [show N - 1 = M by omega] at HFIN
  have HM1 : Hid ((N : Int) - 1 = (M : Int)) := Hid.mk' (by omega)
  have HLN := Hid.mk' hN
  clear hN
  clear hchk hv hks hM
  go_enter Tryd.func8, Tryd.ntmps8
  go_wp2_with fail
  refine HC.out.mono ?_
  rintro e w1 ⟨rfl, b1⟩
  go_wp2_with fail
  refine (HK.out _ (HV.out.below b1)).mono ?_
  rintro e w2 ⟨rfl, hR⟩
  have HW := Hid.mk' (HFIN.out w1 w2 b1 hR)
  have HB := Hid.mk' (fun W => below_any (some ⟨w1.heap.size, 0, none⟩) N N (M : Int) W)
  clear hR HFIN HK HC HV b1
  go_wp2_with fail
  rw [HM1.out]
  refine (HB.out _).mono ?_
  rintro e w3 ⟨rfl, hw3⟩
  go_wp2
  go_ret
  refine ⟨_, _, rfl, ?_⟩
  exact HW.out
theorem equalIn_nil2 (W : World) (d f : Nat) (b c : Value) : (Op.equalIn (d + 1) 28 (.func (.func f) #[] #[b, c]) .nilFunc).run Tryd.prog W = .ok false W := by
  simp [Op.equalIn, run_underlying Tryd.underlying28]
theorem neq_nil (W : World) (f : Nat) (b c : Value) : (binOp .neq 28 (.func (.func f) #[] #[b, c]) .nilFunc).run Tryd.prog W = .ok (.bool true) W := by
  simp only [binOp]
  simp [Op.equal, Op.maxDepth, equalIn_nil2 W 9999 f b c]
theorem flat6 {α β : Type} (f : α → List β) (hf : ∀ a, (f a).length = 6) : ∀ (l : List α) (k j : Nat) (a : α), j < 6 → l[k]? = some a → (l.flatMap f)[k * 6 + j]? = (f a)[j]?
  | [], k, j, a, _, h => by simp at h
  | x :: r, 0, j, a, hj, h => by
    simp at h
    subst h
    rw [List.flatMap_cons, Nat.zero_mul, Nat.zero_add, List.getElem?_append_left (by rw [hf]; exact hj)]
  | x :: r, k + 1, j, a, hj, h => by
    rw [List.flatMap_cons, List.getElem?_append_right (by rw [hf]; omega), hf, show (k + 1) * 6 + j - 6 = k * 6 + j by omega]
    exact flat6 f hf r k j a hj (by simpa using h)
/-- Nodes that lie in a row. -/
theorem rdN_of (W : World) (g c : Nat) (t : TypeId) (L M : List Nd) (hh : W.heap[g]? = some (.cells ((L ++ M).flatMap (fun n : Nd => n.cells)).toArray t (0, 0))) (hc : L.length ≤ c) (hk : ∀ j (h : j < L.length), KidsAt W L[j]) :
    RdN W (.slice (some ⟨g, 0, none⟩) L.length c) L := by
  refine .inr ⟨g, 0, c, rfl, hc, (Array.getElem?_eq_some_iff.1 hh).1, fun j hj => ⟨fun i v hv => ?_, hk j hj⟩⟩
  have hi : i < 6 := by
    have := (List.getElem?_eq_some_iff.1 hv).1
    simpa using this
  rw [cell_of_row _ _ _ _ _ _ hh, List.getElem?_toArray, show 0 + j * 6 + i = j * 6 + i by omega, flat6 (fun n : Nd => n.cells) (fun _ => rfl) (L ++ M) j i L[j] hi (by rw [List.getElem?_append_left hj, List.getElem?_eq_getElem hj])]
  exact hv
theorem kids_ex0 (W : World) : KidsAt W ex0 := fun j h => absurd h (by simp [ex0])
theorem kids_ex1 (W : World) (b : Nat) (h : W.cell? ⟨b, 0, none⟩ = some (.int .i64 0)) : KidsAt W (ex1 b) := fun j hj => by
  have : j = 0 := by simp [ex1] at hj; exact hj
  subst this
  exact ⟨b, 0, rfl, World.block_lt_of_cell? W _ h, h⟩
theorem kids_ex2 (W : World) (b : Nat) (h : W.cell? ⟨b, 0, none⟩ = some (.int .i64 1)) : KidsAt W (ex2 b) := fun j hj => by
  have : j = 0 := by simp [ex2] at hj; exact hj
  subst this
  exact ⟨b, 0, rfl, World.block_lt_of_cell? W _ h, h⟩
/-- The example's nodes lie there. -/
structure ExL (w : World) (W : World) : Prop where
  b : Below w.heap.size w W
  r3 : RdN W (.slice (some ⟨w.heap.size + 1 + 1, 0, none⟩) 3 3) [ex0, ex1 w.heap.size, ex2 (w.heap.size + 1)]
  r2 : RdN W (.slice (some ⟨w.heap.size + 1 + 1, 0, none⟩) 2 3) [ex0, ex1 w.heap.size]
theorem ExL.below {w W W' : World} (h : ExL w W) (hb : Below W.heap.size W W') : ExL w W' := ⟨h.b.trans (hb.mono h.b.size), h.r3.below hb, h.r2.below hb⟩
theorem exL_new (w : World) : ExL w (((w.alloc (Obj.cells #[Value.int IntKind.i64 0] 3)).alloc (Obj.cells #[Value.int IntKind.i64 1] 3)).alloc
      (Obj.cells (([ex0, ex1 w.heap.size, ex2 (w.heap.size + 1)] ++ []).flatMap (fun n : Nd => n.cells)).toArray 39)) := by
  obtain ⟨A, hA⟩ : ∃ A, w.alloc (Obj.cells #[Value.int IntKind.i64 0] 3) = A := ⟨_, rfl⟩
  obtain ⟨B, hB⟩ : ∃ B, A.alloc (Obj.cells #[Value.int IntKind.i64 1] 3) = B := ⟨_, rfl⟩
  obtain ⟨o, ho⟩ : ∃ o, Obj.cells (([ex0, ex1 w.heap.size, ex2 (w.heap.size + 1)] ++ []).flatMap (fun n : Nd => n.cells)).toArray 39 = o := ⟨_, rfl⟩
  rw [hA, hB, ho]
  have sA : A.heap.size = w.heap.size + 1 := by rw [← hA]; simp
  have sB : B.heap.size = w.heap.size + 1 + 1 := by rw [← hB]; simp [sA]
  have bA : Below w.heap.size w A := by rw [← hA]; exact (Below.refl _ _).alloc (Nat.le_refl _) _
  have bB : Below A.heap.size A B := by rw [← hB]; exact (Below.refl _ _).alloc (Nat.le_refl _) _
  have bC : Below B.heap.size B (B.alloc o) := (Below.refl _ _).alloc (Nat.le_refl _) _
  have cA : A.cell? ⟨w.heap.size, 0, none⟩ = some (.int .i64 0) := by rw [← hA]; exact World.cell?_alloc_new w _ _ 0
  have cB : B.cell? ⟨w.heap.size + 1, 0, none⟩ = some (.int .i64 1) := by rw [← sA, ← hB]; exact World.cell?_alloc_new A _ _ 0
  have cA2 : (B.alloc o).cell? ⟨w.heap.size, 0, none⟩ = some (.int .i64 0) := (bC.cell (p := ⟨w.heap.size, 0, none⟩) (by show w.heap.size < B.heap.size; omega)).trans ((bB.cell (p := ⟨w.heap.size, 0, none⟩) (by show w.heap.size < A.heap.size; omega)).trans cA)
  have cB2 : (B.alloc o).cell? ⟨w.heap.size + 1, 0, none⟩ = some (.int .i64 1) := (bC.cell (p := ⟨w.heap.size + 1, 0, none⟩) (by show w.heap.size + 1 < B.heap.size; omega)).trans cB
  have hh : (B.alloc o).heap[w.heap.size + 1 + 1]? = some o := by rw [← sB]; exact alloc_heap_new' B o
  have bw : Below w.heap.size w (B.alloc o) := (bA.trans (bB.mono bA.size)).trans (bC.mono (bA.trans (bB.mono bA.size)).size)
  refine ⟨bw, ?_, ?_⟩
  · refine rdN_of (B.alloc o) (w.heap.size + 1 + 1) 3 39 [ex0, ex1 w.heap.size, ex2 (w.heap.size + 1)] [] (by rw [hh, ← ho]) (Nat.le_refl _) (fun j hj => ?_)
    match j, hj with
    | 0, _ => exact kids_ex0 _
    | 1, _ => exact kids_ex1 _ _ cA2
    | 2, _ => exact kids_ex2 _ _ cB2
  · refine rdN_of (B.alloc o) (w.heap.size + 1 + 1) 3 39 [ex0, ex1 w.heap.size] [ex2 (w.heap.size + 1)] (by rw [hh, ← ho]; rfl) (by show 2 ≤ 3; decide) (fun j hj => ?_)
    match j, hj with
    | 0, _ => exact kids_ex0 _
    | 1, _ => exact kids_ex1 _ _ cA2
theorem awake_result {n : Nat} {tmps : Array Value} {w w' : World} (h : tmps[0]? = some (.bool true)) (hb : Below w.heap.size w w') :
    LeavesInM Fence.wide n Tryd.prog Tryd.f5 tmps (fun e w' => e = .returned (.bool true) ∧ Below w.heap.size w w') [] .returning w' := by
  have ht : tmps[0]?.getD undef = .bool true := by rw [h]; rfl
  refine ⟨.bool true, ?_, rfl, hb⟩
  simp [results, Tryd.results5, go_sem, ht]
/-- The example's three nodes, told. -/
theorem po_ex (b1 b2 : Nat) : poF ([ex0, ex1 b1, ex2 b2].map (fun n => n.kids)) 3 2 0 = [(2, 0), (1, 1), (0, 2)] := by kernel_rfl

set_option maxHeartbeats 4000000 in
set_option maxRecDepth 100000 in
theorem awake_any (w : World) : Calls Tryd.prog 5 #[] w fun e w' => e = .returned (.bool true) ∧ Below w.heap.size w w' := by
  refine (callsIn_wide (n := 8)).1 ?_
  refine callsIn_of_wp_marks Tryd.func5 rfl trivial ?_ rfl
  refine wpIn_wide.2 ?_
  simp only [Tryd.ntmps5, List.size_toArray, List.length_nil, Nat.reduceSub, Array.replicate_succ, Array.replicate_zero, List.push_toArray, List.append_toArray, List.nil_append, List.cons_append]
  go_wp2_with fail
  have HX := Hid.mk' (exL_new w)
  obtain ⟨W0, hW0⟩ : ∃ W0, (((w.alloc (Obj.cells #[Value.int IntKind.i64 0] 3)).alloc (Obj.cells #[Value.int IntKind.i64 1] 3)).alloc
      (Obj.cells (([ex0, ex1 w.heap.size, ex2 (w.heap.size + 1)] ++ []).flatMap (fun n : Nd => n.cells)).toArray 39)) = W0 := ⟨_, rfl⟩
  rw [hW0] at HX
  change Calls _ _ _ (((w.alloc (Obj.cells #[Value.int IntKind.i64 0] 3)).alloc (Obj.cells #[Value.int IntKind.i64 1] 3)).alloc
      (Obj.cells (([ex0, ex1 w.heap.size, ex2 (w.heap.size + 1)] ++ []).flatMap (fun n : Nd => n.cells)).toArray 39)) _
  rw [hW0]
  clear hW0
  refine (check_ex3 _ _ _ _ W0 HX.out.r3).mono ?_
  rintro e w1 ⟨rfl, b1⟩
  have HX1 := Hid.mk' (HX.out.below b1)
  clear b1 HX
  go_wp2_with fail
  refine (check_ex2 _ _ _ w1 HX1.out.r2).mono ?_
  rintro e w2 ⟨rfl, b2⟩
  have HX2 := Hid.mk' (HX1.out.below b2)
  clear b2 HX1
  go_wp2_with fail
  obtain ⟨W3, hW3⟩ : ∃ W3, w2.alloc (.cells #[.int .i64 0] 3) = W3 := ⟨_, rfl⟩
  have b3 : Below w2.heap.size w2 W3 := by rw [← hW3]; exact (Below.refl _ _).alloc (Nat.le_refl _) _
  have bI : Boxed W3 w2.heap.size 3 (.int .i64 0) := by rw [← hW3]; exact Boxed.new _ _ _
  rw [hW3]
  clear hW3
  have l3 : w2.heap.size < W3.heap.size := bI.lt
  have HX3 := Hid.mk' (HX2.out.below b3)
  refine (walk_tree [ex0, ex1 w.heap.size, ex2 (w.heap.size + 1)] (by show 3 ≤ 100000; decide) (by show 0 < 3; decide) (fun n hn => by
    simp only [List.mem_cons, List.not_mem_nil, or_false] at hn
    rcases hn with rfl | rfl | rfl
    · exact ex0_p.hl
    · exact (ex1_p _).hl
    · exact (ex2_p _).hl) _ _ W3 HX3.out.r3 0 (check_ex3 _ _ _ _ W3 HX3.out.r3)).mono ?_
  rintro e w4 ⟨kb, nb, rfl, hwk⟩
  have HWK := Hid.mk' hwk
  have b4 : Below W3.heap.size W3 w4 := hwk.b
  have bI4 : Boxed w4 w2.heap.size 3 (.int .i64 0) := (b4.block _ l3).trans bI
  have B4 : Below w2.heap.size w2 w4 := b3.trans (b4.mono b3.size)
  have l4 : w2.heap.size < w4.heap.size := bI4.lt
  have hnn : ∀ (W : World) (f : Nat) (b c : Value), (binOp .neq 28 (.func (.func f) #[] #[b, c]) .nilFunc).run Tryd.prog W = .ok (.bool true) W := neq_nil
  have l4' : w2.heap.size < W3.heap.size := l3
  clear hwk bI b3 HX3 b4 l3
  go_wp2
  obtain ⟨vK, ck, hrk⟩ := HWK.out.hk w2.heap.size l4'
  have hkb : kb ≠ w2.heap.size := by have := HWK.out.kB; omega
  refine (wpIn_wide (n := 8)).1 ?_
  refine range_p (by omega) (gf := 36) (lb := #[.pointer (some ⟨kb, 0, none⟩), .pointer (some ⟨nb, 0, none⟩)]) rfl (enters_of Tryd.func36 (by kernel_rfl) rfl)
    (below_stops (8 - 1) w2.heap.size kb nb 2 ([ex0, ex1 w.heap.size, ex2 (w.heap.size + 1)].map (fun n => n.kids)) (fun j hj => by
      match j, hj with
      | 0, _ => exact ⟨by show ((0 : Nat) : Int) ≤ 140737488351232; decide, fun k hk => by simp [ex0] at hk⟩
      | 1, _ => exact ⟨by show ((1 : Nat) : Int) ≤ 140737488351232; decide, fun k hk => by simp [ex1] at hk; omega⟩
      | 2, _ => exact ⟨by show ((1 : Nat) : Int) ≤ 140737488351232; decide, fun k hk => by simp [ex2] at hk; omega⟩) w4 l4 hkb (by show 2 < 3; decide) (by decide) vK ck hrk HWK.out.hn) l4 (Below.refl _ _) (fun _ => rfl)
    (fun pre U => Boxed U w2.heap.size 3 (.int .i64 (pre.length : Nat)) ∧ Below w2.heap.size w2 U) (fun cd pre U => False)
    (OwnFrom.and (Own.from (boxed_own _ _ (fun pre : List (Int × Int) => .int .i64 (pre.length : Nat))) _) (ownFrom_below (Nat.le_refl _) (Nat.le_of_lt l4)))
    (fun cd => ownFrom_pure _ (fun _ => False)) ⟨bI4, B4⟩ ?round1 ?done1 ?stop1
  case round1 =>
    rintro l pre y U Ub _ ⟨hb, hB⟩ hlen
    rw [po_ex] at hlen
    have hlen3 : pre.length < 3 := hlen
    have hkc := hb.cell
    have hkf := hb.frozen
    have lU : w2.heap.size < Ub.heap.size := hb.lt
    have Hb := Hid.mk' hb
    have HB := Hid.mk' hB
    obtain ⟨m, hm⟩ : ∃ m, pre.length = m := ⟨_, rfl⟩
    rw [hm] at hkc Hb hlen3
    have HL : Hid ((pre ++ [y]).length = m + 1) := Hid.mk' (by rw [List.length_append, hm]; rfl)
    clear hb hB hlen
    obtain ⟨yi, yd⟩ := y
    simp only [encT]
    gi_wp2
    refine ⟨trivial, ?_⟩
    gi_wp2
    refine ⟨KN.set _ _ _ _, ?_, HB.out.setCell (p := ⟨w2.heap.size, 0, none⟩) (Nat.le_refl _) _⟩
    rw [HL.out]
    exact Hb.out.set _
  case stop1 => rintro D cd pre V hD _ h; exact h.elim
  case done1 =>
    rintro D ys V hD rfl ⟨hb, hB⟩ hK
    rw [po_ex] at hb
    have hkc := hb.cell
    have HXV := Hid.mk' (HX2.out.below hB)
    have HD := Hid.mk' (deep_any [ex0, ex1 w.heap.size, ex2 (w.heap.size + 1)] (by show ((3 : Nat) : Int) * 64 ≤ 140737488351232; decide) (fun n hn => by
      simp only [List.mem_cons, List.not_mem_nil, or_false] at hn
      rcases hn with rfl | rfl | rfl
      · exact ex0_p.hl
      · exact (ex1_p _).hl
      · exact (ex2_p _).hl) _ V HXV.out.r3)
    rw [deep_ex3] at HD
    have lV : w2.heap.size < V.heap.size := hb.lt
    have HB := Hid.mk' hB
    have HK := Hid.mk' hK
    clear hb hB hK
    go_wp2_with fail
    refine HD.out.mono ?_
    rintro e w6 ⟨rfl, b6⟩
    have kc6 := (b6.cell (p := ⟨w2.heap.size, 0, none⟩) lV).trans hkc
    have HK6 := Hid.mk' ((b6.block D (Array.getElem?_eq_some_iff.1 HK.out).1).trans HK.out)
    have BV : Below w.heap.size w V := HX2.out.b.trans (HB.out.mono HX2.out.b.size)
    have HB6 := Hid.mk' (BV.trans (b6.mono BV.size))
    have hDw : w.heap.size ≤ D := Nat.le_trans HX2.out.b.size (Nat.le_trans B4.size hD)
    go_wp2
    refine ⟨by simp, .inl ⟨_, _, rfl, run_takeDeferred HK6.out, ?_⟩⟩
    exact awake_result rfl (HB6.out.trans (belowK_b (w := w) (Nat.le_refl _) w6 D _ _ hDw HK6.out rfl rfl))
end Go.Proofs.YtkiofkppdpkboaaDoor
