/- lex's braces, signs, numbers; the tokens that hang on braces. -/
import Derived.Test.YtopdogpcachonaaGreatDoorLTok
namespace Go.Proofs.YtopdogpcachonaaGreatDoor
set_option linter.unusedVariables false
open Go.RowKit Go.Shelf

theorem Rdr.one {B : Nat} {W : World} {rb : Nat} {S : ByteArray} {a f n : Int} {ov : Value} (h : Rdr B W rb S a f ov [n]) : ∃ g c, ov = .slice (some ⟨g, 0, none⟩) 1 c ∧ 1 ≤ c ∧ W.cell? ⟨g, 0, none⟩ = some (.int .i64 n) ∧ W.frozen? ⟨g, 0, none⟩ = false ∧ B ≤ g ∧ g ≠ rb := by
  rcases h.own.2 with ⟨_, h0⟩ | ⟨g, cap, cur, e, hB, hg, hn, _, hs, ht⟩
  · simp at h0
  · refine ⟨g, cap, e, hn, ?_, ?_, hB, fun q => ?_⟩
    · rw [cell_of_row _ g 0 _ _ _ hg]
      have := congrArg (·[0]?) ht
      simp at this
      simpa using this
    · unfold World.frozen?
      simp only [hg]
      simp
    · rw [q, h.blk] at hg
      cases hg
theorem Rdr.setOne {B : Nat} {W : World} {rb g c : Nat} {S : ByteArray} {a f n : Int} (h : Rdr B W rb S a f (.slice (some ⟨g, 0, none⟩) 1 c) [n]) (m : Int) : Rdr B (W.setCell ⟨g, 0, none⟩ (.int .i64 m)) rb S a f (.slice (some ⟨g, 0, none⟩) 1 c) [m] := by
  have hne : rb ≠ g := fun q => own_ne h.own h.blk (by rw [q]; rfl)
  refine ⟨(Below.heap_setCell _ _ _ _ hne).trans h.blk, ⟨rfl, ?_⟩, h.ge⟩
  rcases h.own.2 with ⟨h0, _⟩ | ⟨g', cap, cur, e, hB, hg, hn, hm, hs, ht⟩
  · cases h0
  · cases e
    refine .inr ⟨g, c, cur.setIfInBounds 0 (.int .i64 m), rfl, hB, set_block _ hg, hn, hm, by simpa using hs, ?_⟩
    have h1 : 0 < cur.size := by rw [hs]; simp at hn ⊢; omega
    obtain ⟨l⟩ := cur
    cases l with
    | nil => simp at h1
    | cons x t => simp
theorem Rdr.zero {B : Nat} {W : World} {rb : Nat} {S : ByteArray} {a f : Int} {ov : Value} (h : Rdr B W rb S a f ov []) : ∃ x c, ov = .slice x 0 c := by
  obtain ⟨x, c, e, _⟩ := own_slice' h.own
  exact ⟨x, c, e⟩
set_option maxHeartbeats 1000000 in
set_option maxRecDepth 100000 in
theorem closes_one {B rb : Nat} {S : ByteArray} {a f n : Int} {ov : Value} (w : World) (h : Rdr B w rb S a f ov [n]) :
    Calls Tryz.prog 69 #[.pointer (some ⟨rb, 0, none⟩)] w fun e w' => e = .returned (.bool (n == 0)) ∧ w' = w := by
  obtain ⟨g, c, rfl, hc, cg, fg, _⟩ := h.one
  obtain ⟨c0, c1, c2, c3, cf⟩ := h.cells
  clear h
  go_enter Tryz.func69, Tryz.ntmps69
  go_wp2
  go_ret
  exact ⟨rfl, rfl⟩
set_option maxHeartbeats 1000000 in
set_option maxRecDepth 100000 in
theorem brace_one {B rb g c : Nat} {S : ByteArray} {a f n : Int} (m : Int) (w : World) (h : Rdr B w rb S a f (.slice (some ⟨g, 0, none⟩) 1 c) [n]) (hn : -100 ≤ n ∧ n ≤ 1000000) (hm : -100 ≤ m ∧ m ≤ 100) :
    Calls Tryz.prog 90 #[.pointer (some ⟨rb, 0, none⟩), .int .i64 m] w fun e w' => e = .returned (.tuple #[]) ∧ w' = w.setCell ⟨g, 0, none⟩ (.int .i64 (n + m)) := by
  obtain ⟨g', c', e, hc, cg, fg, _⟩ := h.one
  cases e
  obtain ⟨c0, c1, c2, c3, cf⟩ := h.cells
  have x1 : wrap64 (n + m) = n + m := by unfold wrap64; omega
  clear h
  go_enter Tryz.func90, Tryz.ntmps90
  go_wp2
  go_end0
  exact ⟨rfl, rfl⟩
set_option maxHeartbeats 2000000 in
set_option maxRecDepth 100000 in
theorem token_shut {B rb : Nat} {S : ByteArray} {f : Int} {ov : Value} {op : List Int} {t : Tk} {at' : Int} {op' : List Int} (an : Nat) (w : World) (h : Rdr B w rb S (an : Nat) f ov op) (hs : (S.size : Int) ≤ 262144) {R : ByteArray} {z : Int} (HRR : Hid (S.extract an S.size = R)) (ha : (an : Int) < (S.size : Int)) (hz : PlainAid.bt R 0 = z) (hn : nmN R.data.toList 0 = 0) (hz125 : z = 125) (hc : ∀ W, Rdr B W rb S (an : Nat) f ov op → Calls Tryz.prog 69 #[.pointer (some ⟨rb, 0, none⟩)] W fun e w' => e = .returned (.bool false) ∧ w' = W)
    (HM : ∀ W, Below w.heap.size w W → Calls Tryz.prog 71 #[.pointer (some ⟨rb, 0, none⟩)] W fun e w' => Gv B rb S f ov t at' op' W e w') :
    Calls Tryz.prog 43 #[.pointer (some ⟨rb, 0, none⟩)] w fun e w' => Gv B rb S f ov t at' op' w e w' := by
  have h46 : (z == 46) = false := by rw [hz125]; rfl
  have hd : digZ z = false := by rw [hz125]; rfl
  have i1 : (an : Int) ≤ (S.size : Int) := by omega
  have hrs : 1 ≤ (R.size : Int) := by rw [← HRR.out]; simp; omega
  have hne : R.toList.isEmpty = false := ne_empty (by omega)
  have hbt := PlainAid.get_bt R
  have HNA := Hid.mk' (fun W => nameAhead_any R W (by rw [← HRR.out]; simp; omega))
  rw [hn] at HNA
  have HNU := Hid.mk' (fun W => numberAhead_c R z W hrs hz h46)
  rw [hd] at HNU
  have HCL := Hid.mk' (fun W (hb : Below w.heap.size w W) => hc W (h.below hb))
  clear hn hd h46 hc
  subst hz125
  have hst : ∀ (p : Addr) (x : Nat) (md : Mode) (W : World), (store p (.float .f64 x) md).run Tryz.prog W = stored Tryz.prog W p (.float .f64 x) md := fun p x md W => run_store Tryz.prog W p _ md rfl
  obtain ⟨W1, hW1⟩ : ∃ W1, w.alloc (.cells tok0 31) = W1 := ⟨_, rfl⟩
  have b1 : Below w.heap.size w W1 := by rw [← hW1]; exact below_new
  have hbx : W1.heap[w.heap.size]? = some (.cells tok0 31 (0, 0)) := by rw [← hW1]; exact World.alloc_heap_new w _
  have hA := h.away (Nat.le_refl _)
  have hR := h.below b1
  obtain ⟨c0, c1, c2, c3, cf⟩ := hR.cells
  have HA := Hid.mk' hA
  have HB1 := Hid.mk' b1
  have HX := Hid.mk' hbx
  have HL := Hid.mk' (show w.heap.size < W1.heap.size by rw [← hW1]; simp)
  have HMM := Hid.mk' HM
  obtain ⟨bx, hbxn⟩ : ∃ bx, w.heap.size = bx := ⟨_, rfl⟩
  clear h hR b1 hbx hA HM
  go_enter Tryz.func43, Tryz.ntmps43
  go_wp2_with fail
  go_quiet (fail)
  rw [HRR.out]
  go_wp2_with fail
  refine (HNA.out _).mono ?_; rintro e w1 ⟨rfl, hw1⟩; rw [hw1]; clear hw1 w1
  go_wp2_with fail
  refine (HNU.out _).mono ?_; rintro e w1 ⟨rfl, hw1⟩; rw [hw1]; clear hw1 w1
  go_wp2_with fail
  refine (HCL.out _ (below_draws HB1.out nq)).mono ?_; rintro e w1 ⟨rfl, hw1⟩; rw [hw1]; clear hw1 w1
  go_wp2_with fail
  refine (HMM.out _ (below_draws HB1.out nq)).mono ?_
  rintro e w1 ⟨rfl, ov', hR1, hT1, hN1⟩
  obtain ⟨y1, y2⟩ := hT1.box (k := bx) (by rw [← hbxn]; exact HA.out) (by rw [← hbxn]; exact HX.out)
  have z0 := y1 0 _ rfl
  have z1 := y1 1 _ rfl
  have z2 := y1 2 _ rfl
  have z3 := y1 3 _ rfl
  have z4 := y1 4 _ rfl
  have z5 := y1 5 _ rfl
  have z6 := y1 6 _ rfl
  have HR1 := Hid.mk' hR1
  have HT1 := Hid.mk' hT1
  have HN1 := Hid.mk' hN1
  have HBN := Hid.mk' hbxn
  obtain ⟨kd, tx, sr, nu, fr, to, li⟩ := t
  simp only [Tk.agg]
  clear y1 hR1 hT1 hN1 c0 c1 c2 c3 cf hbxn hW1
  go_wp2
  refine bodyPost_ret (v := .agg #[.int .i64 kd, .string tx, .string sr, .float .f64 nu, .int .i64 fr, .int .i64 to, .bool li]) ?_ rfl ⟨rfl, ov', ?_, ?_, ?_⟩
  · rw [results_cell rfl]
    go_simp
  · have q1 : bx ≠ rb := by rw [← HBN.out]; exact HA.out.1
    have q2 : ov'.ownBlock ≠ some bx := fun e => by
      rcases HN1.out bx e with h1 | h1
      · exact HA.out.2 (by rw [HBN.out]; exact h1)
      · have h2 := HL.out
        rw [HBN.out] at h2
        have h3 : (W1.drewN nq).heap.size = W1.heap.size := by simp
        omega
    repeat (refine Rdr.setOther ?_ _ q1 q2)
    exact HR1.out
  · repeat (refine TF.setNew ?_ (by rw [HBN.out]; exact Nat.le_refl _) _)
    exact (TF.of_below (below_draws HB1.out nq)).trans HT1.out
  · intro g hg
    rcases HN1.out g hg with h1 | h1
    · exact .inl h1
    · exact .inr (Nat.le_trans (below_draws HB1.out nq).size h1)
set_option maxHeartbeats 2000000 in
set_option maxRecDepth 100000 in
theorem token_goOn {B rb : Nat} {S : ByteArray} {f : Int} {ov : Value} {op : List Int} {t : Tk} {at' : Int} {op' : List Int} (an : Nat) (w : World) (h : Rdr B w rb S (an : Nat) f ov op) (hs : (S.size : Int) ≤ 262144) {R : ByteArray} {z : Int} (HRR : Hid (S.extract an S.size = R)) (ha : (an : Int) < (S.size : Int)) (hz : PlainAid.bt R 0 = z) (hn : nmN R.data.toList 0 = 0) (hz125 : z = 125) (hc : ∀ W, Rdr B W rb S (an : Nat) f ov op → Calls Tryz.prog 69 #[.pointer (some ⟨rb, 0, none⟩)] W fun e w' => e = .returned (.bool true) ∧ w' = W)
    (HM : ∀ W, Below w.heap.size w W → Calls Tryz.prog 70 #[.pointer (some ⟨rb, 0, none⟩)] W fun e w' => Gv B rb S f ov t at' op' W e w') :
    Calls Tryz.prog 43 #[.pointer (some ⟨rb, 0, none⟩)] w fun e w' => Gv B rb S f ov t at' op' w e w' := by
  have h46 : (z == 46) = false := by rw [hz125]; rfl
  have hd : digZ z = false := by rw [hz125]; rfl
  have i1 : (an : Int) ≤ (S.size : Int) := by omega
  have hrs : 1 ≤ (R.size : Int) := by rw [← HRR.out]; simp; omega
  have hne : R.toList.isEmpty = false := ne_empty (by omega)
  have hbt := PlainAid.get_bt R
  have HNA := Hid.mk' (fun W => nameAhead_any R W (by rw [← HRR.out]; simp; omega))
  rw [hn] at HNA
  have HNU := Hid.mk' (fun W => numberAhead_c R z W hrs hz h46)
  rw [hd] at HNU
  have HCL := Hid.mk' (fun W (hb : Below w.heap.size w W) => hc W (h.below hb))
  clear hn hd h46 hc
  subst hz125
  have hst : ∀ (p : Addr) (x : Nat) (md : Mode) (W : World), (store p (.float .f64 x) md).run Tryz.prog W = stored Tryz.prog W p (.float .f64 x) md := fun p x md W => run_store Tryz.prog W p _ md rfl
  obtain ⟨W1, hW1⟩ : ∃ W1, w.alloc (.cells tok0 31) = W1 := ⟨_, rfl⟩
  have b1 : Below w.heap.size w W1 := by rw [← hW1]; exact below_new
  have hbx : W1.heap[w.heap.size]? = some (.cells tok0 31 (0, 0)) := by rw [← hW1]; exact World.alloc_heap_new w _
  have hA := h.away (Nat.le_refl _)
  have hR := h.below b1
  obtain ⟨c0, c1, c2, c3, cf⟩ := hR.cells
  have HA := Hid.mk' hA
  have HB1 := Hid.mk' b1
  have HX := Hid.mk' hbx
  have HL := Hid.mk' (show w.heap.size < W1.heap.size by rw [← hW1]; simp)
  have HMM := Hid.mk' HM
  obtain ⟨bx, hbxn⟩ : ∃ bx, w.heap.size = bx := ⟨_, rfl⟩
  clear h hR b1 hbx hA HM
  go_enter Tryz.func43, Tryz.ntmps43
  go_wp2_with fail
  go_quiet (fail)
  rw [HRR.out]
  go_wp2_with fail
  refine (HNA.out _).mono ?_; rintro e w1 ⟨rfl, hw1⟩; rw [hw1]; clear hw1 w1
  go_wp2_with fail
  refine (HNU.out _).mono ?_; rintro e w1 ⟨rfl, hw1⟩; rw [hw1]; clear hw1 w1
  go_wp2_with fail
  refine (HCL.out _ (below_draws HB1.out nq)).mono ?_; rintro e w1 ⟨rfl, hw1⟩; rw [hw1]; clear hw1 w1
  go_wp2_with fail
  refine (HMM.out _ (below_draws HB1.out nq)).mono ?_
  rintro e w1 ⟨rfl, ov', hR1, hT1, hN1⟩
  obtain ⟨y1, y2⟩ := hT1.box (k := bx) (by rw [← hbxn]; exact HA.out) (by rw [← hbxn]; exact HX.out)
  have z0 := y1 0 _ rfl
  have z1 := y1 1 _ rfl
  have z2 := y1 2 _ rfl
  have z3 := y1 3 _ rfl
  have z4 := y1 4 _ rfl
  have z5 := y1 5 _ rfl
  have z6 := y1 6 _ rfl
  have HR1 := Hid.mk' hR1
  have HT1 := Hid.mk' hT1
  have HN1 := Hid.mk' hN1
  have HBN := Hid.mk' hbxn
  obtain ⟨kd, tx, sr, nu, fr, to, li⟩ := t
  simp only [Tk.agg]
  clear y1 hR1 hT1 hN1 c0 c1 c2 c3 cf hbxn hW1
  go_wp2
  refine bodyPost_ret (v := .agg #[.int .i64 kd, .string tx, .string sr, .float .f64 nu, .int .i64 fr, .int .i64 to, .bool li]) ?_ rfl ⟨rfl, ov', ?_, ?_, ?_⟩
  · rw [results_cell rfl]
    go_simp
  · have q1 : bx ≠ rb := by rw [← HBN.out]; exact HA.out.1
    have q2 : ov'.ownBlock ≠ some bx := fun e => by
      rcases HN1.out bx e with h1 | h1
      · exact HA.out.2 (by rw [HBN.out]; exact h1)
      · have h2 := HL.out
        rw [HBN.out] at h2
        have h3 : (W1.drewN nq).heap.size = W1.heap.size := by simp
        omega
    repeat (refine Rdr.setOther ?_ _ q1 q2)
    exact HR1.out
  · repeat (refine TF.setNew ?_ (by rw [HBN.out]; exact Nat.le_refl _) _)
    exact (TF.of_below (below_draws HB1.out nq)).trans HT1.out
  · intro g hg
    rcases HN1.out g hg with h1 | h1
    · exact .inl h1
    · exact .inr (Nat.le_trans (below_draws HB1.out nq).size h1)
set_option maxHeartbeats 2000000 in
set_option maxRecDepth 100000 in
theorem token_end {B rb : Nat} {S : ByteArray} {f : Int} {ov : Value} {op : List Int} (an : Nat) (w : World) (h : Rdr B w rb S (an : Nat) f ov op) (ha : (an : Int) = (S.size : Int)) :
    Calls Tryz.prog 43 #[.pointer (some ⟨rb, 0, none⟩)] w fun e w' => Gv B rb S f ov ⟨0, ⟨#[]⟩, ⟨#[]⟩, 0, 0, 0, false⟩ (an : Nat) op w e w' := by
  have HRR : Hid (S.extract an S.size = ⟨#[]⟩) := Hid.mk' (by
    apply ByteArray.ext
    apply Array.toList_inj.1
    rw [rest_list, List.drop_of_length_le (by show S.size ≤ an; omega)])
  have hst : ∀ (p : Addr) (x : Nat) (md : Mode) (W : World), (store p (.float .f64 x) md).run Tryz.prog W = stored Tryz.prog W p (.float .f64 x) md := fun p x md W => run_store Tryz.prog W p _ md rfl
  have i1 : (an : Int) ≤ (S.size : Int) := by omega
  clear ha
  obtain ⟨W1, hW1⟩ : ∃ W1, w.alloc (.cells tok0 31) = W1 := ⟨_, rfl⟩
  have b1 : Below w.heap.size w W1 := by rw [← hW1]; exact below_new
  have hbx : W1.heap[w.heap.size]? = some (.cells tok0 31 (0, 0)) := by rw [← hW1]; exact World.alloc_heap_new w _
  have hA := h.away (Nat.le_refl _)
  have hR := h.below b1
  obtain ⟨c0, c1, c2, c3, cf⟩ := hR.cells
  have HA := Hid.mk' hA
  have HB1 := Hid.mk' b1
  have HR := Hid.mk' hR
  obtain ⟨bx, hbxn⟩ : ∃ bx, w.heap.size = bx := ⟨_, rfl⟩
  obtain ⟨y1, y2⟩ := (TF.refl (RdF rb ov) B W1).box (k := w.heap.size) hA hbx
  rw [hbxn] at y1 y2
  have z0 := y1 0 _ rfl
  have z1 := y1 1 _ rfl
  have z2 := y1 2 _ rfl
  have z3 := y1 3 _ rfl
  have z4 := y1 4 _ rfl
  have z5 := y1 5 _ rfl
  have z6 := y1 6 _ rfl
  have HBN := Hid.mk' hbxn
  clear h hR b1 hbx hA y1
  go_enter Tryz.func43, Tryz.ntmps43
  go_wp2_with fail
  go_quiet (fail)
  rw [HRR.out]
  go_wp2
  refine bodyPost_ret (v := .agg #[.int .i64 0, .string ⟨#[]⟩, .string ⟨#[]⟩, .float .f64 0, .int .i64 0, .int .i64 0, .bool false]) ?_ rfl ⟨rfl, ov, ?_, ?_, fun g hg => .inl hg⟩
  · rw [results_cell rfl]
    go_simp
  · repeat (refine Rdr.setOther ?_ _ (by rw [← HBN.out]; exact HA.out.1) (by rw [← HBN.out]; exact HA.out.2))
    exact HR.out.below (below_draws (Below.refl _ _) nq)
  · repeat (refine TF.setNew ?_ (by rw [HBN.out]; exact Nat.le_refl _) _)
    exact TF.of_below (below_draws HB1.out nq)
end Go.Proofs.YtopdogpcachonaaGreatDoor
