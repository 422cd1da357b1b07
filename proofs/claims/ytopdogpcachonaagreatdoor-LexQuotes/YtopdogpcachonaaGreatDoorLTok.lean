/- lex's token: which method reads what stands there; each by that method's contract. -/
import Derived.Test.YtopdogpcachonaaGreatDoorLTk
namespace Go.Proofs.YtopdogpcachonaaGreatDoor
set_option linter.unusedVariables false
open Go.RowKit Go.Shelf

/-- A method of the reader's answers a token; the braces that are open may have changed. -/
def Gv (B rb : Nat) (S : ByteArray) (f : Int) (ov : Value) (t : Tk) (at' : Int) (op' : List Int) (w : World) (e : Ending) (w' : World) : Prop :=
  e = .returned t.agg ∧ ∃ ov', Rdr B w' rb S at' f ov' op' ∧ TF (RdF rb ov) B w w' ∧ ∀ g, ov'.ownBlock = some g → ov.ownBlock = some g ∨ w.heap.size ≤ g
theorem Gives.gv {B rb : Nat} {S : ByteArray} {f : Int} {ov : Value} {op : List Int} {t : Tk} {at' : Int} {w w' : World} {e : Ending} (h : Gives B rb S f ov op t at' w e w') : Gv B rb S f ov t at' op w e w' :=
  ⟨h.1, ov, h.2.1, h.2.2, fun g hg => .inl hg⟩
theorem rest_bt (S : ByteArray) (an : Nat) (h : an < S.size) : PlainAid.bt (S.extract an S.size) 0 = (by' S an : Int) := by
  rw [bt_by]
  unfold by'
  rw [rest_list, List.getD_eq_getElem?_getD, List.getElem?_drop, Nat.add_zero, List.getD_eq_getElem?_getD]
set_option maxHeartbeats 1000000 in
set_option maxRecDepth 100000 in
theorem numberAhead_c (R : ByteArray) (z : Int) (w : World) (hs : 1 ≤ (R.size : Int)) (hz : PlainAid.bt R 0 = z) (h46 : (z == 46) = false) :
    Calls Tryz.prog 65 #[.string R] w fun e w' => e = .returned (.bool (digZ z)) ∧ w' = w := by
  have HD := Hid.mk' (fun W => isDigit_any z W)
  obtain ⟨b, hb⟩ : ∃ b, digZ z = b := ⟨_, rfl⟩
  rw [hb] at HD ⊢
  have hbt := PlainAid.get_bt R
  clear hb
  cases b
  all_goals
    go_enter Tryz.func65, Tryz.ntmps65
    go_wp2_with (go_at_call 83; refine (HD.out _).mono ?_; rintro e w1 ⟨rfl, hw1⟩; rw [hw1]; clear hw1 w1)
    go_ret
    exact ⟨rfl, rfl⟩
set_option maxHeartbeats 2000000 in
set_option maxRecDepth 100000 in
theorem token_name {B rb : Nat} {S : ByteArray} {f : Int} {ov : Value} {op : List Int} {t : Tk} {at' : Int} {op' : List Int} (an : Nat) (w : World) (h : Rdr B w rb S (an : Nat) f ov op) (hs : (S.size : Int) ≤ 262144) {R : ByteArray} {z : Int} (HRR : Hid (S.extract an S.size = R)) (ha : (an : Int) < (S.size : Int)) (hz : PlainAid.bt R 0 = z) {k : Nat} (hk : 0 < k) (hn : nmN R.data.toList 0 = k)
    (HM : ∀ W, Below w.heap.size w W → Calls Tryz.prog 64 #[.pointer (some ⟨rb, 0, none⟩)] W fun e w' => Gv B rb S f ov t at' op' W e w') :
    Calls Tryz.prog 43 #[.pointer (some ⟨rb, 0, none⟩)] w fun e w' => Gv B rb S f ov t at' op' w e w' := by
  have i1 : (an : Int) ≤ (S.size : Int) := by omega
  have hrs : 1 ≤ (R.size : Int) := by rw [← HRR.out]; simp; omega
  have hne : R.toList.isEmpty = false := ne_empty (by omega)
  have hbt := PlainAid.get_bt R
  have HNA := Hid.mk' (fun W => nameAhead_any R W (by rw [← HRR.out]; simp; omega))
  rw [hn] at HNA
  have k0 : (0 : Int) < (k : Int) := by omega
  clear hn hz hk
  have hst : ∀ (p : Addr) (x : Nat) (md : Mode) (W : World), (store p (.float .f64 x) md).run Tryz.prog W = stored Tryz.prog W p (.float .f64 x) md := fun p x md W => run_store Tryz.prog W p _ md rfl
  obtain ⟨W1, hW1⟩ : ∃ W1, w.alloc (.cells tok0 31) = W1 := ⟨_, rfl⟩
  have b1 : Below w.heap.size w W1 := by rw [← hW1]; exact below_new
  have hbx : W1.heap[w.heap.size]? = some (.cells tok0 31 (0, 0)) := by rw [← hW1]; exact World.alloc_heap_new w _
  have hA := h.away (Nat.le_refl _)
  have hR := h.below b1
  obtain ⟨c0, c1, c2, c3, cf⟩ := hR.cells
  have HA := Hid.mk' hA
  have HB1 := Hid.mk' b1
  have HX := Hid.mk' hbx
  have HL := Hid.mk' (show w.heap.size < W1.heap.size by rw [← hW1]; simp)
  have HMM := Hid.mk' HM
  obtain ⟨bx, hbxn⟩ : ∃ bx, w.heap.size = bx := ⟨_, rfl⟩
  clear h hR b1 hbx hA HM
  go_enter Tryz.func43, Tryz.ntmps43
  go_wp2_with fail
  go_quiet (fail)
  rw [HRR.out]
  go_wp2_with fail
  refine (HNA.out _).mono ?_; rintro e w1 ⟨rfl, hw1⟩; rw [hw1]; clear hw1 w1
  go_wp2_with fail
  refine (HMM.out _ (below_draws HB1.out nq)).mono ?_
  rintro e w1 ⟨rfl, ov', hR1, hT1, hN1⟩
  obtain ⟨y1, y2⟩ := hT1.box (k := bx) (by rw [← hbxn]; exact HA.out) (by rw [← hbxn]; exact HX.out)
  have z0 := y1 0 _ rfl
  have z1 := y1 1 _ rfl
  have z2 := y1 2 _ rfl
  have z3 := y1 3 _ rfl
  have z4 := y1 4 _ rfl
  have z5 := y1 5 _ rfl
  have z6 := y1 6 _ rfl
  have HR1 := Hid.mk' hR1
  have HT1 := Hid.mk' hT1
  have HN1 := Hid.mk' hN1
  have HBN := Hid.mk' hbxn
  obtain ⟨kd, tx, sr, nu, fr, to, li⟩ := t
  simp only [Tk.agg]
  clear y1 hR1 hT1 hN1 c0 c1 c2 c3 cf hbxn hW1
  go_wp2
  refine bodyPost_ret (v := .agg #[.int .i64 kd, .string tx, .string sr, .float .f64 nu, .int .i64 fr, .int .i64 to, .bool li]) ?_ rfl ⟨rfl, ov', ?_, ?_, ?_⟩
  · rw [results_cell rfl]
    go_simp
  · have q1 : bx ≠ rb := by rw [← HBN.out]; exact HA.out.1
    have q2 : ov'.ownBlock ≠ some bx := fun e => by
      rcases HN1.out bx e with h1 | h1
      · exact HA.out.2 (by rw [HBN.out]; exact h1)
      · have h2 := HL.out
        rw [HBN.out] at h2
        have h3 : (W1.drewN nq).heap.size = W1.heap.size := by simp
        omega
    repeat (refine Rdr.setOther ?_ _ q1 q2)
    exact HR1.out
  · repeat (refine TF.setNew ?_ (by rw [HBN.out]; exact Nat.le_refl _) _)
    exact (TF.of_below (below_draws HB1.out nq)).trans HT1.out
  · intro g hg
    rcases HN1.out g hg with h1 | h1
    · exact .inl h1
    · exact .inr (Nat.le_trans (below_draws HB1.out nq).size h1)
set_option maxHeartbeats 2000000 in
set_option maxRecDepth 100000 in
theorem token_number {B rb : Nat} {S : ByteArray} {f : Int} {ov : Value} {op : List Int} {t : Tk} {at' : Int} {op' : List Int} (an : Nat) (w : World) (h : Rdr B w rb S (an : Nat) f ov op) (hs : (S.size : Int) ≤ 262144) {R : ByteArray} {z : Int} (HRR : Hid (S.extract an S.size = R)) (ha : (an : Int) < (S.size : Int)) (hz : PlainAid.bt R 0 = z) (hn : nmN R.data.toList 0 = 0) (h46 : (z == 46) = false) (hd : digZ z = true)
    (HM : ∀ W, Below w.heap.size w W → Calls Tryz.prog 66 #[.pointer (some ⟨rb, 0, none⟩)] W fun e w' => Gv B rb S f ov t at' op' W e w') :
    Calls Tryz.prog 43 #[.pointer (some ⟨rb, 0, none⟩)] w fun e w' => Gv B rb S f ov t at' op' w e w' := by
  have i1 : (an : Int) ≤ (S.size : Int) := by omega
  have hrs : 1 ≤ (R.size : Int) := by rw [← HRR.out]; simp; omega
  have hne : R.toList.isEmpty = false := ne_empty (by omega)
  have hbt := PlainAid.get_bt R
  have HNA := Hid.mk' (fun W => nameAhead_any R W (by rw [← HRR.out]; simp; omega))
  rw [hn] at HNA
  have HNU := Hid.mk' (fun W => numberAhead_c R z W hrs hz h46)
  rw [hd] at HNU
  clear hn hd
  have hst : ∀ (p : Addr) (x : Nat) (md : Mode) (W : World), (store p (.float .f64 x) md).run Tryz.prog W = stored Tryz.prog W p (.float .f64 x) md := fun p x md W => run_store Tryz.prog W p _ md rfl
  obtain ⟨W1, hW1⟩ : ∃ W1, w.alloc (.cells tok0 31) = W1 := ⟨_, rfl⟩
  have b1 : Below w.heap.size w W1 := by rw [← hW1]; exact below_new
  have hbx : W1.heap[w.heap.size]? = some (.cells tok0 31 (0, 0)) := by rw [← hW1]; exact World.alloc_heap_new w _
  have hA := h.away (Nat.le_refl _)
  have hR := h.below b1
  obtain ⟨c0, c1, c2, c3, cf⟩ := hR.cells
  have HA := Hid.mk' hA
  have HB1 := Hid.mk' b1
  have HX := Hid.mk' hbx
  have HL := Hid.mk' (show w.heap.size < W1.heap.size by rw [← hW1]; simp)
  have HMM := Hid.mk' HM
  obtain ⟨bx, hbxn⟩ : ∃ bx, w.heap.size = bx := ⟨_, rfl⟩
  clear h hR b1 hbx hA HM
  go_enter Tryz.func43, Tryz.ntmps43
  go_wp2_with fail
  go_quiet (fail)
  rw [HRR.out]
  go_wp2_with fail
  refine (HNA.out _).mono ?_; rintro e w1 ⟨rfl, hw1⟩; rw [hw1]; clear hw1 w1
  go_wp2_with fail
  refine (HNU.out _).mono ?_; rintro e w1 ⟨rfl, hw1⟩; rw [hw1]; clear hw1 w1
  go_wp2_with fail
  refine (HMM.out _ (below_draws HB1.out nq)).mono ?_
  rintro e w1 ⟨rfl, ov', hR1, hT1, hN1⟩
  obtain ⟨y1, y2⟩ := hT1.box (k := bx) (by rw [← hbxn]; exact HA.out) (by rw [← hbxn]; exact HX.out)
  have z0 := y1 0 _ rfl
  have z1 := y1 1 _ rfl
  have z2 := y1 2 _ rfl
  have z3 := y1 3 _ rfl
  have z4 := y1 4 _ rfl
  have z5 := y1 5 _ rfl
  have z6 := y1 6 _ rfl
  have HR1 := Hid.mk' hR1
  have HT1 := Hid.mk' hT1
  have HN1 := Hid.mk' hN1
  have HBN := Hid.mk' hbxn
  obtain ⟨kd, tx, sr, nu, fr, to, li⟩ := t
  simp only [Tk.agg]
  clear y1 hR1 hT1 hN1 c0 c1 c2 c3 cf hbxn hW1
  go_wp2
  refine bodyPost_ret (v := .agg #[.int .i64 kd, .string tx, .string sr, .float .f64 nu, .int .i64 fr, .int .i64 to, .bool li]) ?_ rfl ⟨rfl, ov', ?_, ?_, ?_⟩
  · rw [results_cell rfl]
    go_simp
  · have q1 : bx ≠ rb := by rw [← HBN.out]; exact HA.out.1
    have q2 : ov'.ownBlock ≠ some bx := fun e => by
      rcases HN1.out bx e with h1 | h1
      · exact HA.out.2 (by rw [HBN.out]; exact h1)
      · have h2 := HL.out
        rw [HBN.out] at h2
        have h3 : (W1.drewN nq).heap.size = W1.heap.size := by simp
        omega
    repeat (refine Rdr.setOther ?_ _ q1 q2)
    exact HR1.out
  · repeat (refine TF.setNew ?_ (by rw [HBN.out]; exact Nat.le_refl _) _)
    exact (TF.of_below (below_draws HB1.out nq)).trans HT1.out
  · intro g hg
    rcases HN1.out g hg with h1 | h1
    · exact .inl h1
    · exact .inr (Nat.le_trans (below_draws HB1.out nq).size h1)
set_option maxHeartbeats 2000000 in
set_option maxRecDepth 100000 in
theorem token_template {B rb : Nat} {S : ByteArray} {f : Int} {ov : Value} {op : List Int} {t : Tk} {at' : Int} {op' : List Int} (an : Nat) (w : World) (h : Rdr B w rb S (an : Nat) f ov op) (hs : (S.size : Int) ≤ 262144) {R : ByteArray} {z : Int} (HRR : Hid (S.extract an S.size = R)) (ha : (an : Int) < (S.size : Int)) (hz : PlainAid.bt R 0 = z) (hn : nmN R.data.toList 0 = 0) (hz96 : z = 96)
    (HM : ∀ W, Below w.heap.size w W → Calls Tryz.prog 68 #[.pointer (some ⟨rb, 0, none⟩)] W fun e w' => Gv B rb S f ov t at' op' W e w') :
    Calls Tryz.prog 43 #[.pointer (some ⟨rb, 0, none⟩)] w fun e w' => Gv B rb S f ov t at' op' w e w' := by
  have h46 : (z == 46) = false := by rw [hz96]; rfl
  have hd : digZ z = false := by rw [hz96]; rfl
  have i1 : (an : Int) ≤ (S.size : Int) := by omega
  have hrs : 1 ≤ (R.size : Int) := by rw [← HRR.out]; simp; omega
  have hne : R.toList.isEmpty = false := ne_empty (by omega)
  have hbt := PlainAid.get_bt R
  have HNA := Hid.mk' (fun W => nameAhead_any R W (by rw [← HRR.out]; simp; omega))
  rw [hn] at HNA
  have HNU := Hid.mk' (fun W => numberAhead_c R z W hrs hz h46)
  rw [hd] at HNU
  clear hn hd h46
  subst hz96
  have hst : ∀ (p : Addr) (x : Nat) (md : Mode) (W : World), (store p (.float .f64 x) md).run Tryz.prog W = stored Tryz.prog W p (.float .f64 x) md := fun p x md W => run_store Tryz.prog W p _ md rfl
  obtain ⟨W1, hW1⟩ : ∃ W1, w.alloc (.cells tok0 31) = W1 := ⟨_, rfl⟩
  have b1 : Below w.heap.size w W1 := by rw [← hW1]; exact below_new
  have hbx : W1.heap[w.heap.size]? = some (.cells tok0 31 (0, 0)) := by rw [← hW1]; exact World.alloc_heap_new w _
  have hA := h.away (Nat.le_refl _)
  have hR := h.below b1
  obtain ⟨c0, c1, c2, c3, cf⟩ := hR.cells
  have HA := Hid.mk' hA
  have HB1 := Hid.mk' b1
  have HX := Hid.mk' hbx
  have HL := Hid.mk' (show w.heap.size < W1.heap.size by rw [← hW1]; simp)
  have HMM := Hid.mk' HM
  obtain ⟨bx, hbxn⟩ : ∃ bx, w.heap.size = bx := ⟨_, rfl⟩
  clear h hR b1 hbx hA HM
  go_enter Tryz.func43, Tryz.ntmps43
  go_wp2_with fail
  go_quiet (fail)
  rw [HRR.out]
  go_wp2_with fail
  refine (HNA.out _).mono ?_; rintro e w1 ⟨rfl, hw1⟩; rw [hw1]; clear hw1 w1
  go_wp2_with fail
  refine (HNU.out _).mono ?_; rintro e w1 ⟨rfl, hw1⟩; rw [hw1]; clear hw1 w1
  go_wp2_with fail
  refine (HMM.out _ (below_draws HB1.out nq)).mono ?_
  rintro e w1 ⟨rfl, ov', hR1, hT1, hN1⟩
  obtain ⟨y1, y2⟩ := hT1.box (k := bx) (by rw [← hbxn]; exact HA.out) (by rw [← hbxn]; exact HX.out)
  have z0 := y1 0 _ rfl
  have z1 := y1 1 _ rfl
  have z2 := y1 2 _ rfl
  have z3 := y1 3 _ rfl
  have z4 := y1 4 _ rfl
  have z5 := y1 5 _ rfl
  have z6 := y1 6 _ rfl
  have HR1 := Hid.mk' hR1
  have HT1 := Hid.mk' hT1
  have HN1 := Hid.mk' hN1
  have HBN := Hid.mk' hbxn
  obtain ⟨kd, tx, sr, nu, fr, to, li⟩ := t
  simp only [Tk.agg]
  clear y1 hR1 hT1 hN1 c0 c1 c2 c3 cf hbxn hW1
  go_wp2
  refine bodyPost_ret (v := .agg #[.int .i64 kd, .string tx, .string sr, .float .f64 nu, .int .i64 fr, .int .i64 to, .bool li]) ?_ rfl ⟨rfl, ov', ?_, ?_, ?_⟩
  · rw [results_cell rfl]
    go_simp
  · have q1 : bx ≠ rb := by rw [← HBN.out]; exact HA.out.1
    have q2 : ov'.ownBlock ≠ some bx := fun e => by
      rcases HN1.out bx e with h1 | h1
      · exact HA.out.2 (by rw [HBN.out]; exact h1)
      · have h2 := HL.out
        rw [HBN.out] at h2
        have h3 : (W1.drewN nq).heap.size = W1.heap.size := by simp
        omega
    repeat (refine Rdr.setOther ?_ _ q1 q2)
    exact HR1.out
  · repeat (refine TF.setNew ?_ (by rw [HBN.out]; exact Nat.le_refl _) _)
    exact (TF.of_below (below_draws HB1.out nq)).trans HT1.out
  · intro g hg
    rcases HN1.out g hg with h1 | h1
    · exact .inl h1
    · exact .inr (Nat.le_trans (below_draws HB1.out nq).size h1)
set_option maxHeartbeats 2000000 in
set_option maxRecDepth 100000 in
theorem token_sign {B rb : Nat} {S : ByteArray} {f : Int} {ov : Value} {op : List Int} {t : Tk} {at' : Int} {op' : List Int} (an : Nat) (w : World) (h : Rdr B w rb S (an : Nat) f ov op) (hs : (S.size : Int) ≤ 262144) {R : ByteArray} {z : Int} (HRR : Hid (S.extract an S.size = R)) (ha : (an : Int) < (S.size : Int)) (hz : PlainAid.bt R 0 = z) (hn : nmN R.data.toList 0 = 0) (h46 : (z == 46) = false) (hd : digZ z = false) (h34 : (z == 34) = false) (h39 : (z == 39) = false) (h96 : (z == 96) = false) (h125 : (z == 125) = false)
    (HM : ∀ W, Below w.heap.size w W → Calls Tryz.prog 71 #[.pointer (some ⟨rb, 0, none⟩)] W fun e w' => Gv B rb S f ov t at' op' W e w') :
    Calls Tryz.prog 43 #[.pointer (some ⟨rb, 0, none⟩)] w fun e w' => Gv B rb S f ov t at' op' w e w' := by
  have i1 : (an : Int) ≤ (S.size : Int) := by omega
  have hrs : 1 ≤ (R.size : Int) := by rw [← HRR.out]; simp; omega
  have hne : R.toList.isEmpty = false := ne_empty (by omega)
  have hbt := PlainAid.get_bt R
  have HNA := Hid.mk' (fun W => nameAhead_any R W (by rw [← HRR.out]; simp; omega))
  rw [hn] at HNA
  have HNU := Hid.mk' (fun W => numberAhead_c R z W hrs hz h46)
  rw [hd] at HNU
  clear hn hd h46
  have hst : ∀ (p : Addr) (x : Nat) (md : Mode) (W : World), (store p (.float .f64 x) md).run Tryz.prog W = stored Tryz.prog W p (.float .f64 x) md := fun p x md W => run_store Tryz.prog W p _ md rfl
  obtain ⟨W1, hW1⟩ : ∃ W1, w.alloc (.cells tok0 31) = W1 := ⟨_, rfl⟩
  have b1 : Below w.heap.size w W1 := by rw [← hW1]; exact below_new
  have hbx : W1.heap[w.heap.size]? = some (.cells tok0 31 (0, 0)) := by rw [← hW1]; exact World.alloc_heap_new w _
  have hA := h.away (Nat.le_refl _)
  have hR := h.below b1
  obtain ⟨c0, c1, c2, c3, cf⟩ := hR.cells
  have HA := Hid.mk' hA
  have HB1 := Hid.mk' b1
  have HX := Hid.mk' hbx
  have HL := Hid.mk' (show w.heap.size < W1.heap.size by rw [← hW1]; simp)
  have HMM := Hid.mk' HM
  obtain ⟨bx, hbxn⟩ : ∃ bx, w.heap.size = bx := ⟨_, rfl⟩
  clear h hR b1 hbx hA HM
  go_enter Tryz.func43, Tryz.ntmps43
  go_wp2_with fail
  go_quiet (fail)
  rw [HRR.out]
  go_wp2_with fail
  refine (HNA.out _).mono ?_; rintro e w1 ⟨rfl, hw1⟩; rw [hw1]; clear hw1 w1
  go_wp2_with fail
  refine (HNU.out _).mono ?_; rintro e w1 ⟨rfl, hw1⟩; rw [hw1]; clear hw1 w1
  go_wp2_with fail
  refine (HMM.out _ (below_draws HB1.out nq)).mono ?_
  rintro e w1 ⟨rfl, ov', hR1, hT1, hN1⟩
  obtain ⟨y1, y2⟩ := hT1.box (k := bx) (by rw [← hbxn]; exact HA.out) (by rw [← hbxn]; exact HX.out)
  have z0 := y1 0 _ rfl
  have z1 := y1 1 _ rfl
  have z2 := y1 2 _ rfl
  have z3 := y1 3 _ rfl
  have z4 := y1 4 _ rfl
  have z5 := y1 5 _ rfl
  have z6 := y1 6 _ rfl
  have HR1 := Hid.mk' hR1
  have HT1 := Hid.mk' hT1
  have HN1 := Hid.mk' hN1
  have HBN := Hid.mk' hbxn
  obtain ⟨kd, tx, sr, nu, fr, to, li⟩ := t
  simp only [Tk.agg]
  clear y1 hR1 hT1 hN1 c0 c1 c2 c3 cf hbxn hW1
  go_wp2
  refine bodyPost_ret (v := .agg #[.int .i64 kd, .string tx, .string sr, .float .f64 nu, .int .i64 fr, .int .i64 to, .bool li]) ?_ rfl ⟨rfl, ov', ?_, ?_, ?_⟩
  · rw [results_cell rfl]
    go_simp
  · have q1 : bx ≠ rb := by rw [← HBN.out]; exact HA.out.1
    have q2 : ov'.ownBlock ≠ some bx := fun e => by
      rcases HN1.out bx e with h1 | h1
      · exact HA.out.2 (by rw [HBN.out]; exact h1)
      · have h2 := HL.out
        rw [HBN.out] at h2
        have h3 : (W1.drewN nq).heap.size = W1.heap.size := by simp
        omega
    repeat (refine Rdr.setOther ?_ _ q1 q2)
    exact HR1.out
  · repeat (refine TF.setNew ?_ (by rw [HBN.out]; exact Nat.le_refl _) _)
    exact (TF.of_below (below_draws HB1.out nq)).trans HT1.out
  · intro g hg
    rcases HN1.out g hg with h1 | h1
    · exact .inl h1
    · exact .inr (Nat.le_trans (below_draws HB1.out nq).size h1)
set_option maxHeartbeats 2000000 in
set_option maxRecDepth 100000 in
theorem token_throws {B rb : Nat} {S : ByteArray} {f : Int} {ov : Value} {op : List Int} {t : Tk} {at' : Int} {op' : List Int} (an : Nat) (w : World) (h : Rdr B w rb S (an : Nat) f ov op) (hs : (S.size : Int) ≤ 262144) {R : ByteArray} {z : Int} (HRR : Hid (S.extract an S.size = R)) (ha : (an : Int) < (S.size : Int)) (hz : PlainAid.bt R 0 = z) (hn : nmN R.data.toList 0 = 0) (h46 : (z == 46) = false) (hd : digZ z = false) (h34 : (z == 34) = false) (h39 : (z == 39) = false) (h96 : (z == 96) = false) (h125 : (z == 125) = false)
    (HM : ∀ W, Below w.heap.size w W → Calls Tryz.prog 71 #[.pointer (some ⟨rb, 0, none⟩)] W fun e w' => e = .panicked [{ v := .iface 26 (.int .i64 50), recovered := false }] ∧ Rdr B w' rb S (an : Nat) f ov op ∧ TF (RdF rb ov) B W w') :
    Calls Tryz.prog 43 #[.pointer (some ⟨rb, 0, none⟩)] w fun e w' => e = .panicked [{ v := .iface 26 (.int .i64 50), recovered := false }] ∧ Rdr B w' rb S (an : Nat) f ov op ∧ TF (RdF rb ov) B w w' := by
  have i1 : (an : Int) ≤ (S.size : Int) := by omega
  have hrs : 1 ≤ (R.size : Int) := by rw [← HRR.out]; simp; omega
  have hne : R.toList.isEmpty = false := ne_empty (by omega)
  have hbt := PlainAid.get_bt R
  have HNA := Hid.mk' (fun W => nameAhead_any R W (by rw [← HRR.out]; simp; omega))
  rw [hn] at HNA
  have HNU := Hid.mk' (fun W => numberAhead_c R z W hrs hz h46)
  rw [hd] at HNU
  clear hn hd h46
  have hst : ∀ (p : Addr) (x : Nat) (md : Mode) (W : World), (store p (.float .f64 x) md).run Tryz.prog W = stored Tryz.prog W p (.float .f64 x) md := fun p x md W => run_store Tryz.prog W p _ md rfl
  obtain ⟨W1, hW1⟩ : ∃ W1, w.alloc (.cells tok0 31) = W1 := ⟨_, rfl⟩
  have b1 : Below w.heap.size w W1 := by rw [← hW1]; exact below_new
  have hbx : W1.heap[w.heap.size]? = some (.cells tok0 31 (0, 0)) := by rw [← hW1]; exact World.alloc_heap_new w _
  have hA := h.away (Nat.le_refl _)
  have hR := h.below b1
  obtain ⟨c0, c1, c2, c3, cf⟩ := hR.cells
  have HA := Hid.mk' hA
  have HB1 := Hid.mk' b1
  have HX := Hid.mk' hbx
  have HL := Hid.mk' (show w.heap.size < W1.heap.size by rw [← hW1]; simp)
  have HMM := Hid.mk' HM
  obtain ⟨bx, hbxn⟩ : ∃ bx, w.heap.size = bx := ⟨_, rfl⟩
  clear h hR b1 hbx hA HM
  go_enter Tryz.func43, Tryz.ntmps43
  go_wp2_with fail
  go_quiet (fail)
  rw [HRR.out]
  go_wp2_with fail
  refine (HNA.out _).mono ?_; rintro e w1 ⟨rfl, hw1⟩; rw [hw1]; clear hw1 w1
  go_wp2_with fail
  refine (HNU.out _).mono ?_; rintro e w1 ⟨rfl, hw1⟩; rw [hw1]; clear hw1 w1
  go_wp2_with fail
  refine (HMM.out _ (below_draws HB1.out nq)).mono ?_
  rintro e w1 ⟨rfl, hR1, hT1⟩
  go_wp2
  exact ⟨rfl, rfl, hR1, (TF.of_below (below_draws HB1.out nq)).trans hT1⟩
end Go.Proofs.YtopdogpcachonaaGreatDoor
