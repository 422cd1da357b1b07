/- order2Ordered, medianOrdered, medianAdjacentOrdered at uint32: they write nothing but the count of swaps, which lies in the newest block. -/
import Derived.Test.YtcjpoabknlpopaaDoorKSrt2
namespace Go.Proofs.YtcjpoabknlpopaaDoor
set_option linter.unusedVariables false
open Go.RowKit Go.Sort

/-- The world with the count of swaps in a new block. -/
def BW (w : World) (q s : Nat) : World := grow (w.drewN q) #[.cells #[.int .i64 s] 3 (0, 0)]
theorem BW.drewN (w : World) (q s m : Nat) : (BW w q s).drewN m = BW w (q + m) s := by
  show grow ((w.drewN q).drewN m) _ = _
  rw [World.drewN_drewN]
  rfl
theorem BW.at (w : World) (q s : Nat) : (BW w q s).heap[w.heap.size]? = some (.cells #[.int .i64 s] 3 (0, 0)) := by
  show ((w.drewN q).heap ++ #[_])[w.heap.size]? = _
  have e : (w.drewN q).heap = w.heap := rfl
  rw [e]
  simp
theorem BW.cell (w : World) (q s : Nat) : (BW w q s).cell? ⟨w.heap.size, 0, none⟩ = some (.int .i64 s) := by simp [World.cell?, BW.at]
theorem BW.frozen (w : World) (q s : Nat) : (BW w q s).frozen? ⟨w.heap.size, 0, none⟩ = false := by simp [World.frozen?, BW.at]
theorem BW.row {w : World} {blk off : Nat} {d : Array Int} (hH : Holds eU w blk off d) (hb : blk < w.heap.size) (q s : Nat) : ∀ t, t < d.size → (BW w q s).cell? ⟨blk, off + t, none⟩ = some (.int .u32 d[t]!) := fun t ht => by
  unfold BW
  rw [cell?_grow _ _ _ hb]
  exact (hH t ht).1
theorem BW.set (w : World) (q s s' : Nat) : (BW w q s).setCell ⟨w.heap.size, 0, none⟩ (.int .i64 s') = BW w q s' := by
  rw [setCell_eq]
  refine (mapBlock_grow_new (w.drewN q) #[.cells #[.int .i64 s] 3 (0, 0)] w.heap.size (fun x => x.setIfInBounds 0 (.int .i64 s')) (Nat.le_refl _)).trans ?_
  have e : w.heap.size - (w.drewN q).heap.size = 0 := Nat.sub_self _
  rw [e]
  rfl

set_option maxHeartbeats 1000000 in
set_option maxRecDepth 100000 in
theorem order2U (blk off cap a b : Nat) (d : Array Int) (w : World) (q s : Nat) (hH : Holds eU w blk off d) (hblk : blk < w.heap.size) (ha : a < d.size) (hb : b < d.size) (hsz : d.size < 4611686018427387904) (hs : s < 1000) :
    Calls Tryd.prog 74 #[.slice (some ⟨blk, off, none⟩) d.size cap, .int .i64 a, .int .i64 b, .pointer (some ⟨w.heap.size, 0, none⟩)] (BW w q s) fun e w' =>
      e = .returned (.tuple #[.int .i64 (Sort.order2 ltInt d a b s).1, .int .i64 (Sort.order2 ltInt d a b s).2.1]) ∧ ∃ q', w' = BW w q' (Sort.order2 ltInt d a b s).2.2 := by
  obtain ⟨W, hW⟩ : ∃ W, BW w q s = W := ⟨_, rfl⟩
  obtain ⟨G, hG⟩ : ∃ G : Nat → Int, ∀ t, G t = d[t]! := ⟨fun t => d[t]!, fun _ => rfl⟩
  have hcw : ∀ t, t < d.size → (BW w q s).cell? ⟨blk, off + t, none⟩ = some (.int .u32 (G t)) := fun t ht => by rw [hG]; exact BW.row hH hblk q s t ht
  have HG := Hid.mk' hG
  clear hG
  have hc := BW.cell w q s
  have hf := BW.frozen w q s
  rw [hW] at hcw hc hf ⊢
  have HW := Hid.mk' hW
  have b1 : (a : Int) < (d.size : Int) := by omega
  have b2 : (b : Int) < (d.size : Int) := by omega
  have b3 : (s : Int) < 1000 := by omega
  clear hW hH
  go_enter Tryd.func74, Tryd.ntmps74
  go_wp2_with fail
  go_big_quiet (first | (go_at_call 51; refine Calls.quiet_of_same (lessU _ _ _)))
  go_wp2_with fail
  · have hl : ltInt d[b]! d[a]! = true := by rw [← HG.out, ← HG.out]; assumption
    have e : Sort.order2 ltInt d a b s = (b, a, s + 1) := by unfold Sort.order2; rw [if_pos hl]
    rw [e]
    go_ret2
    refine ⟨rfl, q + nq, ?_⟩
    rw [← HW.out, BW.drewN]
    exact BW.set w (q + nq) s (s + 1)
  · have hl : ltInt d[b]! d[a]! = false := by rw [← HG.out, ← HG.out]; assumption
    have e : Sort.order2 ltInt d a b s = (a, b, s) := by unfold Sort.order2; rw [if_neg (by rw [hl]; decide)]
    rw [e]
    go_ret2
    exact ⟨rfl, q + nq, by rw [← HW.out, BW.drewN]⟩

theorem order2_lt (d : Array Int) (a b s : Nat) (ha : a < d.size) (hb : b < d.size) : (Sort.order2 ltInt d a b s).1 < d.size ∧ (Sort.order2 ltInt d a b s).2.1 < d.size ∧ (Sort.order2 ltInt d a b s).2.2 ≤ s + 1 := by
  unfold Sort.order2
  split
  · exact ⟨hb, ha, Nat.le_refl _⟩
  · exact ⟨ha, hb, by simp⟩
theorem median_lt (d : Array Int) (a b c s : Nat) (ha : a < d.size) (hb : b < d.size) (hc : c < d.size) : (Sort.median ltInt d a b c s).1 < d.size ∧ (Sort.median ltInt d a b c s).2 ≤ s + 3 := by
  have h1 := order2_lt d a b s ha hb
  have h2 := order2_lt d _ c (Sort.order2 ltInt d a b s).2.2 h1.2.1 hc
  have h3 := order2_lt d _ _ (Sort.order2 ltInt d (Sort.order2 ltInt d a b s).2.1 c (Sort.order2 ltInt d a b s).2.2).2.2 h1.1 h2.1
  exact ⟨h3.2.1, by have := h3.2.2; have := h2.2.2; have := h1.2.2; show (Sort.order2 ltInt d _ _ _).2.2 ≤ _; omega⟩

set_option maxHeartbeats 1000000 in
set_option maxRecDepth 100000 in
theorem medianU (blk off cap a b c : Nat) (d : Array Int) (w : World) (q s : Nat) (hH : Holds eU w blk off d) (hblk : blk < w.heap.size) (ha : a < d.size) (hb : b < d.size) (hc : c < d.size) (hsz : d.size < 4611686018427387904) (hs : s < 900) :
    Calls Tryd.prog 65 #[.slice (some ⟨blk, off, none⟩) d.size cap, .int .i64 a, .int .i64 b, .int .i64 c, .pointer (some ⟨w.heap.size, 0, none⟩)] (BW w q s) fun e w' =>
      e = .returned (.int .i64 (Sort.median ltInt d a b c s).1) ∧ ∃ q', w' = BW w q' (Sort.median ltInt d a b c s).2 := by
  have h1 := order2_lt d a b s ha hb
  have H1 := Hid.mk' (order2U blk off cap a b d w q s hH hblk ha hb hsz (by omega))
  obtain ⟨r1, hr1⟩ : ∃ r1, Sort.order2 ltInt d a b s = r1 := ⟨_, rfl⟩
  rw [hr1] at h1 H1
  have h2 := order2_lt d r1.2.1 c r1.2.2 h1.2.1 hc
  have H2 := Hid.mk' (fun q => order2U blk off cap r1.2.1 c d w q r1.2.2 hH hblk h1.2.1 hc hsz (by omega))
  obtain ⟨r2, hr2⟩ : ∃ r2, Sort.order2 ltInt d r1.2.1 c r1.2.2 = r2 := ⟨_, rfl⟩
  rw [hr2] at h2 H2
  have H3 := Hid.mk' (fun q => order2U blk off cap r1.1 r2.1 d w q r2.2.2 hH hblk h1.1 h2.1 hsz (by omega))
  have e : Sort.median ltInt d a b c s = ((Sort.order2 ltInt d r1.1 r2.1 r2.2.2).2.1, (Sort.order2 ltInt d r1.1 r2.1 r2.2.2).2.2) := by
    unfold Sort.median
    simp only [hr1, hr2]
  rw [e]
  obtain ⟨r3, hr3⟩ : ∃ r3, Sort.order2 ltInt d r1.1 r2.1 r2.2.2 = r3 := ⟨_, rfl⟩
  rw [hr3] at H3 ⊢
  clear hr1 hr2 hr3 e h1 h2 hH
  obtain ⟨x1, y1, z1⟩ := r1
  obtain ⟨x2, y2, z2⟩ := r2
  obtain ⟨x3, y3, z3⟩ := r3
  dsimp only at H1 H2 H3 ⊢
  go_enter Tryd.func65, Tryd.ntmps65
  go_wp2_with fail
  refine (H1.out).mono ?_
  rintro e w1 ⟨rfl, q1, hw1⟩
  rw [hw1]; clear hw1 w1
  go_wp2_with fail
  refine (H2.out q1).mono ?_
  rintro e w1 ⟨rfl, q2, hw1⟩
  rw [hw1]; clear hw1 w1
  go_wp2_with fail
  refine (H3.out q2).mono ?_
  rintro e w1 ⟨rfl, q3, hw1⟩
  rw [hw1]; clear hw1 w1
  go_wp2
  go_ret
  exact ⟨rfl, q3, rfl⟩

set_option maxHeartbeats 1000000 in
set_option maxRecDepth 100000 in
theorem medianAdjU (blk off cap a : Nat) (d : Array Int) (w : World) (q s : Nat) (hH : Holds eU w blk off d) (hblk : blk < w.heap.size) (ha0 : 0 < a) (ha : a + 1 < d.size) (hsz : d.size < 4611686018427387904) (hs : s < 900) :
    Calls Tryd.prog 64 #[.slice (some ⟨blk, off, none⟩) d.size cap, .int .i64 a, .pointer (some ⟨w.heap.size, 0, none⟩)] (BW w q s) fun e w' =>
      e = .returned (.int .i64 (Sort.medianAdjacent ltInt d a s).1) ∧ ∃ q', w' = BW w q' (Sort.medianAdjacent ltInt d a s).2 := by
  have H := Hid.mk' (medianU blk off cap (a - 1) a (a + 1) d w q s hH hblk (by omega) (by omega) ha hsz hs)
  have e1 : ((a - 1 : Nat) : Int) = (a : Int) - 1 := by omega
  have e2 : ((a + 1 : Nat) : Int) = (a : Int) + 1 := by omega
  rw [e1, e2] at H
  have e3 : Sort.medianAdjacent ltInt d a s = Sort.median ltInt d (a - 1) a (a + 1) s := rfl
  rw [e3]
  clear e1 e2 e3 hH
  generalize Sort.median ltInt d (a - 1) a (a + 1) s = r at H ⊢
  have b1 : (a : Int) + 1 < (d.size : Int) := by omega
  have b0 : 0 < (a : Int) := by omega
  go_enter Tryd.func64, Tryd.ntmps64
  go_wp2_with fail
  refine (H.out).mono ?_
  rintro e w1 ⟨rfl, q1, hw1⟩
  rw [hw1]; clear hw1 w1
  go_wp2
  go_ret
  exact ⟨rfl, q1, rfl⟩

end Go.Proofs.YtcjpoabknlpopaaDoor
