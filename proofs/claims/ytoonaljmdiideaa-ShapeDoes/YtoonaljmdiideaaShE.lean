/- Package shape: isMade, has, refusal, isFull, place. -/
import Derived.Test.YtoonaljmdiideaaShB
import Derived.Maps.OwnSet
import Derived.Maps.Views
import Derived.MapViews
import Derived.Deep.RegionHeld3
namespace Go.Proofs.Ytoonaljmdiideaa
set_option linter.unusedVariables false
set_option linter.unusedSimpArgs false
open Go.RowKit

theorem eqT_yes (W : World) (a : Addr) : (binOp .eql 25 (.pointer (some a)) (.pointer (some a))).run Try.prog W = .ok (.bool true) W := by
  have e : ∀ d, (Op.equalIn (d + 1) 25 (.pointer (some a)) (.pointer (some a))).run Try.prog W = .ok true W := fun d => by
    simp [Op.equalIn, run_underlying Try.underlying25, Try.sizeOf68, run_sameAddr_same]
  simp only [binOp]
  simp [Op.equal, Op.maxDepth, e 9999]
set_option maxHeartbeats 400000 in
theorem isMade_yes (g : Nat) (w : World) (h : w.cell? ⟨g, 0, none⟩ = some (.pointer (some ⟨g, 0, none⟩))) : Calls Try.prog 35 #[.pointer (some ⟨g, 0, none⟩)] w fun e w' => e = .returned (.bool true) ∧ w' = w := by
  have he := eqT_yes
  go_enter Try.func35, Try.ntmps35
  go_wp2
  go_ret
  exact ⟨rfl, rfl⟩
set_option maxHeartbeats 400000 in
set_option maxRecDepth 100000 in
theorem has_in (g : Nat) (s : Int) (a : Option Addr) (n c : Nat) (w : World) (h : w.cell? ⟨g, 0, none⟩ = some (.pointer (some ⟨g, 0, none⟩))) (h3 : w.cell? ⟨g, 3, none⟩ = some (.slice a n c)) (h0 : 0 ≤ s) (h1 : s < (n : Int)) : Calls Try.prog 46 #[.pointer (some ⟨g, 0, none⟩), .int .i64 s] w fun e w' => e = .returned (.bool true) ∧ w' = w := by
  have HM := Hid.mk' (isMade_yes g w h)
  go_enter Try.func46, Try.ntmps46
  go_wp2_with fail
  refine HM.out.mono ?_
  rintro e w1 ⟨rfl, rfl⟩
  go_wp2
  go_ret
  exact ⟨rfl, rfl⟩
set_option maxHeartbeats 400000 in
set_option maxRecDepth 100000 in
theorem refusal_ok (g : Nat) (s fl : Int) (a : Option Addr) (n c : Nat) (w : World) (h : w.cell? ⟨g, 0, none⟩ = some (.pointer (some ⟨g, 0, none⟩))) (h3 : w.cell? ⟨g, 3, none⟩ = some (.slice a n c)) (hs : 0 ≤ s ∧ s < (n : Int)) (f0 : 0 ≤ fl) (f1 : fl ≤ 15) : Calls Try.prog 23 #[.pointer (some ⟨g, 0, none⟩), .int .i64 s, .int .i64 fl] w fun e w' => e = .returned (.int .i64 0) ∧ w' = w := by
  have HM := Hid.mk' (has_in g s a n c w h h3 hs.1 hs.2)
  have g0 : ¬ fl < 0 := by omega
  have g1 : ¬ 15 < fl := by omega
  clear hs f0 f1
  go_enter Try.func23, Try.ntmps23
  go_wp2_with fail
  refine HM.out.mono ?_
  rintro e w1 ⟨rfl, rfl⟩
  go_wp2
  go_ret
  exact ⟨rfl, rfl⟩
set_option maxHeartbeats 400000 in
theorem isFull_no (g : Nat) (a : Option Addr) (n c : Nat) (w : World) (h3 : w.cell? ⟨g, 3, none⟩ = some (.slice a n c)) (hn : n < 100000) : Calls Try.prog 27 #[.pointer (some ⟨g, 0, none⟩)] w fun e w' => e = .returned (.bool false) ∧ w' = w := by
  have h1 : ¬ (n : Int) ≥ 100000 := by omega
  go_enter Try.func27, Try.ntmps27
  go_wp2
  go_ret
  exact ⟨by first | rfl | simp, rfl⟩

/-- Where a number stands first in a list; -1: nowhere. -/
def ixI (l : List Int) (k : Int) : Int := if l.findIdx (fun x => decide (x = k)) < l.length then (l.findIdx (fun x => decide (x = k)) : Int) else -1
/-- A slice of int32 in memory. -/
def Rd32 (w : World) (a : Option Addr) (l : List Int) : Prop := ∀ (j : Nat) (h : j < l.length), ∃ g, a = some ⟨g, 0, none⟩ ∧ w.cell? ⟨g, j, none⟩ = some (.int .i32 l[j])
theorem ixI_no {l : List Int} {k : Int} (h : ∀ x ∈ l, x ≠ k) : ixI l k = -1 := by
  unfold ixI
  rw [if_neg]
  rw [List.findIdx_lt_length]
  rintro ⟨x, hx, e⟩
  exact h x hx (by simpa using e)
theorem ixI_at {l : List Int} {k : Int} (j : Nat) (hj : j < l.length) (e : l[j] = k) (h : ∀ i (hi : i < j), l[i]'(by omega) ≠ k) : ixI l k = j := by
  have e1 : l.findIdx (fun x => decide (x = k)) = j := by
    rw [List.findIdx_eq hj]
    exact ⟨by simp [e], fun i hi => by simpa using h i hi⟩
  unfold ixI
  rw [e1, if_pos hj]
set_option maxHeartbeats 1000000 in
set_option maxRecDepth 100000 in
theorem slIndex_any (a : Option Addr) (c : Nat) (l : List Int) (k : Int) (w : World) (hr : Rd32 w a l) (hl : l.length < 100000000000) :
    Calls Try.prog 48 #[.slice a l.length c, .int .i32 k] w fun e w' => e = .returned (.int .i64 (ixI l k)) ∧ w' = w := by
  obtain ⟨n, hn⟩ : ∃ n, l.length = n := ⟨_, rfl⟩
  have HN := Hid.mk' hn
  have HR := Hid.mk' hr
  have hl' : n < 100000000000 := by omega
  rw [hn]
  clear hr hl hn
  go_enter Try.func48, Try.ntmps48
  go_wp2_with fail
  go_loop [8] (fun v => ∃ i : Nat, v = .int .i64 (i : Int) ∧ i ≤ n ∧ Hid (∀ j (h : j < i) (h' : j < l.length), l[j] ≠ k)) (fun v => n - (intOf v).toNat)
  case atStart => exact ⟨0, rfl, Nat.zero_le _, Hid.mk' (fun j h => by omega)⟩
  case round =>
    obtain ⟨i, rfl, hi, HJ⟩ := hrel
    by_cases hlt : i < n
    · have hil : i < l.length := by rw [HN.out]; exact hlt
      obtain ⟨g, rfl, hc⟩ := HR.out i hil
      have i1 : (i : Int) < (n : Int) := by omega
      obtain ⟨x, hx⟩ : ∃ x, l[i] = x := ⟨_, rfl⟩
      rw [hx] at hc
      by_cases he : k = x
      · subst he
        have HE : Hid (ixI l k = (i : Int)) := Hid.mk' (ixI_at i hil hx (fun j hj => HJ.out j hj (by omega)))
        have hb : (k == k) = true := by simp
        clear hil hi hlt hx
        go_wp2
        go_ret
        exact ⟨by rw [HE.out]; rfl, rfl⟩
      · have hb : (k == x) = false := by simpa using he
        have HJ2 : Hid (∀ j (h : j < i + 1) (h' : j < l.length), l[j] ≠ k) := Hid.mk' (fun j h h' => by
          rcases Nat.lt_or_ge j i with h1 | h1
          · exact HJ.out j h1 h'
          · obtain rfl : j = i := by omega
            rw [hx]; exact fun e => he e.symm)
        have HLT := Hid.mk' hlt
        clear hil hi hlt hx he HJ
        go_wp2
        go_round
        case rel => exact ⟨i + 1, by go_num, HLT.out, HJ2⟩
        case measure => have := HLT.out; simp [intOf]; omega
    · have i1 : ¬ (i : Int) < (n : Int) := by omega
      obtain rfl : i = n := by omega
      have HE : Hid (ixI l k = -1) := Hid.mk' (ixI_no (fun x hx => by
        obtain ⟨j, hj, rfl⟩ := List.getElem_of_mem hx
        exact HJ.out j (by rw [← HN.out]; exact hj) hj))
      clear hi hlt HJ
      go_wp2
      go_ret
      exact ⟨by rw [HE.out]; rfl, rfl⟩
theorem Rd32.take {w : World} {a : Option Addr} {l : List Int} (h : Rd32 w a l) (m : Nat) : Rd32 w a (l.take m) := fun j hj => by
  have hj' : j < l.length := by rw [List.length_take] at hj; omega
  obtain ⟨g, e, hc⟩ := h j hj'
  exact ⟨g, e, by rw [hc]; simp⟩
set_option maxHeartbeats 1000000 in
set_option maxRecDepth 100000 in
theorem place_any (lb : Nat) (fa la : Option Addr) (m fc lc : Nat) (l : List Int) (k : Int) (w : World) (h0 : w.cell? ⟨lb, 0, none⟩ = some (.slice la l.length lc)) (hlc : l.length ≤ lc) (hla : la = none → lc = 0) (hm : m ≤ l.length) (hr : Rd32 w la l) (hl : l.length < 100000000000) :
    Calls Try.prog 26 #[.agg #[.pointer (some ⟨lb, 0, none⟩), .slice fa m fc], .int .i32 k] w fun e w' => e = .returned (.int .i64 (ixI (l.take m) k)) ∧ Below w.heap.size w w' := by
  obtain ⟨W1, hW1⟩ : ∃ W1, w.alloc (.cells #[.pointer (some ⟨lb, 0, none⟩), .slice fa m fc] 63) = W1 := ⟨_, rfl⟩
  have b1 : Below w.heap.size w W1 := by rw [← hW1]; exact (Below.refl _ _).alloc (Nat.le_refl _) _
  have q1 : W1.heap[w.heap.size]? = some (.cells #[.pointer (some ⟨lb, 0, none⟩), .slice fa m fc] 63 (0, 0)) := by rw [← hW1]; exact World.alloc_heap_new _ _
  obtain ⟨_, _, g0, g1⟩ := pair_facts q1
  have h1 := (b1.cell (p := ⟨lb, 0, none⟩) (World.block_lt_of_cell? w _ h0)).trans h0
  have hr1 : Rd32 W1 la l := fun j hj => by
    obtain ⟨g, e, hc⟩ := hr j hj
    exact ⟨g, e, (b1.cell (p := ⟨g, j, none⟩) (World.block_lt_of_cell? w _ hc)).trans hc⟩
  have HI : Hid (∀ k', Calls Try.prog 48 #[.slice la m lc, .int .i32 k] (W1.drewN k') fun e w' => e = .returned (.int .i64 (ixI (l.take m) k)) ∧ w' = W1.drewN k') := Hid.mk' (fun k' => by
    have := slIndex_any la lc (l.take m) k (W1.drewN k') (hr1.take m) (by rw [List.length_take]; omega)
    rwa [List.length_take, Nat.min_eq_left hm] at this)
  obtain ⟨n, hn⟩ : ∃ n, l.length = n := ⟨_, rfl⟩
  rw [hn] at h1 hlc hm
  have i1 : (m : Int) ≤ (lc : Int) := by omega
  have i2 : (0 : Int) ≤ (m : Int) := by omega
  have HB := Hid.mk' b1
  have HH := Hid.mk' hW1
  obtain ⟨y, hy⟩ : ∃ y, ixI (l.take m) k = y := ⟨_, rfl⟩
  rw [hy] at HI ⊢
  clear h0 hr hl b1 q1 hr1 hn hy hW1
  cases la with
  | none =>
    obtain rfl : lc = 0 := hla rfl
    obtain rfl : m = 0 := by omega
    obtain rfl : n = 0 := by omega
    go_enter Try.func26, Try.ntmps26
    go_upto_region 1 with fail
    rw [HH.out]
    go_quiet ((go_at_call 48; refine Calls.quiet_of_same (HI.out _)))
    go_wp2
    go_ret
    exact ⟨rfl, below_drewN HB.out _⟩
  | some ad =>
    go_enter Try.func26, Try.ntmps26
    go_upto_region 1 with fail
    rw [HH.out]
    go_quiet ((go_at_call 48; refine Calls.quiet_of_same (HI.out _)))
    go_wp2
    go_ret
    exact ⟨rfl, below_drewN HB.out _⟩
end Go.Proofs.Ytoonaljmdiideaa
