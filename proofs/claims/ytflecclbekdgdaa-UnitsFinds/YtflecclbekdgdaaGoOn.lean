/- units.goOn and units.borders. -/
import Derived.Test.YtflecclbekdgdaaKmp
import Derived.Test.YtflecclbekdgdaaOwn
namespace Go.Proofs.Ytflecclbekdgdaa
set_option linter.unusedVariables false
open Go.RowKit

theorem infoI : (Try.prog.info? 3).map (fun i => (i.zero, i.size, i.bytes)) = some (some (.int .i64 0), 1, 8) := by kernel_rfl
/-- The first n places of a list of numbers, as cells. -/
def ic (A : Nat → Nat) (n : Nat) : List Value := (List.range n).map fun k => Value.int .i64 (A k : Nat)
theorem ic_length (A : Nat → Nat) (n : Nat) : (ic A n).length = n := by simp [ic]
theorem ic_get (A : Nat → Nat) (n k : Nat) (h : k < n) : (ic A n)[k]? = some (.int .i64 (A k : Nat)) := by simp [ic, h]
theorem ic_set (A : Nat → Nat) (n k r : Nat) (h : k < n) : (ic A n).set k (.int .i64 (r : Nat)) = ic (fun j => if j = k then r else A j) n := by
  apply List.ext_getElem?
  intro j
  rw [List.getElem?_set]
  by_cases hj : j < n
  · by_cases e : k = j
    · subst e
      rw [if_pos rfl, if_pos (by rw [ic_length]; exact h), ic_get _ _ _ h]
      simp
    · rw [if_neg e, ic_get _ _ _ hj, ic_get _ _ _ hj, if_neg (fun h => e h.symm)]
  · have l1 : (ic A n)[j]? = none := List.getElem?_eq_none (by rw [ic_length]; omega)
    have l2 : (ic (fun j => if j = k then r else A j) n)[j]? = none := List.getElem?_eq_none (by rw [ic_length]; omega)
    rw [l1, l2]
    split
    · rename_i e; omega
    · rfl

set_option maxHeartbeats 1000000 in
set_option maxRecDepth 100000 in
theorem goOn_any (t : ByteArray) (A : Nat → Nat) (g c N B met u : Nat) (w : World) (ht : (t.size : Int) ≤ 1048576) (hown : w.ownsRow B 3 1 (.slice (some ⟨g, 0, none⟩) N c) N (ic A N)) (hm : met < t.size / 2) (hN : met < N) (hA : Again (un t) A met) :
    Calls Try.prog 25 #[.string t, .slice (some ⟨g, 0, none⟩) N c, .int .i64 met, .int .u16 u] w fun e w' => ∃ r n : Nat, e = .returned (.int .i64 r) ∧ Goes (un t) met u r ∧ w' = w.drewN n := by
  have hmx : t.size ≤ maxLen := by unfold maxLen; omega
  have HA := Hid.mk' hA
  obtain ⟨uz, huz⟩ : ∃ z : Int, (u : Int) = z := ⟨_, rfl⟩
  have HUZ := Hid.mk' huz
  rw [huz]
  clear hA huz
  go_enter Try.func25, Try.ntmps25
  go_wp2
  go_loopw [2] (fun v wr => ∃ k n : Nat, v = .int .i64 k ∧ k ≤ met ∧ Hid (Going (un t) met u k) ∧ wr = w.drewN n) (fun v _ => (intOf v).toNat)
  case atStart => exact ⟨met, 0, rfl, Nat.le_refl _, Hid.mk' (Going.start _ _ _), rfl⟩
  case round =>
    obtain ⟨k, nn, rfl, hk, HG, rfl⟩ := hrel
    have HU := Hid.mk' (fun W => unit_any t k W hmx (by omega))
    obtain ⟨z, hz⟩ : ∃ z : Int, (un t k : Int) = z := ⟨_, rfl⟩
    have HZ := Hid.mk' hz
    rw [hz] at HU
    clear hz
    by_cases hk0 : k = 0
    · subst hk0
      by_cases e : z = uz
      · subst e
        have HR := Hid.mk' (HG.out.yes (by have := HZ.out; have := HUZ.out; omega))
        go_wp2_with (go_at_call 20; refine (HU.out _).mono ?_; rintro e w1 ⟨rfl, nq, hw1⟩; rw [hw1]; clear hw1 w1)
        go_ret
        exact ⟨1, _, rfl, HR.out, rfl⟩
      · have n1 : (z == uz) = false := by simp [e]
        have HR := Hid.mk' (HG.out.no (fun h => e (by have := HZ.out; have := HUZ.out; omega)))
        clear e
        go_wp2_with (go_at_call 20; refine (HU.out _).mono ?_; rintro e w1 ⟨rfl, nq, hw1⟩; rw [hw1]; clear hw1 w1)
        go_ret
        exact ⟨0, _, rfl, HR.out, rfl⟩
    · have hkp : (0 : Int) < (k : Int) := by omega
      by_cases e : z = uz
      · subst e
        have HR := Hid.mk' (HG.out.yes (by have := HZ.out; have := HUZ.out; omega))
        go_wp2_with (go_at_call 20; refine (HU.out _).mono ?_; rintro e w1 ⟨rfl, nq, hw1⟩; rw [hw1]; clear hw1 w1)
        go_ret
        exact ⟨k + 1, _, by go_num, HR.out, by rfl⟩
      · have n1 : (z != uz) = true := by simp [e]
        have hAk := HA.out k (by omega) hk
        have HS := Hid.mk' (HG.out.step HA.out (by omega) hk (fun h => e (by have := HZ.out; have := HUZ.out; omega)))
        have hcl : w.cell? ⟨g, k, none⟩ = some (.int .i64 (A k : Nat)) := own_cell hown (ic_get A N k (by omega))
        have hAlt : A k < k := hAk.2.1
        clear e hAk
        have i1 : (k : Int) < (N : Int) := by omega
        go_wp2_with (go_at_call 20; refine (HU.out _).mono ?_; rintro e w1 ⟨rfl, nq, hw1⟩; rw [hw1]; clear hw1 w1)
        go_roundw
        case rel => exact ⟨A k, _, rfl, by omega, HS, rfl⟩
        case measure => simp [intOf]; omega

set_option maxHeartbeats 1000000 in
set_option maxRecDepth 100000 in
theorem borders_any (t : ByteArray) (w : World) (ht : (t.size : Int) ≤ 1048576) (hm : 1 ≤ t.size / 2) :
    Calls Try.prog 24 #[.string t] w fun e w' => ∃ A : Nat → Nat, e = .returned (.slice (some ⟨w.heap.size, 0, none⟩) (t.size / 2 + 1) (t.size / 2 + 1)) ∧ Again (un t) A (t.size / 2) ∧ w'.ownsRow w.heap.size 3 1 (.slice (some ⟨w.heap.size, 0, none⟩) (t.size / 2 + 1) (t.size / 2 + 1)) (t.size / 2 + 1) (ic A (t.size / 2 + 1)) ∧ Below w.heap.size w w' := by
  obtain ⟨i0, hi, hz0, hz1, hz2⟩ := info_parts infoI
  have hmx : t.size ≤ maxLen := by unfold maxLen; omega
  go_enter Try.func24, Try.ntmps24
  go_wp2_with (first | (go_at_call 12; refine (len_any _ _ hmx).mono ?_; rintro e w1 ⟨rfl, hw1⟩; rw [hw1]; clear hw1 w1) | (at_make; refine wpList_make_full _ rfl _ _ 48 rfl w.heap.size 3 i0 (.int .i64 0) 1 Try.underlying48 hi hz0 hz1 .i64 .i64 _ _ (t.size / 2 + 1) rfl rfl (by omega) (by omega) (by rw [hz2]; omega) (by unfold maxLen; omega) (Nat.le_refl _) ?_; intro w0 hown0 hgrow0))
  have hle : w.heap.size ≤ w0.heap.size := hgrow0.size
  have hb0 : Below w.heap.size w w0 := (Below.refl _ _).grown hgrow0 (Nat.le_refl _) (by simp)
  rw [made_one _ _ rfl, show List.replicate (t.size / 2 + 1) (Value.int .i64 0) = ic (fun _ => 0) (t.size / 2 + 1) from by simp [ic]; rw [List.map_const']; simp] at hown0
  go_loopw [4, 5] (fun v c wr => ∃ (i : Nat) (A : Nat → Nat), c = .int .i64 i ∧ v = .int .i64 (A i : Nat) ∧ 1 ≤ i ∧ i ≤ t.size / 2 ∧ Hid (Again (un t) A i) ∧ wr.ownsRow w.heap.size 3 1 (.slice (some ⟨w.heap.size, 0, none⟩) (t.size / 2 + 1) (t.size / 2 + 1)) (t.size / 2 + 1) (ic A (t.size / 2 + 1)) ∧ Below w.heap.size w wr) (fun _ c _ => t.size / 2 - (intOf c).toNat)
  case atStart => exact ⟨1, fun _ => 0, rfl, rfl, Nat.le_refl _, hm, fun k h1 h2 => ⟨Bd.zero _ _, h1, fun j hj _ => by omega⟩, hown0, hb0⟩
  case round =>
    obtain ⟨i, A, rfl, rfl, hi1, hi2, HA, hown, hbw⟩ := hrel
    clear hown0 hgrow0 hb0
    by_cases hlt : i < t.size / 2
    · obtain ⟨a1, a2, a3⟩ := HA.out i hi1 (Nat.le_refl _)
      have HU := Hid.mk' (fun W => unit_any t i W hmx hlt)
      have HO := Hid.mk' hown
      have HG := Hid.mk' (fun n : Nat => goOn_any t A w.heap.size (t.size / 2 + 1) (t.size / 2 + 1) w.heap.size (A i) (un t i) (wr.drewN n) ht hown (by omega) (by omega) (fun k h1 h2 => HA.out k h1 (by omega)))
      have hf := hown.frozenAt (i + 1)
      have hcl : wr.cell? ⟨w.heap.size, i + 1, none⟩ = some (.int .i64 (A (i + 1) : Nat)) := own_cell hown (ic_get A _ (i + 1) (by omega))
      clear a1 a3 hown
      obtain ⟨ui, hui⟩ : ∃ x, un t i = x := ⟨_, rfl⟩
      have HUI := Hid.mk' hui
      rw [hui] at HU HG
      clear hui
      have i1 : (i : Int) + 1 < ((t.size / 2 + 1 : Nat) : Int) := by omega
      go_wp2_with (first | (go_at_call 12; refine (len_any _ _ hmx).mono ?_; rintro e w1 ⟨rfl, hw1⟩; rw [hw1]; clear hw1 w1) | (go_at_call 20; refine (HU.out _).mono ?_; rintro e w1 ⟨rfl, nq, hw1⟩; rw [hw1]; clear hw1 w1) | (go_at_call 25; refine (HG.out _).mono ?_; rintro e w1 ⟨r, nr, rfl, hr, hw1⟩; rw [hw1]; clear hw1 w1; have HR := Hid.mk' hr; clear hr))
      go_roundw
      case rel =>
        refine ⟨i + 1, fun j => if j = i + 1 then r else A j, by go_num, by simp, by omega, by omega, ?_, ?_, ?_⟩
        · exact Again.next (A := A) HA.out hi1 (by rw [HUI.out]; exact HR.out) (fun k hk => if_neg (by omega)) (if_pos rfl)
        · rw [← ic_set A _ (i + 1) r (by omega)]
          exact (World.ownsRow.stored (own_drewN HO.out (nq + nr)) (i + 1) (.int .i64 (r : Nat))).1
        · exact (below_drewN hbw (nq + nr)).setCell (p := ⟨w.heap.size, i + 1, none⟩) (Nat.le_refl _) _
      case measure => simp [intOf]; omega
    · obtain rfl : i = t.size / 2 := by omega
      go_wp2_with (first | (go_at_call 12; refine (len_any _ _ hmx).mono ?_; rintro e w1 ⟨rfl, hw1⟩; rw [hw1]; clear hw1 w1))
      go_ret
      exact ⟨A, rfl, HA.out, hown, hbw⟩

end Go.Proofs.Ytflecclbekdgdaa
