/- units.Units: the units of a text. -/
import Derived.Test.YtkgjmiadgfcbnaaGreatDoorPt
namespace Go.Proofs.YtkgjmiadgfcbnaaGreatDoor
set_option linter.unusedVariables false
open Go.RowKit

theorem info16 : (Tryz.prog.info? 143).map (fun i => (i.zero, i.size, i.bytes)) = some (some (.int .u16 0), 1, 2) := by kernel_rfl

/-- The first k units of a text, as cells. -/
def uc (s : ByteArray) (k : Nat) : List Value := (List.range k).map fun i => Value.int .u16 (un s i)

theorem uc_length (s : ByteArray) (k : Nat) : (uc s k).length = k := by simp [uc]
theorem uc_succ (s : ByteArray) (k : Nat) : uc s (k + 1) = uc s k ++ [.int .u16 (un s k)] := by simp [uc, List.range_succ]
theorem uc_set (s : ByteArray) (k n : Nat) (h : k < n) (z : Value) : (uc s k ++ List.replicate (n - k) z).set k (.int .u16 (un s k)) = uc s (k + 1) ++ List.replicate (n - (k + 1)) z := by
  rw [List.set_append_right _ _ (by rw [uc_length]; omega), uc_length, Nat.sub_self, show n - k = (n - (k + 1)) + 1 from by omega, List.replicate_succ, List.set_cons_zero, uc_succ]
  simp
theorem uc_get (s : ByteArray) (k i : Nat) (h : i < k) : (uc s k)[i]? = some (.int .u16 (un s i)) := by
  simp [uc, h]
theorem at_add (g j : Nat) : (⟨g, 0, none⟩ : Addr).add j = ⟨g, j, none⟩ := by unfold Addr.add; split <;> simp_all
theorem made_one (z : Value) (n : Nat) (hz : z.cells = #[z]) : (madeCells z.cells (n * 1)).toList = List.replicate n z := by
  rw [hz]
  simp only [madeCells, Nat.mul_one, List.size_toArray, List.length_singleton, Nat.mod_one]
  apply List.ext_getElem
  · simp
  · intro i h1 h2; simp
theorem own_drewN {w : World} {B : Nat} {e : TypeId} {sz : Nat} {v : Value} {n : Nat} {xs : List Value} (h : w.ownsRow B e sz v n xs) (k : Nat) : (w.drewN k).ownsRow B e sz v n xs := h
theorem own_cell {w : World} {B : Nat} {e : TypeId} {g n cap : Nat} {xs : List Value} (h : w.ownsRow B e 1 (.slice (some ⟨g, 0, none⟩) n cap) n xs) {j : Nat} {u : Value} (hj : xs[j]? = some u) : w.cell? ⟨g, j, none⟩ = some u := by
  have := h.cells (g := g) rfl j u hj
  rwa [at_add] at this

set_option maxHeartbeats 400000 in
set_option maxRecDepth 100000 in
theorem units_any (s : ByteArray) (w : World) (hs : (s.size : Int) ≤ 1048576) :
    Calls Tryz.prog 91 #[.string s] w fun e w' => ∃ v, e = .returned v ∧ w'.ownsRow w.heap.size 143 1 v (s.size / 2) (uc s (s.size / 2)) ∧ Below w.heap.size w w' := by
  obtain ⟨i0, hi, hz0, hz1, hz2⟩ := info_parts info16
  have hm : s.size ≤ maxLen := by unfold maxLen; omega
  go_enter Tryz.func91, Tryz.ntmps91
  go_wp2_with (first | (go_at_call 80; refine (len_any _ _ hm).mono ?_; rintro e w1 ⟨rfl, hw1⟩; rw [hw1]; clear hw1 w1) | (at_make; refine wpList_make_full _ rfl _ _ 141 rfl w.heap.size 143 i0 (.int .u16 0) 1 Tryz.underlying141 hi hz0 hz1 .i64 .i64 _ _ (s.size / 2) rfl rfl (by omega) (by omega) (by rw [hz2]; omega) (by unfold maxLen; omega) (Nat.le_refl _) ?_; intro w0 hown0 hgrow0))
  have hle : w.heap.size ≤ w0.heap.size := hgrow0.size
  have hb0 : Below w.heap.size w w0 := (Below.refl _ _).grown hgrow0 (Nat.le_refl _) (by simp)
  rw [show (madeCells (Value.int IntKind.u16 0).cells (s.size / 2 * 1)).toList = uc s 0 ++ List.replicate (s.size / 2 - 0) (.int .u16 0) from by rw [made_one _ _ rfl]; simp [uc]] at hown0
  go_loopw [10] (fun v wr => ∃ k : Nat, v = .int .i64 k ∧ k ≤ s.size / 2 ∧ wr.ownsRow w.heap.size 143 1 (.slice (some ⟨w.heap.size, 0, none⟩) (s.size / 2) (s.size / 2)) (s.size / 2) (uc s k ++ List.replicate (s.size / 2 - k) (.int .u16 0)) ∧ Below w.heap.size w wr) (fun v _ => s.size / 2 - (intOf v).toNat)
  case atStart => exact ⟨0, rfl, Nat.zero_le _, hown0, hb0⟩
  case round =>
    obtain ⟨k, rfl, hk, hown, hbw⟩ := hrel
    by_cases hlt : k < s.size / 2
    · have hf := hown.frozenAt k
      have hcl : wr.cell? ⟨w.heap.size, k, none⟩ = some (.int .u16 0) := own_cell hown (by
        rw [List.getElem?_append_right (by rw [uc_length]; omega), uc_length, Nat.sub_self, show s.size / 2 - k = (s.size / 2 - (k + 1)) + 1 from by omega]
        rfl)
      have HO := Hid.mk' (World.ownsRow.stored hown k (.int .u16 (un s k)))
      go_wp2_with (first | (go_at_call 107; refine (unit_any _ _ _ hm hlt).mono ?_; rintro e w1 ⟨rfl, nq, hw1⟩; rw [hw1]; clear hw1 w1))
      go_roundw
      case rel =>
        refine ⟨k + 1, by go_num, by omega, ?_, ?_⟩
        · rw [← uc_set s k _ hlt]
          exact (World.ownsRow.stored (own_drewN hown nq) k (.int .u16 (un s k))).1
        · exact (below_drewN hbw nq).setCell (p := ⟨w.heap.size, k, none⟩) (Nat.le_refl _) _
      case measure => simp [intOf]; omega
    · obtain rfl : k = s.size / 2 := by omega
      go_wp2
      go_ret
      refine ⟨_, rfl, ?_, hbw⟩
      simpa using hown
end Go.Proofs.YtkgjmiadgfcbnaaGreatDoor
