/- units.Units: the units of a text. -/
import Derived.Test.YtbkkkpfoaggejaaGreatDoorPt
namespace Go.Proofs.YtbkkkpfoaggejaaGreatDoor
set_option linter.unusedVariables false
open Go.RowKit

theorem info16 : (Tryz.prog.info? 110).map (fun i => (i.zero, i.size, i.bytes)) = some (some (.int .u16 0), 1, 2) := by kernel_rfl

/-- The first k units of a text, as cells. -/
def uc (s : ByteArray) (k : Nat) : List Value := (List.range k).map fun i => Value.int .u16 (un s i)

theorem uc_length (s : ByteArray) (k : Nat) : (uc s k).length = k := by simp [uc]
theorem uc_succ (s : ByteArray) (k : Nat) : uc s (k + 1) = uc s k ++ [.int .u16 (un s k)] := by simp [uc, List.range_succ]
theorem uc_set (s : ByteArray) (k n : Nat) (h : k < n) (z : Value) : (uc s k ++ List.replicate (n - k) z).set k (.int .u16 (un s k)) = uc s (k + 1) ++ List.replicate (n - (k + 1)) z := by
  rw [List.set_append_right _ _ (by rw [uc_length]; omega), uc_length, Nat.sub_self, show n - k = (n - (k + 1)) + 1 from by omega, List.replicate_succ, List.set_cons_zero, uc_succ]
  simp
theorem uc_get (s : ByteArray) (k i : Nat) (h : i < k) : (uc s k)[i]? = some (.int .u16 (un s i)) := by
  simp [uc, h]
theorem at_add (g j : Nat) : (⟨g, 0, none⟩ : Addr).add j = ⟨g, j, none⟩ := by unfold Addr.add; split <;> simp_all
theorem made_one (z : Value) (n : Nat) (hz : z.cells = #[z]) : (madeCells z.cells (n * 1)).toList = List.replicate n z := by
  rw [hz]
  simp only [madeCells, Nat.mul_one, List.size_toArray, List.length_singleton, Nat.mod_one]
  apply List.ext_getElem
  · simp
  · intro i h1 h2; simp
theorem own_drewN {w : World} {B : Nat} {e : TypeId} {sz : Nat} {v : Value} {n : Nat} {xs : List Value} (h : w.ownsRow B e sz v n xs) (k : Nat) : (w.drewN k).ownsRow B e sz v n xs := h
theorem own_cell {w : World} {B : Nat} {e : TypeId} {g n cap : Nat} {xs : List Value} (h : w.ownsRow B e 1 (.slice (some ⟨g, 0, none⟩) n cap) n xs) {j : Nat} {u : Value} (hj : xs[j]? = some u) : w.cell? ⟨g, j, none⟩ = some u := by
  have := h.cells (g := g) rfl j u hj
  rwa [at_add] at this

end Go.Proofs.YtbkkkpfoaggejaaGreatDoor
