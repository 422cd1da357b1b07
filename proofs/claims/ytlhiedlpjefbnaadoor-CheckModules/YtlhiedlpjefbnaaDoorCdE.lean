/- Package code's reader: constants, tries, captures. -/
import Derived.Test.YtlhiedlpjefbnaaDoorCdD
import Derived.RangeFuncRecord
namespace Go.Proofs.YtlhiedlpjefbnaaDoor
set_option linter.unusedVariables false
set_option linter.unusedSimpArgs false
open Go.RowKit

theorem Fr.box {rb k : Nat} {X Y : World} {c : Array Value} {t : TypeId} (h : Fr rb X Y) (hk : k ≠ rb) (hb : X.heap[k]? = some (.cells c t (0, 0))) : (∀ j v, c[j]? = some v → Y.cell? ⟨k, j, none⟩ = some v) ∧ (∀ j, Y.frozen? ⟨k, j, none⟩ = false) := by
  have h' := h.same k _ hk hb
  exact ⟨fun j v hv => by rw [cell_row _ k j _ _ h']; exact hv, fun j => thaw_row _ _ _ _ h' j⟩
theorem box_new {w : World} {c : Array Value} {t : TypeId} : (w.alloc (.cells c t)).heap[w.heap.size]? = some (.cells c t (0, 0)) := World.alloc_heap_new w _
theorem lay_below {w : World} {o : Obj} : Below w.heap.size w (w.alloc o) := (Below.refl _ _).alloc (Nat.le_refl _) _
theorem res_cell {fn : Func} {p : Tmp} {ty : TypeId} (h : fn.results = #[.cell p ty]) (tmps : Array Value) (P : Program) (w : World) :
    (results fn tmps).run P w = ((asAddr (tmps.getD p undef)).run P w).andThen fun a w₁ => (loadVar ty a).run P w₁ := by
  simp only [results, h]
  simp [Sem.run_bind, Result.andThen]
end Go.Proofs.YtlhiedlpjefbnaaDoor
