/- Package code's reader: numbers, flags, texts. Package code's reader: flags, texts, bits, constants, tries, captures. Package code's reader: the bits of a number. Package code's reader: constants, tries, captures. -/
import Derived.Test.YtcagfjogfbddeaaDoorCdA
import Derived.Test.YtcagfjogfbddeaaDoorCdP
import Derived.RangeFuncRecord
namespace Go.Proofs.YtcagfjogfbddeaaDoor
set_option linter.unusedVariables false
open Go.RowKit

abbrev isNum (_ : World) (n : Nat) (v : Value) : Prop := v = .int .i64 (n : Int)
abbrev isFlag (_ : World) (b : Bool) (v : Value) : Prop := v = .bool b
abbrev isText (_ : World) (s : ByteArray) (v : Value) : Prop := v = .string s

theorem andNot7 : ∀ b : UInt8, bits BinOp.andNot IntKind.u8 (b.toNat : Int) 128 = ((b.toNat % 128 : Nat) : Int) := by
  intro b
  have h : ∀ n : Fin 256, bits BinOp.andNot IntKind.u8 ((n.val : Nat) : Int) 128 = ((n.val % 128 : Nat) : Int) := by decide +kernel
  exact h ⟨b.toNat, UInt8.toNat_lt b⟩
end Go.Proofs.YtcagfjogfbddeaaDoor

namespace Go.Proofs.YtcagfjogfbddeaaDoor
set_option linter.unusedVariables false
open Go.RowKit

end Go.Proofs.YtcagfjogfbddeaaDoor

namespace Go.Proofs.YtcagfjogfbddeaaDoor
set_option linter.unusedVariables false
open Go.RowKit

theorem or_byte (u b : Nat) (hu : u < 2 ^ 56) (hb : b < 256) : bits BinOp.or IntKind.u64 (IntKind.u64.wrap ((u : Int) * 256)) (b : Int) = ((u * 256 + b : Nat) : Int) := by
  have w : ∀ n : Int, 0 ≤ n → n < 2 ^ 64 → IntKind.u64.wrap n = n := fun n h0 h1 => by rw [IntKind.wrap_u64]; omega
  rw [w _ (by omega) (by omega)]
  rw [bits_join .u64 64 (by decide) w 8 ((u : Int) * 256) (b : Int) (by omega) (by omega) (by omega) (by omega) (by omega) (by omega)]
  omega
theorem wordP_take (l : List UInt8) (j : Nat) (h : j < l.length) : wordP 0 (l.take (j + 1)) = wordP 0 (l.take j) * 256 + l[j].toNat := by
  rw [List.take_succ_eq_append_getElem h]
  unfold wordP
  rw [List.foldl_append]
  rfl
end Go.Proofs.YtcagfjogfbddeaaDoor

namespace Go.Proofs.YtcagfjogfbddeaaDoor
set_option linter.unusedVariables false
set_option linter.unusedSimpArgs false
open Go.RowKit

theorem Fr.box {rb k : Nat} {X Y : World} {c : Array Value} {t : TypeId} (h : Fr rb X Y) (hk : k ≠ rb) (hb : X.heap[k]? = some (.cells c t (0, 0))) : (∀ j v, c[j]? = some v → Y.cell? ⟨k, j, none⟩ = some v) ∧ (∀ j, Y.frozen? ⟨k, j, none⟩ = false) := by
  have h' := h.same k _ hk hb
  exact ⟨fun j v hv => by rw [cell_row _ k j _ _ h']; exact hv, fun j => thaw_row _ _ _ _ h' j⟩
theorem box_new {w : World} {c : Array Value} {t : TypeId} : (w.alloc (.cells c t)).heap[w.heap.size]? = some (.cells c t (0, 0)) := World.alloc_heap_new w _
theorem lay_below {w : World} {o : Obj} : Below w.heap.size w (w.alloc o) := (Below.refl _ _).alloc (Nat.le_refl _) _
theorem res_cell {fn : Func} {p : Tmp} {ty : TypeId} (h : fn.results = #[.cell p ty]) (tmps : Array Value) (P : Program) (w : World) :
    (results fn tmps).run P w = ((asAddr (tmps.getD p undef)).run P w).andThen fun a w₁ => (loadVar ty a).run P w₁ := by
  simp only [results, h]
  simp [Sem.run_bind, Result.andThen]
end Go.Proofs.YtcagfjogfbddeaaDoor
