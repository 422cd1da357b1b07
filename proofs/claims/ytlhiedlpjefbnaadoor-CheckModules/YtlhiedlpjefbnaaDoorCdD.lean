/- Package code's reader: the bits of a number. -/
import Derived.Test.YtlhiedlpjefbnaaDoorCdC
namespace Go.Proofs.YtlhiedlpjefbnaaDoor
set_option linter.unusedVariables false
open Go.RowKit

theorem or_byte (u b : Nat) (hu : u < 2 ^ 56) (hb : b < 256) : bits BinOp.or IntKind.u64 (IntKind.u64.wrap ((u : Int) * 256)) (b : Int) = ((u * 256 + b : Nat) : Int) := by
  have w : ∀ n : Int, 0 ≤ n → n < 2 ^ 64 → IntKind.u64.wrap n = n := fun n h0 h1 => by rw [IntKind.wrap_u64]; omega
  rw [w _ (by omega) (by omega)]
  rw [bits_join .u64 64 (by decide) w 8 ((u : Int) * 256) (b : Int) (by omega) (by omega) (by omega) (by omega) (by omega) (by omega)]
  omega
theorem wordP_take (l : List UInt8) (j : Nat) (h : j < l.length) : wordP 0 (l.take (j + 1)) = wordP 0 (l.take j) * 256 + l[j].toNat := by
  rw [List.take_succ_eq_append_getElem h]
  unfold wordP
  rw [List.foldl_append]
  rfl
end Go.Proofs.YtlhiedlpjefbnaaDoor
