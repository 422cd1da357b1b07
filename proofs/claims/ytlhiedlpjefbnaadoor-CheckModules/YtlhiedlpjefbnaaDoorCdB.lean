/- Package code's reader: numbers, flags, texts. -/
import Derived.Test.YtlhiedlpjefbnaaDoorCdA
import Derived.Test.YtlhiedlpjefbnaaDoorCdP
namespace Go.Proofs.YtlhiedlpjefbnaaDoor
set_option linter.unusedVariables false
open Go.RowKit

abbrev isNum (_ : World) (n : Nat) (v : Value) : Prop := v = .int .i64 (n : Int)
abbrev isFlag (_ : World) (b : Bool) (v : Value) : Prop := v = .bool b
abbrev isText (_ : World) (s : ByteArray) (v : Value) : Prop := v = .string s

theorem andNot7 : ∀ b : UInt8, bits BinOp.andNot IntKind.u8 (b.toNat : Int) 128 = ((b.toNat % 128 : Nat) : Int) := by
  intro b
  have h : ∀ n : Fin 256, bits BinOp.andNot IntKind.u8 ((n.val : Nat) : Int) 128 = ((n.val % 128 : Nat) : Int) := by decide +kernel
  exact h ⟨b.toNat, UInt8.toNat_lt b⟩
end Go.Proofs.YtlhiedlpjefbnaaDoor
