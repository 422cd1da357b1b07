/- The document's table of instructions. -/
import Derived.Test.YtlhiedlpjefbnaaDoorCdF
namespace Go.Proofs.YtlhiedlpjefbnaaDoor
set_option linter.unusedVariables false
set_option linter.unusedSimpArgs false
open Go.RowKit

def tblL : List (List UInt8) := [[76, 111, 97, 100, 32, 114, 110], [67, 111, 110, 115, 116, 32, 114, 107], [77, 111, 118, 101, 32, 114, 114], [84, 104, 105, 115, 32, 114], [67, 97, 108, 108, 101, 101, 32, 114], [71, 108, 111, 98, 97, 108, 32, 114, 115], [84, 114, 121, 32, 114, 115], [65, 115, 115, 105, 103, 110, 32, 115, 114], [67, 101, 108, 108, 32, 114, 114], [80, 101, 101, 107, 32, 114, 114], [80, 111, 107, 101, 32, 114, 114], [85, 112, 32, 114, 117], [85, 112, 83, 101, 116, 32, 117, 114], [65, 115, 107, 32, 114, 115], [70, 105, 120, 101, 100, 32, 115], [67, 108, 111, 115, 117, 114, 101, 32, 114, 102], [74, 117, 109, 112, 32, 116], [73, 102, 32, 114, 116], [78, 111, 116, 32, 114, 116], [83, 97, 109, 101, 32, 114, 110, 116], [79, 98, 106, 101, 99, 116, 32, 114], [65, 114, 114, 97, 121, 32, 114], [76, 105, 115, 116, 32, 114], [80, 117, 115, 104, 32, 114, 114], [83, 112, 114, 101, 97, 100, 32, 114, 114], [80, 117, 116, 32, 114, 114, 114], [71, 101, 116, 116, 101, 114, 32, 114, 114, 114], [83, 101, 116, 116, 101, 114, 32, 114, 114, 114], [71, 101, 116, 32, 114, 114, 114], [83, 101, 116, 32, 114, 114, 114], [68, 101, 108, 101, 116, 101, 32, 114, 114, 114], [75, 101, 121, 32, 114, 114], [67, 97, 108, 108, 32, 114, 114, 114, 114], [78, 101, 119, 32, 114, 114, 114], [82, 101, 116, 117, 114, 110, 32, 114], [84, 104, 114, 111, 119, 32, 114], [75, 101, 121, 115, 32, 114, 114], [78, 101, 120, 116, 32, 114, 114, 116], [73, 116, 101, 114, 32, 114, 114], [83, 116, 101, 112, 32, 114, 114, 116], [67, 108, 111, 115, 101, 32, 114], [81, 117, 105, 101, 116, 32, 114], [84, 101, 120, 116, 32, 114, 114], [68, 111, 110, 101, 32, 114], [80, 108, 117, 115, 32, 114, 114], [77, 105, 110, 117, 115, 32, 114, 114], [70, 108, 105, 112, 32, 114, 114], [66, 97, 110, 103, 32, 114, 114], [84, 121, 112, 101, 32, 114, 114]]
def tblV : Array Value := #[.string ⟨#[76, 111, 97, 100, 32, 114, 110]⟩, .string ⟨#[67, 111, 110, 115, 116, 32, 114, 107]⟩, .string ⟨#[77, 111, 118, 101, 32, 114, 114]⟩, .string ⟨#[84, 104, 105, 115, 32, 114]⟩, .string ⟨#[67, 97, 108, 108, 101, 101, 32, 114]⟩, .string ⟨#[71, 108, 111, 98, 97, 108, 32, 114, 115]⟩, .string ⟨#[84, 114, 121, 32, 114, 115]⟩, .string ⟨#[65, 115, 115, 105, 103, 110, 32, 115, 114]⟩, .string ⟨#[67, 101, 108, 108, 32, 114, 114]⟩, .string ⟨#[80, 101, 101, 107, 32, 114, 114]⟩, .string ⟨#[80, 111, 107, 101, 32, 114, 114]⟩, .string ⟨#[85, 112, 32, 114, 117]⟩, .string ⟨#[85, 112, 83, 101, 116, 32, 117, 114]⟩, .string ⟨#[65, 115, 107, 32, 114, 115]⟩, .string ⟨#[70, 105, 120, 101, 100, 32, 115]⟩, .string ⟨#[67, 108, 111, 115, 117, 114, 101, 32, 114, 102]⟩, .string ⟨#[74, 117, 109, 112, 32, 116]⟩, .string ⟨#[73, 102, 32, 114, 116]⟩, .string ⟨#[78, 111, 116, 32, 114, 116]⟩, .string ⟨#[83, 97, 109, 101, 32, 114, 110, 116]⟩, .string ⟨#[79, 98, 106, 101, 99, 116, 32, 114]⟩, .string ⟨#[65, 114, 114, 97, 121, 32, 114]⟩, .string ⟨#[76, 105, 115, 116, 32, 114]⟩, .string ⟨#[80, 117, 115, 104, 32, 114, 114]⟩, .string ⟨#[83, 112, 114, 101, 97, 100, 32, 114, 114]⟩, .string ⟨#[80, 117, 116, 32, 114, 114, 114]⟩, .string ⟨#[71, 101, 116, 116, 101, 114, 32, 114, 114, 114]⟩, .string ⟨#[83, 101, 116, 116, 101, 114, 32, 114, 114, 114]⟩, .string ⟨#[71, 101, 116, 32, 114, 114, 114]⟩, .string ⟨#[83, 101, 116, 32, 114, 114, 114]⟩, .string ⟨#[68, 101, 108, 101, 116, 101, 32, 114, 114, 114]⟩, .string ⟨#[75, 101, 121, 32, 114, 114]⟩, .string ⟨#[67, 97, 108, 108, 32, 114, 114, 114, 114]⟩, .string ⟨#[78, 101, 119, 32, 114, 114, 114]⟩, .string ⟨#[82, 101, 116, 117, 114, 110, 32, 114]⟩, .string ⟨#[84, 104, 114, 111, 119, 32, 114]⟩, .string ⟨#[75, 101, 121, 115, 32, 114, 114]⟩, .string ⟨#[78, 101, 120, 116, 32, 114, 114, 116]⟩, .string ⟨#[73, 116, 101, 114, 32, 114, 114]⟩, .string ⟨#[83, 116, 101, 112, 32, 114, 114, 116]⟩, .string ⟨#[67, 108, 111, 115, 101, 32, 114]⟩, .string ⟨#[81, 117, 105, 101, 116, 32, 114]⟩, .string ⟨#[84, 101, 120, 116, 32, 114, 114]⟩, .string ⟨#[68, 111, 110, 101, 32, 114]⟩, .string ⟨#[80, 108, 117, 115, 32, 114, 114]⟩, .string ⟨#[77, 105, 110, 117, 115, 32, 114, 114]⟩, .string ⟨#[70, 108, 105, 112, 32, 114, 114]⟩, .string ⟨#[66, 97, 110, 103, 32, 114, 114]⟩, .string ⟨#[84, 121, 112, 101, 32, 114, 114]⟩]
def binV : Array Value := #[.string ⟨#[43]⟩, .string ⟨#[45]⟩, .string ⟨#[42]⟩, .string ⟨#[47]⟩, .string ⟨#[37]⟩, .string ⟨#[42, 42]⟩, .string ⟨#[60, 60]⟩, .string ⟨#[62, 62]⟩, .string ⟨#[62, 62, 62]⟩, .string ⟨#[38]⟩, .string ⟨#[124]⟩, .string ⟨#[94]⟩, .string ⟨#[60]⟩, .string ⟨#[62]⟩, .string ⟨#[60, 61]⟩, .string ⟨#[62, 61]⟩, .string ⟨#[61, 61]⟩, .string ⟨#[33, 61]⟩, .string ⟨#[61, 61, 61]⟩, .string ⟨#[33, 61, 61]⟩, .string ⟨#[105, 110]⟩, .string ⟨#[105, 110, 115, 116, 97, 110, 99, 101, 111, 102]⟩]
theorem tblV_get (op : Nat) (h : op < 49) : tblV[op]? = some (.string (Sb (tblL.getD op []))) := by
  have key : ∀ k : Fin 49, tblV[k.val]? = some (.string (Sb (tblL.getD k.val []))) := by
    intro k
    match k with
    | ⟨0, _⟩ => exact rfl
    | ⟨1, _⟩ => exact rfl
    | ⟨2, _⟩ => exact rfl
    | ⟨3, _⟩ => exact rfl
    | ⟨4, _⟩ => exact rfl
    | ⟨5, _⟩ => exact rfl
    | ⟨6, _⟩ => exact rfl
    | ⟨7, _⟩ => exact rfl
    | ⟨8, _⟩ => exact rfl
    | ⟨9, _⟩ => exact rfl
    | ⟨10, _⟩ => exact rfl
    | ⟨11, _⟩ => exact rfl
    | ⟨12, _⟩ => exact rfl
    | ⟨13, _⟩ => exact rfl
    | ⟨14, _⟩ => exact rfl
    | ⟨15, _⟩ => exact rfl
    | ⟨16, _⟩ => exact rfl
    | ⟨17, _⟩ => exact rfl
    | ⟨18, _⟩ => exact rfl
    | ⟨19, _⟩ => exact rfl
    | ⟨20, _⟩ => exact rfl
    | ⟨21, _⟩ => exact rfl
    | ⟨22, _⟩ => exact rfl
    | ⟨23, _⟩ => exact rfl
    | ⟨24, _⟩ => exact rfl
    | ⟨25, _⟩ => exact rfl
    | ⟨26, _⟩ => exact rfl
    | ⟨27, _⟩ => exact rfl
    | ⟨28, _⟩ => exact rfl
    | ⟨29, _⟩ => exact rfl
    | ⟨30, _⟩ => exact rfl
    | ⟨31, _⟩ => exact rfl
    | ⟨32, _⟩ => exact rfl
    | ⟨33, _⟩ => exact rfl
    | ⟨34, _⟩ => exact rfl
    | ⟨35, _⟩ => exact rfl
    | ⟨36, _⟩ => exact rfl
    | ⟨37, _⟩ => exact rfl
    | ⟨38, _⟩ => exact rfl
    | ⟨39, _⟩ => exact rfl
    | ⟨40, _⟩ => exact rfl
    | ⟨41, _⟩ => exact rfl
    | ⟨42, _⟩ => exact rfl
    | ⟨43, _⟩ => exact rfl
    | ⟨44, _⟩ => exact rfl
    | ⟨45, _⟩ => exact rfl
    | ⟨46, _⟩ => exact rfl
    | ⟨47, _⟩ => exact rfl
    | ⟨48, _⟩ => exact rfl
    | ⟨n + 49, h⟩ => exact absurd h (by omega)
  exact key ⟨op, h⟩
theorem binV_get (op : Nat) (h : op < 22) : ∃ s, binV[op]? = some (.string s) := by
  have key : ∀ k : Fin 22, ∃ s, binV[k.val]? = some (.string s) := by
    intro k
    match k with
    | ⟨0, _⟩ => exact ⟨_, rfl⟩
    | ⟨1, _⟩ => exact ⟨_, rfl⟩
    | ⟨2, _⟩ => exact ⟨_, rfl⟩
    | ⟨3, _⟩ => exact ⟨_, rfl⟩
    | ⟨4, _⟩ => exact ⟨_, rfl⟩
    | ⟨5, _⟩ => exact ⟨_, rfl⟩
    | ⟨6, _⟩ => exact ⟨_, rfl⟩
    | ⟨7, _⟩ => exact ⟨_, rfl⟩
    | ⟨8, _⟩ => exact ⟨_, rfl⟩
    | ⟨9, _⟩ => exact ⟨_, rfl⟩
    | ⟨10, _⟩ => exact ⟨_, rfl⟩
    | ⟨11, _⟩ => exact ⟨_, rfl⟩
    | ⟨12, _⟩ => exact ⟨_, rfl⟩
    | ⟨13, _⟩ => exact ⟨_, rfl⟩
    | ⟨14, _⟩ => exact ⟨_, rfl⟩
    | ⟨15, _⟩ => exact ⟨_, rfl⟩
    | ⟨16, _⟩ => exact ⟨_, rfl⟩
    | ⟨17, _⟩ => exact ⟨_, rfl⟩
    | ⟨18, _⟩ => exact ⟨_, rfl⟩
    | ⟨19, _⟩ => exact ⟨_, rfl⟩
    | ⟨20, _⟩ => exact ⟨_, rfl⟩
    | ⟨21, _⟩ => exact ⟨_, rfl⟩
    | ⟨n + 22, h⟩ => exact absurd h (by omega)
  exact key ⟨op, h⟩
/-- Where a row's blank stands. -/
def blk (op : Nat) : Nat := (tblL.getD op []).findIdx (· == 32)
theorem tbl_ok (op : Nat) (h : op < 49) : blk op < (tblL.getD op []).length ∧ (tblL.getD op []).getD (blk op) 0 = 32 ∧ (∀ j, j < blk op → (tblL.getD op []).getD j 0 ≠ 32) ∧ (tblL.getD op []).drop (blk op + 1) = letsOf op ∧ (tblL.getD op []).length ≤ 30 := by
  have key : ∀ k : Fin 49, blk k.val < (tblL.getD k.val []).length ∧ (tblL.getD k.val []).getD (blk k.val) 0 = 32 ∧ (∀ j, j < blk k.val → (tblL.getD k.val []).getD j 0 ≠ 32) ∧ (tblL.getD k.val []).drop (blk k.val + 1) = letsOf k.val ∧ (tblL.getD k.val []).length ≤ 30 := by decide +kernel
  exact key ⟨op, h⟩
set_option maxHeartbeats 2000000 in
set_option maxRecDepth 100000 in
theorem table_any (w : World) : Calls Tryd.prog 59 #[] w fun e w' => e = .returned (.slice (some ⟨w.heap.size, 0, none⟩) 49 49) ∧ w' = w.alloc (.cells tblV 9) := by
  go_enter Tryd.func59, Tryd.ntmps59
  go_wp2
  go_ret
  exact ⟨rfl, rfl⟩
set_option maxHeartbeats 2000000 in
set_option maxRecDepth 100000 in
theorem binary_any (w : World) : Calls Tryd.prog 60 #[.int .i64 22] w fun e w' => e = .returned (.slice (some ⟨w.heap.size, 0, none⟩) 22 22) ∧ w' = w.alloc (.cells binV 9) := by
  go_enter Tryd.func60, Tryd.ntmps60
  go_wp2
  go_ret
  exact ⟨rfl, rfl⟩
end Go.Proofs.YtlhiedlpjefbnaaDoor
