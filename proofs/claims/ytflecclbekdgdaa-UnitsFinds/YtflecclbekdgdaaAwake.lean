/- The examples that each statement of the first layer asks ahead of all else. -/
import Derived.Test.YtflecclbekdgdaaText
import Derived.Test.YtflecclbekdgdaaUnits
namespace Go.Proofs.Ytflecclbekdgdaa
set_option linter.unusedVariables false
open Go.RowKit

theorem of_ex1 : ofS ⟨#[97, 226, 130, 172]⟩ = .ok [0, 97, 32, 172] := by kernel_rfl
theorem of_ex2 : ofS ⟨#[240, 159, 152, 128]⟩ = .ok [216, 61, 222, 0] := by kernel_rfl
theorem uc_ex : uc ⟨#[216, 61, 222, 0]⟩ ((⟨#[216, 61, 222, 0]⟩ : ByteArray).size / 2) = [.int .u16 55357, .int .u16 56832] := by kernel_rfl
theorem text_ex : textC (pts ⟨#[216, 0]⟩) = [239, 191, 189] := by kernel_rfl

set_option maxRecDepth 100000 in
set_option maxHeartbeats 1000000 in
theorem awake_any (w : World) : Calls Try.prog 4 #[] w fun e w' => e = .returned (.bool true) ∧ Below w.heap.size w w' := by
  go_enter Try.func4, Try.ntmps4
  go_wp2_with fail
  refine (of_any _ _ (by decide)).mono ?_
  rintro e w1 ⟨rfl, b1⟩
  rw [of_ex1]
  dsimp only [ofEnd]
  go_wp2_with fail
  refine (of_any _ _ (by decide)).mono ?_
  rintro e w2 ⟨rfl, b2⟩
  rw [of_ex2]
  dsimp only [ofEnd]
  go_wp2_with fail
  refine (units_any _ _ (by decide)).mono ?_
  rintro e w3 ⟨v, rfl, o3, b3⟩
  rw [uc_ex] at o3
  obtain ⟨g, cap, rfl⟩ : ∃ g cap, v = .slice (some ⟨g, 0, none⟩) 2 cap := ownsRow_succ (k := 1) o3
  have c0 : w3.cell? ⟨g, 0, none⟩ = some (.int .u16 55357) := own_cell o3 rfl
  have c1 : w3.cell? ⟨g, 1, none⟩ = some (.int .u16 56832) := own_cell o3 rfl
  clear o3
  go_wp2_with fail
  refine (text_core _ _ (by decide)).mono ?_
  rintro e w4 ⟨rfl, b4⟩
  rw [text_ex]
  go_wp2
  go_ret
  refine ⟨rfl, ?_⟩
  exact ((b1.trans (b2.mono b1.size)).trans (b3.mono (Nat.le_trans b1.size b2.size))).trans (b4.mono (Nat.le_trans b1.size (Nat.le_trans b2.size b3.size)))

end Go.Proofs.Ytflecclbekdgdaa
