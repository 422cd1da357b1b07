/- units.Cut and lintelref01.Cut: pieces of a text. -/
import Derived.Test.YtflecclbekdgdaaMake
import Derived.Test.YtflecclbekdgdaaClone
import Derived.Test.YtflecclbekdgdaaCmp
namespace Go.Proofs.Ytflecclbekdgdaa
set_option linter.unusedVariables false
open Go.RowKit

/-- A piece of a text. -/
def cutS (s : ByteArray) (i j : Int) : ByteArray := if min j ((s.size / 2 : Nat) : Int) ≤ max i 0 then ⟨#[]⟩ else s.extract (2 * (max i 0).toNat) (2 * (min j ((s.size / 2 : Nat) : Int)).toNat)
theorem cutS_no {s : ByteArray} {i j : Int} (h : min j ((s.size / 2 : Nat) : Int) ≤ max i 0) : cutS s i j = ⟨#[]⟩ := by unfold cutS; rw [if_pos h]
theorem cutS_yes {s : ByteArray} {i j : Int} (f t : Nat) (hf : max i 0 = f) (ht : min j ((s.size / 2 : Nat) : Int) = t) (h : f < t) : cutS s i j = s.extract (2 * f) (2 * t) := by
  unfold cutS; rw [hf, ht, if_neg (by omega)]; rfl

set_option maxHeartbeats 400000 in
theorem clamp_any (i : Int) (n : Nat) (w : World) :
    Calls Try.prog 15 #[.int .i64 i, .int .i64 n] w fun e w' => e = .returned (.int .i64 (max 0 (min i n))) ∧ w' = w := by
  by_cases h1 : i < 0
  · rw [show max 0 (min i (n : Int)) = 0 from by omega]
    go_enter Try.func15, Try.ntmps15
    go_wp2
    go_ret
    exact ⟨rfl, rfl⟩
  · by_cases h2 : (n : Int) < i
    · rw [show max 0 (min i (n : Int)) = n from by omega]
      go_enter Try.func15, Try.ntmps15
      go_wp2
      go_ret
      exact ⟨rfl, rfl⟩
    · rw [show max 0 (min i (n : Int)) = i from by omega]
      go_enter Try.func15, Try.ntmps15
      go_wp2
      go_ret
      exact ⟨rfl, rfl⟩

end Go.Proofs.Ytflecclbekdgdaa
