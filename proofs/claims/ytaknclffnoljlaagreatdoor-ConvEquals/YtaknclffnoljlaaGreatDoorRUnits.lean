/- lintelref01.Units, Even: the document's units of a text. -/
import Derived.Test.YtaknclffnoljlaaGreatDoorOwn
import Derived.Test.YtaknclffnoljlaaGreatDoorBytes
namespace Go.Proofs.YtaknclffnoljlaaGreatDoor
set_option linter.unusedVariables false
open Go.RowKit

theorem un_raw (s : ByteArray) (k : Nat) (h0 : (2 * (k : Int)).toNat < s.size) (h1 : (2 * (k : Int) + 1).toNat < s.size) : ((s[(2 * (k : Int)).toNat]'h0).toNat : Int) * 256 + ((s[(2 * (k : Int) + 1).toNat]'h1).toNat : Int) = (un s k : Nat) := by
  have e0 : (2 * (k : Int)).toNat = 2 * k := by omega
  have e1 : (2 * (k : Int) + 1).toNat = 2 * k + 1 := by omega
  rw [show un s k = (s[2 * k]'(by omega)).toNat * 256 + (s[2 * k + 1]'(by omega)).toNat from by unfold un; rw [by_get s (2 * k) (by omega), by_get s (2 * k + 1) (by omega)]]
  simp only [e0, e1]
  omega

set_option maxHeartbeats 400000 in
set_option maxRecDepth 100000 in
theorem runits_wide (s : ByteArray) (w : World) (hs : (s.size : Int) ≤ 140737488351232) :
    Calls Tryz.prog 38 #[.string s] w fun e w' => ∃ v, e = .returned v ∧ w'.ownsRow w.heap.size 55 1 v (s.size / 2) (uc s (s.size / 2)) ∧ Below w.heap.size w w' := by
  obtain ⟨i0, hi, hz0, hz1, hz2⟩ := info_parts info16
  go_enter Tryz.func38, Tryz.ntmps38
  go_wp2
  go_loopw [3, 4] (fun v c wr => ∃ k : Nat, c = .int .i64 (2 * (k : Int)) ∧ k ≤ s.size / 2 ∧ wr.ownsRow w.heap.size 55 1 v k (uc s k) ∧ Below w.heap.size w wr) (fun _ c _ => s.size - (intOf c).toNat)
  case atStart => exact ⟨0, rfl, Nat.zero_le _, World.ownsRow_nil _ _ _ _, Below.refl _ _⟩
  case round =>
    obtain ⟨k, rfl, hk, hown, hbw⟩ := hrel
    have hBW : w.heap.size ≤ wr.heap.size := hbw.size
    by_cases hlt : k < s.size / 2
    · have i1 : (0 : Int) ≤ 2 * (k : Int) := by omega
      have i2 : 2 * (k : Int) < (s.size : Int) := by omega
      have i3 : (0 : Int) ≤ 2 * (k : Int) + 1 := by omega
      have i4 : 2 * (k : Int) + 1 < (s.size : Int) := by omega
      have x1 : IntKind.i64.wrap (2 * (k : Int) + 1) = 2 * (k : Int) + 1 := by rw [IntKind.wrap_i64]; omega
      have x2 : ∀ x : UInt8, IntKind.u16.wrap (x.toNat : Int) = x.toNat := fun x => by have := x.toNat_lt; rw [wraps_u16] <;> omega
      have x3 : ∀ x : UInt8, IntKind.u16.wrap ((x.toNat : Int) * 256) = (x.toNat : Int) * 256 := fun x => by have := x.toNat_lt; rw [wraps_u16] <;> omega
      have x4 : ∀ x y : UInt8, IntKind.u16.wrap ((x.toNat : Int) * 256 + (y.toNat : Int)) = (x.toNat : Int) * 256 + (y.toNat : Int) := fun x y => by have := x.toNat_lt; have := y.toNat_lt; rw [wraps_u16] <;> omega
      go_wp2
      go_region_law (refine step_append_own rfl (.tmp 12) (.tmp 24) 53 rfl w.heap.size 55 i0 (.int .u16 0) 1 2 Tryz.underlying53 hi hz0 hz1 hz2 rfl (by decide) _ _ _ rfl (World.ownsRow.alloc (show wr.drew.ownsRow _ _ _ _ _ _ from hown) _) _ 1 1 _ rfl (by rfl) (cells_new _ _ _) (by simp [Value.oneCell']) (by unfold maxLen; omega) (by omega) (by simp; omega) ?_; intro v1 w1 o1 g1)
      all_goals
        rw [un_raw, ← uc_succ] at o1
        have k1 : Below w.heap.size w w1 := (((hbw.drew).alloc hBW _).grown g1 (by simp; omega) (fun j hj => (hown.lt j hj).1))
        clear g1 x1 x2 x3 x4
        go_wp2
        go_roundw
        case rel => exact ⟨k + 1, by go_num, by omega, o1, k1⟩
        case measure => simp [intOf]; omega
    · have i4 : ¬ 2 * (k : Int) + 1 < (s.size : Int) := by omega
      obtain rfl : k = s.size / 2 := by omega
      go_wp2
      go_ret
      exact ⟨_, rfl, hown, hbw⟩

set_option maxHeartbeats 400000 in
set_option maxRecDepth 100000 in
theorem reven_wide (s : ByteArray) (w : World) (hs : (s.size : Int) ≤ 140737488351232) :
    Calls Tryz.prog 32 #[.string s] w fun e w' => e = .returned (.string (evenS s)) ∧ w' = w := by
  have h1 : (s.size : Int) / 2 * 2 ≤ (s.size : Int) := by omega
  have h2 : (0 : Int) ≤ (s.size : Int) / 2 * 2 := by omega
  go_enter Tryz.func32, Tryz.ntmps32
  go_wp2
  go_ret
  exact ⟨rfl, rfl⟩

theorem runits_any (s : ByteArray) (w : World) (hs : (s.size : Int) ≤ 1048576) :
    Calls Tryz.prog 38 #[.string s] w fun e w' => ∃ v, e = .returned v ∧ w'.ownsRow w.heap.size 55 1 v (s.size / 2) (uc s (s.size / 2)) ∧ Below w.heap.size w w' := runits_wide s w (by omega)
theorem reven_any (s : ByteArray) (w : World) (hs : (s.size : Int) ≤ 1048576) :
    Calls Tryz.prog 32 #[.string s] w fun e w' => e = .returned (.string (evenS s)) ∧ w' = w := reven_wide s w (by omega)

end Go.Proofs.YtaknclffnoljlaaGreatDoor
