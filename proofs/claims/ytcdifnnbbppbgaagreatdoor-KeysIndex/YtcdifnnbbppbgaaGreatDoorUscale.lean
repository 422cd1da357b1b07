/- internal/strconv.uscale, prescale, shortFloat: what they give is a function of what they are given. -/
import Derived.Test.YtcdifnnbbppbgaaGreatDoorScv
import Derived.Deep.RegionWith
namespace Go.Proofs.YtcdifnnbbppbgaaGreatDoor
set_option linter.unusedVariables false
open Go.RowKit Fl

def uscI (A M N k : Nat) : Int := if (IntKind.u64.wrap ((A : Int) / 2 ^ k * 2 ^ k) != (A : Int)) = true then bits .or .u64 ((A : Int) / 2 ^ k) 1 else bits .or .u64 (IntKind.u64.wrap ((A : Int) - ((decide (M < N)).toNat : Nat)) / 2 ^ k) ((decide (1 < IntKind.u64.wrap ((M : Int) - (N : Int)))).toNat : Nat)
theorem i64_and63 (k : Nat) (h : k < 64) : bits .and .i64 (k : Int) 63 = (k : Int) := by
  have e2 : k &&& 63 = k := by
    have := Nat.and_two_pow_sub_one_eq_mod k 6
    rw [show 2 ^ 6 - 1 = 63 from rfl] at this
    rw [this]
    omega
  show IntKind.i64.wrap ((BitVec.ofInt 64 (k : Int) &&& BitVec.ofInt 64 ((63 : Nat) : Int)).toNat : Int) = _
  rw [BitVec.toNat_and, ofInt_u64 _ (by omega), ofInt_u64 _ (by omega), IntKind.wrap_i64, e2]
  omega

set_option maxHeartbeats 1000000 in
set_option maxRecDepth 100000 in
theorem uscale_any (x hi lo k g o : Nat) (w : World) (hx : x < 18446744073709551616) (hh : hi < 18446744073709551616) (hl : lo < 18446744073709551616) (hk : k < 64)
    (c0 : w.cell? ⟨g, o, none⟩ = some (.int .u64 hi)) (c1 : w.cell? ⟨g, o + 1, none⟩ = some (.int .u64 lo)) (c2 : w.cell? ⟨g, o + 2, none⟩ = some (.int .i64 k)) :
    Calls Tryz.prog 112 #[.int .u64 x, .pointer (some ⟨g, o, none⟩)] w fun e w' => e = .returned (.int .u64 (uscI (x * hi / 18446744073709551616) (x * hi % 18446744073709551616) (x * lo / 18446744073709551616) k)) ∧ ∃ n, w' = w.drewN n := by
  have H1 := Hid.mk' (fun W => mul64_any x hi hx hh W)
  have H2 := Hid.mk' (fun W => mul64_any x lo hx hl W)
  obtain ⟨A, hA⟩ : ∃ A, x * hi / 18446744073709551616 = A := ⟨_, rfl⟩
  obtain ⟨M, hM⟩ : ∃ M, x * hi % 18446744073709551616 = M := ⟨_, rfl⟩
  obtain ⟨N, hN⟩ : ∃ N, x * lo / 18446744073709551616 = N := ⟨_, rfl⟩
  rw [hA, hM] at H1
  rw [hN] at H2
  rw [hA, hM, hN]
  go_enter Tryz.func112, Tryz.ntmps112
  go_wp2_with fail
  refine (H1.out _).mono ?_
  rintro e w3 ⟨rfl, hw3⟩
  rw [hw3]; clear hw3 w3
  have h63 := i64_and63 k hk
  go_wp2_with fail
  · rename_i h
    go_ret
    exact ⟨by unfold uscI; rw [if_pos h]; rfl, 0, rfl⟩
  · have HN : Hid (¬ (IntKind.u64.wrap ((A : Int) / 2 ^ k * 2 ^ k) != (A : Int)) = true) := by
      intro q
      have q2 : (IntKind.u64.wrap ((A : Int) / 2 ^ k * 2 ^ k) != (A : Int)) = false := by assumption
      rw [q2] at q
      cases q
    refine (H2.out _).mono ?_
    rintro e w3 ⟨rfl, hw3⟩
    rw [hw3]; clear hw3 w3
    go_wp2_with (go_at_call 127; refine (bool2_u64 _ _).mono ?_; rintro e w3 ⟨rfl, hw3⟩; rw [hw3]; clear hw3 w3)
    go_region_with (go_at_call 127; refine (bool2_u64 _ _).mono ?_; rintro e w3 ⟨rfl, hw3⟩; rw [hw3]; clear hw3 w3)
    go_wp2
    go_ret
    exact ⟨by unfold uscI; rw [if_neg HN.out]; rfl, _, rfl⟩
end Go.Proofs.YtcdifnnbbppbgaaGreatDoor
