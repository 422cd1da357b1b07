/- lintelref01.Compare: the document's order of texts. -/
import Derived.Test.YtaknclffnoljlaaGreatDoorCut
import Derived.Test.YtaknclffnoljlaaGreatDoorOwn
namespace Go.Proofs.YtaknclffnoljlaaGreatDoor
set_option linter.unusedVariables false
open Go.RowKit

set_option maxHeartbeats 400000 in
set_option maxRecDepth 100000 in
theorem rcompare_wide (a b : ByteArray) (w : World) (ha : (a.size : Int) ≤ 140737488351232) (hb : (b.size : Int) ≤ 140737488351232) :
    Calls Tryz.prog 19 #[.string a, .string b] w fun e w' => e = .returned (.int .i64 (cmpK a b 0)) ∧ Below w.heap.size w w' := by
  go_enter Tryz.func19, Tryz.ntmps19
  go_wp2_with fail
  refine (runits_wide a _ ha).mono ?_
  rintro e w1 ⟨v1, rfl, o1, b1⟩
  go_wp2_with fail
  refine (runits_wide b _ hb).mono ?_
  rintro e w2 ⟨v2, rfl, o2, b2⟩
  have o1' := own_below o1 b2
  have b12 : Below w.heap.size w w2 := b1.trans (b2.mono b1.size)
  obtain ⟨x1, c1, rfl⟩ := own_slice' o1' |>.imp fun _ h => h.imp fun _ h => h.1
  obtain ⟨x2, c2, rfl⟩ := own_slice' o2 |>.imp fun _ h => h.imp fun _ h => h.1
  clear o1 b1 b2
  go_wp2
  go_loopw [14] (fun v wr => ∃ (k n : Nat), v = .int .i64 k ∧ k ≤ a.size / 2 ∧ cmpK a b 0 = cmpK a b k ∧ wr = w2.drewN n) (fun v _ => a.size / 2 - (intOf v).toNat)
  case atStart => exact ⟨0, 0, rfl, Nat.zero_le _, rfl, rfl⟩
  case round =>
    obtain ⟨k, nn, rfl, hk, hcmp, rfl⟩ := hrel
    have HC := Hid.mk' hcmp
    clear hcmp
    by_cases hlt : k < a.size / 2
    · obtain ⟨g1, rfl⟩ := own_some o1' (by omega)
      by_cases hlb : k < b.size / 2
      · obtain ⟨g2, rfl⟩ := own_some o2 (by omega)
        have e1 : w2.cell? ⟨g1, k, none⟩ = some (.int .u16 (un a k)) := own_cell o1' (uc_get a _ k hlt)
        have e2 : w2.cell? ⟨g2, k, none⟩ = some (.int .u16 (un b k)) := own_cell o2 (uc_get b _ k hlb)
        have i1 : (k : Int) < ((a.size / 2 : Nat) : Int) := by omega
        have i2 : (k : Int) < ((b.size / 2 : Nat) : Int) := by omega
        have i3 : (0 : Int) ≤ (k : Int) := by omega
        rcases Nat.lt_trichotomy (un a k) (un b k) with h | h | h
        · have hh : (un a k : Int) < (un b k : Int) := by omega
          go_wp2
          go_quiet (fail)
          go_wp2
          go_ret
          rw [HC.out, cmpK_lt a b k hlt hlb h]
          exact ⟨rfl, below_drewN (below_drewN b12 _) _⟩
        · have hh : ¬ (un a k : Int) < (un b k : Int) := by omega
          have hh2 : ¬ (un b k : Int) < (un a k : Int) := by omega
          have HD := Hid.mk' (cmpK_eq a b k hlt hlb h)
          clear h
          go_wp2
          go_quiet (fail)
          go_wp2
          go_quiet (fail)
          go_wp2
          go_roundw
          case rel => exact ⟨k + 1, _, by go_num, by omega, HC.out.trans HD.out, rfl⟩
          case measure => simp [intOf]; omega
        · have hh : ¬ (un a k : Int) < (un b k : Int) := by omega
          have hh2 : (un b k : Int) < (un a k : Int) := by omega
          go_wp2
          go_quiet (fail)
          go_wp2
          go_quiet (fail)
          go_wp2
          go_ret
          rw [HC.out, cmpK_gt a b k hlt hlb h]
          exact ⟨rfl, below_drewN (below_drewN (below_drewN b12 _) _) _⟩
      · go_wp2
        go_ret
        rw [HC.out, cmpK_more a b k hlt hlb]
        exact ⟨rfl, below_drewN b12 _⟩
    · obtain rfl : k = a.size / 2 := by omega
      by_cases hlb : a.size / 2 < b.size / 2
      · go_wp2
        go_ret
        rw [HC.out, cmpK_less a b _ hlt hlb]
        exact ⟨rfl, below_drewN b12 _⟩
      · go_wp2
        go_ret
        rw [HC.out, cmpK_end a b _ hlt hlb]
        exact ⟨rfl, below_drewN b12 _⟩

theorem rcompare_any (a b : ByteArray) (w : World) (ha : (a.size : Int) ≤ 1048576) (hb : (b.size : Int) ≤ 1048576) :
    Calls Tryz.prog 19 #[.string a, .string b] w fun e w' => e = .returned (.int .i64 (cmpK a b 0)) ∧ Below w.heap.size w w' := rcompare_wide a b w (by omega) (by omega)

end Go.Proofs.YtaknclffnoljlaaGreatDoor
