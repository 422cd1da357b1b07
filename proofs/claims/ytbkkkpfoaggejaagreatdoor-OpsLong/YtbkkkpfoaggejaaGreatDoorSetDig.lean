/- internal/strconv.setDigits. -/
import Derived.Test.YtbkkkpfoaggejaaGreatDoorShLow
import Derived.Test.YtbkkkpfoaggejaaGreatDoorShelf
import Derived.Lib.AppendIntMem
namespace Go.Proofs.YtbkkkpfoaggejaaGreatDoor
set_option linter.unusedVariables false
open Go.RowKit Fl Go.Sort

def zeros32 : Array Value := #[Value.int .u8 0, Value.int .u8 0, Value.int .u8 0, Value.int .u8 0, Value.int .u8 0, Value.int .u8 0, Value.int .u8 0, Value.int .u8 0, Value.int .u8 0, Value.int .u8 0, Value.int .u8 0, Value.int .u8 0, Value.int .u8 0, Value.int .u8 0, Value.int .u8 0, Value.int .u8 0, Value.int .u8 0, Value.int .u8 0, Value.int .u8 0, Value.int .u8 0, Value.int .u8 0, Value.int .u8 0, Value.int .u8 0, Value.int .u8 0, Value.int .u8 0, Value.int .u8 0, Value.int .u8 0, Value.int .u8 0, Value.int .u8 0, Value.int .u8 0, Value.int .u8 0, Value.int .u8 0]
theorem zeros32_at (i : Nat) (h : i < 32) : zeros32[i]? = some (.int .u8 0) := by
  have e : zeros32 = Array.replicate 32 (.int .u8 0) := rfl
  rw [e, Array.getElem?_replicate, if_pos h]
theorem holds_zero32 (w : World) (g : Nat) (T : TypeId) (nd : Nat) (hs : nd ≤ 32) (hz : w.heap[g]? = some (.cells zeros32 T (0, 0))) : Holds (fun (b : UInt8) => Value.int .u8 (b.toNat : Int)) w g 0 (Array.replicate nd (0 : UInt8)) := fun j hj => by
  have hj' : j < nd := by simpa using hj
  refine ⟨?_, ?_⟩
  · unfold World.cell?
    simp only [hz]
    have := zeros32_at (0 + j) (by omega)
    rw [getElem!_pos _ j hj]
    simpa using this
  · unfold World.frozen?
    simp [hz]
theorem below_putRow (w : World) (g k : Nat) (dk : Array UInt8) : Below g w ((putRow (fun (b : UInt8) => Value.int .u8 (b.toNat : Int)) w g 0 dk).drewN k) := by
  refine ⟨rfl, rfl, rfl, ?_, fun i hi => ?_⟩
  · show w.heap.size ≤ (w.heap.modify g _).size
    simp
  · show (w.heap.modify g _)[i]? = _
    rw [Array.getElem?_modify, if_neg (by omega)]
def RowT (w : World) (g : Nat) (T : TypeId) : Prop := ∃ cs fz, w.heap[g]? = some (.cells cs T fz)
/-- The digit at a place of so many. -/
def dgN (d nd t : Nat) : Nat := 48 + d / 10 ^ (nd - 1 - t) % 10
theorem dgN_lt (d nd t : Nat) : 48 ≤ dgN d nd t ∧ dgN d nd t ≤ 57 := by unfold dgN; omega
/-- How many digits there are without noughts at the end. -/
def trimTo (d nd : Nat) : Nat → Nat
  | 0 => 0
  | n + 1 => if dgN d nd n = 48 then trimTo d nd n else n + 1
theorem trimTo_le (d nd : Nat) : ∀ n, trimTo d nd n ≤ n
  | 0 => Nat.le_refl _
  | n + 1 => by
    unfold trimTo
    split
    · exact Nat.le_succ_of_le (trimTo_le d nd n)
    · exact Nat.le_refl _

theorem u8_nat (c : Int) (h : 0 ≤ c) : c = (c.toNat : Int) := by omega

set_option maxHeartbeats 1000000 in
set_option maxRecDepth 100000 in
theorem setDigits_any (d nd g : Nat) (p : Int) (w : World) (hz : w.heap[g]? = some (.cells zeros32 228 (0, 0))) (hnd : nd ≤ 20) (hu : d < 10 ^ nd) (hd : d < 18446744073709551616) (hp : -1000 ≤ p ∧ p ≤ 1000) :
    Calls Tryz.prog 246 #[.slice (some ⟨g, 0, none⟩) 32 32, .int .u64 d, .int .i64 p, .int .i64 nd] w fun e w' => e = .returned (.tuple #[.int .i64 ((nd : Int) + p), .int .i64 (trimTo d nd nd : Nat)]) ∧ Below g w w' ∧ (∀ j, j < nd → w'.cell? ⟨g, j, none⟩ = some (.int .u8 (dgN d nd j : Nat))) ∧ RowT w' g 228 := by
  have hH0 := holds_zero32 w g 228 nd (by omega) hz
  have hfmt := Hid.mk' (Tryz.internal_strconv_formatBase10 g 0 32 d (Array.replicate nd 0) w hH0 (by rw [Array.size_replicate]; exact hu) hd (by rw [Array.size_replicate]; omega))
  rw [Array.size_replicate] at hfmt
  have HH0 := Hid.mk' hH0
  clear hH0
  have HZ := Hid.mk' hz
  clear hz
  go_enter Tryz.func246, Tryz.ntmps246
  go_wp2_with fail
  refine hfmt.out.mono ?_
  rintro e w1 ⟨rfl, k, v', dk, hw1, hF⟩
  have hB : Below g w w1 := by rw [hw1]; exact below_putRow w g k dk
  have hc : ∀ j : Nat, j < nd → w1.cell? ⟨g, j, none⟩ = some (.int .u8 (dgN d nd j : Nat)) := fun j hj => by
    rw [hw1, World.cell?_drewN]
    have := cell?_putRow (fun (b : UInt8) => Value.int .u8 (b.toNat : Int)) _ g 0 _ dk HH0.out (by rw [hF.size, Array.size_replicate]) j (by rw [hF.size]; exact hj)
    rw [Nat.zero_add] at this
    rw [this, hF.done j (Nat.zero_le _) hj]
    unfold Lib.dg dgN
    simp
    omega
  have hT : RowT w1 g 228 := by
    unfold RowT
    rw [hw1, World.heap_drewN]
    unfold putRow mapBlock
    simp only [Array.getElem?_modify, if_true]
    rw [HZ.out]
    exact ⟨_, _, rfl⟩
  have HT' := Hid.mk' hT
  have HC := Hid.mk' hc
  have HB := Hid.mk' hB
  clear hw1 hF hc hB HH0 hfmt hT
  go_wp2
  go_loop [3] (fun v => ∃ n : Nat, v = .int .i64 n ∧ n ≤ nd ∧ Hid (trimTo d nd nd = trimTo d nd n)) (fun v => (intOf v).toNat)
  case atStart => exact ⟨nd, rfl, Nat.le_refl _, rfl⟩
  case round =>
    obtain ⟨n, rfl, hn, HE⟩ := hrel
    rcases n with _ | n
    · go_wp2
      go_ret2
      exact ⟨by rw [HE.out]; rfl, HB.out, HC.out, HT'.out⟩
    · have c0 := HC.out n (by omega)
      obtain ⟨c, hcc⟩ : ∃ c : Int, ((dgN d nd n : Nat) : Int) = c := ⟨_, rfl⟩
      rw [hcc] at c0
      have HQ := Hid.mk' hcc
      clear hcc
      by_cases hz : c = 48
      · have hb : (c == 48) = true := by simp [hz]
        have HT : Hid (trimTo d nd (n + 1) = trimTo d nd n) := by
          have := HQ.out
          show _ = _
          conv => lhs; unfold trimTo
          rw [if_pos (by omega)]
        clear hz
        go_wp2
        go_round
        case rel => exact ⟨n, by go_num, by omega, HE.out.trans HT.out⟩
        case measure => simp [intOf]
      · have hb : (c == 48) = false := by simp [hz]
        have HT : Hid (trimTo d nd (n + 1) = n + 1) := by
          have := HQ.out
          show _ = _
          conv => lhs; unfold trimTo
          rw [if_neg (by omega)]
        clear hz
        go_wp2
        go_ret2
        exact ⟨by rw [HE.out, HT.out]; rfl, HB.out, HC.out, HT'.out⟩
end Go.Proofs.YtbkkkpfoaggejaaGreatDoor
