/- few: whether keys are small enough: some answer. -/
import Derived.Test.YtcjpoabknlpopaaDoorKOrd0
namespace Go.Proofs.YtcjpoabknlpopaaDoor
set_option linter.unusedVariables false
open Go.RowKit

set_option maxHeartbeats 1000000 in
set_option maxRecDepth 100000 in
theorem few_any (l : KL) (hn : (l.length : Int) * 24 ≤ 140737488351232) (hz : ∀ p ∈ l, (p.1.size : Int) ≤ 140737488351232) (v : Value) (w : World) (hv : RdK w v l) :
    Calls Tryd.prog 5 #[v] w fun e w' => (∃ b, e = .returned (.bool b)) ∧ Below w.heap.size w w' := by
  have HV := Hid.mk' hv
  obtain ⟨x, c, rfl⟩ := hv.form
  clear hv
  go_enter Tryd.func5, Tryd.ntmps5
  go_wp2
  go_loopw [3, 10] (fun vn vk wr => ∃ (k : Nat) (n : Int), vn = .int .i64 n ∧ vk = .int .i64 k ∧ k ≤ l.length ∧ Below w.heap.size w wr) (fun _ vk _ => l.length - (intOf vk).toNat)
  case atStart => exact ⟨0, _, rfl, rfl, Nat.zero_le _, Below.refl _ _⟩
  case round =>
    obtain ⟨k, n, rfl, rfl, hk, hb⟩ := hrel
    by_cases hlt : k < l.length
    · rcases HV.out.below hb with ⟨a', c', e', h', _⟩ | ⟨g, o, c', e', hlc, hg, hc⟩
      · rw [h'] at hlt; simp at hlt
      · simp only [Value.slice.injEq] at e'
        obtain ⟨rfl, _, rfl⟩ := e'
        obtain ⟨c0, c1⟩ := hc k hlt
        have hsz := hz _ (List.getElem_mem hlt)
        obtain ⟨s, z, hs, hp⟩ : ∃ s z, ((s.size : Int) ≤ 140737488351232) ∧ l[k] = (s, z) := ⟨l[k].1, l[k].2, hsz, rfl⟩
        rw [hp] at c0 c1
        dsimp only at c0 c1
        have i1 : (k : Int) < (l.length : Int) := by omega
        have HB := Hid.mk' hb
        have hBW := hb.size
        clear hc hlc hsz hp hb
        go_wp2
        go_roundw
        case rel => exact ⟨k + 1, _, rfl, by go_num, by omega, HB.out.alloc hBW _⟩
        case measure => simp [intOf]; omega
    · obtain rfl : k = l.length := by omega
      go_wp2
      go_ret
      exact ⟨⟨_, rfl⟩, hb⟩

end Go.Proofs.YtcjpoabknlpopaaDoor
