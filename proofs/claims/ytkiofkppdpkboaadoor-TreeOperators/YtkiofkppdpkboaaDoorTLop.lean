/- TreeOperators' walk. -/
import Derived.Test.YtkiofkppdpkboaaDoorTOp
import Derived.Test.YtkiofkppdpkboaaDoorBase
namespace Go.Proofs.YtkiofkppdpkboaaDoor
set_option linter.unusedVariables false
open Go.RowKit

set_option maxHeartbeats 2000000 in
set_option maxRecDepth 100000 in
theorem operators_walk (k : Int) (w : World) (hT : SpT w) (HA : Hid (Calls Tryd.prog 5 #[] w fun e w' => e = .returned (.bool true) ∧ Below w.heap.size w w')) :
    Calls Tryd.prog 4 #[.int .i64 k] w fun e w' => e = .returned (.bool true) ∧ Below w.heap.size w w' := by
  have HT := Hid.mk' hT
  have HO := Hid.mk' (fun W h => tOperators_any k W h)
  have HR := Hid.mk' (fun W => rOperators_any k W)
  obtain ⟨hf, hl⟩ := opsL_full k
  obtain ⟨ts, hts⟩ : ∃ ts, opsL k = ts := ⟨_, rfl⟩
  rw [hts] at HO HR hf hl
  have HF := Hid.mk' hf
  clear hT hts hf
  go_enter Tryd.func4, Tryd.ntmps4
  go_wp2_with fail
  refine HA.out.mono ?_
  rintro e w1 ⟨rfl, b1⟩
  go_wp2_with fail
  refine (HO.out _ (HT.out.below b1)).mono ?_
  rintro e w2 ⟨va, rfl, ra, b2⟩
  go_wp2_with fail
  refine (HR.out _).mono ?_
  rintro e w3 ⟨vb, rfl, rb, b3⟩
  have RA := Hid.mk' (ra.below b3)
  have RB := Hid.mk' rb
  have B : Below w.heap.size w w3 := (b1.trans (b2.mono b1.size)).trans (b3.mono (b1.trans (b2.mono b1.size)).size)
  obtain ⟨xa, ca, rfl⟩ := ra.form
  obtain ⟨xb, cb, rfl⟩ := rb.form
  have HM := Hid.mk' (fun (n : Nat) => among_no ts HF.out hl _ (w3.drewN n) (RA.out.below (kept_drewN _ 0 w3 n).1))
  obtain ⟨N, hN⟩ : ∃ N, ts.length = N := ⟨_, rfl⟩
  rw [hN] at hl RA RB HM ⊢
  have HN := Hid.mk' hN
  clear hN ra rb b1 b2 b3 HA HO HR HF HT
  go_wp2_with fail
  go_loopw [19] (fun vi wr => ∃ (i : Nat), vi = .int .i64 i ∧ i ≤ N ∧ Hid (∃ n, wr = w3.drewN n)) (fun vi _ => N - (intOf vi).toNat)
  case atStart => exact ⟨0, rfl, Nat.zero_le _, Hid.mk' ⟨0, rfl⟩⟩
  case round =>
    obtain ⟨i, rfl, hi, HW⟩ := hrel
    obtain ⟨n, rfl⟩ := HW.out
    by_cases hlt : i < N
    · have zi : (i : Int) < (N : Int) := by omega
      have hil : i < ts.length := by rw [HN.out]; exact hlt
      rcases RA.out with ⟨a', c', e', h'⟩ | ⟨ga, oa, c', e', hlc, hg, hca⟩
      · rw [h'] at hil; simp at hil
      · rcases RB.out with ⟨a'', c'', e'', h''⟩ | ⟨gb, ob, c'', e'', hlc', hgb, hcb⟩
        · rw [h''] at hil; simp at hil
        · obtain rfl : xa = some ⟨ga, oa, none⟩ := by injection e'
          obtain rfl : xb = some ⟨gb, ob, none⟩ := by injection e''
          have c1 := hca i hil
          have c2 := hcb i hil
          obtain ⟨t, htt⟩ : ∃ t, ts[i] = t := ⟨_, rfl⟩
          rw [htt] at c1 c2
          clear hca hcb htt e' e'' hlc hlc'
          go_wp2_with fail
          go_region
          all_goals go_wp2
          all_goals go_roundw
          all_goals first | exact ⟨i + 1, by go_num, by omega, Hid.mk' ⟨_, rfl⟩⟩ | (simp [intOf]; omega)
    · obtain rfl : i = N := by omega
      have zi : ¬ (i : Int) < (i : Int) := by omega
      have B2 : Below w.heap.size w (w3.drewN n) := B.trans ((kept_drewN _ 0 w3 n).1.mono B.size)
      go_wp2_with fail
      refine (HM.out n).mono ?_
      rintro e w4 ⟨rfl, hw4⟩
      rw [hw4]; clear hw4 w4
      go_wp2
      go_ret
      exact ⟨rfl, B2⟩
end Go.Proofs.YtkiofkppdpkboaaDoor
