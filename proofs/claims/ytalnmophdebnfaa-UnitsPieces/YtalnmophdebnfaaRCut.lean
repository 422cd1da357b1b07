/- lintelref01.Cut: the document's pieces of a text. -/
import Derived.Test.YtalnmophdebnfaaCut
import Derived.Test.YtalnmophdebnfaaRCmp
namespace Go.Proofs.Ytalnmophdebnfaa
set_option linter.unusedVariables false
open Go.RowKit

theorem cut_bytes (s : ByteArray) (f t : Nat) (hft : f ≤ t) (ht : t ≤ s.size / 2) : (⟨(mkB (((uns s).drop f).take (t - f))).toArray⟩ : ByteArray) = s.extract (2 * f) (2 * t) := by
  have hl := ebs_length s
  apply ByteArray.ext
  apply Array.ext'
  rw [mkB_takeK, mkB_drop, mkB_uns, ByteArray.data_extract, Array.toList_extract]
  simp only [List.extract_eq_take_drop, ebs]
  rw [List.drop_take, List.take_take]
  congr 1
  omega

set_option maxHeartbeats 400000 in
set_option maxRecDepth 100000 in
theorem rcut_core (s : ByteArray) (i j : Int) (f t : Nat) (w : World) (hs : (s.size : Int) ≤ 1048576) (hf : max 0 (min i ((s.size / 2 : Nat) : Int)) = f) (ht : max 0 (min j ((s.size / 2 : Nat) : Int)) = t) :
    Calls Try.prog 20 #[.string s, .int .i64 i, .int .i64 j] w fun e w' => e = .returned (.string (if t ≤ f then ⟨#[]⟩ else s.extract (2 * f) (2 * t))) ∧ Below w.heap.size w w' := by
  have HF := Hid.mk' hf
  have HT := Hid.mk' ht
  have hfn : f ≤ s.size / 2 := by omega
  have htn : t ≤ s.size / 2 := by omega
  clear hf ht
  by_cases hno : t ≤ f
  · rw [if_pos hno]
    go_enter Try.func20, Try.ntmps20
    go_wp2_with fail
    refine (runits_any s _ hs).mono ?_
    rintro e w1 ⟨v1, rfl, o1, b1⟩
    obtain ⟨x1, c1, rfl⟩ := own_slice' o1 |>.imp fun _ h => h.imp fun _ h => h.1
    go_wp2_with fail
    refine (clamp_any i (s.size / 2) _).mono ?_
    rintro e w2 ⟨rfl, hw2⟩
    rw [hw2, HF.out]; clear hw2 w2
    go_wp2_with fail
    refine (clamp_any j (s.size / 2) _).mono ?_
    rintro e w2 ⟨rfl, hw2⟩
    rw [hw2, HT.out]; clear hw2 w2
    go_wp2
    go_ret
    exact ⟨rfl, b1⟩
  · rw [if_neg hno]
    go_enter Try.func20, Try.ntmps20
    go_wp2_with fail
    refine (runits_any s _ hs).mono ?_
    rintro e w1 ⟨v1, rfl, o1, b1⟩
    obtain ⟨x1, c1, rfl⟩ := own_slice' o1 |>.imp fun _ h => h.imp fun _ h => h.1
    obtain ⟨g1, rfl⟩ := own_some o1 (by omega)
    have hcap : s.size / 2 ≤ c1 := by
      rcases o1.2 with ⟨e, _⟩ | ⟨g, cap, cur, e, _, _, h, _⟩
      · simp at e
      · simp at e; omega
    have hcm : (c1 : Int) ≤ 9223372036854775807 := by
      rcases o1.2 with ⟨e, _⟩ | ⟨g, cap, cur, e, _, _, _, h, _⟩
      · simp at e
      · simp at e; unfold maxLen at h; omega
    have hgl : g1 < w1.heap.size := ((o1.lt g1 rfl)).2
    have hl : (((uns s).drop f).take (t - f)).length = t - f := by rw [List.length_take, List.length_drop, uns_length]; omega
    have HR : Hid (Rd w1 (.slice (some ⟨g1, f, none⟩) (t - f) (c1 - f)) (((uns s).drop f).take (t - f))) := by
      refine .inr ⟨g1, f, c1 - f, by rw [hl], hgl, fun k hk => ?_⟩
      rw [hl] at hk
      rw [own_cell o1 (uc_get s _ (f + k) (by omega))]
      simp [uns]
    have HM := Hid.mk' (rmake_any (((uns s).drop f).take (t - f)) (fun u hu => uns_lt s u (List.mem_of_mem_drop (List.mem_of_mem_take hu))) (by rw [hl]; omega) _ w1 HR.out)
    have HB := Hid.mk' (cut_bytes s f t (by omega) htn)
    clear hl
    go_wp2_with fail
    refine (clamp_any i (s.size / 2) _).mono ?_
    rintro e w2 ⟨rfl, hw2⟩
    rw [hw2, HF.out]; clear hw2 w2
    go_wp2_with fail
    refine (clamp_any j (s.size / 2) _).mono ?_
    rintro e w2 ⟨rfl, hw2⟩
    rw [hw2, HT.out]; clear hw2 w2
    go_wp2_with fail
    refine HM.out.mono ?_
    rintro e w3 ⟨rfl, b3⟩
    rw [HB.out]
    go_wp2
    go_ret
    exact ⟨rfl, b1.trans (b3.mono b1.size)⟩

theorem rcut_any (s : ByteArray) (i j : Int) (w : World) (hs : (s.size : Int) ≤ 1048576) :
    Calls Try.prog 20 #[.string s, .int .i64 i, .int .i64 j] w fun e w' => e = .returned (.string (cutS s i j)) ∧ Below w.heap.size w w' := by
  obtain ⟨f, hf⟩ : ∃ f : Nat, max 0 (min i ((s.size / 2 : Nat) : Int)) = f := ⟨(max 0 (min i ((s.size / 2 : Nat) : Int))).toNat, by omega⟩
  obtain ⟨t, ht⟩ : ∃ t : Nat, max 0 (min j ((s.size / 2 : Nat) : Int)) = t := ⟨(max 0 (min j ((s.size / 2 : Nat) : Int))).toNat, by omega⟩
  have h := rcut_core s i j f t w hs hf ht
  by_cases hno : t ≤ f
  · rw [if_pos hno] at h
    rw [cutS_no (by omega)]
    exact h
  · rw [if_neg hno] at h
    rw [cutS_yes f t (by omega) (by omega) (by omega)]
    exact h

end Go.Proofs.Ytalnmophdebnfaa
