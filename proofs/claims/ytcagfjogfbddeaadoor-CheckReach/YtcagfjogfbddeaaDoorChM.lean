/- Package check: Check. -/
import Derived.Test.YtcagfjogfbddeaaDoorChL
import Derived.OwnWalk
namespace Go.Proofs.YtcagfjogfbddeaaDoor
set_option linter.unusedVariables false
set_option linter.unusedSimpArgs false
open Go.RowKit

theorem NW.cz {W1 w2 : World} {cb mp b0 : Nat} {a : Option Addr} {c : Nat} {vn : Value} {q : FW} {qs : List FW} (h : NW W1 w2 W1.heap.size b0 cb mp a qs.length c vn (needs qs) q) : Cz W1 w2 cb mp a c vn q qs :=
  ⟨h.bl, h.bB, h.ck, h.km, by have := h.own; rwa [show (needs qs).length = qs.length by simp [needs]] at this⟩
set_option maxHeartbeats 4000000 in
set_option maxRecDepth 100000 in
theorem check_any {a : Option Addr} {c : Nat} {qs : List FW} (w : World) (hm : Md w a c qs) (hl : LaidL w) :
    Calls Tryd.prog 10 #[.agg #[.slice a qs.length c]] w fun e w' => ∃ V, e = .returned V ∧ ∃ g k z, V = .tuple #[.int .i64 (g : Nat), .int .i64 (k : Nat), .int .i64 z] ∧ Chk (qs.map FW.f) g k z ∧ Below w.heap.size w w' := by
  have hle := hm.r.le
  have hcl : c * (9 * 8) ≤ 140737488351232 := hm.r.cle
  obtain ⟨W1, hW1⟩ : ∃ W1, w.alloc (.cells #[.slice a qs.length c] 33) = W1 := ⟨_, rfl⟩
  have b1 : Below w.heap.size w W1 := by rw [← hW1]; exact lay_below
  have q1 : W1.heap[w.heap.size]? = some (.cells #[.slice a qs.length c] 33 (0, 0)) := by rw [← hW1]; exact box_new
  have HM1 := Hid.mk' (hm.below b1)
  have HL1 := Hid.mk' (hl.below' b1)
  have HNC := Hid.mk' (newChecker_any a c qs W1 (hm.below b1))
  obtain ⟨N, hN⟩ : ∃ N, qs.length = N := ⟨_, rfl⟩
  rw [hN] at hle q1 HNC hW1 ⊢
  have HN := Hid.mk' hN
  have HFL : Hid ((qs.map FW.f).length = N) := Hid.mk' (by rw [List.length_map, hN])
  obtain ⟨b0, hb0⟩ : ∃ b0, w.heap.size = b0 := ⟨_, rfl⟩
  rw [hb0] at q1
  have A0 : W1.cell? ⟨b0, 0, none⟩ = some (.slice a N c) := (cell_row _ _ 0 _ _ q1).trans rfl
  have hb1 : b0 < W1.heap.size := (Array.getElem?_eq_some_iff.1 q1).1
  have HB1 := Hid.mk' b1
  have HQ1 := Hid.mk' q1
  clear hm hl b1 q1 hN
  by_cases h0 : N = 0
  · have HC : Hid (Chk (qs.map FW.f) 0 0 120) := Hid.mk' (.inl ⟨.inl (by rw [HFL.out]; exact h0), rfl, rfl, rfl⟩)
    subst h0
    go_enter Tryd.func10, Tryd.ntmps10
    go_wp2
    go_ret3
    exact ⟨_, rfl, 0, 0, 120, rfl, HC.out, HB1.out⟩
  by_cases h1 : 20000 < N
  · have HC : Hid (Chk (qs.map FW.f) 0 0 120) := Hid.mk' (.inl ⟨.inr (by rw [HFL.out]; exact h1), rfl, rfl, rfl⟩)
    have h0' : ((N : Int) == 0) = false := by simp; omega
    have h1' : (20000 : Int) < (N : Int) := by omega
    clear h0 h1
    go_enter Tryd.func10, Tryd.ntmps10
    go_wp2
    go_ret3
    exact ⟨_, rfl, 0, 0, 120, rfl, HC.out, HB1.out⟩
  have HNB : Hid (¬ ((qs.map FW.f).length = 0 ∨ 20000 < (qs.map FW.f).length)) := Hid.mk' (by rw [HFL.out]; exact fun h => h.elim h0 h1)
  have h0' : ((N : Int) == 0) = false := by simp; omega
  have h1' : ¬ (20000 : Int) < (N : Int) := by omega
  have hN2 : (N : Int) ≤ 20000 := by omega
  have HN2 := Hid.mk' hN2
  clear h0 h1 hN2 hle hcl
  go_enter Tryd.func10, Tryd.ntmps10
  go_wp2_with (go_at_call 23; refine HNC.out.mono ?_; rintro e w2 ⟨cb, rfl, mp, vn, bx, hNW⟩; have hcz := NW.cz (qs := qs) (by rw [HN.out]; exact hNW); have HCZ : Hid (∃ q', Cz W1 w2 cb mp a c vn q' qs) := Hid.mk' ⟨_, hcz⟩; have A2 := (hcz.bl.cell (p := ⟨b0, 0, none⟩) hb1).trans A0; clear hNW hcz)
  clear A2 A0 h1' h0'
  go_loopw [24] (fun iv wr => ∃ i : Nat, iv = .int .i64 (i : Int) ∧ i ≤ N ∧ Hid (∃ q', Cz W1 wr cb mp a c vn q' qs) ∧ Hid (∀ j, j < i → fnP (qs.map FW.f) j ((qs.map FW.f).getD j noFun) = none)) (fun iv wr => N - (intOf iv).toNat)
  case atStart => exact ⟨0, rfl, Nat.zero_le _, HCZ, Hid.mk' (fun j h => by omega)⟩
  case round =>
    obtain ⟨i, rfl, hi, HC, HAL⟩ := hrel
    by_cases hlt : i < N
    · have hlq : i < qs.length := by rw [HN.out]; exact hlt
      have i1 : (i : Int) < (N : Int) := by omega
      have i2 : (i : Int) < 20000 := by have := HN2.out; omega
      have HF : Hid (Calls Tryd.prog 24 #[.pointer (some ⟨cb, 0, none⟩), .int .i64 (i : Int)] wr fun e w' => e = .returned (fnV (qs.map FW.f) i (qs[i]).f) ∧ ∃ q', Cz W1 w' cb mp a c vn q' qs) := Hid.mk' (by
        obtain ⟨q', hq'⟩ := HC.out
        exact fn_any wr hq' HM1.out HL1.out i hlq)
      have hge : (qs.map FW.f).getD i noFun = (qs[i]).f := by simp [List.getD_eq_getElem?_getD, List.getElem?_eq_getElem hlq]
      obtain ⟨r, hr⟩ : ∃ r, fnP (qs.map FW.f) i (qs[i]).f = r := ⟨_, rfl⟩
      simp only [fnV, hr] at HF
      rw [← hge] at hr
      have HRr := Hid.mk' hr
      have HLT := Hid.mk' hlt
      clear hge hr hlt hi
      cases r with
      | none =>
        simp only [Option.getD_none, Option.isNone_none] at HF
        go_wp2_with (go_at_call 24; refine HF.out.mono ?_; rintro e w3 ⟨rfl, hc3⟩; have HC3 := Hid.mk' hc3; clear hc3)
        exact ⟨⟨i + 1, by go_num, HLT.out, HC3, Hid.mk' (fun j hj => by
          rcases Nat.lt_or_ge j i with h1 | h1
          · exact HAL.out j h1
          · obtain rfl : j = i := by omega
            exact HRr.out)⟩, meas_up' N i HLT.out⟩
      | some k =>
        simp only [Option.getD_some, Option.isNone_some] at HF
        have HCk : Hid (Chk (qs.map FW.f) i k 120) := Hid.mk' (.inr ⟨HNB.out, .inr ⟨by rw [HFL.out]; exact HLT.out, rfl, HRr.out, HAL.out⟩⟩)
        go_wp2_with (go_at_call 24; refine HF.out.mono ?_; rintro e w3 ⟨rfl, hc3⟩; have HC3 := Hid.mk' hc3; clear hc3)
        go_ret3
        refine ⟨_, rfl, i, k, 120, rfl, HCk.out, ?_⟩
        obtain ⟨q', hq'⟩ := HC3.out
        exact HB1.out.trans (hq'.bl.mono HB1.out.size)
    · have i1 : ¬ (i : Int) < (N : Int) := by omega
      have HCk : Hid (Chk (qs.map FW.f) 0 0 0) := Hid.mk' (.inr ⟨HNB.out, .inl ⟨rfl, rfl, rfl, fun j hj => HAL.out j (by rw [HFL.out] at hj; omega)⟩⟩)
      go_wp2
      go_ret3
      refine ⟨_, rfl, 0, 0, 0, rfl, HCk.out, ?_⟩
      obtain ⟨q', hq'⟩ := HC.out
      first | exact HB1.out.trans (hq'.bl.mono HB1.out.size) | (rw [← hb0]; exact HB1.out.trans (hq'.bl.mono HB1.out.size))
end Go.Proofs.YtcagfjogfbddeaaDoor
