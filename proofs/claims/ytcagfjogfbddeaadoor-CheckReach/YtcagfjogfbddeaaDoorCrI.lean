/- The document's check: whether an instruction has a target, and which. The document's check: which target an instruction has. -/
import Derived.Test.YtcagfjogfbddeaaDoorCrB
import Derived.Test.YtcagfjogfbddeaaDoorChV
import Derived.Test.YtcagfjogfbddeaaDoorChS
namespace Go.Proofs.YtcagfjogfbddeaaDoor
set_option linter.unusedVariables false
set_option linter.unusedSimpArgs false
open Go.RowKit Go.Shelf

set_option maxHeartbeats 1000000 in
theorem entry_out (op : Int) (h : op < 0 ∨ 70 < op) (w : World) : Calls Tryd.prog 37 #[.int .i64 op] w fun e w' => ∃ nm, e = .returned (.tuple #[.string nm, .string ⟨#[]⟩]) ∧ Below w.heap.size w w' := by
  have HT := Hid.mk' (table_any w)
  obtain ⟨W1, hW1⟩ : ∃ W1, w.alloc (.cells tblV 9) = W1 := ⟨_, rfl⟩
  have hB1 : Below w.heap.size w W1 := by rw [← hW1]; exact lay_below
  rw [hW1] at HT
  have HB1 := Hid.mk' hB1
  clear hB1 hW1
  rcases h with h | h
  · have e : decide (op < 0) = true := by simp [h]
    clear h
    go_enter Tryd.func37, Tryd.ntmps37
    go_wp2_with fail
    refine HT.out.mono ?_
    rintro e w1 ⟨rfl, hw1⟩
    rw [hw1]
    clear hw1 w1
    go_wp2
    go_ret2
    exact ⟨_, rfl, HB1.out⟩
  · have e1 : decide (op < 0) = false := by simp; omega
    have e2 : decide (70 < op) = true := by simp [h]
    clear h
    go_enter Tryd.func37, Tryd.ntmps37
    go_wp2_with fail
    refine HT.out.mono ?_
    rintro e w1 ⟨rfl, hw1⟩
    rw [hw1]
    clear hw1 w1
    go_wp2
    go_ret2
    exact ⟨_, rfl, HB1.out⟩
set_option maxHeartbeats 1000000 in
theorem rOpZ (op : Int) (w : World) : Calls Tryd.prog 26 #[.int .i64 op] w fun e w' => e = .returned (.string (Sb (letz op))) ∧ Below w.heap.size w w' := by
  by_cases h : 0 ≤ op ∧ op ≤ 70
  · obtain ⟨k, rfl⟩ : ∃ k : Nat, op = (k : Int) := ⟨op.toNat, by omega⟩
    have e : letz (k : Int) = letsOf k := by unfold letz; rw [if_pos h, Int.toNat_natCast]
    rw [e]
    exact rOperands_any k (by omega) w
  · have e : Sb (letz op) = ⟨#[]⟩ := by unfold letz; rw [if_neg h]; rfl
    rw [e]
    have HE := Hid.mk' (entry_out op (by omega) w)
    clear h e
    go_enter Tryd.func26, Tryd.ntmps26
    go_wp2_with fail
    refine HE.out.mono ?_
    rintro e w1 ⟨nm, rfl, hb⟩
    go_wp2
    go_ret
    exact ⟨rfl, hb⟩
theorem tgK_lt {op : Int} {k : Nat} (hk : k < (letz op).length) (h : (letz op).getD k 0 = 116) (hb : ∀ j, j < k → (letz op).getD j 0 ≠ 116) : tgK op = k := by
  unfold tgK
  rw [List.findIdx_eq hk]
  have g : ∀ j (hj : j < (letz op).length), (letz op).getD j 0 = (letz op)[j] := fun j hj => by simp [List.getD_eq_getElem?_getD, List.getElem?_eq_getElem hj]
  refine ⟨by rw [← g k hk, h]; rfl, fun j hj => ?_⟩
  have := hb j hj
  rw [g j (by omega)] at this
  simp [this]
theorem tgK_no {op : Int} (hb : ∀ j, j < (letz op).length → (letz op).getD j 0 ≠ 116) : ¬ tgK op < (letz op).length := by
  unfold tgK
  rw [List.findIdx_lt_length]
  rintro ⟨c, hc, e⟩
  obtain ⟨j, hj, rfl⟩ := List.getElem_of_mem hc
  have := hb j hj
  rw [List.getD_eq_getElem?_getD, List.getElem?_eq_getElem hj] at this
  exact this (of_decide_eq_true e)
theorem letz_ascii (op : Int) (k : Nat) (hk : k < (letz op).length) : ((letz op).getD k 0).toNat < 128 := by
  have key : ∀ op : Int, ∀ c ∈ letz op, c.toNat < 128 := by
    intro op c hc
    unfold letz at hc
    split at hc
    · unfold letsOf at hc
      have key : ∀ l ∈ lets, ∀ c ∈ l, c.toNat < 128 := by decide
      have hm : lets.getD (min op.toNat 49) [] ∈ lets := by
        rw [List.getD_eq_getElem?_getD, List.getElem?_eq_getElem (by have : lets.length = 50 := rfl; omega)]
        exact List.getElem_mem _
      exact key _ hm c hc
    · cases hc
  refine key op _ ?_
  rw [List.getD_eq_getElem?_getD, List.getElem?_eq_getElem hk]
  exact List.getElem_mem hk
set_option maxHeartbeats 4000000 in
set_option maxRecDepth 100000 in
theorem has_any (op ia ib ic id : Int) (w : World) : Calls Tryd.prog 17 #[.agg #[.int .i64 op, .int .i64 ia, .int .i64 ib, .int .i64 ic, .int .i64 id]] w fun e w' => e = .returned (.bool (decide (tgK op < (letz op).length))) ∧ Below w.heap.size w w' := by
  obtain ⟨W1, hW1⟩ : ∃ W1, w.alloc (.cells #[.int .i64 op, .int .i64 ia, .int .i64 ib, .int .i64 ic, .int .i64 id] 44) = W1 := ⟨_, rfl⟩
  have b1 : Below w.heap.size w W1 := by rw [← hW1]; exact lay_below
  have q1 : W1.heap[w.heap.size]? = some (.cells #[.int .i64 op, .int .i64 ia, .int .i64 ib, .int .i64 ic, .int .i64 id] 44 (0, 0)) := by rw [← hW1]; exact box_new
  obtain ⟨x1, hx1⟩ : ∃ x, w.heap.size = x := ⟨_, rfl⟩
  rw [hx1] at q1
  have E0 : W1.cell? ⟨x1, 0, none⟩ = some (.int .i64 op) := (cell_row _ _ 0 _ _ q1).trans rfl
  have HB1 := Hid.mk' b1
  have HRO := Hid.mk' (rOpZ op W1)
  obtain ⟨L, hL⟩ : ∃ L, letz op = L := ⟨_, rfl⟩
  have HL := Hid.mk' hL
  obtain ⟨TB, hTB⟩ : ∃ TB, decide (tgK op < (letz op).length) = TB := ⟨_, rfl⟩
  have HTB := Hid.mk' hTB
  rw [hTB]
  rw [hL] at HRO
  clear b1 q1 hL hTB
  go_enter Tryd.func17, Tryd.ntmps17
  go_wp2_with fail
  refine HRO.out.mono ?_
  rintro e w9 ⟨rfl, b9⟩
  have HB9 := Hid.mk' (HB1.out.trans (b9.mono HB1.out.size))
  clear b9 E0 hW1
  obtain ⟨S, hS⟩ : ∃ S, Sb L = S := ⟨_, rfl⟩
  rw [hS]
  have hsz : S.size = L.length := by rw [← hS, Sb_size]
  have hbt := bt_Sb L
  rw [hS] at hbt
  have HS := Hid.mk' hsz
  have HBT := Hid.mk' hbt
  have HIT0 := Hid.mk' (World.iter_heap w9 S 0)
  have HIB0 : Hid (Below w9.heap.size w9 (w9.iter S 0)) := Hid.mk' (by unfold World.iter; exact (Below.refl _ _).alloc (Nat.le_refl _) _)
  obtain ⟨B9, hB9⟩ : ∃ B9, w9.heap.size = B9 := ⟨_, rfl⟩
  clear hS hsz hbt
  go_wp2_with fail
  rw [hB9] at HIT0
  have HQ9 := Hid.mk' hB9
  go_loopw [] (fun wr => ∃ k : Nat, k ≤ L.length ∧ Hid (wr.heap[B9]? = some (.stringIter S k)) ∧ Hid (Below B9 w9 wr) ∧ Hid (∀ j, j < k → L.getD j 0 ≠ 116)) (fun wr => L.length - wr.iterPos B9)
  case atStart => exact ⟨0, Nat.zero_le _, HIT0, by rw [← HQ9.out]; exact HIB0, Hid.mk' (fun j h => by omega)⟩
  case round =>
    obtain ⟨k, hk, HIT, HBK, HNO⟩ := hrel
    by_cases hkt : k < L.length
    · have hks : k < S.size := by rw [HS.out]; exact hkt
      have hb := HBT.out k hkt
      have hasc := letz_ascii op k (by rw [HL.out]; exact hkt)
      rw [HL.out] at hasc
      obtain ⟨lt, hlt⟩ : ∃ lt, L.getD k 0 = lt := ⟨_, rfl⟩
      rw [hlt] at hb hasc
      have ha : (S[k]'hks).toNat < 128 := by have := PlainAid.get_bt S k hks; omega
      have hnx := fun ty => Lib.run_next_ascii_at (P := Tryd.prog) wr B9 S k ty HIT.out hks ha
      obtain ⟨X, hX⟩ : ∃ X, wr.iterAt B9 S (k + 1) = X := ⟨_, rfl⟩
      obtain ⟨rn, hrn⟩ : ∃ rn : Int, ((S[k]'hks).toNat : Int) = rn := ⟨_, rfl⟩
      rw [hX, hrn] at hnx
      have bX : Below B9 w9 X := by rw [← hX]; exact Lib.below_iterAt HBK.out (Nat.le_refl _) S (k + 1)
      have iX : X.heap[B9]? = some (.stringIter S (k + 1)) := by rw [← hX]; exact Lib.iterAt_heap wr B9 S k (k + 1) HIT.out
      have HBX := Hid.mk' bX
      have HIX := Hid.mk' iX
      have HKT := Hid.mk' hkt
      have HME : Hid (L.length - X.iterPos B9 < L.length - wr.iterPos B9) := Hid.mk' (by
        have h1 := HIX.out
        have h2 := HIT.out
        simp only [World.iterPos, h1, h2]
        omega)
      have hbm := PlainAid.get_bt S
      have hks' : (k : Int) < (S.size : Int) := by omega
      have hbk : PlainAid.bt S k = (lt.toNat : Int) := hb
      have HLT := Hid.mk' hlt
      clear bX iX hX hrn hlt hk ha hb hasc hkt
      by_cases h116 : lt = 116
      · subst h116
        have hbk' : PlainAid.bt S k = 116 := hbk
        have e : TB = true := by
          rw [← HTB.out]
          have := tgK_lt (op := op) (k := k) (by rw [HL.out]; exact HKT.out) (by rw [HL.out]; exact HLT.out) (by rw [HL.out]; exact HNO.out)
          rw [this, HL.out]
          exact decide_eq_true HKT.out
        subst e
        clear hbk
        go_wp2
        go_ret
        exact ⟨rfl, by have h := HB9.out.trans (HBX.out.mono (by rw [← HQ9.out]; exact HB9.out.size)); first | exact h | (rw [← hx1]; exact h)⟩
      · have hbk' : (PlainAid.bt S k == 116) = false := by
          rw [hbk]
          have : lt.toNat ≠ 116 := fun e => h116 (UInt8.toNat_inj.1 (by rw [e]; rfl))
          simp
          omega
        have HNX : Hid (∀ j, j < k + 1 → L.getD j 0 ≠ 116) := Hid.mk' (fun j hj => by
          rcases Nat.lt_or_ge j k with h1 | h1
          · exact HNO.out j h1
          · obtain rfl : j = k := by omega
            rw [HLT.out]; exact h116)
        clear hbk h116
        go_wp2
        exact ⟨⟨k + 1, HKT.out, HIX, HBX, HNX⟩, HME.out⟩
    · have hks : ¬ k < S.size := by rw [HS.out]; exact hkt
      have hnx := fun ty => Lib.run_next_end_at (P := Tryd.prog) wr B9 S k ty HIT.out hks
      have e : TB = false := by
        rw [← HTB.out]
        exact decide_eq_false (tgK_no (by rw [HL.out]; intro j hj; exact HNO.out j (by omega)))
      subst e
      clear hks hkt hk
      go_wp2
      go_ret
      exact ⟨rfl, by have h := HB9.out.trans (HBK.out.mono (by rw [← HQ9.out]; exact HB9.out.size)); first | exact h | (rw [← hx1]; exact h)⟩
end Go.Proofs.YtcagfjogfbddeaaDoor

namespace Go.Proofs.YtcagfjogfbddeaaDoor
set_option linter.unusedVariables false
set_option linter.unusedSimpArgs false
open Go.RowKit Go.Shelf

set_option maxHeartbeats 4000000 in
set_option maxRecDepth 100000 in
theorem rtarget_any (op ia ib ic id : Int) (w : World) : Calls Tryd.prog 18 #[.agg #[.int .i64 op, .int .i64 ia, .int .i64 ib, .int .i64 ic, .int .i64 id]] w fun e w' => e = .returned (.int .i64 ((tgO ⟨op, ia, ib, ic, id⟩).getD (-1))) ∧ Below w.heap.size w w' := by
  obtain ⟨W1, hW1⟩ : ∃ W1, w.alloc (.cells #[.int .i64 op, .int .i64 ia, .int .i64 ib, .int .i64 ic, .int .i64 id] 44) = W1 := ⟨_, rfl⟩
  have b1 : Below w.heap.size w W1 := by rw [← hW1]; exact lay_below
  have q1 : W1.heap[w.heap.size]? = some (.cells #[.int .i64 op, .int .i64 ia, .int .i64 ib, .int .i64 ic, .int .i64 id] 44 (0, 0)) := by rw [← hW1]; exact box_new
  obtain ⟨x1, hx1⟩ : ∃ x, w.heap.size = x := ⟨_, rfl⟩
  rw [hx1] at q1
  have E0 : W1.cell? ⟨x1, 0, none⟩ = some (.int .i64 op) := (cell_row _ _ 0 _ _ q1).trans rfl
  have hxl : x1 < W1.heap.size := (Array.getElem?_eq_some_iff.1 q1).1
  have HC3 : Hid (∀ W, Below W1.heap.size W1 W → ∀ k v, (#[.int .i64 op, .int .i64 ia, .int .i64 ib, .int .i64 ic, .int .i64 id] : Array Value)[k]? = some v → W.cell? ⟨x1, k, none⟩ = some v) := Hid.mk' (fun W hW k v hv => (hW.cell (p := ⟨x1, k, none⟩) hxl).trans ((cell_row _ _ k _ _ q1).trans hv))
  have HB1 := Hid.mk' b1
  have HRO := Hid.mk' (rOpZ op W1)
  obtain ⟨L, hL⟩ : ∃ L, letz op = L := ⟨_, rfl⟩
  have HL := Hid.mk' hL
  obtain ⟨TB, hTB⟩ : ∃ TB, (tgO ⟨op, ia, ib, ic, id⟩).getD (-1) = TB := ⟨_, rfl⟩
  have HTB := Hid.mk' hTB
  rw [hTB]
  rw [hL] at HRO
  clear b1 q1 hL hTB hxl
  go_enter Tryd.func18, Tryd.ntmps18
  go_wp2_with fail
  refine HRO.out.mono ?_
  rintro e w9 ⟨rfl, b9⟩
  have HB9 := Hid.mk' (HB1.out.trans (b9.mono HB1.out.size))
  have HB19 := Hid.mk' b9
  clear b9 E0 hW1
  obtain ⟨S, hS⟩ : ∃ S, Sb L = S := ⟨_, rfl⟩
  rw [hS]
  have hsz : S.size = L.length := by rw [← hS, Sb_size]
  have hbt := bt_Sb L
  rw [hS] at hbt
  have HS := Hid.mk' hsz
  have HBT := Hid.mk' hbt
  have HIT0 := Hid.mk' (World.iter_heap w9 S 0)
  have HIB0 : Hid (Below w9.heap.size w9 (w9.iter S 0)) := Hid.mk' (by unfold World.iter; exact (Below.refl _ _).alloc (Nat.le_refl _) _)
  obtain ⟨B9, hB9⟩ : ∃ B9, w9.heap.size = B9 := ⟨_, rfl⟩
  clear hS hsz hbt
  go_wp2_with fail
  rw [hB9] at HIT0
  have HQ9 := Hid.mk' hB9
  go_loopw [] (fun wr => ∃ k : Nat, k ≤ L.length ∧ Hid (wr.heap[B9]? = some (.stringIter S k)) ∧ Hid (Below B9 w9 wr) ∧ Hid (∀ j, j < k → L.getD j 0 ≠ 116)) (fun wr => L.length - wr.iterPos B9)
  case atStart => exact ⟨0, Nat.zero_le _, HIT0, by rw [← HQ9.out]; exact HIB0, Hid.mk' (fun j h => by omega)⟩
  case round =>
    obtain ⟨k, hk, HIT, HBK, HNO⟩ := hrel
    by_cases hkt : k < L.length
    · have hks : k < S.size := by rw [HS.out]; exact hkt
      have hb := HBT.out k hkt
      have hasc := letz_ascii op k (by rw [HL.out]; exact hkt)
      rw [HL.out] at hasc
      obtain ⟨lt, hlt⟩ : ∃ lt, L.getD k 0 = lt := ⟨_, rfl⟩
      rw [hlt] at hb hasc
      have ha : (S[k]'hks).toNat < 128 := by have := PlainAid.get_bt S k hks; omega
      have hnx := fun ty => Lib.run_next_ascii_at (P := Tryd.prog) wr B9 S k ty HIT.out hks ha
      obtain ⟨X, hX⟩ : ∃ X, wr.iterAt B9 S (k + 1) = X := ⟨_, rfl⟩
      obtain ⟨rn, hrn⟩ : ∃ rn : Int, ((S[k]'hks).toNat : Int) = rn := ⟨_, rfl⟩
      rw [hX, hrn] at hnx
      have bX : Below B9 w9 X := by rw [← hX]; exact Lib.below_iterAt HBK.out (Nat.le_refl _) S (k + 1)
      have iX : X.heap[B9]? = some (.stringIter S (k + 1)) := by rw [← hX]; exact Lib.iterAt_heap wr B9 S k (k + 1) HIT.out
      have HBX := Hid.mk' bX
      have HIX := Hid.mk' iX
      have HKT := Hid.mk' hkt
      have HME : Hid (L.length - X.iterPos B9 < L.length - wr.iterPos B9) := Hid.mk' (by
        have h1 := HIX.out
        have h2 := HIT.out
        simp only [World.iterPos, h1, h2]
        omega)
      have hbm := PlainAid.get_bt S
      have hks' : (k : Int) < (S.size : Int) := by omega
      have hbk : PlainAid.bt S k = (lt.toNat : Int) := hb
      have HLT := Hid.mk' hlt
      clear bX iX hX hrn hlt hk ha hb hasc hkt
      by_cases h116 : lt = 116
      · subst h116
        have hbk' : PlainAid.bt S k = 116 := hbk
        have hk4 : k < 4 := by have := letz_len op; rw [HL.out] at this; have := HKT.out; omega
        have e : TB = opx ⟨op, ia, ib, ic, id⟩ k := by
          rw [← HTB.out]
          have := tgK_lt (op := op) (k := k) (by rw [HL.out]; exact HKT.out) (by rw [HL.out]; exact HLT.out) (by rw [HL.out]; exact HNO.out)
          unfold tgO
          dsimp only
          rw [this, HL.out, if_pos HKT.out]
          rfl
        have HX1 := Hid.mk' (HB19.out.trans (HBX.out.mono (by rw [← HQ9.out]; exact HB19.out.size)))
        have HET := Hid.mk' e
        have HK4 := Hid.mk' hk4
        have E0 := HC3.out X HX1.out 0 _ rfl
        have E1 := HC3.out X HX1.out 1 _ rfl
        have E2 := HC3.out X HX1.out 2 _ rfl
        have E3 := HC3.out X HX1.out 3 _ rfl
        have E4 := HC3.out X HX1.out 4 _ rfl
        have HAR := Hid.mk' (rargs_any X op ia ib ic id)
        have k1 : (k : Int) < 4 := by omega
        clear hbk e hk4
        go_wp2_with fail
        refine HAR.out.mono ?_
        rintro e w10 ⟨nb, rfl, q10, b10⟩
        have y : w10.cell? ⟨nb, k, none⟩ = some (.int .i64 TB) := (cell_row _ _ k _ _ q10).trans (by
          have hk4 := HK4.out
          rw [HET.out]
          have : k = 0 ∨ k = 1 ∨ k = 2 ∨ k = 3 := by omega
          rcases this with rfl | rfl | rfl | rfl <;> rfl)
        have HB10 := Hid.mk' ((HB1.out.trans (HX1.out.mono HB1.out.size)).trans (b10.mono (HB1.out.trans (HX1.out.mono HB1.out.size)).size))
        clear q10 b10 E0 E1 E2 E3 E4
        go_wp2
        go_ret
        exact ⟨rfl, by first | exact HB10.out | (rw [← hx1]; exact HB10.out)⟩
      · have hbk' : (PlainAid.bt S k == 116) = false := by
          rw [hbk]
          have : lt.toNat ≠ 116 := fun e => h116 (UInt8.toNat_inj.1 (by rw [e]; rfl))
          simp
          omega
        have HNX : Hid (∀ j, j < k + 1 → L.getD j 0 ≠ 116) := Hid.mk' (fun j hj => by
          rcases Nat.lt_or_ge j k with h1 | h1
          · exact HNO.out j h1
          · obtain rfl : j = k := by omega
            rw [HLT.out]; exact h116)
        clear hbk h116
        go_wp2
        exact ⟨⟨k + 1, HKT.out, HIX, HBX, HNX⟩, HME.out⟩
    · have hks : ¬ k < S.size := by rw [HS.out]; exact hkt
      have hnx := fun ty => Lib.run_next_end_at (P := Tryd.prog) wr B9 S k ty HIT.out hks
      have e : TB = -1 := by
        rw [← HTB.out]
        unfold tgO
        dsimp only
        rw [if_neg (tgK_no (by rw [HL.out]; intro j hj; exact HNO.out j (by omega)))]
        rfl
      subst e
      clear hks hkt hk
      go_wp2
      go_ret
      exact ⟨rfl, by have h := HB9.out.trans (HBK.out.mono (by rw [← HQ9.out]; exact HB9.out.size)); first | exact h | (rw [← hx1]; exact h)⟩
end Go.Proofs.YtcagfjogfbddeaaDoor
