/- digits.Whole for every text and base. -/
import Derived.Test.YtighenikjedojaaGreatDoorWap
import Derived.Test.YtighenikjedojaaGreatDoorWnr
import Derived.Test.YtighenikjedojaaGreatDoorMod
namespace Go.Proofs.YtighenikjedojaaGreatDoor
set_option linter.unusedVariables false
open Go.RowKit Fl

/-- With a sign. -/
def sg (minus : Bool) (x : Nat) : Nat := if minus then 9223372036854775808 + x else x
set_option maxHeartbeats 400000 in
theorem signed_any (x : Nat) (b : Bool) (w : World) (h : x ≤ 9218868437227405312) : Calls Tryz.prog 31 #[.float .f64 x, .bool b] w fun e w' => e = .returned (.float .f64 (sg b x)) ∧ w' = w := by
  have hn := neg_pos x (by omega)
  cases b
  · go_enter Tryz.func31, Tryz.ntmps31
    go_wp2
    go_ret
    exact ⟨rfl, rfl⟩
  · obtain ⟨y, hy⟩ : ∃ y, 9223372036854775808 + x = y := ⟨_, rfl⟩
    have e : sg true x = y := hy
    rw [hy] at hn
    rw [e]
    clear hy e
    go_enter Tryz.func31, Tryz.ntmps31
    go_wp2
    go_ret
    exact ⟨rfl, rfl⟩
/-- What parseInt answers, of the letters behind the blanks. -/
def wRes (r : Int) (T : ByteArray) : Nat := if wNo r (unsT T) then 9221120237041090561 else sg (minusN T) (wV r (unsT T))
/-- The text behind its blanks. -/
def bhd (s : ByteArray) : ByteArray := ⟨(mkB ((uns s).drop (frontN (uns s)))).toArray⟩
theorem bhd_size (s : ByteArray) : (bhd s).size ≤ s.size := by
  show (mkB ((uns s).drop (frontN (uns s)))).toArray.size ≤ _
  rw [List.size_toArray, mkB_length, List.length_drop, uns_length]
  omega
theorem textC_size (x : ByteArray) : (⟨(textC (pts x)).toArray⟩ : ByteArray).size ≤ 2 * x.size := by
  show (textC (pts x)).toArray.size ≤ _
  rw [List.size_toArray]
  have := textC_length (pts x)
  have := pts_length x
  omega
theorem res_yes (r : Int) (T u T1 : ByteArray) (R n : Nat) (hu : unsT T = u) (hWR : wR r u = (R : Nat)) (hWT : wT r u = T1) (hn : runN T1 0 (R : Nat) = n) (h0 : 0 < n) (hb : 2 ≤ R ∧ R ≤ 36) : wRes r T = sg (minusN T) (NF (numN (T1.extract 0 n) R n)) := by
  have hN : wN r u = n := by unfold wN; rw [hWR, hWT]; exact hn
  have hno : wNo r u = false := by unfold wNo; rw [hWR, hN]; exact decide_eq_false (by omega)
  unfold wRes wV
  rw [hu, hno, hWR, hWT, hN, Int.toNat_natCast]
  exact if_neg (by simp)
theorem res_no (r : Int) (T u T1 : ByteArray) (R n : Nat) (hu : unsT T = u) (hWR : wR r u = (R : Nat)) (hWT : wT r u = T1) (hn : runN T1 0 (R : Nat) = n) (h0 : n = 0) : wRes r T = 9221120237041090561 := by
  have hN : wN r u = n := by unfold wN; rw [hWR, hWT]; exact hn
  have hno : wNo r u = true := by unfold wNo; rw [hWR, hN]; exact decide_eq_true (by omega)
  unfold wRes
  rw [hu, hno]
  exact if_pos rfl
theorem near_run (T1 : ByteArray) (R n : Nat) (w : World) (hs : (T1.size : Int) ≤ 20000) (hn : runN T1 0 (R : Nat) = n) (hb : 2 ≤ R ∧ R ≤ 36) :
    Calls Tryz.prog 32 #[.string (T1.extract 0 n), .int .i64 R] w fun e w' => e = .returned (.float .f64 (NF (numN (T1.extract 0 n) R n))) ∧ Below w.heap.size w w' := by
  have hle := runN_le T1 0 (R : Nat)
  have hsz : (T1.extract 0 n).size = n := by rw [ByteArray.size_extract]; omega
  have := nearest_any (T1.extract 0 n) R w (by omega) hb (fun j hj => by
    rw [hsz] at hj
    rw [by_ext T1 0 n j (by omega) (by omega), Nat.zero_add]
    have := (runN_spec T1 (R : Nat)).1 j (by omega)
    omega)
  rw [hsz] at this
  exact this
set_option maxHeartbeats 4000000 in
set_option maxRecDepth 100000 in
theorem whole_1 (s : ByteArray) (base : Int) (w : World) (hs : (s.size : Int) ≤ 10000) (hl : Hid (LaidN w)) (r : Int) (hr : IntKind.i32.wrap base = r) (T u : ByteArray) (hT : (⟨(textC (pts (bhd s))).toArray⟩ : ByteArray) = T) (hu : unsT T = u)
    (hr0 : r = 0) (hp : prefN u = 16) :
    Calls Tryz.prog 8 #[.string s, .int .i64 base] w fun e w' => e = .returned (.float .f64 (wRes r T)) ∧ Below w.heap.size w w' := by
  have hTs : (T.size : Int) ≤ 20000 := by rw [← hT]; have := textC_size (bhd s); have := bhd_size s; omega
  have HA := Hid.mk' (fun W => blanksAhead_any s W (by omega))
  have HL := Hid.mk' (fun W => len_any s W (by unfold maxLen; omega))
  have HC := Hid.mk' (fun W => cut_any s (frontN (uns s) : Nat) ((s.size / 2 : Nat) : Int) W (by omega))
  rw [cut_front s _ (by have := frontN_le (uns s); rw [uns_length] at this; exact this)] at HC
  have HX := Hid.mk' (fun W => text_core (bhd s) W (by have := bhd_size s; omega))
  rw [hT] at HX
  have HU := Hid.mk' (fun W => unsigned_any T W (by omega))
  rw [hu] at HU
  have hus : (u.size : Int) ≤ 20000 := by
    rw [← hu]; unfold unsT; split
    · rw [tl_size]; omega
    · omega
  have HLB := Hid.mk' (fun W hW => letter_any u W (by omega) hW)
  have hu2 : (2 : Int) ≤ u.size := by
    rcases Nat.lt_or_ge u.size 2 with q | q
    · have : prefN u = 0 := by unfold prefN; rw [if_pos (.inl q)]
      omega
    · omega
  rw [hp] at HLB
  have hWR : wR r u = ((16 : Nat) : Int) := by unfold wR; rw [if_pos ⟨by omega, hp⟩]; rfl
  have hWT : wT r u = u.extract 2 u.size := by unfold wT; rw [if_pos ⟨by omega, hp⟩]
  obtain ⟨T1, hT1⟩ : ∃ T1, u.extract 2 u.size = T1 := ⟨_, rfl⟩
  rw [hT1] at hWT
  have hTs1 : (T1.size : Int) ≤ 20000 := by rw [← hT1]; rw [ByteArray.size_extract]; omega
  obtain ⟨n, hn⟩ : ∃ n, runN T1 0 ((16 : Nat) : Int) = n := ⟨_, rfl⟩
  have hnl := runN_le T1 0 ((16 : Nat) : Int)
  rw [hn] at hnl
  have HD := Hid.mk' (fun W => digitsAhead_any T1 ((16 : Nat) : Int) W (by omega) ⟨by omega, by omega⟩)
  rw [hn] at HD
  have HN := Hid.mk' (fun W => near_run T1 16 n W hTs1 hn ⟨by omega, by omega⟩)
  have HY := Hid.mk' (fun h0 => res_yes r T u T1 16 n hu hWR hWT hn h0 ⟨by omega, by omega⟩)
  have HNO := Hid.mk' (fun h0 => res_no r T u T1 16 n hu hWR hWT hn h0)
  have HSg := Hid.mk' (fun b W => signed_any (NF (numN (T1.extract 0 n) 16 n)) b W (NF_lt _))
  have HT1 := Hid.mk' hT1
  obtain ⟨f, hf⟩ : ∃ f, frontN (uns s) = f := ⟨_, rfl⟩
  rw [hf] at HA HC
  obtain ⟨Y, hY⟩ : ∃ Y, (⟨(mkB ((uns s).drop f)).toArray⟩ : ByteArray) = Y := ⟨_, rfl⟩
  have hbY : bhd s = Y := by rw [← hY, ← hf]; rfl
  rw [hY] at HC
  rw [hbY] at HX
  obtain ⟨mn, hmn⟩ : ∃ mn, minusN T = mn := ⟨_, rfl⟩
  rw [hmn] at HU
  rw [hmn] at HY
  obtain ⟨V, hV⟩ : ∃ V, NF (numN (T1.extract 0 n) 16 n) = V := ⟨_, rfl⟩
  rw [hV] at HN HY HSg
  obtain ⟨Res, hRes⟩ : ∃ Res, wRes r T = Res := ⟨_, rfl⟩
  rw [hRes] at HNO ⊢
  rw [hRes] at HY
  obtain ⟨n2, hn2⟩ : ∃ n2, s.size / 2 = n2 := ⟨_, rfl⟩
  rw [hn2] at HL HC
  have HNaN := Hid.mk' (fun W => nan_any W)
  clear hT hf hY hbY hn2 hu hmn hRes
  clear hn hWR hWT hT1 hV
  subst hr0
  go_enter Tryz.func8, Tryz.ntmps8
  go_wp2_with fail
  refine (HA.out _).mono ?_
  rintro e w1 ⟨rfl, n1, hw1⟩
  have b1 : Below w.heap.size w w1 := by rw [hw1]; exact (kept_drewN _ 0 _ _).1
  clear hw1
  go_wp2_with (go_at_call 27; refine (HL.out _).mono ?_; rintro e w2 ⟨rfl, hw2⟩; rw [hw2]; clear hw2 w2)
  refine (HC.out _).mono ?_
  rintro e w2 ⟨rfl, b2⟩
  have b02 : Below w.heap.size w w2 := b1.trans (b2.mono b1.size)
  clear b1 b2
  go_wp2_with fail
  refine (HX.out _).mono ?_
  rintro e w3 ⟨rfl, b3⟩
  have b03 : Below w.heap.size w w3 := b02.trans (b3.mono b02.size)
  clear b02 b3
  go_wp2_with fail
  refine (HU.out _).mono ?_
  rintro e w4 ⟨rfl, b4⟩
  have b04 : Below w.heap.size w w4 := b03.trans (b4.mono b03.size)
  have hl4 : Hid (LaidN w4) := hl.out.below b04
  clear b03 b4
  go_wp2_with fail
  refine (HLB.out _ hl4).mono ?_
  rintro e w5 ⟨rfl, b5⟩
  have b05 : Below w.heap.size w w5 := b04.trans (b5.mono b04.size)
  clear b04 b5
  go_wp2_with fail
  rw [HT1.out]
  refine (HD.out _).mono ?_
  rintro e w6 ⟨rfl, b6⟩
  have b06 : Below w.heap.size w w6 := b05.trans (b6.mono b05.size)
  clear b05 b6
  by_cases h0 : n = 0
  · have q : ((n : Int) == 0) = true := by rw [beq_iff_eq]; omega
    have HE := Hid.mk' (HNO.out h0)
    clear HNO HY h0
    go_wp2_with (go_at_call 29; refine (HNaN.out _).mono ?_; rintro e w7 ⟨rfl, hw7⟩; rw [hw7]; clear hw7 w7)
    go_ret
    exact ⟨by rw [HE.out]; rfl, b06⟩
  · have q : ((n : Int) == 0) = false := by rw [beq_eq_false_iff_ne]; omega
    have hnle : (n : Int) ≤ T1.size := by omega
    have HE := Hid.mk' (HY.out (by omega))
    clear HNO HY h0
    go_wp2_with fail
    refine (HN.out _).mono ?_
    rintro e w7 ⟨rfl, b7⟩
    have b07 : Below w.heap.size w w7 := b06.trans (b7.mono b06.size)
    clear b06 b7
    go_wp2_with (go_at_call 31; refine (HSg.out _ _).mono ?_; rintro e w8 ⟨rfl, hw8⟩; rw [hw8]; clear hw8 w8)
    go_ret
    exact ⟨by rw [HE.out]; rfl, b07⟩
set_option maxHeartbeats 4000000 in
set_option maxRecDepth 100000 in
theorem whole_2 (s : ByteArray) (base : Int) (w : World) (hs : (s.size : Int) ≤ 10000) (hl : Hid (LaidN w)) (r : Int) (hr : IntKind.i32.wrap base = r) (T u : ByteArray) (hT : (⟨(textC (pts (bhd s))).toArray⟩ : ByteArray) = T) (hu : unsT T = u)
    (hr0 : r = 16) (hp : prefN u = 16) :
    Calls Tryz.prog 8 #[.string s, .int .i64 base] w fun e w' => e = .returned (.float .f64 (wRes r T)) ∧ Below w.heap.size w w' := by
  have hTs : (T.size : Int) ≤ 20000 := by rw [← hT]; have := textC_size (bhd s); have := bhd_size s; omega
  have HA := Hid.mk' (fun W => blanksAhead_any s W (by omega))
  have HL := Hid.mk' (fun W => len_any s W (by unfold maxLen; omega))
  have HC := Hid.mk' (fun W => cut_any s (frontN (uns s) : Nat) ((s.size / 2 : Nat) : Int) W (by omega))
  rw [cut_front s _ (by have := frontN_le (uns s); rw [uns_length] at this; exact this)] at HC
  have HX := Hid.mk' (fun W => text_core (bhd s) W (by have := bhd_size s; omega))
  rw [hT] at HX
  have HU := Hid.mk' (fun W => unsigned_any T W (by omega))
  rw [hu] at HU
  have hus : (u.size : Int) ≤ 20000 := by
    rw [← hu]; unfold unsT; split
    · rw [tl_size]; omega
    · omega
  have HLB := Hid.mk' (fun W hW => letter_any u W (by omega) hW)
  have hu2 : (2 : Int) ≤ u.size := by
    rcases Nat.lt_or_ge u.size 2 with q | q
    · have : prefN u = 0 := by unfold prefN; rw [if_pos (.inl q)]
      omega
    · omega
  rw [hp] at HLB
  have hWR : wR r u = ((16 : Nat) : Int) := by unfold wR; rw [if_pos ⟨by omega, hp⟩]; rfl
  have hWT : wT r u = u.extract 2 u.size := by unfold wT; rw [if_pos ⟨by omega, hp⟩]
  obtain ⟨T1, hT1⟩ : ∃ T1, u.extract 2 u.size = T1 := ⟨_, rfl⟩
  rw [hT1] at hWT
  have hTs1 : (T1.size : Int) ≤ 20000 := by rw [← hT1]; rw [ByteArray.size_extract]; omega
  obtain ⟨n, hn⟩ : ∃ n, runN T1 0 ((16 : Nat) : Int) = n := ⟨_, rfl⟩
  have hnl := runN_le T1 0 ((16 : Nat) : Int)
  rw [hn] at hnl
  have HD := Hid.mk' (fun W => digitsAhead_any T1 ((16 : Nat) : Int) W (by omega) ⟨by omega, by omega⟩)
  rw [hn] at HD
  have HN := Hid.mk' (fun W => near_run T1 16 n W hTs1 hn ⟨by omega, by omega⟩)
  have HY := Hid.mk' (fun h0 => res_yes r T u T1 16 n hu hWR hWT hn h0 ⟨by omega, by omega⟩)
  have HNO := Hid.mk' (fun h0 => res_no r T u T1 16 n hu hWR hWT hn h0)
  have HSg := Hid.mk' (fun b W => signed_any (NF (numN (T1.extract 0 n) 16 n)) b W (NF_lt _))
  have HT1 := Hid.mk' hT1
  obtain ⟨f, hf⟩ : ∃ f, frontN (uns s) = f := ⟨_, rfl⟩
  rw [hf] at HA HC
  obtain ⟨Y, hY⟩ : ∃ Y, (⟨(mkB ((uns s).drop f)).toArray⟩ : ByteArray) = Y := ⟨_, rfl⟩
  have hbY : bhd s = Y := by rw [← hY, ← hf]; rfl
  rw [hY] at HC
  rw [hbY] at HX
  obtain ⟨mn, hmn⟩ : ∃ mn, minusN T = mn := ⟨_, rfl⟩
  rw [hmn] at HU
  rw [hmn] at HY
  obtain ⟨V, hV⟩ : ∃ V, NF (numN (T1.extract 0 n) 16 n) = V := ⟨_, rfl⟩
  rw [hV] at HN HY HSg
  obtain ⟨Res, hRes⟩ : ∃ Res, wRes r T = Res := ⟨_, rfl⟩
  rw [hRes] at HNO ⊢
  rw [hRes] at HY
  obtain ⟨n2, hn2⟩ : ∃ n2, s.size / 2 = n2 := ⟨_, rfl⟩
  rw [hn2] at HL HC
  have HNaN := Hid.mk' (fun W => nan_any W)
  clear hT hf hY hbY hn2 hu hmn hRes
  clear hn hWR hWT hT1 hV
  subst hr0
  go_enter Tryz.func8, Tryz.ntmps8
  go_wp2_with fail
  refine (HA.out _).mono ?_
  rintro e w1 ⟨rfl, n1, hw1⟩
  have b1 : Below w.heap.size w w1 := by rw [hw1]; exact (kept_drewN _ 0 _ _).1
  clear hw1
  go_wp2_with (go_at_call 27; refine (HL.out _).mono ?_; rintro e w2 ⟨rfl, hw2⟩; rw [hw2]; clear hw2 w2)
  refine (HC.out _).mono ?_
  rintro e w2 ⟨rfl, b2⟩
  have b02 : Below w.heap.size w w2 := b1.trans (b2.mono b1.size)
  clear b1 b2
  go_wp2_with fail
  refine (HX.out _).mono ?_
  rintro e w3 ⟨rfl, b3⟩
  have b03 : Below w.heap.size w w3 := b02.trans (b3.mono b02.size)
  clear b02 b3
  go_wp2_with fail
  refine (HU.out _).mono ?_
  rintro e w4 ⟨rfl, b4⟩
  have b04 : Below w.heap.size w w4 := b03.trans (b4.mono b03.size)
  have hl4 : Hid (LaidN w4) := hl.out.below b04
  clear b03 b4
  go_wp2_with fail
  refine (HLB.out _ hl4).mono ?_
  rintro e w5 ⟨rfl, b5⟩
  have b05 : Below w.heap.size w w5 := b04.trans (b5.mono b04.size)
  clear b04 b5
  go_wp2_with fail
  rw [HT1.out]
  refine (HD.out _).mono ?_
  rintro e w6 ⟨rfl, b6⟩
  have b06 : Below w.heap.size w w6 := b05.trans (b6.mono b05.size)
  clear b05 b6
  by_cases h0 : n = 0
  · have q : ((n : Int) == 0) = true := by rw [beq_iff_eq]; omega
    have HE := Hid.mk' (HNO.out h0)
    clear HNO HY h0
    go_wp2_with (go_at_call 29; refine (HNaN.out _).mono ?_; rintro e w7 ⟨rfl, hw7⟩; rw [hw7]; clear hw7 w7)
    go_ret
    exact ⟨by rw [HE.out]; rfl, b06⟩
  · have q : ((n : Int) == 0) = false := by rw [beq_eq_false_iff_ne]; omega
    have hnle : (n : Int) ≤ T1.size := by omega
    have HE := Hid.mk' (HY.out (by omega))
    clear HNO HY h0
    go_wp2_with fail
    refine (HN.out _).mono ?_
    rintro e w7 ⟨rfl, b7⟩
    have b07 : Below w.heap.size w w7 := b06.trans (b7.mono b06.size)
    clear b06 b7
    go_wp2_with (go_at_call 31; refine (HSg.out _ _).mono ?_; rintro e w8 ⟨rfl, hw8⟩; rw [hw8]; clear hw8 w8)
    go_ret
    exact ⟨by rw [HE.out]; rfl, b07⟩
set_option maxHeartbeats 4000000 in
set_option maxRecDepth 100000 in
theorem whole_3 (s : ByteArray) (base : Int) (w : World) (hs : (s.size : Int) ≤ 10000) (hl : Hid (LaidN w)) (r : Int) (hr : IntKind.i32.wrap base = r) (T u : ByteArray) (hT : (⟨(textC (pts (bhd s))).toArray⟩ : ByteArray) = T) (hu : unsT T = u)
    (hr0 : r = 0) (hp : prefN u ≠ 16) :
    Calls Tryz.prog 8 #[.string s, .int .i64 base] w fun e w' => e = .returned (.float .f64 (wRes r T)) ∧ Below w.heap.size w w' := by
  have hTs : (T.size : Int) ≤ 20000 := by rw [← hT]; have := textC_size (bhd s); have := bhd_size s; omega
  have HA := Hid.mk' (fun W => blanksAhead_any s W (by omega))
  have HL := Hid.mk' (fun W => len_any s W (by unfold maxLen; omega))
  have HC := Hid.mk' (fun W => cut_any s (frontN (uns s) : Nat) ((s.size / 2 : Nat) : Int) W (by omega))
  rw [cut_front s _ (by have := frontN_le (uns s); rw [uns_length] at this; exact this)] at HC
  have HX := Hid.mk' (fun W => text_core (bhd s) W (by have := bhd_size s; omega))
  rw [hT] at HX
  have HU := Hid.mk' (fun W => unsigned_any T W (by omega))
  rw [hu] at HU
  have hus : (u.size : Int) ≤ 20000 := by
    rw [← hu]; unfold unsT; split
    · rw [tl_size]; omega
    · omega
  have HLB := Hid.mk' (fun W hW => letter_any u W (by omega) hW)
  obtain ⟨pp, hpp⟩ : ∃ pp, prefN u = pp := ⟨_, rfl⟩
  rw [hpp] at HLB
  have hp16 : ((pp : Int) == 16) = false := by rw [beq_eq_false_iff_ne]; omega
  have hWR : wR r u = ((10 : Nat) : Int) := by unfold wR; rw [if_neg (fun q => hp q.2), if_pos (by omega)]; rfl
  have hWT : wT r u = u := by unfold wT; rw [if_neg (fun q => hp q.2)]
  have hTs1 := hus
  obtain ⟨n, hn⟩ : ∃ n, runN u 0 ((10 : Nat) : Int) = n := ⟨_, rfl⟩
  have hnl := runN_le u 0 ((10 : Nat) : Int)
  rw [hn] at hnl
  have HD := Hid.mk' (fun W => digitsAhead_any u ((10 : Nat) : Int) W (by omega) ⟨by omega, by omega⟩)
  rw [hn] at HD
  have HN := Hid.mk' (fun W => near_run u 10 n W hTs1 hn ⟨by omega, by omega⟩)
  have HY := Hid.mk' (fun h0 => res_yes r T u u 10 n hu hWR hWT hn h0 ⟨by omega, by omega⟩)
  have HNO := Hid.mk' (fun h0 => res_no r T u u 10 n hu hWR hWT hn h0)
  have HSg := Hid.mk' (fun b W => signed_any (NF (numN (u.extract 0 n) 10 n)) b W (NF_lt _))
  obtain ⟨f, hf⟩ : ∃ f, frontN (uns s) = f := ⟨_, rfl⟩
  rw [hf] at HA HC
  obtain ⟨Y, hY⟩ : ∃ Y, (⟨(mkB ((uns s).drop f)).toArray⟩ : ByteArray) = Y := ⟨_, rfl⟩
  have hbY : bhd s = Y := by rw [← hY, ← hf]; rfl
  rw [hY] at HC
  rw [hbY] at HX
  obtain ⟨mn, hmn⟩ : ∃ mn, minusN T = mn := ⟨_, rfl⟩
  rw [hmn] at HU
  rw [hmn] at HY
  obtain ⟨V, hV⟩ : ∃ V, NF (numN (u.extract 0 n) 10 n) = V := ⟨_, rfl⟩
  rw [hV] at HN HY HSg
  obtain ⟨Res, hRes⟩ : ∃ Res, wRes r T = Res := ⟨_, rfl⟩
  rw [hRes] at HNO ⊢
  rw [hRes] at HY
  obtain ⟨n2, hn2⟩ : ∃ n2, s.size / 2 = n2 := ⟨_, rfl⟩
  rw [hn2] at HL HC
  have HNaN := Hid.mk' (fun W => nan_any W)
  clear hT hf hY hbY hn2 hu hmn hRes
  clear hn hWR hWT hV
  subst hr0
  go_enter Tryz.func8, Tryz.ntmps8
  go_wp2_with fail
  refine (HA.out _).mono ?_
  rintro e w1 ⟨rfl, n1, hw1⟩
  have b1 : Below w.heap.size w w1 := by rw [hw1]; exact (kept_drewN _ 0 _ _).1
  clear hw1
  go_wp2_with (go_at_call 27; refine (HL.out _).mono ?_; rintro e w2 ⟨rfl, hw2⟩; rw [hw2]; clear hw2 w2)
  refine (HC.out _).mono ?_
  rintro e w2 ⟨rfl, b2⟩
  have b02 : Below w.heap.size w w2 := b1.trans (b2.mono b1.size)
  clear b1 b2
  go_wp2_with fail
  refine (HX.out _).mono ?_
  rintro e w3 ⟨rfl, b3⟩
  have b03 : Below w.heap.size w w3 := b02.trans (b3.mono b02.size)
  clear b02 b3
  go_wp2_with fail
  refine (HU.out _).mono ?_
  rintro e w4 ⟨rfl, b4⟩
  have b04 : Below w.heap.size w w4 := b03.trans (b4.mono b03.size)
  have hl4 : Hid (LaidN w4) := hl.out.below b04
  clear b03 b4
  go_wp2_with fail
  refine (HLB.out _ hl4).mono ?_
  rintro e w5 ⟨rfl, b5⟩
  have b05 : Below w.heap.size w w5 := b04.trans (b5.mono b04.size)
  clear b04 b5
  go_wp2_with fail
  refine (HD.out _).mono ?_
  rintro e w6 ⟨rfl, b6⟩
  have b06 : Below w.heap.size w w6 := b05.trans (b6.mono b05.size)
  clear b05 b6
  by_cases h0 : n = 0
  · have q : ((n : Int) == 0) = true := by rw [beq_iff_eq]; omega
    have HE := Hid.mk' (HNO.out h0)
    clear HNO HY h0
    go_wp2_with (go_at_call 29; refine (HNaN.out _).mono ?_; rintro e w7 ⟨rfl, hw7⟩; rw [hw7]; clear hw7 w7)
    go_ret
    exact ⟨by rw [HE.out]; rfl, b06⟩
  · have q : ((n : Int) == 0) = false := by rw [beq_eq_false_iff_ne]; omega
    have hnle : (n : Int) ≤ u.size := by omega
    have HE := Hid.mk' (HY.out (by omega))
    clear HNO HY h0
    go_wp2_with fail
    refine (HN.out _).mono ?_
    rintro e w7 ⟨rfl, b7⟩
    have b07 : Below w.heap.size w w7 := b06.trans (b7.mono b06.size)
    clear b06 b7
    go_wp2_with (go_at_call 31; refine (HSg.out _ _).mono ?_; rintro e w8 ⟨rfl, hw8⟩; rw [hw8]; clear hw8 w8)
    go_ret
    exact ⟨by rw [HE.out]; rfl, b07⟩
set_option maxHeartbeats 4000000 in
set_option maxRecDepth 100000 in
theorem whole_4 (s : ByteArray) (base : Int) (w : World) (hs : (s.size : Int) ≤ 10000) (hl : Hid (LaidN w)) (r : Int) (hr : IntKind.i32.wrap base = r) (T u : ByteArray) (hT : (⟨(textC (pts (bhd s))).toArray⟩ : ByteArray) = T) (hu : unsT T = u)
    (hr0 : r = 16) (hp : prefN u ≠ 16) :
    Calls Tryz.prog 8 #[.string s, .int .i64 base] w fun e w' => e = .returned (.float .f64 (wRes r T)) ∧ Below w.heap.size w w' := by
  have hTs : (T.size : Int) ≤ 20000 := by rw [← hT]; have := textC_size (bhd s); have := bhd_size s; omega
  have HA := Hid.mk' (fun W => blanksAhead_any s W (by omega))
  have HL := Hid.mk' (fun W => len_any s W (by unfold maxLen; omega))
  have HC := Hid.mk' (fun W => cut_any s (frontN (uns s) : Nat) ((s.size / 2 : Nat) : Int) W (by omega))
  rw [cut_front s _ (by have := frontN_le (uns s); rw [uns_length] at this; exact this)] at HC
  have HX := Hid.mk' (fun W => text_core (bhd s) W (by have := bhd_size s; omega))
  rw [hT] at HX
  have HU := Hid.mk' (fun W => unsigned_any T W (by omega))
  rw [hu] at HU
  have hus : (u.size : Int) ≤ 20000 := by
    rw [← hu]; unfold unsT; split
    · rw [tl_size]; omega
    · omega
  have HLB := Hid.mk' (fun W hW => letter_any u W (by omega) hW)
  obtain ⟨pp, hpp⟩ : ∃ pp, prefN u = pp := ⟨_, rfl⟩
  rw [hpp] at HLB
  have hp16 : ((pp : Int) == 16) = false := by rw [beq_eq_false_iff_ne]; omega
  have hWR : wR r u = ((16 : Nat) : Int) := by unfold wR; rw [if_neg (fun q => hp q.2), if_neg (by omega)]; exact hr0
  have hWT : wT r u = u := by unfold wT; rw [if_neg (fun q => hp q.2)]
  have hTs1 := hus
  obtain ⟨n, hn⟩ : ∃ n, runN u 0 ((16 : Nat) : Int) = n := ⟨_, rfl⟩
  have hnl := runN_le u 0 ((16 : Nat) : Int)
  rw [hn] at hnl
  have HD := Hid.mk' (fun W => digitsAhead_any u ((16 : Nat) : Int) W (by omega) ⟨by omega, by omega⟩)
  rw [hn] at HD
  have HN := Hid.mk' (fun W => near_run u 16 n W hTs1 hn ⟨by omega, by omega⟩)
  have HY := Hid.mk' (fun h0 => res_yes r T u u 16 n hu hWR hWT hn h0 ⟨by omega, by omega⟩)
  have HNO := Hid.mk' (fun h0 => res_no r T u u 16 n hu hWR hWT hn h0)
  have HSg := Hid.mk' (fun b W => signed_any (NF (numN (u.extract 0 n) 16 n)) b W (NF_lt _))
  obtain ⟨f, hf⟩ : ∃ f, frontN (uns s) = f := ⟨_, rfl⟩
  rw [hf] at HA HC
  obtain ⟨Y, hY⟩ : ∃ Y, (⟨(mkB ((uns s).drop f)).toArray⟩ : ByteArray) = Y := ⟨_, rfl⟩
  have hbY : bhd s = Y := by rw [← hY, ← hf]; rfl
  rw [hY] at HC
  rw [hbY] at HX
  obtain ⟨mn, hmn⟩ : ∃ mn, minusN T = mn := ⟨_, rfl⟩
  rw [hmn] at HU
  rw [hmn] at HY
  obtain ⟨V, hV⟩ : ∃ V, NF (numN (u.extract 0 n) 16 n) = V := ⟨_, rfl⟩
  rw [hV] at HN HY HSg
  obtain ⟨Res, hRes⟩ : ∃ Res, wRes r T = Res := ⟨_, rfl⟩
  rw [hRes] at HNO ⊢
  rw [hRes] at HY
  obtain ⟨n2, hn2⟩ : ∃ n2, s.size / 2 = n2 := ⟨_, rfl⟩
  rw [hn2] at HL HC
  have HNaN := Hid.mk' (fun W => nan_any W)
  clear hT hf hY hbY hn2 hu hmn hRes
  clear hn hWR hWT hV
  subst hr0
  go_enter Tryz.func8, Tryz.ntmps8
  go_wp2_with fail
  refine (HA.out _).mono ?_
  rintro e w1 ⟨rfl, n1, hw1⟩
  have b1 : Below w.heap.size w w1 := by rw [hw1]; exact (kept_drewN _ 0 _ _).1
  clear hw1
  go_wp2_with (go_at_call 27; refine (HL.out _).mono ?_; rintro e w2 ⟨rfl, hw2⟩; rw [hw2]; clear hw2 w2)
  refine (HC.out _).mono ?_
  rintro e w2 ⟨rfl, b2⟩
  have b02 : Below w.heap.size w w2 := b1.trans (b2.mono b1.size)
  clear b1 b2
  go_wp2_with fail
  refine (HX.out _).mono ?_
  rintro e w3 ⟨rfl, b3⟩
  have b03 : Below w.heap.size w w3 := b02.trans (b3.mono b02.size)
  clear b02 b3
  go_wp2_with fail
  refine (HU.out _).mono ?_
  rintro e w4 ⟨rfl, b4⟩
  have b04 : Below w.heap.size w w4 := b03.trans (b4.mono b03.size)
  have hl4 : Hid (LaidN w4) := hl.out.below b04
  clear b03 b4
  go_wp2_with fail
  refine (HLB.out _ hl4).mono ?_
  rintro e w5 ⟨rfl, b5⟩
  have b05 : Below w.heap.size w w5 := b04.trans (b5.mono b04.size)
  clear b04 b5
  go_wp2_with fail
  refine (HD.out _).mono ?_
  rintro e w6 ⟨rfl, b6⟩
  have b06 : Below w.heap.size w w6 := b05.trans (b6.mono b05.size)
  clear b05 b6
  by_cases h0 : n = 0
  · have q : ((n : Int) == 0) = true := by rw [beq_iff_eq]; omega
    have HE := Hid.mk' (HNO.out h0)
    clear HNO HY h0
    go_wp2_with (go_at_call 29; refine (HNaN.out _).mono ?_; rintro e w7 ⟨rfl, hw7⟩; rw [hw7]; clear hw7 w7)
    go_ret
    exact ⟨by rw [HE.out]; rfl, b06⟩
  · have q : ((n : Int) == 0) = false := by rw [beq_eq_false_iff_ne]; omega
    have hnle : (n : Int) ≤ u.size := by omega
    have HE := Hid.mk' (HY.out (by omega))
    clear HNO HY h0
    go_wp2_with fail
    refine (HN.out _).mono ?_
    rintro e w7 ⟨rfl, b7⟩
    have b07 : Below w.heap.size w w7 := b06.trans (b7.mono b06.size)
    clear b06 b7
    go_wp2_with (go_at_call 31; refine (HSg.out _ _).mono ?_; rintro e w8 ⟨rfl, hw8⟩; rw [hw8]; clear hw8 w8)
    go_ret
    exact ⟨by rw [HE.out]; rfl, b07⟩
set_option maxHeartbeats 4000000 in
set_option maxRecDepth 100000 in
theorem whole_5 (s : ByteArray) (base : Int) (w : World) (hs : (s.size : Int) ≤ 10000) (hl : Hid (LaidN w)) (r : Int) (hr : IntKind.i32.wrap base = r) (T u : ByteArray) (hT : (⟨(textC (pts (bhd s))).toArray⟩ : ByteArray) = T) (hu : unsT T = u)
    (R : Nat) (hR : r = (R : Nat)) (hR2 : 2 ≤ R ∧ R ≤ 36) (hR3 : R ≠ 16) :
    Calls Tryz.prog 8 #[.string s, .int .i64 base] w fun e w' => e = .returned (.float .f64 (wRes r T)) ∧ Below w.heap.size w w' := by
  have hTs : (T.size : Int) ≤ 20000 := by rw [← hT]; have := textC_size (bhd s); have := bhd_size s; omega
  have HA := Hid.mk' (fun W => blanksAhead_any s W (by omega))
  have HL := Hid.mk' (fun W => len_any s W (by unfold maxLen; omega))
  have HC := Hid.mk' (fun W => cut_any s (frontN (uns s) : Nat) ((s.size / 2 : Nat) : Int) W (by omega))
  rw [cut_front s _ (by have := frontN_le (uns s); rw [uns_length] at this; exact this)] at HC
  have HX := Hid.mk' (fun W => text_core (bhd s) W (by have := bhd_size s; omega))
  rw [hT] at HX
  have HU := Hid.mk' (fun W => unsigned_any T W (by omega))
  rw [hu] at HU
  have hus : (u.size : Int) ≤ 20000 := by
    rw [← hu]; unfold unsT; split
    · rw [tl_size]; omega
    · omega
  have hWR : wR r u = ((R : Nat) : Int) := by unfold wR; rw [if_neg (fun q => by omega), if_neg (by omega)]; exact hR
  have hWT : wT r u = u := by unfold wT; rw [if_neg (fun q => by omega)]
  have hTs1 := hus
  obtain ⟨n, hn⟩ : ∃ n, runN u 0 ((R : Nat) : Int) = n := ⟨_, rfl⟩
  have hnl := runN_le u 0 ((R : Nat) : Int)
  rw [hn] at hnl
  have HD := Hid.mk' (fun W => digitsAhead_any u ((R : Nat) : Int) W (by omega) ⟨by omega, by omega⟩)
  rw [hn] at HD
  have HN := Hid.mk' (fun W => near_run u R n W hTs1 hn hR2)
  have HY := Hid.mk' (fun h0 => res_yes r T u u R n hu hWR hWT hn h0 hR2)
  have HNO := Hid.mk' (fun h0 => res_no r T u u R n hu hWR hWT hn h0)
  have HSg := Hid.mk' (fun b W => signed_any (NF (numN (u.extract 0 n) R n)) b W (NF_lt _))
  obtain ⟨f, hf⟩ : ∃ f, frontN (uns s) = f := ⟨_, rfl⟩
  rw [hf] at HA HC
  obtain ⟨Y, hY⟩ : ∃ Y, (⟨(mkB ((uns s).drop f)).toArray⟩ : ByteArray) = Y := ⟨_, rfl⟩
  have hbY : bhd s = Y := by rw [← hY, ← hf]; rfl
  rw [hY] at HC
  rw [hbY] at HX
  obtain ⟨mn, hmn⟩ : ∃ mn, minusN T = mn := ⟨_, rfl⟩
  rw [hmn] at HU
  rw [hmn] at HY
  obtain ⟨V, hV⟩ : ∃ V, NF (numN (u.extract 0 n) R n) = V := ⟨_, rfl⟩
  rw [hV] at HN HY HSg
  obtain ⟨Res, hRes⟩ : ∃ Res, wRes r T = Res := ⟨_, rfl⟩
  rw [hRes] at HNO ⊢
  rw [hRes] at HY
  obtain ⟨n2, hn2⟩ : ∃ n2, s.size / 2 = n2 := ⟨_, rfl⟩
  rw [hn2] at HL HC
  have HNaN := Hid.mk' (fun W => nan_any W)
  clear hT hf hY hbY hn2 hu hmn hRes
  clear hn hWR hWT hV
  subst hR
  have q0 : ((R : Int) == 0) = false := by rw [beq_eq_false_iff_ne]; omega
  have q16 : ((R : Int) == 16) = false := by rw [beq_eq_false_iff_ne]; omega
  go_enter Tryz.func8, Tryz.ntmps8
  go_wp2_with fail
  refine (HA.out _).mono ?_
  rintro e w1 ⟨rfl, n1, hw1⟩
  have b1 : Below w.heap.size w w1 := by rw [hw1]; exact (kept_drewN _ 0 _ _).1
  clear hw1
  go_wp2_with (go_at_call 27; refine (HL.out _).mono ?_; rintro e w2 ⟨rfl, hw2⟩; rw [hw2]; clear hw2 w2)
  refine (HC.out _).mono ?_
  rintro e w2 ⟨rfl, b2⟩
  have b02 : Below w.heap.size w w2 := b1.trans (b2.mono b1.size)
  clear b1 b2
  go_wp2_with fail
  refine (HX.out _).mono ?_
  rintro e w3 ⟨rfl, b3⟩
  have b03 : Below w.heap.size w w3 := b02.trans (b3.mono b02.size)
  clear b02 b3
  go_wp2_with fail
  refine (HU.out _).mono ?_
  rintro e w4 ⟨rfl, b4⟩
  have b04 : Below w.heap.size w w4 := b03.trans (b4.mono b03.size)
  have hl4 : Hid (LaidN w4) := hl.out.below b04
  clear b03 b4
  obtain ⟨w5, hw5⟩ : ∃ w5, w4 = w5 := ⟨_, rfl⟩
  subst hw5
  have b05 := b04
  go_wp2_with fail
  refine (HD.out _).mono ?_
  rintro e w6 ⟨rfl, b6⟩
  have b06 : Below w.heap.size w w6 := b05.trans (b6.mono b05.size)
  clear b05 b6
  by_cases h0 : n = 0
  · have q : ((n : Int) == 0) = true := by rw [beq_iff_eq]; omega
    have HE := Hid.mk' (HNO.out h0)
    clear HNO HY h0
    go_wp2_with (go_at_call 29; refine (HNaN.out _).mono ?_; rintro e w7 ⟨rfl, hw7⟩; rw [hw7]; clear hw7 w7)
    go_ret
    exact ⟨by rw [HE.out]; rfl, b06⟩
  · have q : ((n : Int) == 0) = false := by rw [beq_eq_false_iff_ne]; omega
    have hnle : (n : Int) ≤ u.size := by omega
    have HE := Hid.mk' (HY.out (by omega))
    clear HNO HY h0
    go_wp2_with fail
    refine (HN.out _).mono ?_
    rintro e w7 ⟨rfl, b7⟩
    have b07 : Below w.heap.size w w7 := b06.trans (b7.mono b06.size)
    clear b06 b7
    go_wp2_with (go_at_call 31; refine (HSg.out _ _).mono ?_; rintro e w8 ⟨rfl, hw8⟩; rw [hw8]; clear hw8 w8)
    go_ret
    exact ⟨by rw [HE.out]; rfl, b07⟩
set_option maxHeartbeats 4000000 in
set_option maxRecDepth 100000 in
theorem whole_6 (s : ByteArray) (base : Int) (w : World) (hs : (s.size : Int) ≤ 10000) (hl : Hid (LaidN w)) (r : Int) (hr : IntKind.i32.wrap base = r) (T u : ByteArray) (hT : (⟨(textC (pts (bhd s))).toArray⟩ : ByteArray) = T) (hu : unsT T = u)
    (h1 : r ≠ 0) (h2 : r ≠ 16) (h3 : r < 2) :
    Calls Tryz.prog 8 #[.string s, .int .i64 base] w fun e w' => e = .returned (.float .f64 (wRes r T)) ∧ Below w.heap.size w w' := by
  have hTs : (T.size : Int) ≤ 20000 := by rw [← hT]; have := textC_size (bhd s); have := bhd_size s; omega
  have HA := Hid.mk' (fun W => blanksAhead_any s W (by omega))
  have HL := Hid.mk' (fun W => len_any s W (by unfold maxLen; omega))
  have HC := Hid.mk' (fun W => cut_any s (frontN (uns s) : Nat) ((s.size / 2 : Nat) : Int) W (by omega))
  rw [cut_front s _ (by have := frontN_le (uns s); rw [uns_length] at this; exact this)] at HC
  have HX := Hid.mk' (fun W => text_core (bhd s) W (by have := bhd_size s; omega))
  rw [hT] at HX
  have HU := Hid.mk' (fun W => unsigned_any T W (by omega))
  rw [hu] at HU
  have hus : (u.size : Int) ≤ 20000 := by
    rw [← hu]; unfold unsT; split
    · rw [tl_size]; omega
    · omega
  have hNo : wRes r T = 9221120237041090561 := by
    have hWR : wR r u = r := by unfold wR; rw [if_neg (fun q => by omega), if_neg h1]
    have hno : wNo r u = true := by unfold wNo; rw [hWR]; exact decide_eq_true (by omega)
    unfold wRes
    rw [hu, hno]
    exact if_pos rfl
  have HNO := Hid.mk' hNo
  obtain ⟨f, hf⟩ : ∃ f, frontN (uns s) = f := ⟨_, rfl⟩
  rw [hf] at HA HC
  obtain ⟨Y, hY⟩ : ∃ Y, (⟨(mkB ((uns s).drop f)).toArray⟩ : ByteArray) = Y := ⟨_, rfl⟩
  have hbY : bhd s = Y := by rw [← hY, ← hf]; rfl
  rw [hY] at HC
  rw [hbY] at HX
  obtain ⟨mn, hmn⟩ : ∃ mn, minusN T = mn := ⟨_, rfl⟩
  rw [hmn] at HU
  obtain ⟨Res, hRes⟩ : ∃ Res, wRes r T = Res := ⟨_, rfl⟩
  rw [hRes] at HNO ⊢
  obtain ⟨n2, hn2⟩ : ∃ n2, s.size / 2 = n2 := ⟨_, rfl⟩
  rw [hn2] at HL HC
  have HNaN := Hid.mk' (fun W => nan_any W)
  clear hT hf hY hbY hn2 hu hmn hRes
  have hrb1 : -2147483648 ≤ r := by rw [← hr, IntKind.wrap_i32]; omega
  have hrb2 : r ≤ 2147483647 := by rw [← hr, IntKind.wrap_i32]; omega
  have q0 : (r == 0) = false := by rw [beq_eq_false_iff_ne]; omega
  have q16 : (r == 16) = false := by rw [beq_eq_false_iff_ne]; omega
  clear h1 h2
  go_enter Tryz.func8, Tryz.ntmps8
  go_wp2_with fail
  refine (HA.out _).mono ?_
  rintro e w1 ⟨rfl, n1, hw1⟩
  have b1 : Below w.heap.size w w1 := by rw [hw1]; exact (kept_drewN _ 0 _ _).1
  clear hw1
  go_wp2_with (go_at_call 27; refine (HL.out _).mono ?_; rintro e w2 ⟨rfl, hw2⟩; rw [hw2]; clear hw2 w2)
  refine (HC.out _).mono ?_
  rintro e w2 ⟨rfl, b2⟩
  have b02 : Below w.heap.size w w2 := b1.trans (b2.mono b1.size)
  clear b1 b2
  go_wp2_with fail
  refine (HX.out _).mono ?_
  rintro e w3 ⟨rfl, b3⟩
  have b03 : Below w.heap.size w w3 := b02.trans (b3.mono b02.size)
  clear b02 b3
  go_wp2_with fail
  refine (HU.out _).mono ?_
  rintro e w4 ⟨rfl, b4⟩
  have b04 : Below w.heap.size w w4 := b03.trans (b4.mono b03.size)
  have hl4 : Hid (LaidN w4) := hl.out.below b04
  clear b03 b4
  go_wp2_with (go_at_call 29; refine (HNaN.out _).mono ?_; rintro e w5 ⟨rfl, hw5⟩; rw [hw5]; clear hw5 w5)
  all_goals
    go_ret
    exact ⟨by rw [HNO.out]; rfl, b04⟩
set_option maxHeartbeats 4000000 in
set_option maxRecDepth 100000 in
theorem whole_7 (s : ByteArray) (base : Int) (w : World) (hs : (s.size : Int) ≤ 10000) (hl : Hid (LaidN w)) (r : Int) (hr : IntKind.i32.wrap base = r) (T u : ByteArray) (hT : (⟨(textC (pts (bhd s))).toArray⟩ : ByteArray) = T) (hu : unsT T = u)
    (h1 : r ≠ 0) (h2 : r ≠ 16) (h3 : 36 < r) :
    Calls Tryz.prog 8 #[.string s, .int .i64 base] w fun e w' => e = .returned (.float .f64 (wRes r T)) ∧ Below w.heap.size w w' := by
  have hTs : (T.size : Int) ≤ 20000 := by rw [← hT]; have := textC_size (bhd s); have := bhd_size s; omega
  have HA := Hid.mk' (fun W => blanksAhead_any s W (by omega))
  have HL := Hid.mk' (fun W => len_any s W (by unfold maxLen; omega))
  have HC := Hid.mk' (fun W => cut_any s (frontN (uns s) : Nat) ((s.size / 2 : Nat) : Int) W (by omega))
  rw [cut_front s _ (by have := frontN_le (uns s); rw [uns_length] at this; exact this)] at HC
  have HX := Hid.mk' (fun W => text_core (bhd s) W (by have := bhd_size s; omega))
  rw [hT] at HX
  have HU := Hid.mk' (fun W => unsigned_any T W (by omega))
  rw [hu] at HU
  have hus : (u.size : Int) ≤ 20000 := by
    rw [← hu]; unfold unsT; split
    · rw [tl_size]; omega
    · omega
  have hNo : wRes r T = 9221120237041090561 := by
    have hWR : wR r u = r := by unfold wR; rw [if_neg (fun q => by omega), if_neg h1]
    have hno : wNo r u = true := by unfold wNo; rw [hWR]; exact decide_eq_true (by omega)
    unfold wRes
    rw [hu, hno]
    exact if_pos rfl
  have HNO := Hid.mk' hNo
  obtain ⟨f, hf⟩ : ∃ f, frontN (uns s) = f := ⟨_, rfl⟩
  rw [hf] at HA HC
  obtain ⟨Y, hY⟩ : ∃ Y, (⟨(mkB ((uns s).drop f)).toArray⟩ : ByteArray) = Y := ⟨_, rfl⟩
  have hbY : bhd s = Y := by rw [← hY, ← hf]; rfl
  rw [hY] at HC
  rw [hbY] at HX
  obtain ⟨mn, hmn⟩ : ∃ mn, minusN T = mn := ⟨_, rfl⟩
  rw [hmn] at HU
  obtain ⟨Res, hRes⟩ : ∃ Res, wRes r T = Res := ⟨_, rfl⟩
  rw [hRes] at HNO ⊢
  obtain ⟨n2, hn2⟩ : ∃ n2, s.size / 2 = n2 := ⟨_, rfl⟩
  rw [hn2] at HL HC
  have HNaN := Hid.mk' (fun W => nan_any W)
  clear hT hf hY hbY hn2 hu hmn hRes
  have hrb1 : -2147483648 ≤ r := by rw [← hr, IntKind.wrap_i32]; omega
  have hrb2 : r ≤ 2147483647 := by rw [← hr, IntKind.wrap_i32]; omega
  have q0 : (r == 0) = false := by rw [beq_eq_false_iff_ne]; omega
  have q16 : (r == 16) = false := by rw [beq_eq_false_iff_ne]; omega
  clear h1 h2
  go_enter Tryz.func8, Tryz.ntmps8
  go_wp2_with fail
  refine (HA.out _).mono ?_
  rintro e w1 ⟨rfl, n1, hw1⟩
  have b1 : Below w.heap.size w w1 := by rw [hw1]; exact (kept_drewN _ 0 _ _).1
  clear hw1
  go_wp2_with (go_at_call 27; refine (HL.out _).mono ?_; rintro e w2 ⟨rfl, hw2⟩; rw [hw2]; clear hw2 w2)
  refine (HC.out _).mono ?_
  rintro e w2 ⟨rfl, b2⟩
  have b02 : Below w.heap.size w w2 := b1.trans (b2.mono b1.size)
  clear b1 b2
  go_wp2_with fail
  refine (HX.out _).mono ?_
  rintro e w3 ⟨rfl, b3⟩
  have b03 : Below w.heap.size w w3 := b02.trans (b3.mono b02.size)
  clear b02 b3
  go_wp2_with fail
  refine (HU.out _).mono ?_
  rintro e w4 ⟨rfl, b4⟩
  have b04 : Below w.heap.size w w4 := b03.trans (b4.mono b03.size)
  have hl4 : Hid (LaidN w4) := hl.out.below b04
  clear b03 b4
  go_wp2_with (go_at_call 29; refine (HNaN.out _).mono ?_; rintro e w5 ⟨rfl, hw5⟩; rw [hw5]; clear hw5 w5)
  all_goals
    go_ret
    exact ⟨by rw [HNO.out]; rfl, b04⟩
/-- digits.Whole. -/
theorem whole_any (s : ByteArray) (base : Int) (w : World) (hs : (s.size : Int) ≤ 10000) (hl : Hid (LaidN w)) :
    Calls Tryz.prog 8 #[.string s, .int .i64 base] w fun e w' => e = .returned (.float .f64 (wRes (IntKind.i32.wrap base) ⟨(textC (pts (bhd s))).toArray⟩)) ∧ Below w.heap.size w w' := by
  obtain ⟨r, hr⟩ : ∃ r, IntKind.i32.wrap base = r := ⟨_, rfl⟩
  obtain ⟨T, hT⟩ : ∃ T, (⟨(textC (pts (bhd s))).toArray⟩ : ByteArray) = T := ⟨_, rfl⟩
  rw [hr, hT]
  by_cases h0 : r = 0
  · by_cases hp : prefN (unsT T) = 16
    · exact whole_1 s base w hs hl r hr T _ hT rfl h0 hp
    · exact whole_3 s base w hs hl r hr T _ hT rfl h0 hp
  · by_cases h16 : r = 16
    · by_cases hp : prefN (unsT T) = 16
      · exact whole_2 s base w hs hl r hr T _ hT rfl h16 hp
      · exact whole_4 s base w hs hl r hr T _ hT rfl h16 hp
    · by_cases h3 : r < 2
      · exact whole_6 s base w hs hl r hr T _ hT rfl h0 h16 h3
      · by_cases h4 : 36 < r
        · exact whole_7 s base w hs hl r hr T _ hT rfl h0 h16 h4
        exact whole_5 s base w hs hl r hr T _ hT rfl r.toNat (by omega) (by omega) (by omega)
end Go.Proofs.YtighenikjedojaaGreatDoor
