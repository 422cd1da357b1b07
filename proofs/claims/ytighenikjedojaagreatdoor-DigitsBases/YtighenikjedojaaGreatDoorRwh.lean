/- lintelref03.Whole for every text and base. Written by tools/mkrwh.py. -/
import Derived.Test.YtighenikjedojaaGreatDoorWwh
import Derived.Test.YtighenikjedojaaGreatDoorWap
import Derived.Test.YtighenikjedojaaGreatDoorHnr
import Derived.Test.YtighenikjedojaaGreatDoorHat
namespace Go.Proofs.YtighenikjedojaaGreatDoor
set_option linter.unusedVariables false
open Go.RowKit Fl

theorem mul_sg (mn : Bool) (V : Nat) (h : V ≤ 9218868437227405312) : Ieee.double.mul (if mn then 13830554455654793216 else 4607182418800017408) V = some (sg mn V) := by
  by_cases q : V = 9218868437227405312
  · subst q
    cases mn <;> decide
  · have v1 := val_pow' 1022 1074 rfl
    rw [show (1022 + 1) * 4503599627370496 = 4607182418800017408 from rfl] at v1
    cases mn
    · exact one_mul V (by omega)
    · have := mul_exact true false 4607182418800017408 V V (by omega) (by omega) (by omega) (one_gen (D := 1074) v1)
      rw [word_eq, word_eq, word_eq] at this
      exact this
theorem rnear_run (T1 : ByteArray) (R n : Nat) (w : World) (hs : (T1.size : Int) ≤ 20000) (hn : runN T1 0 (R : Nat) = n) (hb : 2 ≤ R ∧ R ≤ 36) (hl : LaidN w) (hlb : LaidB w) :
    Calls Tryz.prog 39 #[.string (T1.extract 0 n), .int .i64 R] w fun e w' => e = .returned (.float .f64 (NF (numN (T1.extract 0 n) R n))) ∧ Below w.heap.size w w' := by
  have hle := runN_le T1 0 (R : Nat)
  have hsz : (T1.extract 0 n).size = n := by rw [ByteArray.size_extract]; omega
  have := rnearest_w (T1.extract 0 n) R w (by omega) hb (fun j hj => by
    rw [hsz] at hj
    rw [by_ext T1 0 n j (by omega) (by omega), Nat.zero_add]
    have := (runN_spec T1 (R : Nat)).1 j (by omega)
    omega) (fun W hW => (hlb.below hW).tz) (fun S' n' N' W hX hn' hW => pf_h S' n' N' hX hn' W (hl.below hW) (hlb.below hW))
  rw [hsz] at this
  exact this
theorem asc_size (x : ByteArray) : (Sb (nb ((uns x).map ascN))).size = x.size / 2 := by rw [Sb_size, nb_length, List.length_map, uns_length]
set_option maxHeartbeats 4000000 in
set_option maxRecDepth 100000 in
theorem rwhole_e3 (s : ByteArray) (base : Int) (w : World) (hs : (s.size : Int) ≤ 10000) (hl : Hid (LaidN w)) (hlb : Hid (LaidB w)) (r : Int) (hr : IntKind.i32.wrap base = r) (A u : ByteArray) (hA : Sb (nb ((uns (bhd s)).map ascN)) = A) (hu : unsT A = u) (hsg : A.size = 0)
    (hr0 : r = 0) (hp : prefN u ≠ 16) :
    Calls Tryz.prog 9 #[.string s, .int .i64 base] w fun e w' => e = .returned (.float .f64 (wRes r A)) ∧ Below w.heap.size w w' := by
  have hAs : (A.size : Int) ≤ 10000 := by rw [← hA, asc_size]; have := bhd_size s; omega
  have hlen := uns_length s
  have hfl := frontN_le (uns s)
  have hbt := PlainAid.get_bt A
  have hz0 := bt_by A 0
  have HAsc := Hid.mk' (fun W => asc3_any (bhd s) W (by have := bhd_size s; omega))
  rw [hA] at HAsc
  have hsg0 : sgnN A = false := by unfold sgnN; exact decide_eq_false (by omega)
  have hUA : u = A := by rw [← hu]; unfold unsT; rw [hsg0]; exact if_neg (by simp)
  have hMA : minusN A = false := by unfold minusN; rw [hsg0]; rfl
  have hne : A.toList.isEmpty = true := by rw [empty_of hsg, ByteArray.toList_eq]; rfl
  have hus : (u.size : Int) ≤ 20000 := by rw [hUA]; omega
  have HLB := Hid.mk' (fun W => prefixed_any u W (by omega))
  obtain ⟨pp, hpp⟩ : ∃ pp, prefN u = pp := ⟨_, rfl⟩
  rw [hpp] at HLB
  have hp16 : ((pp : Int) == 16) = false := by rw [beq_eq_false_iff_ne]; omega
  have hWR : wR r u = ((10 : Nat) : Int) := by unfold wR; rw [if_neg (fun q => hp q.2), if_pos (by omega)]; rfl
  have hWT : wT r u = u := by unfold wT; rw [if_neg (fun q => hp q.2)]
  have hTs1 := hus
  obtain ⟨n, hn⟩ : ∃ n, runN u 0 ((10 : Nat) : Int) = n := ⟨_, rfl⟩
  have hnl := runN_le u 0 ((10 : Nat) : Int)
  rw [hn] at hnl
  have HD := Hid.mk' (fun W => run_any u 0 ((10 : Nat) : Int) W (by omega) (Nat.zero_le _))
  rw [hn] at HD
  have HN := Hid.mk' (fun W h1 h2 => rnear_run u 10 n W hTs1 hn ⟨by omega, by omega⟩ h1 h2)
  have HY := Hid.mk' (fun h0 => res_yes r A u u 10 n hu hWR hWT hn h0 ⟨by omega, by omega⟩)
  have HNO := Hid.mk' (fun h0 => res_no r A u u 10 n hu hWR hWT hn h0)
  rw [hMA] at HY
  obtain ⟨V, hV⟩ : ∃ V, NF (numN (u.extract 0 n) 10 n) = V := ⟨_, rfl⟩
  have hVl : V ≤ 9218868437227405312 := by rw [← hV]; exact NF_lt _
  rw [hV] at HN HY
  obtain ⟨Z, hZ⟩ : ∃ Z, sg false V = Z := ⟨_, rfl⟩
  rw [hZ] at HY
  have hmul : ∀ W, (binOp .mul 22 (.float .f64 4607182418800017408) (.float .f64 V)).run Tryz.prog W = .ok (.float .f64 Z) W := fun W => run_mul 22 4607182418800017408 V Z W (by rw [← hZ]; exact mul_sg false V hVl)
  obtain ⟨Res, hRes⟩ : ∃ Res, wRes r A = Res := ⟨_, rfl⟩
  rw [hRes] at HNO ⊢
  rw [hRes] at HY
  subst hr0
  subst hUA
  have HNaN := Hid.mk' (fun W => nan_any W)
  clear hA hu hRes hMA hsg0 hz0 hsg
  clear hn hWR hWT hV hZ
  go_enter Tryz.func9, Tryz.ntmps9
  go_wp2_with fail
  refine (runits_any s _ (by omega)).mono ?_
  rintro e w1 ⟨v1, rfl, o1, b1⟩
  have HR := Hid.mk' (Rd.own o1)
  have HF := Hid.mk' (rfront_any (uns s) (uns_lt s) (by rw [hlen]; omega) v1 w1 HR.out)
  obtain ⟨x1, c1, rfl, hx⟩ := own_slice' o1
  have hcap : s.size / 2 ≤ c1 := by
    rcases o1.2 with ⟨e, h⟩ | ⟨g, cap, cur, e, _, _, h, _⟩
    · omega
    · simp at e; omega
  have hcm : (c1 : Int) ≤ 9223372036854775807 := by
    rcases o1.2 with ⟨e, _⟩ | ⟨g, cap, cur, e, _, _, _, h, _⟩
    · simp at e; omega
    · simp at e; unfold maxLen at h; omega
  obtain ⟨f, hf⟩ : ∃ f, frontN (uns s) = f := ⟨_, rfl⟩
  rw [hf] at HF hfl
  rw [hlen] at hfl
  have f1 : (0 : Int) ≤ (f : Int) := by omega
  have f2 : (f : Int) ≤ ((s.size / 2 : Nat) : Int) := by omega
  have f3 : ((s.size / 2 : Nat) : Int) ≤ (c1 : Int) := by omega
  have HX := Hid.mk' hx
  have HFE := Hid.mk' hf
  clear hx hf
  obtain ⟨n9, hn9⟩ : ∃ n9, s.size / 2 = n9 := ⟨_, rfl⟩
  rw [hn9] at HF hfl f2 f3 hcap hlen HX o1 HR ⊢
  have hnl9 : (n9 : Int) ≤ 10000 := by omega
  go_wp2_with fail
  refine HF.out.mono ?_
  rintro e w2 ⟨rfl, b2⟩
  have b12 : Below w.heap.size w w2 := b1.trans (b2.mono b1.size)
  obtain ⟨d, hd⟩ : ∃ d, (uns s).drop f = d := ⟨_, rfl⟩
  have hdl : d.length = n9 - f := by rw [← hd, List.length_drop, hlen]
  have HU9 : Hid (∀ q ∈ d, q < 65536) := fun q hq => uns_lt s q (by rw [← hd] at hq; exact List.mem_of_mem_drop hq)
  have HMk : Hid (∀ v W, Rd W v d → Calls Tryz.prog 35 #[v] W fun e w' => e = .returned (.string (bhd s)) ∧ Below W.heap.size W w') := fun v W hv => by
    have := rmake_any d HU9.out (by omega) v W hv
    have e : (⟨(mkB d).toArray⟩ : ByteArray) = bhd s := by unfold bhd; rw [HFE.out, hd]
    rw [e] at this
    exact this
  have HR2 := Hid.mk' (HR.out.below b2)
  have HB12 := Hid.mk' b12
  obtain ⟨bh, hbh⟩ : ∃ bh, bhd s = bh := ⟨_, rfl⟩
  rw [hbh] at HMk HAsc
  rcases HX.out with ⟨hx1, hx2, hx3⟩ | ⟨g, hx1, hg⟩
  · have hf0 : f = 0 := by omega
    have HRd : Hid (Rd w2 (.slice none 0 0) d) := .inl ⟨0, by rw [hdl]; simp; omega, List.eq_nil_of_length_eq_zero (by omega)⟩
    have HK := Hid.mk' (HMk.out _ w2 HRd.out)
    clear HX HR HR2 HF hd o1 hn9 HFE HMk HRd HU9 b1 b2 b12 hbh
    subst hx1 hx2 hx3 hf0
    go_wp2_with fail
    refine HK.out.mono ?_
    rintro e w3 ⟨rfl, b3⟩
    have b03 : Below w.heap.size w w3 := HB12.out.trans (b3.mono HB12.out.size)
    clear b3 HB12 HK
    go_wp2_with fail
    refine (HAsc.out _).mono ?_
    rintro e w4 ⟨rfl, b4⟩
    have b04 : Below w.heap.size w w4 := b03.trans (b4.mono b03.size)
    clear b03 b4
    have hl4 : LaidN w4 := hl.out.below b04
    have hb4 : LaidB w4 := hlb.out.below b04
    have HN4 := Hid.mk' (HN.out w4 hl4 hb4)
    clear hl4 hb4 HN
    go_wp2_with fail
    refine (HLB.out _).mono ?_
    rintro e w5 ⟨rfl, hw5⟩
    rw [hw5]; clear hw5 w5
    go_wp2_with fail
    refine (HD.out _).mono ?_
    rintro e w6 ⟨rfl, hw6⟩
    rw [hw6]; clear hw6 w6
    by_cases h0 : n = 0
    · have q : ((n : Int) == 0) = true := by rw [beq_iff_eq]; omega
      have HE := Hid.mk' (HNO.out h0)
      clear HNO HY h0
      go_wp2_with (go_at_call 29; refine (HNaN.out _).mono ?_; rintro e w7 ⟨rfl, hw7⟩; rw [hw7]; clear hw7 w7)
      go_ret
      exact ⟨by rw [HE.out]; rfl, b04⟩
    · have q : ((n : Int) == 0) = false := by rw [beq_eq_false_iff_ne]; omega
      have hnle : (n : Int) ≤ u.size := by omega
      have HE := Hid.mk' (HY.out (by omega))
      clear HNO HY h0
      go_wp2_with fail
      refine HN4.out.mono ?_
      rintro e w7 ⟨rfl, b7⟩
      have b07 : Below w.heap.size w w7 := b04.trans (b7.mono b04.size)
      clear b04 b7
      go_wp2
      go_ret
      exact ⟨by rw [HE.out]; rfl, b07⟩
  · have hcc : ∀ (j : Nat) (h : j < n9), w2.cell? ⟨g, j, none⟩ = some (.int .u16 ((uns s)[j]'(by omega) : Nat)) := by
      rcases HR2.out with ⟨c', e1, e2⟩ | ⟨g', o, c', e1, hg', hc⟩
      · intro j h
        have : (uns s).length = 0 := by rw [e2]; rfl
        omega
      · intro j h
        have e3 : g' = g ∧ o = 0 := by
          rw [hx1] at e1
          simp at e1
          omega
        have := hc j (by omega)
        rw [e3.1, e3.2, Nat.zero_add] at this
        exact this
    have hgl : g < w2.heap.size := by
      have h2 := (o1.lt g (by rw [hx1]; rfl)).2
      exact Nat.lt_of_lt_of_le h2 b2.size
    have HD2 : Hid (∀ k o, n9 - f = 0 → Rd w2 (.slice (some ⟨g, o, none⟩) (n9 - f) k) d) := fun k o h0 => .inr ⟨g, o, k, by rw [hdl], hgl, fun j hj => by omega⟩
    have HD3 : Hid (Rd w2 (.slice (some ⟨g, f, none⟩) (n9 - f) (c1 - f)) d) := .inr ⟨g, f, c1 - f, by rw [hdl], hgl, fun j hj => by
      rw [hcc (f + j) (by omega)]
      simp [← hd]⟩
    clear HX HR HR2 HF hd hn9 HFE hcc o1 HU9 b1 b2 b12 hbh
    subst hx1
    go_wp2_with fail
    · have HK := Hid.mk' (HMk.out _ w2 (HD2.out 0 0 (by omega)))
      clear HD2 HD3 HMk
      refine HK.out.mono ?_
      rintro e w3 ⟨rfl, b3⟩
      have b03 : Below w.heap.size w w3 := HB12.out.trans (b3.mono HB12.out.size)
      clear b3 HB12 HK
      go_wp2_with fail
      refine (HAsc.out _).mono ?_
      rintro e w4 ⟨rfl, b4⟩
      have b04 : Below w.heap.size w w4 := b03.trans (b4.mono b03.size)
      clear b03 b4
      have hl4 : LaidN w4 := hl.out.below b04
      have hb4 : LaidB w4 := hlb.out.below b04
      have HN4 := Hid.mk' (HN.out w4 hl4 hb4)
      clear hl4 hb4 HN
      go_wp2_with fail
      refine (HLB.out _).mono ?_
      rintro e w5 ⟨rfl, hw5⟩
      rw [hw5]; clear hw5 w5
      go_wp2_with fail
      refine (HD.out _).mono ?_
      rintro e w6 ⟨rfl, hw6⟩
      rw [hw6]; clear hw6 w6
      by_cases h0 : n = 0
      · have q : ((n : Int) == 0) = true := by rw [beq_iff_eq]; omega
        have HE := Hid.mk' (HNO.out h0)
        clear HNO HY h0
        go_wp2_with (go_at_call 29; refine (HNaN.out _).mono ?_; rintro e w7 ⟨rfl, hw7⟩; rw [hw7]; clear hw7 w7)
        go_ret
        exact ⟨by rw [HE.out]; rfl, b04⟩
      · have q : ((n : Int) == 0) = false := by rw [beq_eq_false_iff_ne]; omega
        have hnle : (n : Int) ≤ u.size := by omega
        have HE := Hid.mk' (HY.out (by omega))
        clear HNO HY h0
        go_wp2_with fail
        refine HN4.out.mono ?_
        rintro e w7 ⟨rfl, b7⟩
        have b07 : Below w.heap.size w w7 := b04.trans (b7.mono b04.size)
        clear b04 b7
        go_wp2
        go_ret
        exact ⟨by rw [HE.out]; rfl, b07⟩
    · have HK := Hid.mk' (HMk.out _ w2 HD3.out)
      clear HD2 HD3 HMk
      refine HK.out.mono ?_
      rintro e w3 ⟨rfl, b3⟩
      have b03 : Below w.heap.size w w3 := HB12.out.trans (b3.mono HB12.out.size)
      clear b3 HB12 HK
      go_wp2_with fail
      refine (HAsc.out _).mono ?_
      rintro e w4 ⟨rfl, b4⟩
      have b04 : Below w.heap.size w w4 := b03.trans (b4.mono b03.size)
      clear b03 b4
      have hl4 : LaidN w4 := hl.out.below b04
      have hb4 : LaidB w4 := hlb.out.below b04
      have HN4 := Hid.mk' (HN.out w4 hl4 hb4)
      clear hl4 hb4 HN
      go_wp2_with fail
      refine (HLB.out _).mono ?_
      rintro e w5 ⟨rfl, hw5⟩
      rw [hw5]; clear hw5 w5
      go_wp2_with fail
      refine (HD.out _).mono ?_
      rintro e w6 ⟨rfl, hw6⟩
      rw [hw6]; clear hw6 w6
      by_cases h0 : n = 0
      · have q : ((n : Int) == 0) = true := by rw [beq_iff_eq]; omega
        have HE := Hid.mk' (HNO.out h0)
        clear HNO HY h0
        go_wp2_with (go_at_call 29; refine (HNaN.out _).mono ?_; rintro e w7 ⟨rfl, hw7⟩; rw [hw7]; clear hw7 w7)
        go_ret
        exact ⟨by rw [HE.out]; rfl, b04⟩
      · have q : ((n : Int) == 0) = false := by rw [beq_eq_false_iff_ne]; omega
        have hnle : (n : Int) ≤ u.size := by omega
        have HE := Hid.mk' (HY.out (by omega))
        clear HNO HY h0
        go_wp2_with fail
        refine HN4.out.mono ?_
        rintro e w7 ⟨rfl, b7⟩
        have b07 : Below w.heap.size w w7 := b04.trans (b7.mono b04.size)
        clear b04 b7
        go_wp2
        go_ret
        exact ⟨by rw [HE.out]; rfl, b07⟩
set_option maxHeartbeats 4000000 in
set_option maxRecDepth 100000 in
theorem rwhole_e4 (s : ByteArray) (base : Int) (w : World) (hs : (s.size : Int) ≤ 10000) (hl : Hid (LaidN w)) (hlb : Hid (LaidB w)) (r : Int) (hr : IntKind.i32.wrap base = r) (A u : ByteArray) (hA : Sb (nb ((uns (bhd s)).map ascN)) = A) (hu : unsT A = u) (hsg : A.size = 0)
    (hr0 : r = 16) (hp : prefN u ≠ 16) :
    Calls Tryz.prog 9 #[.string s, .int .i64 base] w fun e w' => e = .returned (.float .f64 (wRes r A)) ∧ Below w.heap.size w w' := by
  have hAs : (A.size : Int) ≤ 10000 := by rw [← hA, asc_size]; have := bhd_size s; omega
  have hlen := uns_length s
  have hfl := frontN_le (uns s)
  have hbt := PlainAid.get_bt A
  have hz0 := bt_by A 0
  have HAsc := Hid.mk' (fun W => asc3_any (bhd s) W (by have := bhd_size s; omega))
  rw [hA] at HAsc
  have hsg0 : sgnN A = false := by unfold sgnN; exact decide_eq_false (by omega)
  have hUA : u = A := by rw [← hu]; unfold unsT; rw [hsg0]; exact if_neg (by simp)
  have hMA : minusN A = false := by unfold minusN; rw [hsg0]; rfl
  have hne : A.toList.isEmpty = true := by rw [empty_of hsg, ByteArray.toList_eq]; rfl
  have hus : (u.size : Int) ≤ 20000 := by rw [hUA]; omega
  have HLB := Hid.mk' (fun W => prefixed_any u W (by omega))
  obtain ⟨pp, hpp⟩ : ∃ pp, prefN u = pp := ⟨_, rfl⟩
  rw [hpp] at HLB
  have hp16 : ((pp : Int) == 16) = false := by rw [beq_eq_false_iff_ne]; omega
  have hWR : wR r u = ((16 : Nat) : Int) := by unfold wR; rw [if_neg (fun q => hp q.2), if_neg (by omega)]; exact hr0
  have hWT : wT r u = u := by unfold wT; rw [if_neg (fun q => hp q.2)]
  have hTs1 := hus
  obtain ⟨n, hn⟩ : ∃ n, runN u 0 ((16 : Nat) : Int) = n := ⟨_, rfl⟩
  have hnl := runN_le u 0 ((16 : Nat) : Int)
  rw [hn] at hnl
  have HD := Hid.mk' (fun W => run_any u 0 ((16 : Nat) : Int) W (by omega) (Nat.zero_le _))
  rw [hn] at HD
  have HN := Hid.mk' (fun W h1 h2 => rnear_run u 16 n W hTs1 hn ⟨by omega, by omega⟩ h1 h2)
  have HY := Hid.mk' (fun h0 => res_yes r A u u 16 n hu hWR hWT hn h0 ⟨by omega, by omega⟩)
  have HNO := Hid.mk' (fun h0 => res_no r A u u 16 n hu hWR hWT hn h0)
  rw [hMA] at HY
  obtain ⟨V, hV⟩ : ∃ V, NF (numN (u.extract 0 n) 16 n) = V := ⟨_, rfl⟩
  have hVl : V ≤ 9218868437227405312 := by rw [← hV]; exact NF_lt _
  rw [hV] at HN HY
  obtain ⟨Z, hZ⟩ : ∃ Z, sg false V = Z := ⟨_, rfl⟩
  rw [hZ] at HY
  have hmul : ∀ W, (binOp .mul 22 (.float .f64 4607182418800017408) (.float .f64 V)).run Tryz.prog W = .ok (.float .f64 Z) W := fun W => run_mul 22 4607182418800017408 V Z W (by rw [← hZ]; exact mul_sg false V hVl)
  obtain ⟨Res, hRes⟩ : ∃ Res, wRes r A = Res := ⟨_, rfl⟩
  rw [hRes] at HNO ⊢
  rw [hRes] at HY
  subst hr0
  subst hUA
  have HNaN := Hid.mk' (fun W => nan_any W)
  clear hA hu hRes hMA hsg0 hz0 hsg
  clear hn hWR hWT hV hZ
  go_enter Tryz.func9, Tryz.ntmps9
  go_wp2_with fail
  refine (runits_any s _ (by omega)).mono ?_
  rintro e w1 ⟨v1, rfl, o1, b1⟩
  have HR := Hid.mk' (Rd.own o1)
  have HF := Hid.mk' (rfront_any (uns s) (uns_lt s) (by rw [hlen]; omega) v1 w1 HR.out)
  obtain ⟨x1, c1, rfl, hx⟩ := own_slice' o1
  have hcap : s.size / 2 ≤ c1 := by
    rcases o1.2 with ⟨e, h⟩ | ⟨g, cap, cur, e, _, _, h, _⟩
    · omega
    · simp at e; omega
  have hcm : (c1 : Int) ≤ 9223372036854775807 := by
    rcases o1.2 with ⟨e, _⟩ | ⟨g, cap, cur, e, _, _, _, h, _⟩
    · simp at e; omega
    · simp at e; unfold maxLen at h; omega
  obtain ⟨f, hf⟩ : ∃ f, frontN (uns s) = f := ⟨_, rfl⟩
  rw [hf] at HF hfl
  rw [hlen] at hfl
  have f1 : (0 : Int) ≤ (f : Int) := by omega
  have f2 : (f : Int) ≤ ((s.size / 2 : Nat) : Int) := by omega
  have f3 : ((s.size / 2 : Nat) : Int) ≤ (c1 : Int) := by omega
  have HX := Hid.mk' hx
  have HFE := Hid.mk' hf
  clear hx hf
  obtain ⟨n9, hn9⟩ : ∃ n9, s.size / 2 = n9 := ⟨_, rfl⟩
  rw [hn9] at HF hfl f2 f3 hcap hlen HX o1 HR ⊢
  have hnl9 : (n9 : Int) ≤ 10000 := by omega
  go_wp2_with fail
  refine HF.out.mono ?_
  rintro e w2 ⟨rfl, b2⟩
  have b12 : Below w.heap.size w w2 := b1.trans (b2.mono b1.size)
  obtain ⟨d, hd⟩ : ∃ d, (uns s).drop f = d := ⟨_, rfl⟩
  have hdl : d.length = n9 - f := by rw [← hd, List.length_drop, hlen]
  have HU9 : Hid (∀ q ∈ d, q < 65536) := fun q hq => uns_lt s q (by rw [← hd] at hq; exact List.mem_of_mem_drop hq)
  have HMk : Hid (∀ v W, Rd W v d → Calls Tryz.prog 35 #[v] W fun e w' => e = .returned (.string (bhd s)) ∧ Below W.heap.size W w') := fun v W hv => by
    have := rmake_any d HU9.out (by omega) v W hv
    have e : (⟨(mkB d).toArray⟩ : ByteArray) = bhd s := by unfold bhd; rw [HFE.out, hd]
    rw [e] at this
    exact this
  have HR2 := Hid.mk' (HR.out.below b2)
  have HB12 := Hid.mk' b12
  obtain ⟨bh, hbh⟩ : ∃ bh, bhd s = bh := ⟨_, rfl⟩
  rw [hbh] at HMk HAsc
  rcases HX.out with ⟨hx1, hx2, hx3⟩ | ⟨g, hx1, hg⟩
  · have hf0 : f = 0 := by omega
    have HRd : Hid (Rd w2 (.slice none 0 0) d) := .inl ⟨0, by rw [hdl]; simp; omega, List.eq_nil_of_length_eq_zero (by omega)⟩
    have HK := Hid.mk' (HMk.out _ w2 HRd.out)
    clear HX HR HR2 HF hd o1 hn9 HFE HMk HRd HU9 b1 b2 b12 hbh
    subst hx1 hx2 hx3 hf0
    go_wp2_with fail
    refine HK.out.mono ?_
    rintro e w3 ⟨rfl, b3⟩
    have b03 : Below w.heap.size w w3 := HB12.out.trans (b3.mono HB12.out.size)
    clear b3 HB12 HK
    go_wp2_with fail
    refine (HAsc.out _).mono ?_
    rintro e w4 ⟨rfl, b4⟩
    have b04 : Below w.heap.size w w4 := b03.trans (b4.mono b03.size)
    clear b03 b4
    have hl4 : LaidN w4 := hl.out.below b04
    have hb4 : LaidB w4 := hlb.out.below b04
    have HN4 := Hid.mk' (HN.out w4 hl4 hb4)
    clear hl4 hb4 HN
    go_wp2_with fail
    refine (HLB.out _).mono ?_
    rintro e w5 ⟨rfl, hw5⟩
    rw [hw5]; clear hw5 w5
    go_wp2_with fail
    refine (HD.out _).mono ?_
    rintro e w6 ⟨rfl, hw6⟩
    rw [hw6]; clear hw6 w6
    by_cases h0 : n = 0
    · have q : ((n : Int) == 0) = true := by rw [beq_iff_eq]; omega
      have HE := Hid.mk' (HNO.out h0)
      clear HNO HY h0
      go_wp2_with (go_at_call 29; refine (HNaN.out _).mono ?_; rintro e w7 ⟨rfl, hw7⟩; rw [hw7]; clear hw7 w7)
      go_ret
      exact ⟨by rw [HE.out]; rfl, b04⟩
    · have q : ((n : Int) == 0) = false := by rw [beq_eq_false_iff_ne]; omega
      have hnle : (n : Int) ≤ u.size := by omega
      have HE := Hid.mk' (HY.out (by omega))
      clear HNO HY h0
      go_wp2_with fail
      refine HN4.out.mono ?_
      rintro e w7 ⟨rfl, b7⟩
      have b07 : Below w.heap.size w w7 := b04.trans (b7.mono b04.size)
      clear b04 b7
      go_wp2
      go_ret
      exact ⟨by rw [HE.out]; rfl, b07⟩
  · have hcc : ∀ (j : Nat) (h : j < n9), w2.cell? ⟨g, j, none⟩ = some (.int .u16 ((uns s)[j]'(by omega) : Nat)) := by
      rcases HR2.out with ⟨c', e1, e2⟩ | ⟨g', o, c', e1, hg', hc⟩
      · intro j h
        have : (uns s).length = 0 := by rw [e2]; rfl
        omega
      · intro j h
        have e3 : g' = g ∧ o = 0 := by
          rw [hx1] at e1
          simp at e1
          omega
        have := hc j (by omega)
        rw [e3.1, e3.2, Nat.zero_add] at this
        exact this
    have hgl : g < w2.heap.size := by
      have h2 := (o1.lt g (by rw [hx1]; rfl)).2
      exact Nat.lt_of_lt_of_le h2 b2.size
    have HD2 : Hid (∀ k o, n9 - f = 0 → Rd w2 (.slice (some ⟨g, o, none⟩) (n9 - f) k) d) := fun k o h0 => .inr ⟨g, o, k, by rw [hdl], hgl, fun j hj => by omega⟩
    have HD3 : Hid (Rd w2 (.slice (some ⟨g, f, none⟩) (n9 - f) (c1 - f)) d) := .inr ⟨g, f, c1 - f, by rw [hdl], hgl, fun j hj => by
      rw [hcc (f + j) (by omega)]
      simp [← hd]⟩
    clear HX HR HR2 HF hd hn9 HFE hcc o1 HU9 b1 b2 b12 hbh
    subst hx1
    go_wp2_with fail
    · have HK := Hid.mk' (HMk.out _ w2 (HD2.out 0 0 (by omega)))
      clear HD2 HD3 HMk
      refine HK.out.mono ?_
      rintro e w3 ⟨rfl, b3⟩
      have b03 : Below w.heap.size w w3 := HB12.out.trans (b3.mono HB12.out.size)
      clear b3 HB12 HK
      go_wp2_with fail
      refine (HAsc.out _).mono ?_
      rintro e w4 ⟨rfl, b4⟩
      have b04 : Below w.heap.size w w4 := b03.trans (b4.mono b03.size)
      clear b03 b4
      have hl4 : LaidN w4 := hl.out.below b04
      have hb4 : LaidB w4 := hlb.out.below b04
      have HN4 := Hid.mk' (HN.out w4 hl4 hb4)
      clear hl4 hb4 HN
      go_wp2_with fail
      refine (HLB.out _).mono ?_
      rintro e w5 ⟨rfl, hw5⟩
      rw [hw5]; clear hw5 w5
      go_wp2_with fail
      refine (HD.out _).mono ?_
      rintro e w6 ⟨rfl, hw6⟩
      rw [hw6]; clear hw6 w6
      by_cases h0 : n = 0
      · have q : ((n : Int) == 0) = true := by rw [beq_iff_eq]; omega
        have HE := Hid.mk' (HNO.out h0)
        clear HNO HY h0
        go_wp2_with (go_at_call 29; refine (HNaN.out _).mono ?_; rintro e w7 ⟨rfl, hw7⟩; rw [hw7]; clear hw7 w7)
        go_ret
        exact ⟨by rw [HE.out]; rfl, b04⟩
      · have q : ((n : Int) == 0) = false := by rw [beq_eq_false_iff_ne]; omega
        have hnle : (n : Int) ≤ u.size := by omega
        have HE := Hid.mk' (HY.out (by omega))
        clear HNO HY h0
        go_wp2_with fail
        refine HN4.out.mono ?_
        rintro e w7 ⟨rfl, b7⟩
        have b07 : Below w.heap.size w w7 := b04.trans (b7.mono b04.size)
        clear b04 b7
        go_wp2
        go_ret
        exact ⟨by rw [HE.out]; rfl, b07⟩
    · have HK := Hid.mk' (HMk.out _ w2 HD3.out)
      clear HD2 HD3 HMk
      refine HK.out.mono ?_
      rintro e w3 ⟨rfl, b3⟩
      have b03 : Below w.heap.size w w3 := HB12.out.trans (b3.mono HB12.out.size)
      clear b3 HB12 HK
      go_wp2_with fail
      refine (HAsc.out _).mono ?_
      rintro e w4 ⟨rfl, b4⟩
      have b04 : Below w.heap.size w w4 := b03.trans (b4.mono b03.size)
      clear b03 b4
      have hl4 : LaidN w4 := hl.out.below b04
      have hb4 : LaidB w4 := hlb.out.below b04
      have HN4 := Hid.mk' (HN.out w4 hl4 hb4)
      clear hl4 hb4 HN
      go_wp2_with fail
      refine (HLB.out _).mono ?_
      rintro e w5 ⟨rfl, hw5⟩
      rw [hw5]; clear hw5 w5
      go_wp2_with fail
      refine (HD.out _).mono ?_
      rintro e w6 ⟨rfl, hw6⟩
      rw [hw6]; clear hw6 w6
      by_cases h0 : n = 0
      · have q : ((n : Int) == 0) = true := by rw [beq_iff_eq]; omega
        have HE := Hid.mk' (HNO.out h0)
        clear HNO HY h0
        go_wp2_with (go_at_call 29; refine (HNaN.out _).mono ?_; rintro e w7 ⟨rfl, hw7⟩; rw [hw7]; clear hw7 w7)
        go_ret
        exact ⟨by rw [HE.out]; rfl, b04⟩
      · have q : ((n : Int) == 0) = false := by rw [beq_eq_false_iff_ne]; omega
        have hnle : (n : Int) ≤ u.size := by omega
        have HE := Hid.mk' (HY.out (by omega))
        clear HNO HY h0
        go_wp2_with fail
        refine HN4.out.mono ?_
        rintro e w7 ⟨rfl, b7⟩
        have b07 : Below w.heap.size w w7 := b04.trans (b7.mono b04.size)
        clear b04 b7
        go_wp2
        go_ret
        exact ⟨by rw [HE.out]; rfl, b07⟩
set_option maxHeartbeats 4000000 in
set_option maxRecDepth 100000 in
theorem rwhole_e5 (s : ByteArray) (base : Int) (w : World) (hs : (s.size : Int) ≤ 10000) (hl : Hid (LaidN w)) (hlb : Hid (LaidB w)) (r : Int) (hr : IntKind.i32.wrap base = r) (A u : ByteArray) (hA : Sb (nb ((uns (bhd s)).map ascN)) = A) (hu : unsT A = u) (hsg : A.size = 0)
    (R : Nat) (hR : r = (R : Nat)) (hR2 : 2 ≤ R ∧ R ≤ 36) (hR3 : R ≠ 16) :
    Calls Tryz.prog 9 #[.string s, .int .i64 base] w fun e w' => e = .returned (.float .f64 (wRes r A)) ∧ Below w.heap.size w w' := by
  have hAs : (A.size : Int) ≤ 10000 := by rw [← hA, asc_size]; have := bhd_size s; omega
  have hlen := uns_length s
  have hfl := frontN_le (uns s)
  have hbt := PlainAid.get_bt A
  have hz0 := bt_by A 0
  have HAsc := Hid.mk' (fun W => asc3_any (bhd s) W (by have := bhd_size s; omega))
  rw [hA] at HAsc
  have hsg0 : sgnN A = false := by unfold sgnN; exact decide_eq_false (by omega)
  have hUA : u = A := by rw [← hu]; unfold unsT; rw [hsg0]; exact if_neg (by simp)
  have hMA : minusN A = false := by unfold minusN; rw [hsg0]; rfl
  have hne : A.toList.isEmpty = true := by rw [empty_of hsg, ByteArray.toList_eq]; rfl
  have hus : (u.size : Int) ≤ 20000 := by rw [hUA]; omega
  have hWR : wR r u = ((R : Nat) : Int) := by unfold wR; rw [if_neg (fun q => by omega), if_neg (by omega)]; exact hR
  have hWT : wT r u = u := by unfold wT; rw [if_neg (fun q => by omega)]
  have hTs1 := hus
  obtain ⟨n, hn⟩ : ∃ n, runN u 0 ((R : Nat) : Int) = n := ⟨_, rfl⟩
  have hnl := runN_le u 0 ((R : Nat) : Int)
  rw [hn] at hnl
  have HD := Hid.mk' (fun W => run_any u 0 ((R : Nat) : Int) W (by omega) (Nat.zero_le _))
  rw [hn] at HD
  have HN := Hid.mk' (fun W h1 h2 => rnear_run u R n W hTs1 hn hR2 h1 h2)
  have HY := Hid.mk' (fun h0 => res_yes r A u u R n hu hWR hWT hn h0 hR2)
  have HNO := Hid.mk' (fun h0 => res_no r A u u R n hu hWR hWT hn h0)
  rw [hMA] at HY
  obtain ⟨V, hV⟩ : ∃ V, NF (numN (u.extract 0 n) R n) = V := ⟨_, rfl⟩
  have hVl : V ≤ 9218868437227405312 := by rw [← hV]; exact NF_lt _
  rw [hV] at HN HY
  obtain ⟨Z, hZ⟩ : ∃ Z, sg false V = Z := ⟨_, rfl⟩
  rw [hZ] at HY
  have hmul : ∀ W, (binOp .mul 22 (.float .f64 4607182418800017408) (.float .f64 V)).run Tryz.prog W = .ok (.float .f64 Z) W := fun W => run_mul 22 4607182418800017408 V Z W (by rw [← hZ]; exact mul_sg false V hVl)
  obtain ⟨Res, hRes⟩ : ∃ Res, wRes r A = Res := ⟨_, rfl⟩
  rw [hRes] at HNO ⊢
  rw [hRes] at HY
  subst hR
  have q0 : ((R : Int) == 0) = false := by rw [beq_eq_false_iff_ne]; omega
  have q16 : ((R : Int) == 16) = false := by rw [beq_eq_false_iff_ne]; omega
  subst hUA
  have HNaN := Hid.mk' (fun W => nan_any W)
  clear hA hu hRes hMA hsg0 hz0 hsg
  clear hn hWR hWT hV hZ
  go_enter Tryz.func9, Tryz.ntmps9
  go_wp2_with fail
  refine (runits_any s _ (by omega)).mono ?_
  rintro e w1 ⟨v1, rfl, o1, b1⟩
  have HR := Hid.mk' (Rd.own o1)
  have HF := Hid.mk' (rfront_any (uns s) (uns_lt s) (by rw [hlen]; omega) v1 w1 HR.out)
  obtain ⟨x1, c1, rfl, hx⟩ := own_slice' o1
  have hcap : s.size / 2 ≤ c1 := by
    rcases o1.2 with ⟨e, h⟩ | ⟨g, cap, cur, e, _, _, h, _⟩
    · omega
    · simp at e; omega
  have hcm : (c1 : Int) ≤ 9223372036854775807 := by
    rcases o1.2 with ⟨e, _⟩ | ⟨g, cap, cur, e, _, _, _, h, _⟩
    · simp at e; omega
    · simp at e; unfold maxLen at h; omega
  obtain ⟨f, hf⟩ : ∃ f, frontN (uns s) = f := ⟨_, rfl⟩
  rw [hf] at HF hfl
  rw [hlen] at hfl
  have f1 : (0 : Int) ≤ (f : Int) := by omega
  have f2 : (f : Int) ≤ ((s.size / 2 : Nat) : Int) := by omega
  have f3 : ((s.size / 2 : Nat) : Int) ≤ (c1 : Int) := by omega
  have HX := Hid.mk' hx
  have HFE := Hid.mk' hf
  clear hx hf
  obtain ⟨n9, hn9⟩ : ∃ n9, s.size / 2 = n9 := ⟨_, rfl⟩
  rw [hn9] at HF hfl f2 f3 hcap hlen HX o1 HR ⊢
  have hnl9 : (n9 : Int) ≤ 10000 := by omega
  go_wp2_with fail
  refine HF.out.mono ?_
  rintro e w2 ⟨rfl, b2⟩
  have b12 : Below w.heap.size w w2 := b1.trans (b2.mono b1.size)
  obtain ⟨d, hd⟩ : ∃ d, (uns s).drop f = d := ⟨_, rfl⟩
  have hdl : d.length = n9 - f := by rw [← hd, List.length_drop, hlen]
  have HU9 : Hid (∀ q ∈ d, q < 65536) := fun q hq => uns_lt s q (by rw [← hd] at hq; exact List.mem_of_mem_drop hq)
  have HMk : Hid (∀ v W, Rd W v d → Calls Tryz.prog 35 #[v] W fun e w' => e = .returned (.string (bhd s)) ∧ Below W.heap.size W w') := fun v W hv => by
    have := rmake_any d HU9.out (by omega) v W hv
    have e : (⟨(mkB d).toArray⟩ : ByteArray) = bhd s := by unfold bhd; rw [HFE.out, hd]
    rw [e] at this
    exact this
  have HR2 := Hid.mk' (HR.out.below b2)
  have HB12 := Hid.mk' b12
  obtain ⟨bh, hbh⟩ : ∃ bh, bhd s = bh := ⟨_, rfl⟩
  rw [hbh] at HMk HAsc
  rcases HX.out with ⟨hx1, hx2, hx3⟩ | ⟨g, hx1, hg⟩
  · have hf0 : f = 0 := by omega
    have HRd : Hid (Rd w2 (.slice none 0 0) d) := .inl ⟨0, by rw [hdl]; simp; omega, List.eq_nil_of_length_eq_zero (by omega)⟩
    have HK := Hid.mk' (HMk.out _ w2 HRd.out)
    clear HX HR HR2 HF hd o1 hn9 HFE HMk HRd HU9 b1 b2 b12 hbh
    subst hx1 hx2 hx3 hf0
    go_wp2_with fail
    refine HK.out.mono ?_
    rintro e w3 ⟨rfl, b3⟩
    have b03 : Below w.heap.size w w3 := HB12.out.trans (b3.mono HB12.out.size)
    clear b3 HB12 HK
    go_wp2_with fail
    refine (HAsc.out _).mono ?_
    rintro e w4 ⟨rfl, b4⟩
    have b04 : Below w.heap.size w w4 := b03.trans (b4.mono b03.size)
    clear b03 b4
    have hl4 : LaidN w4 := hl.out.below b04
    have hb4 : LaidB w4 := hlb.out.below b04
    have HN4 := Hid.mk' (HN.out w4 hl4 hb4)
    clear hl4 hb4 HN
    go_wp2_with fail
    refine (HD.out _).mono ?_
    rintro e w6 ⟨rfl, hw6⟩
    rw [hw6]; clear hw6 w6
    by_cases h0 : n = 0
    · have q : ((n : Int) == 0) = true := by rw [beq_iff_eq]; omega
      have HE := Hid.mk' (HNO.out h0)
      clear HNO HY h0
      go_wp2_with (go_at_call 29; refine (HNaN.out _).mono ?_; rintro e w7 ⟨rfl, hw7⟩; rw [hw7]; clear hw7 w7)
      go_ret
      exact ⟨by rw [HE.out]; rfl, b04⟩
    · have q : ((n : Int) == 0) = false := by rw [beq_eq_false_iff_ne]; omega
      have hnle : (n : Int) ≤ u.size := by omega
      have HE := Hid.mk' (HY.out (by omega))
      clear HNO HY h0
      go_wp2_with fail
      refine HN4.out.mono ?_
      rintro e w7 ⟨rfl, b7⟩
      have b07 : Below w.heap.size w w7 := b04.trans (b7.mono b04.size)
      clear b04 b7
      go_wp2
      go_ret
      exact ⟨by rw [HE.out]; rfl, b07⟩
  · have hcc : ∀ (j : Nat) (h : j < n9), w2.cell? ⟨g, j, none⟩ = some (.int .u16 ((uns s)[j]'(by omega) : Nat)) := by
      rcases HR2.out with ⟨c', e1, e2⟩ | ⟨g', o, c', e1, hg', hc⟩
      · intro j h
        have : (uns s).length = 0 := by rw [e2]; rfl
        omega
      · intro j h
        have e3 : g' = g ∧ o = 0 := by
          rw [hx1] at e1
          simp at e1
          omega
        have := hc j (by omega)
        rw [e3.1, e3.2, Nat.zero_add] at this
        exact this
    have hgl : g < w2.heap.size := by
      have h2 := (o1.lt g (by rw [hx1]; rfl)).2
      exact Nat.lt_of_lt_of_le h2 b2.size
    have HD2 : Hid (∀ k o, n9 - f = 0 → Rd w2 (.slice (some ⟨g, o, none⟩) (n9 - f) k) d) := fun k o h0 => .inr ⟨g, o, k, by rw [hdl], hgl, fun j hj => by omega⟩
    have HD3 : Hid (Rd w2 (.slice (some ⟨g, f, none⟩) (n9 - f) (c1 - f)) d) := .inr ⟨g, f, c1 - f, by rw [hdl], hgl, fun j hj => by
      rw [hcc (f + j) (by omega)]
      simp [← hd]⟩
    clear HX HR HR2 HF hd hn9 HFE hcc o1 HU9 b1 b2 b12 hbh
    subst hx1
    go_wp2_with fail
    · have HK := Hid.mk' (HMk.out _ w2 (HD2.out 0 0 (by omega)))
      clear HD2 HD3 HMk
      refine HK.out.mono ?_
      rintro e w3 ⟨rfl, b3⟩
      have b03 : Below w.heap.size w w3 := HB12.out.trans (b3.mono HB12.out.size)
      clear b3 HB12 HK
      go_wp2_with fail
      refine (HAsc.out _).mono ?_
      rintro e w4 ⟨rfl, b4⟩
      have b04 : Below w.heap.size w w4 := b03.trans (b4.mono b03.size)
      clear b03 b4
      have hl4 : LaidN w4 := hl.out.below b04
      have hb4 : LaidB w4 := hlb.out.below b04
      have HN4 := Hid.mk' (HN.out w4 hl4 hb4)
      clear hl4 hb4 HN
      go_wp2_with fail
      refine (HD.out _).mono ?_
      rintro e w6 ⟨rfl, hw6⟩
      rw [hw6]; clear hw6 w6
      by_cases h0 : n = 0
      · have q : ((n : Int) == 0) = true := by rw [beq_iff_eq]; omega
        have HE := Hid.mk' (HNO.out h0)
        clear HNO HY h0
        go_wp2_with (go_at_call 29; refine (HNaN.out _).mono ?_; rintro e w7 ⟨rfl, hw7⟩; rw [hw7]; clear hw7 w7)
        go_ret
        exact ⟨by rw [HE.out]; rfl, b04⟩
      · have q : ((n : Int) == 0) = false := by rw [beq_eq_false_iff_ne]; omega
        have hnle : (n : Int) ≤ u.size := by omega
        have HE := Hid.mk' (HY.out (by omega))
        clear HNO HY h0
        go_wp2_with fail
        refine HN4.out.mono ?_
        rintro e w7 ⟨rfl, b7⟩
        have b07 : Below w.heap.size w w7 := b04.trans (b7.mono b04.size)
        clear b04 b7
        go_wp2
        go_ret
        exact ⟨by rw [HE.out]; rfl, b07⟩
    · have HK := Hid.mk' (HMk.out _ w2 HD3.out)
      clear HD2 HD3 HMk
      refine HK.out.mono ?_
      rintro e w3 ⟨rfl, b3⟩
      have b03 : Below w.heap.size w w3 := HB12.out.trans (b3.mono HB12.out.size)
      clear b3 HB12 HK
      go_wp2_with fail
      refine (HAsc.out _).mono ?_
      rintro e w4 ⟨rfl, b4⟩
      have b04 : Below w.heap.size w w4 := b03.trans (b4.mono b03.size)
      clear b03 b4
      have hl4 : LaidN w4 := hl.out.below b04
      have hb4 : LaidB w4 := hlb.out.below b04
      have HN4 := Hid.mk' (HN.out w4 hl4 hb4)
      clear hl4 hb4 HN
      go_wp2_with fail
      refine (HD.out _).mono ?_
      rintro e w6 ⟨rfl, hw6⟩
      rw [hw6]; clear hw6 w6
      by_cases h0 : n = 0
      · have q : ((n : Int) == 0) = true := by rw [beq_iff_eq]; omega
        have HE := Hid.mk' (HNO.out h0)
        clear HNO HY h0
        go_wp2_with (go_at_call 29; refine (HNaN.out _).mono ?_; rintro e w7 ⟨rfl, hw7⟩; rw [hw7]; clear hw7 w7)
        go_ret
        exact ⟨by rw [HE.out]; rfl, b04⟩
      · have q : ((n : Int) == 0) = false := by rw [beq_eq_false_iff_ne]; omega
        have hnle : (n : Int) ≤ u.size := by omega
        have HE := Hid.mk' (HY.out (by omega))
        clear HNO HY h0
        go_wp2_with fail
        refine HN4.out.mono ?_
        rintro e w7 ⟨rfl, b7⟩
        have b07 : Below w.heap.size w w7 := b04.trans (b7.mono b04.size)
        clear b04 b7
        go_wp2
        go_ret
        exact ⟨by rw [HE.out]; rfl, b07⟩
set_option maxHeartbeats 4000000 in
set_option maxRecDepth 100000 in
theorem rwhole_e6 (s : ByteArray) (base : Int) (w : World) (hs : (s.size : Int) ≤ 10000) (hl : Hid (LaidN w)) (hlb : Hid (LaidB w)) (r : Int) (hr : IntKind.i32.wrap base = r) (A u : ByteArray) (hA : Sb (nb ((uns (bhd s)).map ascN)) = A) (hu : unsT A = u) (hsg : A.size = 0)
    (h1 : r ≠ 0) (h2 : r ≠ 16) (h3 : r < 2) :
    Calls Tryz.prog 9 #[.string s, .int .i64 base] w fun e w' => e = .returned (.float .f64 (wRes r A)) ∧ Below w.heap.size w w' := by
  have hAs : (A.size : Int) ≤ 10000 := by rw [← hA, asc_size]; have := bhd_size s; omega
  have hlen := uns_length s
  have hfl := frontN_le (uns s)
  have hbt := PlainAid.get_bt A
  have hz0 := bt_by A 0
  have HAsc := Hid.mk' (fun W => asc3_any (bhd s) W (by have := bhd_size s; omega))
  rw [hA] at HAsc
  have hsg0 : sgnN A = false := by unfold sgnN; exact decide_eq_false (by omega)
  have hUA : u = A := by rw [← hu]; unfold unsT; rw [hsg0]; exact if_neg (by simp)
  have hMA : minusN A = false := by unfold minusN; rw [hsg0]; rfl
  have hne : A.toList.isEmpty = true := by rw [empty_of hsg, ByteArray.toList_eq]; rfl
  have hus : (u.size : Int) ≤ 20000 := by rw [hUA]; omega
  have hNo : wRes r A = 9221120237041090561 := by
    have hWR : wR r u = r := by unfold wR; rw [if_neg (fun q => by omega), if_neg h1]
    have hno : wNo r u = true := by unfold wNo; rw [hWR]; exact decide_eq_true (by omega)
    unfold wRes
    rw [hu, hno]
    exact if_pos rfl
  have HNO := Hid.mk' hNo
  obtain ⟨Res, hRes⟩ : ∃ Res, wRes r A = Res := ⟨_, rfl⟩
  rw [hRes] at HNO ⊢
  have hrb1 : -2147483648 ≤ r := by rw [← hr, IntKind.wrap_i32]; omega
  have hrb2 : r ≤ 2147483647 := by rw [← hr, IntKind.wrap_i32]; omega
  have q0 : (r == 0) = false := by rw [beq_eq_false_iff_ne]; omega
  have q16 : (r == 16) = false := by rw [beq_eq_false_iff_ne]; omega
  clear h1 h2
  subst hUA
  have HNaN := Hid.mk' (fun W => nan_any W)
  clear hA hu hRes hMA hsg0 hz0 hsg
  go_enter Tryz.func9, Tryz.ntmps9
  go_wp2_with fail
  refine (runits_any s _ (by omega)).mono ?_
  rintro e w1 ⟨v1, rfl, o1, b1⟩
  have HR := Hid.mk' (Rd.own o1)
  have HF := Hid.mk' (rfront_any (uns s) (uns_lt s) (by rw [hlen]; omega) v1 w1 HR.out)
  obtain ⟨x1, c1, rfl, hx⟩ := own_slice' o1
  have hcap : s.size / 2 ≤ c1 := by
    rcases o1.2 with ⟨e, h⟩ | ⟨g, cap, cur, e, _, _, h, _⟩
    · omega
    · simp at e; omega
  have hcm : (c1 : Int) ≤ 9223372036854775807 := by
    rcases o1.2 with ⟨e, _⟩ | ⟨g, cap, cur, e, _, _, _, h, _⟩
    · simp at e; omega
    · simp at e; unfold maxLen at h; omega
  obtain ⟨f, hf⟩ : ∃ f, frontN (uns s) = f := ⟨_, rfl⟩
  rw [hf] at HF hfl
  rw [hlen] at hfl
  have f1 : (0 : Int) ≤ (f : Int) := by omega
  have f2 : (f : Int) ≤ ((s.size / 2 : Nat) : Int) := by omega
  have f3 : ((s.size / 2 : Nat) : Int) ≤ (c1 : Int) := by omega
  have HX := Hid.mk' hx
  have HFE := Hid.mk' hf
  clear hx hf
  obtain ⟨n9, hn9⟩ : ∃ n9, s.size / 2 = n9 := ⟨_, rfl⟩
  rw [hn9] at HF hfl f2 f3 hcap hlen HX o1 HR ⊢
  have hnl9 : (n9 : Int) ≤ 10000 := by omega
  go_wp2_with fail
  refine HF.out.mono ?_
  rintro e w2 ⟨rfl, b2⟩
  have b12 : Below w.heap.size w w2 := b1.trans (b2.mono b1.size)
  obtain ⟨d, hd⟩ : ∃ d, (uns s).drop f = d := ⟨_, rfl⟩
  have hdl : d.length = n9 - f := by rw [← hd, List.length_drop, hlen]
  have HU9 : Hid (∀ q ∈ d, q < 65536) := fun q hq => uns_lt s q (by rw [← hd] at hq; exact List.mem_of_mem_drop hq)
  have HMk : Hid (∀ v W, Rd W v d → Calls Tryz.prog 35 #[v] W fun e w' => e = .returned (.string (bhd s)) ∧ Below W.heap.size W w') := fun v W hv => by
    have := rmake_any d HU9.out (by omega) v W hv
    have e : (⟨(mkB d).toArray⟩ : ByteArray) = bhd s := by unfold bhd; rw [HFE.out, hd]
    rw [e] at this
    exact this
  have HR2 := Hid.mk' (HR.out.below b2)
  have HB12 := Hid.mk' b12
  obtain ⟨bh, hbh⟩ : ∃ bh, bhd s = bh := ⟨_, rfl⟩
  rw [hbh] at HMk HAsc
  rcases HX.out with ⟨hx1, hx2, hx3⟩ | ⟨g, hx1, hg⟩
  · have hf0 : f = 0 := by omega
    have HRd : Hid (Rd w2 (.slice none 0 0) d) := .inl ⟨0, by rw [hdl]; simp; omega, List.eq_nil_of_length_eq_zero (by omega)⟩
    have HK := Hid.mk' (HMk.out _ w2 HRd.out)
    clear HX HR HR2 HF hd o1 hn9 HFE HMk HRd HU9 b1 b2 b12 hbh
    subst hx1 hx2 hx3 hf0
    go_wp2_with fail
    refine HK.out.mono ?_
    rintro e w3 ⟨rfl, b3⟩
    have b03 : Below w.heap.size w w3 := HB12.out.trans (b3.mono HB12.out.size)
    clear b3 HB12 HK
    go_wp2_with fail
    refine (HAsc.out _).mono ?_
    rintro e w4 ⟨rfl, b4⟩
    have b04 : Below w.heap.size w w4 := b03.trans (b4.mono b03.size)
    clear b03 b4
    go_wp2_with (go_at_call 29; refine (HNaN.out _).mono ?_; rintro e w5 ⟨rfl, hw5⟩; rw [hw5]; clear hw5 w5)
    go_ret
    exact ⟨by rw [HNO.out]; rfl, b04⟩
  · have hcc : ∀ (j : Nat) (h : j < n9), w2.cell? ⟨g, j, none⟩ = some (.int .u16 ((uns s)[j]'(by omega) : Nat)) := by
      rcases HR2.out with ⟨c', e1, e2⟩ | ⟨g', o, c', e1, hg', hc⟩
      · intro j h
        have : (uns s).length = 0 := by rw [e2]; rfl
        omega
      · intro j h
        have e3 : g' = g ∧ o = 0 := by
          rw [hx1] at e1
          simp at e1
          omega
        have := hc j (by omega)
        rw [e3.1, e3.2, Nat.zero_add] at this
        exact this
    have hgl : g < w2.heap.size := by
      have h2 := (o1.lt g (by rw [hx1]; rfl)).2
      exact Nat.lt_of_lt_of_le h2 b2.size
    have HD2 : Hid (∀ k o, n9 - f = 0 → Rd w2 (.slice (some ⟨g, o, none⟩) (n9 - f) k) d) := fun k o h0 => .inr ⟨g, o, k, by rw [hdl], hgl, fun j hj => by omega⟩
    have HD3 : Hid (Rd w2 (.slice (some ⟨g, f, none⟩) (n9 - f) (c1 - f)) d) := .inr ⟨g, f, c1 - f, by rw [hdl], hgl, fun j hj => by
      rw [hcc (f + j) (by omega)]
      simp [← hd]⟩
    clear HX HR HR2 HF hd hn9 HFE hcc o1 HU9 b1 b2 b12 hbh
    subst hx1
    go_wp2_with fail
    · have HK := Hid.mk' (HMk.out _ w2 (HD2.out 0 0 (by omega)))
      clear HD2 HD3 HMk
      refine HK.out.mono ?_
      rintro e w3 ⟨rfl, b3⟩
      have b03 : Below w.heap.size w w3 := HB12.out.trans (b3.mono HB12.out.size)
      clear b3 HB12 HK
      go_wp2_with fail
      refine (HAsc.out _).mono ?_
      rintro e w4 ⟨rfl, b4⟩
      have b04 : Below w.heap.size w w4 := b03.trans (b4.mono b03.size)
      clear b03 b4
      go_wp2_with (go_at_call 29; refine (HNaN.out _).mono ?_; rintro e w5 ⟨rfl, hw5⟩; rw [hw5]; clear hw5 w5)
      go_ret
      exact ⟨by rw [HNO.out]; rfl, b04⟩
    · have HK := Hid.mk' (HMk.out _ w2 HD3.out)
      clear HD2 HD3 HMk
      refine HK.out.mono ?_
      rintro e w3 ⟨rfl, b3⟩
      have b03 : Below w.heap.size w w3 := HB12.out.trans (b3.mono HB12.out.size)
      clear b3 HB12 HK
      go_wp2_with fail
      refine (HAsc.out _).mono ?_
      rintro e w4 ⟨rfl, b4⟩
      have b04 : Below w.heap.size w w4 := b03.trans (b4.mono b03.size)
      clear b03 b4
      go_wp2_with (go_at_call 29; refine (HNaN.out _).mono ?_; rintro e w5 ⟨rfl, hw5⟩; rw [hw5]; clear hw5 w5)
      go_ret
      exact ⟨by rw [HNO.out]; rfl, b04⟩
set_option maxHeartbeats 4000000 in
set_option maxRecDepth 100000 in
theorem rwhole_e7 (s : ByteArray) (base : Int) (w : World) (hs : (s.size : Int) ≤ 10000) (hl : Hid (LaidN w)) (hlb : Hid (LaidB w)) (r : Int) (hr : IntKind.i32.wrap base = r) (A u : ByteArray) (hA : Sb (nb ((uns (bhd s)).map ascN)) = A) (hu : unsT A = u) (hsg : A.size = 0)
    (h1 : r ≠ 0) (h2 : r ≠ 16) (h3 : 36 < r) :
    Calls Tryz.prog 9 #[.string s, .int .i64 base] w fun e w' => e = .returned (.float .f64 (wRes r A)) ∧ Below w.heap.size w w' := by
  have hAs : (A.size : Int) ≤ 10000 := by rw [← hA, asc_size]; have := bhd_size s; omega
  have hlen := uns_length s
  have hfl := frontN_le (uns s)
  have hbt := PlainAid.get_bt A
  have hz0 := bt_by A 0
  have HAsc := Hid.mk' (fun W => asc3_any (bhd s) W (by have := bhd_size s; omega))
  rw [hA] at HAsc
  have hsg0 : sgnN A = false := by unfold sgnN; exact decide_eq_false (by omega)
  have hUA : u = A := by rw [← hu]; unfold unsT; rw [hsg0]; exact if_neg (by simp)
  have hMA : minusN A = false := by unfold minusN; rw [hsg0]; rfl
  have hne : A.toList.isEmpty = true := by rw [empty_of hsg, ByteArray.toList_eq]; rfl
  have hus : (u.size : Int) ≤ 20000 := by rw [hUA]; omega
  have hNo : wRes r A = 9221120237041090561 := by
    have hWR : wR r u = r := by unfold wR; rw [if_neg (fun q => by omega), if_neg h1]
    have hno : wNo r u = true := by unfold wNo; rw [hWR]; exact decide_eq_true (by omega)
    unfold wRes
    rw [hu, hno]
    exact if_pos rfl
  have HNO := Hid.mk' hNo
  obtain ⟨Res, hRes⟩ : ∃ Res, wRes r A = Res := ⟨_, rfl⟩
  rw [hRes] at HNO ⊢
  have hrb1 : -2147483648 ≤ r := by rw [← hr, IntKind.wrap_i32]; omega
  have hrb2 : r ≤ 2147483647 := by rw [← hr, IntKind.wrap_i32]; omega
  have q0 : (r == 0) = false := by rw [beq_eq_false_iff_ne]; omega
  have q16 : (r == 16) = false := by rw [beq_eq_false_iff_ne]; omega
  clear h1 h2
  subst hUA
  have HNaN := Hid.mk' (fun W => nan_any W)
  clear hA hu hRes hMA hsg0 hz0 hsg
  go_enter Tryz.func9, Tryz.ntmps9
  go_wp2_with fail
  refine (runits_any s _ (by omega)).mono ?_
  rintro e w1 ⟨v1, rfl, o1, b1⟩
  have HR := Hid.mk' (Rd.own o1)
  have HF := Hid.mk' (rfront_any (uns s) (uns_lt s) (by rw [hlen]; omega) v1 w1 HR.out)
  obtain ⟨x1, c1, rfl, hx⟩ := own_slice' o1
  have hcap : s.size / 2 ≤ c1 := by
    rcases o1.2 with ⟨e, h⟩ | ⟨g, cap, cur, e, _, _, h, _⟩
    · omega
    · simp at e; omega
  have hcm : (c1 : Int) ≤ 9223372036854775807 := by
    rcases o1.2 with ⟨e, _⟩ | ⟨g, cap, cur, e, _, _, _, h, _⟩
    · simp at e; omega
    · simp at e; unfold maxLen at h; omega
  obtain ⟨f, hf⟩ : ∃ f, frontN (uns s) = f := ⟨_, rfl⟩
  rw [hf] at HF hfl
  rw [hlen] at hfl
  have f1 : (0 : Int) ≤ (f : Int) := by omega
  have f2 : (f : Int) ≤ ((s.size / 2 : Nat) : Int) := by omega
  have f3 : ((s.size / 2 : Nat) : Int) ≤ (c1 : Int) := by omega
  have HX := Hid.mk' hx
  have HFE := Hid.mk' hf
  clear hx hf
  obtain ⟨n9, hn9⟩ : ∃ n9, s.size / 2 = n9 := ⟨_, rfl⟩
  rw [hn9] at HF hfl f2 f3 hcap hlen HX o1 HR ⊢
  have hnl9 : (n9 : Int) ≤ 10000 := by omega
  go_wp2_with fail
  refine HF.out.mono ?_
  rintro e w2 ⟨rfl, b2⟩
  have b12 : Below w.heap.size w w2 := b1.trans (b2.mono b1.size)
  obtain ⟨d, hd⟩ : ∃ d, (uns s).drop f = d := ⟨_, rfl⟩
  have hdl : d.length = n9 - f := by rw [← hd, List.length_drop, hlen]
  have HU9 : Hid (∀ q ∈ d, q < 65536) := fun q hq => uns_lt s q (by rw [← hd] at hq; exact List.mem_of_mem_drop hq)
  have HMk : Hid (∀ v W, Rd W v d → Calls Tryz.prog 35 #[v] W fun e w' => e = .returned (.string (bhd s)) ∧ Below W.heap.size W w') := fun v W hv => by
    have := rmake_any d HU9.out (by omega) v W hv
    have e : (⟨(mkB d).toArray⟩ : ByteArray) = bhd s := by unfold bhd; rw [HFE.out, hd]
    rw [e] at this
    exact this
  have HR2 := Hid.mk' (HR.out.below b2)
  have HB12 := Hid.mk' b12
  obtain ⟨bh, hbh⟩ : ∃ bh, bhd s = bh := ⟨_, rfl⟩
  rw [hbh] at HMk HAsc
  rcases HX.out with ⟨hx1, hx2, hx3⟩ | ⟨g, hx1, hg⟩
  · have hf0 : f = 0 := by omega
    have HRd : Hid (Rd w2 (.slice none 0 0) d) := .inl ⟨0, by rw [hdl]; simp; omega, List.eq_nil_of_length_eq_zero (by omega)⟩
    have HK := Hid.mk' (HMk.out _ w2 HRd.out)
    clear HX HR HR2 HF hd o1 hn9 HFE HMk HRd HU9 b1 b2 b12 hbh
    subst hx1 hx2 hx3 hf0
    go_wp2_with fail
    refine HK.out.mono ?_
    rintro e w3 ⟨rfl, b3⟩
    have b03 : Below w.heap.size w w3 := HB12.out.trans (b3.mono HB12.out.size)
    clear b3 HB12 HK
    go_wp2_with fail
    refine (HAsc.out _).mono ?_
    rintro e w4 ⟨rfl, b4⟩
    have b04 : Below w.heap.size w w4 := b03.trans (b4.mono b03.size)
    clear b03 b4
    go_wp2_with (go_at_call 29; refine (HNaN.out _).mono ?_; rintro e w5 ⟨rfl, hw5⟩; rw [hw5]; clear hw5 w5)
    go_ret
    exact ⟨by rw [HNO.out]; rfl, b04⟩
  · have hcc : ∀ (j : Nat) (h : j < n9), w2.cell? ⟨g, j, none⟩ = some (.int .u16 ((uns s)[j]'(by omega) : Nat)) := by
      rcases HR2.out with ⟨c', e1, e2⟩ | ⟨g', o, c', e1, hg', hc⟩
      · intro j h
        have : (uns s).length = 0 := by rw [e2]; rfl
        omega
      · intro j h
        have e3 : g' = g ∧ o = 0 := by
          rw [hx1] at e1
          simp at e1
          omega
        have := hc j (by omega)
        rw [e3.1, e3.2, Nat.zero_add] at this
        exact this
    have hgl : g < w2.heap.size := by
      have h2 := (o1.lt g (by rw [hx1]; rfl)).2
      exact Nat.lt_of_lt_of_le h2 b2.size
    have HD2 : Hid (∀ k o, n9 - f = 0 → Rd w2 (.slice (some ⟨g, o, none⟩) (n9 - f) k) d) := fun k o h0 => .inr ⟨g, o, k, by rw [hdl], hgl, fun j hj => by omega⟩
    have HD3 : Hid (Rd w2 (.slice (some ⟨g, f, none⟩) (n9 - f) (c1 - f)) d) := .inr ⟨g, f, c1 - f, by rw [hdl], hgl, fun j hj => by
      rw [hcc (f + j) (by omega)]
      simp [← hd]⟩
    clear HX HR HR2 HF hd hn9 HFE hcc o1 HU9 b1 b2 b12 hbh
    subst hx1
    go_wp2_with fail
    · have HK := Hid.mk' (HMk.out _ w2 (HD2.out 0 0 (by omega)))
      clear HD2 HD3 HMk
      refine HK.out.mono ?_
      rintro e w3 ⟨rfl, b3⟩
      have b03 : Below w.heap.size w w3 := HB12.out.trans (b3.mono HB12.out.size)
      clear b3 HB12 HK
      go_wp2_with fail
      refine (HAsc.out _).mono ?_
      rintro e w4 ⟨rfl, b4⟩
      have b04 : Below w.heap.size w w4 := b03.trans (b4.mono b03.size)
      clear b03 b4
      go_wp2_with (go_at_call 29; refine (HNaN.out _).mono ?_; rintro e w5 ⟨rfl, hw5⟩; rw [hw5]; clear hw5 w5)
      go_ret
      exact ⟨by rw [HNO.out]; rfl, b04⟩
    · have HK := Hid.mk' (HMk.out _ w2 HD3.out)
      clear HD2 HD3 HMk
      refine HK.out.mono ?_
      rintro e w3 ⟨rfl, b3⟩
      have b03 : Below w.heap.size w w3 := HB12.out.trans (b3.mono HB12.out.size)
      clear b3 HB12 HK
      go_wp2_with fail
      refine (HAsc.out _).mono ?_
      rintro e w4 ⟨rfl, b4⟩
      have b04 : Below w.heap.size w w4 := b03.trans (b4.mono b03.size)
      clear b03 b4
      go_wp2_with (go_at_call 29; refine (HNaN.out _).mono ?_; rintro e w5 ⟨rfl, hw5⟩; rw [hw5]; clear hw5 w5)
      go_ret
      exact ⟨by rw [HNO.out]; rfl, b04⟩
set_option maxHeartbeats 4000000 in
set_option maxRecDepth 100000 in
theorem rwhole_n1 (s : ByteArray) (base : Int) (w : World) (hs : (s.size : Int) ≤ 10000) (hl : Hid (LaidN w)) (hlb : Hid (LaidB w)) (r : Int) (hr : IntKind.i32.wrap base = r) (A u : ByteArray) (hA : Sb (nb ((uns (bhd s)).map ascN)) = A) (hu : unsT A = u) (hsg : 0 < A.size ∧ by' A 0 ≠ 43 ∧ by' A 0 ≠ 45)
    (hr0 : r = 0) (hp : prefN u = 16) :
    Calls Tryz.prog 9 #[.string s, .int .i64 base] w fun e w' => e = .returned (.float .f64 (wRes r A)) ∧ Below w.heap.size w w' := by
  have hAs : (A.size : Int) ≤ 10000 := by rw [← hA, asc_size]; have := bhd_size s; omega
  have hlen := uns_length s
  have hfl := frontN_le (uns s)
  have hbt := PlainAid.get_bt A
  have hz0 := bt_by A 0
  have HAsc := Hid.mk' (fun W => asc3_any (bhd s) W (by have := bhd_size s; omega))
  rw [hA] at HAsc
  have hsg0 : sgnN A = false := by unfold sgnN; exact decide_eq_false (by omega)
  have hUA : u = A := by rw [← hu]; unfold unsT; rw [hsg0]; exact if_neg (by simp)
  have hMA : minusN A = false := by unfold minusN; rw [hsg0]; rfl
  have hne : A.toList.isEmpty = false := ne_empty (by omega)
  have hA0 : (0 : Int) < A.size := by omega
  obtain ⟨z, hz⟩ : ∃ z : Int, PlainAid.bt A 0 = z := ⟨_, rfl⟩
  have q43 : (z == 43) = false := by rw [beq_eq_false_iff_ne]; omega
  have q45 : (z == 45) = false := by rw [beq_eq_false_iff_ne]; omega
  have hus : (u.size : Int) ≤ 20000 := by rw [hUA]; omega
  have HLB := Hid.mk' (fun W => prefixed_any u W (by omega))
  have hu2 : (2 : Int) ≤ u.size := by
    rcases Nat.lt_or_ge u.size 2 with q | q
    · have : prefN u = 0 := by unfold prefN; rw [if_pos (.inl q)]
      omega
    · omega
  rw [hp] at HLB
  have hWR : wR r u = ((16 : Nat) : Int) := by unfold wR; rw [if_pos ⟨by omega, hp⟩]; rfl
  have hWT : wT r u = u.extract 2 u.size := by unfold wT; rw [if_pos ⟨by omega, hp⟩]
  obtain ⟨T1, hT1⟩ : ∃ T1, u.extract 2 u.size = T1 := ⟨_, rfl⟩
  rw [hT1] at hWT
  have hTs1 : (T1.size : Int) ≤ 20000 := by rw [← hT1]; rw [ByteArray.size_extract]; omega
  obtain ⟨n, hn⟩ : ∃ n, runN T1 0 ((16 : Nat) : Int) = n := ⟨_, rfl⟩
  have hnl := runN_le T1 0 ((16 : Nat) : Int)
  rw [hn] at hnl
  have HD := Hid.mk' (fun W => run_any T1 0 ((16 : Nat) : Int) W (by omega) (Nat.zero_le _))
  rw [hn] at HD
  have HN := Hid.mk' (fun W h1 h2 => rnear_run T1 16 n W hTs1 hn ⟨by omega, by omega⟩ h1 h2)
  have HY := Hid.mk' (fun h0 => res_yes r A u T1 16 n hu hWR hWT hn h0 ⟨by omega, by omega⟩)
  have HNO := Hid.mk' (fun h0 => res_no r A u T1 16 n hu hWR hWT hn h0)
  rw [hMA] at HY
  obtain ⟨V, hV⟩ : ∃ V, NF (numN (T1.extract 0 n) 16 n) = V := ⟨_, rfl⟩
  have hVl : V ≤ 9218868437227405312 := by rw [← hV]; exact NF_lt _
  rw [hV] at HN HY
  obtain ⟨Z, hZ⟩ : ∃ Z, sg false V = Z := ⟨_, rfl⟩
  rw [hZ] at HY
  have hmul : ∀ W, (binOp .mul 22 (.float .f64 4607182418800017408) (.float .f64 V)).run Tryz.prog W = .ok (.float .f64 Z) W := fun W => run_mul 22 4607182418800017408 V Z W (by rw [← hZ]; exact mul_sg false V hVl)
  have HT1 := Hid.mk' hT1
  obtain ⟨Res, hRes⟩ : ∃ Res, wRes r A = Res := ⟨_, rfl⟩
  rw [hRes] at HNO ⊢
  rw [hRes] at HY
  subst hr0
  subst hUA
  have HNaN := Hid.mk' (fun W => nan_any W)
  clear hA hu hRes hMA hsg0 hz0 hsg
  clear hn hWR hWT hT1 hV hZ
  go_enter Tryz.func9, Tryz.ntmps9
  go_wp2_with fail
  refine (runits_any s _ (by omega)).mono ?_
  rintro e w1 ⟨v1, rfl, o1, b1⟩
  have HR := Hid.mk' (Rd.own o1)
  have HF := Hid.mk' (rfront_any (uns s) (uns_lt s) (by rw [hlen]; omega) v1 w1 HR.out)
  obtain ⟨x1, c1, rfl, hx⟩ := own_slice' o1
  have hcap : s.size / 2 ≤ c1 := by
    rcases o1.2 with ⟨e, h⟩ | ⟨g, cap, cur, e, _, _, h, _⟩
    · omega
    · simp at e; omega
  have hcm : (c1 : Int) ≤ 9223372036854775807 := by
    rcases o1.2 with ⟨e, _⟩ | ⟨g, cap, cur, e, _, _, _, h, _⟩
    · simp at e; omega
    · simp at e; unfold maxLen at h; omega
  obtain ⟨f, hf⟩ : ∃ f, frontN (uns s) = f := ⟨_, rfl⟩
  rw [hf] at HF hfl
  rw [hlen] at hfl
  have f1 : (0 : Int) ≤ (f : Int) := by omega
  have f2 : (f : Int) ≤ ((s.size / 2 : Nat) : Int) := by omega
  have f3 : ((s.size / 2 : Nat) : Int) ≤ (c1 : Int) := by omega
  have HX := Hid.mk' hx
  have HFE := Hid.mk' hf
  clear hx hf
  obtain ⟨n9, hn9⟩ : ∃ n9, s.size / 2 = n9 := ⟨_, rfl⟩
  rw [hn9] at HF hfl f2 f3 hcap hlen HX o1 HR ⊢
  have hnl9 : (n9 : Int) ≤ 10000 := by omega
  go_wp2_with fail
  refine HF.out.mono ?_
  rintro e w2 ⟨rfl, b2⟩
  have b12 : Below w.heap.size w w2 := b1.trans (b2.mono b1.size)
  obtain ⟨d, hd⟩ : ∃ d, (uns s).drop f = d := ⟨_, rfl⟩
  have hdl : d.length = n9 - f := by rw [← hd, List.length_drop, hlen]
  have HU9 : Hid (∀ q ∈ d, q < 65536) := fun q hq => uns_lt s q (by rw [← hd] at hq; exact List.mem_of_mem_drop hq)
  have HMk : Hid (∀ v W, Rd W v d → Calls Tryz.prog 35 #[v] W fun e w' => e = .returned (.string (bhd s)) ∧ Below W.heap.size W w') := fun v W hv => by
    have := rmake_any d HU9.out (by omega) v W hv
    have e : (⟨(mkB d).toArray⟩ : ByteArray) = bhd s := by unfold bhd; rw [HFE.out, hd]
    rw [e] at this
    exact this
  have HR2 := Hid.mk' (HR.out.below b2)
  have HB12 := Hid.mk' b12
  obtain ⟨bh, hbh⟩ : ∃ bh, bhd s = bh := ⟨_, rfl⟩
  rw [hbh] at HMk HAsc
  rcases HX.out with ⟨hx1, hx2, hx3⟩ | ⟨g, hx1, hg⟩
  · have hf0 : f = 0 := by omega
    have HRd : Hid (Rd w2 (.slice none 0 0) d) := .inl ⟨0, by rw [hdl]; simp; omega, List.eq_nil_of_length_eq_zero (by omega)⟩
    have HK := Hid.mk' (HMk.out _ w2 HRd.out)
    clear HX HR HR2 HF hd o1 hn9 HFE HMk HRd HU9 b1 b2 b12 hbh
    subst hx1 hx2 hx3 hf0
    go_wp2_with fail
    refine HK.out.mono ?_
    rintro e w3 ⟨rfl, b3⟩
    have b03 : Below w.heap.size w w3 := HB12.out.trans (b3.mono HB12.out.size)
    clear b3 HB12 HK
    go_wp2_with fail
    refine (HAsc.out _).mono ?_
    rintro e w4 ⟨rfl, b4⟩
    have b04 : Below w.heap.size w w4 := b03.trans (b4.mono b03.size)
    clear b03 b4
    have hl4 : LaidN w4 := hl.out.below b04
    have hb4 : LaidB w4 := hlb.out.below b04
    have HN4 := Hid.mk' (HN.out w4 hl4 hb4)
    clear hl4 hb4 HN
    go_wp2_with fail
    refine (HLB.out _).mono ?_
    rintro e w5 ⟨rfl, hw5⟩
    rw [hw5]; clear hw5 w5
    go_wp2_with fail
    rw [HT1.out]
    refine (HD.out _).mono ?_
    rintro e w6 ⟨rfl, hw6⟩
    rw [hw6]; clear hw6 w6
    by_cases h0 : n = 0
    · have q : ((n : Int) == 0) = true := by rw [beq_iff_eq]; omega
      have HE := Hid.mk' (HNO.out h0)
      clear HNO HY h0
      go_wp2_with (go_at_call 29; refine (HNaN.out _).mono ?_; rintro e w7 ⟨rfl, hw7⟩; rw [hw7]; clear hw7 w7)
      go_ret
      exact ⟨by rw [HE.out]; rfl, b04⟩
    · have q : ((n : Int) == 0) = false := by rw [beq_eq_false_iff_ne]; omega
      have hnle : (n : Int) ≤ T1.size := by omega
      have HE := Hid.mk' (HY.out (by omega))
      clear HNO HY h0
      go_wp2_with fail
      refine HN4.out.mono ?_
      rintro e w7 ⟨rfl, b7⟩
      have b07 : Below w.heap.size w w7 := b04.trans (b7.mono b04.size)
      clear b04 b7
      go_wp2
      go_ret
      exact ⟨by rw [HE.out]; rfl, b07⟩
  · have hcc : ∀ (j : Nat) (h : j < n9), w2.cell? ⟨g, j, none⟩ = some (.int .u16 ((uns s)[j]'(by omega) : Nat)) := by
      rcases HR2.out with ⟨c', e1, e2⟩ | ⟨g', o, c', e1, hg', hc⟩
      · intro j h
        have : (uns s).length = 0 := by rw [e2]; rfl
        omega
      · intro j h
        have e3 : g' = g ∧ o = 0 := by
          rw [hx1] at e1
          simp at e1
          omega
        have := hc j (by omega)
        rw [e3.1, e3.2, Nat.zero_add] at this
        exact this
    have hgl : g < w2.heap.size := by
      have h2 := (o1.lt g (by rw [hx1]; rfl)).2
      exact Nat.lt_of_lt_of_le h2 b2.size
    have HD2 : Hid (∀ k o, n9 - f = 0 → Rd w2 (.slice (some ⟨g, o, none⟩) (n9 - f) k) d) := fun k o h0 => .inr ⟨g, o, k, by rw [hdl], hgl, fun j hj => by omega⟩
    have HD3 : Hid (Rd w2 (.slice (some ⟨g, f, none⟩) (n9 - f) (c1 - f)) d) := .inr ⟨g, f, c1 - f, by rw [hdl], hgl, fun j hj => by
      rw [hcc (f + j) (by omega)]
      simp [← hd]⟩
    clear HX HR HR2 HF hd hn9 HFE hcc o1 HU9 b1 b2 b12 hbh
    subst hx1
    go_wp2_with fail
    · have HK := Hid.mk' (HMk.out _ w2 (HD2.out 0 0 (by omega)))
      clear HD2 HD3 HMk
      refine HK.out.mono ?_
      rintro e w3 ⟨rfl, b3⟩
      have b03 : Below w.heap.size w w3 := HB12.out.trans (b3.mono HB12.out.size)
      clear b3 HB12 HK
      go_wp2_with fail
      refine (HAsc.out _).mono ?_
      rintro e w4 ⟨rfl, b4⟩
      have b04 : Below w.heap.size w w4 := b03.trans (b4.mono b03.size)
      clear b03 b4
      have hl4 : LaidN w4 := hl.out.below b04
      have hb4 : LaidB w4 := hlb.out.below b04
      have HN4 := Hid.mk' (HN.out w4 hl4 hb4)
      clear hl4 hb4 HN
      go_wp2_with fail
      refine (HLB.out _).mono ?_
      rintro e w5 ⟨rfl, hw5⟩
      rw [hw5]; clear hw5 w5
      go_wp2_with fail
      rw [HT1.out]
      refine (HD.out _).mono ?_
      rintro e w6 ⟨rfl, hw6⟩
      rw [hw6]; clear hw6 w6
      by_cases h0 : n = 0
      · have q : ((n : Int) == 0) = true := by rw [beq_iff_eq]; omega
        have HE := Hid.mk' (HNO.out h0)
        clear HNO HY h0
        go_wp2_with (go_at_call 29; refine (HNaN.out _).mono ?_; rintro e w7 ⟨rfl, hw7⟩; rw [hw7]; clear hw7 w7)
        go_ret
        exact ⟨by rw [HE.out]; rfl, b04⟩
      · have q : ((n : Int) == 0) = false := by rw [beq_eq_false_iff_ne]; omega
        have hnle : (n : Int) ≤ T1.size := by omega
        have HE := Hid.mk' (HY.out (by omega))
        clear HNO HY h0
        go_wp2_with fail
        refine HN4.out.mono ?_
        rintro e w7 ⟨rfl, b7⟩
        have b07 : Below w.heap.size w w7 := b04.trans (b7.mono b04.size)
        clear b04 b7
        go_wp2
        go_ret
        exact ⟨by rw [HE.out]; rfl, b07⟩
    · have HK := Hid.mk' (HMk.out _ w2 HD3.out)
      clear HD2 HD3 HMk
      refine HK.out.mono ?_
      rintro e w3 ⟨rfl, b3⟩
      have b03 : Below w.heap.size w w3 := HB12.out.trans (b3.mono HB12.out.size)
      clear b3 HB12 HK
      go_wp2_with fail
      refine (HAsc.out _).mono ?_
      rintro e w4 ⟨rfl, b4⟩
      have b04 : Below w.heap.size w w4 := b03.trans (b4.mono b03.size)
      clear b03 b4
      have hl4 : LaidN w4 := hl.out.below b04
      have hb4 : LaidB w4 := hlb.out.below b04
      have HN4 := Hid.mk' (HN.out w4 hl4 hb4)
      clear hl4 hb4 HN
      go_wp2_with fail
      refine (HLB.out _).mono ?_
      rintro e w5 ⟨rfl, hw5⟩
      rw [hw5]; clear hw5 w5
      go_wp2_with fail
      rw [HT1.out]
      refine (HD.out _).mono ?_
      rintro e w6 ⟨rfl, hw6⟩
      rw [hw6]; clear hw6 w6
      by_cases h0 : n = 0
      · have q : ((n : Int) == 0) = true := by rw [beq_iff_eq]; omega
        have HE := Hid.mk' (HNO.out h0)
        clear HNO HY h0
        go_wp2_with (go_at_call 29; refine (HNaN.out _).mono ?_; rintro e w7 ⟨rfl, hw7⟩; rw [hw7]; clear hw7 w7)
        go_ret
        exact ⟨by rw [HE.out]; rfl, b04⟩
      · have q : ((n : Int) == 0) = false := by rw [beq_eq_false_iff_ne]; omega
        have hnle : (n : Int) ≤ T1.size := by omega
        have HE := Hid.mk' (HY.out (by omega))
        clear HNO HY h0
        go_wp2_with fail
        refine HN4.out.mono ?_
        rintro e w7 ⟨rfl, b7⟩
        have b07 : Below w.heap.size w w7 := b04.trans (b7.mono b04.size)
        clear b04 b7
        go_wp2
        go_ret
        exact ⟨by rw [HE.out]; rfl, b07⟩
set_option maxHeartbeats 4000000 in
set_option maxRecDepth 100000 in
theorem rwhole_n2 (s : ByteArray) (base : Int) (w : World) (hs : (s.size : Int) ≤ 10000) (hl : Hid (LaidN w)) (hlb : Hid (LaidB w)) (r : Int) (hr : IntKind.i32.wrap base = r) (A u : ByteArray) (hA : Sb (nb ((uns (bhd s)).map ascN)) = A) (hu : unsT A = u) (hsg : 0 < A.size ∧ by' A 0 ≠ 43 ∧ by' A 0 ≠ 45)
    (hr0 : r = 16) (hp : prefN u = 16) :
    Calls Tryz.prog 9 #[.string s, .int .i64 base] w fun e w' => e = .returned (.float .f64 (wRes r A)) ∧ Below w.heap.size w w' := by
  have hAs : (A.size : Int) ≤ 10000 := by rw [← hA, asc_size]; have := bhd_size s; omega
  have hlen := uns_length s
  have hfl := frontN_le (uns s)
  have hbt := PlainAid.get_bt A
  have hz0 := bt_by A 0
  have HAsc := Hid.mk' (fun W => asc3_any (bhd s) W (by have := bhd_size s; omega))
  rw [hA] at HAsc
  have hsg0 : sgnN A = false := by unfold sgnN; exact decide_eq_false (by omega)
  have hUA : u = A := by rw [← hu]; unfold unsT; rw [hsg0]; exact if_neg (by simp)
  have hMA : minusN A = false := by unfold minusN; rw [hsg0]; rfl
  have hne : A.toList.isEmpty = false := ne_empty (by omega)
  have hA0 : (0 : Int) < A.size := by omega
  obtain ⟨z, hz⟩ : ∃ z : Int, PlainAid.bt A 0 = z := ⟨_, rfl⟩
  have q43 : (z == 43) = false := by rw [beq_eq_false_iff_ne]; omega
  have q45 : (z == 45) = false := by rw [beq_eq_false_iff_ne]; omega
  have hus : (u.size : Int) ≤ 20000 := by rw [hUA]; omega
  have HLB := Hid.mk' (fun W => prefixed_any u W (by omega))
  have hu2 : (2 : Int) ≤ u.size := by
    rcases Nat.lt_or_ge u.size 2 with q | q
    · have : prefN u = 0 := by unfold prefN; rw [if_pos (.inl q)]
      omega
    · omega
  rw [hp] at HLB
  have hWR : wR r u = ((16 : Nat) : Int) := by unfold wR; rw [if_pos ⟨by omega, hp⟩]; rfl
  have hWT : wT r u = u.extract 2 u.size := by unfold wT; rw [if_pos ⟨by omega, hp⟩]
  obtain ⟨T1, hT1⟩ : ∃ T1, u.extract 2 u.size = T1 := ⟨_, rfl⟩
  rw [hT1] at hWT
  have hTs1 : (T1.size : Int) ≤ 20000 := by rw [← hT1]; rw [ByteArray.size_extract]; omega
  obtain ⟨n, hn⟩ : ∃ n, runN T1 0 ((16 : Nat) : Int) = n := ⟨_, rfl⟩
  have hnl := runN_le T1 0 ((16 : Nat) : Int)
  rw [hn] at hnl
  have HD := Hid.mk' (fun W => run_any T1 0 ((16 : Nat) : Int) W (by omega) (Nat.zero_le _))
  rw [hn] at HD
  have HN := Hid.mk' (fun W h1 h2 => rnear_run T1 16 n W hTs1 hn ⟨by omega, by omega⟩ h1 h2)
  have HY := Hid.mk' (fun h0 => res_yes r A u T1 16 n hu hWR hWT hn h0 ⟨by omega, by omega⟩)
  have HNO := Hid.mk' (fun h0 => res_no r A u T1 16 n hu hWR hWT hn h0)
  rw [hMA] at HY
  obtain ⟨V, hV⟩ : ∃ V, NF (numN (T1.extract 0 n) 16 n) = V := ⟨_, rfl⟩
  have hVl : V ≤ 9218868437227405312 := by rw [← hV]; exact NF_lt _
  rw [hV] at HN HY
  obtain ⟨Z, hZ⟩ : ∃ Z, sg false V = Z := ⟨_, rfl⟩
  rw [hZ] at HY
  have hmul : ∀ W, (binOp .mul 22 (.float .f64 4607182418800017408) (.float .f64 V)).run Tryz.prog W = .ok (.float .f64 Z) W := fun W => run_mul 22 4607182418800017408 V Z W (by rw [← hZ]; exact mul_sg false V hVl)
  have HT1 := Hid.mk' hT1
  obtain ⟨Res, hRes⟩ : ∃ Res, wRes r A = Res := ⟨_, rfl⟩
  rw [hRes] at HNO ⊢
  rw [hRes] at HY
  subst hr0
  subst hUA
  have HNaN := Hid.mk' (fun W => nan_any W)
  clear hA hu hRes hMA hsg0 hz0 hsg
  clear hn hWR hWT hT1 hV hZ
  go_enter Tryz.func9, Tryz.ntmps9
  go_wp2_with fail
  refine (runits_any s _ (by omega)).mono ?_
  rintro e w1 ⟨v1, rfl, o1, b1⟩
  have HR := Hid.mk' (Rd.own o1)
  have HF := Hid.mk' (rfront_any (uns s) (uns_lt s) (by rw [hlen]; omega) v1 w1 HR.out)
  obtain ⟨x1, c1, rfl, hx⟩ := own_slice' o1
  have hcap : s.size / 2 ≤ c1 := by
    rcases o1.2 with ⟨e, h⟩ | ⟨g, cap, cur, e, _, _, h, _⟩
    · omega
    · simp at e; omega
  have hcm : (c1 : Int) ≤ 9223372036854775807 := by
    rcases o1.2 with ⟨e, _⟩ | ⟨g, cap, cur, e, _, _, _, h, _⟩
    · simp at e; omega
    · simp at e; unfold maxLen at h; omega
  obtain ⟨f, hf⟩ : ∃ f, frontN (uns s) = f := ⟨_, rfl⟩
  rw [hf] at HF hfl
  rw [hlen] at hfl
  have f1 : (0 : Int) ≤ (f : Int) := by omega
  have f2 : (f : Int) ≤ ((s.size / 2 : Nat) : Int) := by omega
  have f3 : ((s.size / 2 : Nat) : Int) ≤ (c1 : Int) := by omega
  have HX := Hid.mk' hx
  have HFE := Hid.mk' hf
  clear hx hf
  obtain ⟨n9, hn9⟩ : ∃ n9, s.size / 2 = n9 := ⟨_, rfl⟩
  rw [hn9] at HF hfl f2 f3 hcap hlen HX o1 HR ⊢
  have hnl9 : (n9 : Int) ≤ 10000 := by omega
  go_wp2_with fail
  refine HF.out.mono ?_
  rintro e w2 ⟨rfl, b2⟩
  have b12 : Below w.heap.size w w2 := b1.trans (b2.mono b1.size)
  obtain ⟨d, hd⟩ : ∃ d, (uns s).drop f = d := ⟨_, rfl⟩
  have hdl : d.length = n9 - f := by rw [← hd, List.length_drop, hlen]
  have HU9 : Hid (∀ q ∈ d, q < 65536) := fun q hq => uns_lt s q (by rw [← hd] at hq; exact List.mem_of_mem_drop hq)
  have HMk : Hid (∀ v W, Rd W v d → Calls Tryz.prog 35 #[v] W fun e w' => e = .returned (.string (bhd s)) ∧ Below W.heap.size W w') := fun v W hv => by
    have := rmake_any d HU9.out (by omega) v W hv
    have e : (⟨(mkB d).toArray⟩ : ByteArray) = bhd s := by unfold bhd; rw [HFE.out, hd]
    rw [e] at this
    exact this
  have HR2 := Hid.mk' (HR.out.below b2)
  have HB12 := Hid.mk' b12
  obtain ⟨bh, hbh⟩ : ∃ bh, bhd s = bh := ⟨_, rfl⟩
  rw [hbh] at HMk HAsc
  rcases HX.out with ⟨hx1, hx2, hx3⟩ | ⟨g, hx1, hg⟩
  · have hf0 : f = 0 := by omega
    have HRd : Hid (Rd w2 (.slice none 0 0) d) := .inl ⟨0, by rw [hdl]; simp; omega, List.eq_nil_of_length_eq_zero (by omega)⟩
    have HK := Hid.mk' (HMk.out _ w2 HRd.out)
    clear HX HR HR2 HF hd o1 hn9 HFE HMk HRd HU9 b1 b2 b12 hbh
    subst hx1 hx2 hx3 hf0
    go_wp2_with fail
    refine HK.out.mono ?_
    rintro e w3 ⟨rfl, b3⟩
    have b03 : Below w.heap.size w w3 := HB12.out.trans (b3.mono HB12.out.size)
    clear b3 HB12 HK
    go_wp2_with fail
    refine (HAsc.out _).mono ?_
    rintro e w4 ⟨rfl, b4⟩
    have b04 : Below w.heap.size w w4 := b03.trans (b4.mono b03.size)
    clear b03 b4
    have hl4 : LaidN w4 := hl.out.below b04
    have hb4 : LaidB w4 := hlb.out.below b04
    have HN4 := Hid.mk' (HN.out w4 hl4 hb4)
    clear hl4 hb4 HN
    go_wp2_with fail
    refine (HLB.out _).mono ?_
    rintro e w5 ⟨rfl, hw5⟩
    rw [hw5]; clear hw5 w5
    go_wp2_with fail
    rw [HT1.out]
    refine (HD.out _).mono ?_
    rintro e w6 ⟨rfl, hw6⟩
    rw [hw6]; clear hw6 w6
    by_cases h0 : n = 0
    · have q : ((n : Int) == 0) = true := by rw [beq_iff_eq]; omega
      have HE := Hid.mk' (HNO.out h0)
      clear HNO HY h0
      go_wp2_with (go_at_call 29; refine (HNaN.out _).mono ?_; rintro e w7 ⟨rfl, hw7⟩; rw [hw7]; clear hw7 w7)
      go_ret
      exact ⟨by rw [HE.out]; rfl, b04⟩
    · have q : ((n : Int) == 0) = false := by rw [beq_eq_false_iff_ne]; omega
      have hnle : (n : Int) ≤ T1.size := by omega
      have HE := Hid.mk' (HY.out (by omega))
      clear HNO HY h0
      go_wp2_with fail
      refine HN4.out.mono ?_
      rintro e w7 ⟨rfl, b7⟩
      have b07 : Below w.heap.size w w7 := b04.trans (b7.mono b04.size)
      clear b04 b7
      go_wp2
      go_ret
      exact ⟨by rw [HE.out]; rfl, b07⟩
  · have hcc : ∀ (j : Nat) (h : j < n9), w2.cell? ⟨g, j, none⟩ = some (.int .u16 ((uns s)[j]'(by omega) : Nat)) := by
      rcases HR2.out with ⟨c', e1, e2⟩ | ⟨g', o, c', e1, hg', hc⟩
      · intro j h
        have : (uns s).length = 0 := by rw [e2]; rfl
        omega
      · intro j h
        have e3 : g' = g ∧ o = 0 := by
          rw [hx1] at e1
          simp at e1
          omega
        have := hc j (by omega)
        rw [e3.1, e3.2, Nat.zero_add] at this
        exact this
    have hgl : g < w2.heap.size := by
      have h2 := (o1.lt g (by rw [hx1]; rfl)).2
      exact Nat.lt_of_lt_of_le h2 b2.size
    have HD2 : Hid (∀ k o, n9 - f = 0 → Rd w2 (.slice (some ⟨g, o, none⟩) (n9 - f) k) d) := fun k o h0 => .inr ⟨g, o, k, by rw [hdl], hgl, fun j hj => by omega⟩
    have HD3 : Hid (Rd w2 (.slice (some ⟨g, f, none⟩) (n9 - f) (c1 - f)) d) := .inr ⟨g, f, c1 - f, by rw [hdl], hgl, fun j hj => by
      rw [hcc (f + j) (by omega)]
      simp [← hd]⟩
    clear HX HR HR2 HF hd hn9 HFE hcc o1 HU9 b1 b2 b12 hbh
    subst hx1
    go_wp2_with fail
    · have HK := Hid.mk' (HMk.out _ w2 (HD2.out 0 0 (by omega)))
      clear HD2 HD3 HMk
      refine HK.out.mono ?_
      rintro e w3 ⟨rfl, b3⟩
      have b03 : Below w.heap.size w w3 := HB12.out.trans (b3.mono HB12.out.size)
      clear b3 HB12 HK
      go_wp2_with fail
      refine (HAsc.out _).mono ?_
      rintro e w4 ⟨rfl, b4⟩
      have b04 : Below w.heap.size w w4 := b03.trans (b4.mono b03.size)
      clear b03 b4
      have hl4 : LaidN w4 := hl.out.below b04
      have hb4 : LaidB w4 := hlb.out.below b04
      have HN4 := Hid.mk' (HN.out w4 hl4 hb4)
      clear hl4 hb4 HN
      go_wp2_with fail
      refine (HLB.out _).mono ?_
      rintro e w5 ⟨rfl, hw5⟩
      rw [hw5]; clear hw5 w5
      go_wp2_with fail
      rw [HT1.out]
      refine (HD.out _).mono ?_
      rintro e w6 ⟨rfl, hw6⟩
      rw [hw6]; clear hw6 w6
      by_cases h0 : n = 0
      · have q : ((n : Int) == 0) = true := by rw [beq_iff_eq]; omega
        have HE := Hid.mk' (HNO.out h0)
        clear HNO HY h0
        go_wp2_with (go_at_call 29; refine (HNaN.out _).mono ?_; rintro e w7 ⟨rfl, hw7⟩; rw [hw7]; clear hw7 w7)
        go_ret
        exact ⟨by rw [HE.out]; rfl, b04⟩
      · have q : ((n : Int) == 0) = false := by rw [beq_eq_false_iff_ne]; omega
        have hnle : (n : Int) ≤ T1.size := by omega
        have HE := Hid.mk' (HY.out (by omega))
        clear HNO HY h0
        go_wp2_with fail
        refine HN4.out.mono ?_
        rintro e w7 ⟨rfl, b7⟩
        have b07 : Below w.heap.size w w7 := b04.trans (b7.mono b04.size)
        clear b04 b7
        go_wp2
        go_ret
        exact ⟨by rw [HE.out]; rfl, b07⟩
    · have HK := Hid.mk' (HMk.out _ w2 HD3.out)
      clear HD2 HD3 HMk
      refine HK.out.mono ?_
      rintro e w3 ⟨rfl, b3⟩
      have b03 : Below w.heap.size w w3 := HB12.out.trans (b3.mono HB12.out.size)
      clear b3 HB12 HK
      go_wp2_with fail
      refine (HAsc.out _).mono ?_
      rintro e w4 ⟨rfl, b4⟩
      have b04 : Below w.heap.size w w4 := b03.trans (b4.mono b03.size)
      clear b03 b4
      have hl4 : LaidN w4 := hl.out.below b04
      have hb4 : LaidB w4 := hlb.out.below b04
      have HN4 := Hid.mk' (HN.out w4 hl4 hb4)
      clear hl4 hb4 HN
      go_wp2_with fail
      refine (HLB.out _).mono ?_
      rintro e w5 ⟨rfl, hw5⟩
      rw [hw5]; clear hw5 w5
      go_wp2_with fail
      rw [HT1.out]
      refine (HD.out _).mono ?_
      rintro e w6 ⟨rfl, hw6⟩
      rw [hw6]; clear hw6 w6
      by_cases h0 : n = 0
      · have q : ((n : Int) == 0) = true := by rw [beq_iff_eq]; omega
        have HE := Hid.mk' (HNO.out h0)
        clear HNO HY h0
        go_wp2_with (go_at_call 29; refine (HNaN.out _).mono ?_; rintro e w7 ⟨rfl, hw7⟩; rw [hw7]; clear hw7 w7)
        go_ret
        exact ⟨by rw [HE.out]; rfl, b04⟩
      · have q : ((n : Int) == 0) = false := by rw [beq_eq_false_iff_ne]; omega
        have hnle : (n : Int) ≤ T1.size := by omega
        have HE := Hid.mk' (HY.out (by omega))
        clear HNO HY h0
        go_wp2_with fail
        refine HN4.out.mono ?_
        rintro e w7 ⟨rfl, b7⟩
        have b07 : Below w.heap.size w w7 := b04.trans (b7.mono b04.size)
        clear b04 b7
        go_wp2
        go_ret
        exact ⟨by rw [HE.out]; rfl, b07⟩
set_option maxHeartbeats 4000000 in
set_option maxRecDepth 100000 in
theorem rwhole_n3 (s : ByteArray) (base : Int) (w : World) (hs : (s.size : Int) ≤ 10000) (hl : Hid (LaidN w)) (hlb : Hid (LaidB w)) (r : Int) (hr : IntKind.i32.wrap base = r) (A u : ByteArray) (hA : Sb (nb ((uns (bhd s)).map ascN)) = A) (hu : unsT A = u) (hsg : 0 < A.size ∧ by' A 0 ≠ 43 ∧ by' A 0 ≠ 45)
    (hr0 : r = 0) (hp : prefN u ≠ 16) :
    Calls Tryz.prog 9 #[.string s, .int .i64 base] w fun e w' => e = .returned (.float .f64 (wRes r A)) ∧ Below w.heap.size w w' := by
  have hAs : (A.size : Int) ≤ 10000 := by rw [← hA, asc_size]; have := bhd_size s; omega
  have hlen := uns_length s
  have hfl := frontN_le (uns s)
  have hbt := PlainAid.get_bt A
  have hz0 := bt_by A 0
  have HAsc := Hid.mk' (fun W => asc3_any (bhd s) W (by have := bhd_size s; omega))
  rw [hA] at HAsc
  have hsg0 : sgnN A = false := by unfold sgnN; exact decide_eq_false (by omega)
  have hUA : u = A := by rw [← hu]; unfold unsT; rw [hsg0]; exact if_neg (by simp)
  have hMA : minusN A = false := by unfold minusN; rw [hsg0]; rfl
  have hne : A.toList.isEmpty = false := ne_empty (by omega)
  have hA0 : (0 : Int) < A.size := by omega
  obtain ⟨z, hz⟩ : ∃ z : Int, PlainAid.bt A 0 = z := ⟨_, rfl⟩
  have q43 : (z == 43) = false := by rw [beq_eq_false_iff_ne]; omega
  have q45 : (z == 45) = false := by rw [beq_eq_false_iff_ne]; omega
  have hus : (u.size : Int) ≤ 20000 := by rw [hUA]; omega
  have HLB := Hid.mk' (fun W => prefixed_any u W (by omega))
  obtain ⟨pp, hpp⟩ : ∃ pp, prefN u = pp := ⟨_, rfl⟩
  rw [hpp] at HLB
  have hp16 : ((pp : Int) == 16) = false := by rw [beq_eq_false_iff_ne]; omega
  have hWR : wR r u = ((10 : Nat) : Int) := by unfold wR; rw [if_neg (fun q => hp q.2), if_pos (by omega)]; rfl
  have hWT : wT r u = u := by unfold wT; rw [if_neg (fun q => hp q.2)]
  have hTs1 := hus
  obtain ⟨n, hn⟩ : ∃ n, runN u 0 ((10 : Nat) : Int) = n := ⟨_, rfl⟩
  have hnl := runN_le u 0 ((10 : Nat) : Int)
  rw [hn] at hnl
  have HD := Hid.mk' (fun W => run_any u 0 ((10 : Nat) : Int) W (by omega) (Nat.zero_le _))
  rw [hn] at HD
  have HN := Hid.mk' (fun W h1 h2 => rnear_run u 10 n W hTs1 hn ⟨by omega, by omega⟩ h1 h2)
  have HY := Hid.mk' (fun h0 => res_yes r A u u 10 n hu hWR hWT hn h0 ⟨by omega, by omega⟩)
  have HNO := Hid.mk' (fun h0 => res_no r A u u 10 n hu hWR hWT hn h0)
  rw [hMA] at HY
  obtain ⟨V, hV⟩ : ∃ V, NF (numN (u.extract 0 n) 10 n) = V := ⟨_, rfl⟩
  have hVl : V ≤ 9218868437227405312 := by rw [← hV]; exact NF_lt _
  rw [hV] at HN HY
  obtain ⟨Z, hZ⟩ : ∃ Z, sg false V = Z := ⟨_, rfl⟩
  rw [hZ] at HY
  have hmul : ∀ W, (binOp .mul 22 (.float .f64 4607182418800017408) (.float .f64 V)).run Tryz.prog W = .ok (.float .f64 Z) W := fun W => run_mul 22 4607182418800017408 V Z W (by rw [← hZ]; exact mul_sg false V hVl)
  obtain ⟨Res, hRes⟩ : ∃ Res, wRes r A = Res := ⟨_, rfl⟩
  rw [hRes] at HNO ⊢
  rw [hRes] at HY
  subst hr0
  subst hUA
  have HNaN := Hid.mk' (fun W => nan_any W)
  clear hA hu hRes hMA hsg0 hz0 hsg
  clear hn hWR hWT hV hZ
  go_enter Tryz.func9, Tryz.ntmps9
  go_wp2_with fail
  refine (runits_any s _ (by omega)).mono ?_
  rintro e w1 ⟨v1, rfl, o1, b1⟩
  have HR := Hid.mk' (Rd.own o1)
  have HF := Hid.mk' (rfront_any (uns s) (uns_lt s) (by rw [hlen]; omega) v1 w1 HR.out)
  obtain ⟨x1, c1, rfl, hx⟩ := own_slice' o1
  have hcap : s.size / 2 ≤ c1 := by
    rcases o1.2 with ⟨e, h⟩ | ⟨g, cap, cur, e, _, _, h, _⟩
    · omega
    · simp at e; omega
  have hcm : (c1 : Int) ≤ 9223372036854775807 := by
    rcases o1.2 with ⟨e, _⟩ | ⟨g, cap, cur, e, _, _, _, h, _⟩
    · simp at e; omega
    · simp at e; unfold maxLen at h; omega
  obtain ⟨f, hf⟩ : ∃ f, frontN (uns s) = f := ⟨_, rfl⟩
  rw [hf] at HF hfl
  rw [hlen] at hfl
  have f1 : (0 : Int) ≤ (f : Int) := by omega
  have f2 : (f : Int) ≤ ((s.size / 2 : Nat) : Int) := by omega
  have f3 : ((s.size / 2 : Nat) : Int) ≤ (c1 : Int) := by omega
  have HX := Hid.mk' hx
  have HFE := Hid.mk' hf
  clear hx hf
  obtain ⟨n9, hn9⟩ : ∃ n9, s.size / 2 = n9 := ⟨_, rfl⟩
  rw [hn9] at HF hfl f2 f3 hcap hlen HX o1 HR ⊢
  have hnl9 : (n9 : Int) ≤ 10000 := by omega
  go_wp2_with fail
  refine HF.out.mono ?_
  rintro e w2 ⟨rfl, b2⟩
  have b12 : Below w.heap.size w w2 := b1.trans (b2.mono b1.size)
  obtain ⟨d, hd⟩ : ∃ d, (uns s).drop f = d := ⟨_, rfl⟩
  have hdl : d.length = n9 - f := by rw [← hd, List.length_drop, hlen]
  have HU9 : Hid (∀ q ∈ d, q < 65536) := fun q hq => uns_lt s q (by rw [← hd] at hq; exact List.mem_of_mem_drop hq)
  have HMk : Hid (∀ v W, Rd W v d → Calls Tryz.prog 35 #[v] W fun e w' => e = .returned (.string (bhd s)) ∧ Below W.heap.size W w') := fun v W hv => by
    have := rmake_any d HU9.out (by omega) v W hv
    have e : (⟨(mkB d).toArray⟩ : ByteArray) = bhd s := by unfold bhd; rw [HFE.out, hd]
    rw [e] at this
    exact this
  have HR2 := Hid.mk' (HR.out.below b2)
  have HB12 := Hid.mk' b12
  obtain ⟨bh, hbh⟩ : ∃ bh, bhd s = bh := ⟨_, rfl⟩
  rw [hbh] at HMk HAsc
  rcases HX.out with ⟨hx1, hx2, hx3⟩ | ⟨g, hx1, hg⟩
  · have hf0 : f = 0 := by omega
    have HRd : Hid (Rd w2 (.slice none 0 0) d) := .inl ⟨0, by rw [hdl]; simp; omega, List.eq_nil_of_length_eq_zero (by omega)⟩
    have HK := Hid.mk' (HMk.out _ w2 HRd.out)
    clear HX HR HR2 HF hd o1 hn9 HFE HMk HRd HU9 b1 b2 b12 hbh
    subst hx1 hx2 hx3 hf0
    go_wp2_with fail
    refine HK.out.mono ?_
    rintro e w3 ⟨rfl, b3⟩
    have b03 : Below w.heap.size w w3 := HB12.out.trans (b3.mono HB12.out.size)
    clear b3 HB12 HK
    go_wp2_with fail
    refine (HAsc.out _).mono ?_
    rintro e w4 ⟨rfl, b4⟩
    have b04 : Below w.heap.size w w4 := b03.trans (b4.mono b03.size)
    clear b03 b4
    have hl4 : LaidN w4 := hl.out.below b04
    have hb4 : LaidB w4 := hlb.out.below b04
    have HN4 := Hid.mk' (HN.out w4 hl4 hb4)
    clear hl4 hb4 HN
    go_wp2_with fail
    refine (HLB.out _).mono ?_
    rintro e w5 ⟨rfl, hw5⟩
    rw [hw5]; clear hw5 w5
    go_wp2_with fail
    refine (HD.out _).mono ?_
    rintro e w6 ⟨rfl, hw6⟩
    rw [hw6]; clear hw6 w6
    by_cases h0 : n = 0
    · have q : ((n : Int) == 0) = true := by rw [beq_iff_eq]; omega
      have HE := Hid.mk' (HNO.out h0)
      clear HNO HY h0
      go_wp2_with (go_at_call 29; refine (HNaN.out _).mono ?_; rintro e w7 ⟨rfl, hw7⟩; rw [hw7]; clear hw7 w7)
      go_ret
      exact ⟨by rw [HE.out]; rfl, b04⟩
    · have q : ((n : Int) == 0) = false := by rw [beq_eq_false_iff_ne]; omega
      have hnle : (n : Int) ≤ u.size := by omega
      have HE := Hid.mk' (HY.out (by omega))
      clear HNO HY h0
      go_wp2_with fail
      refine HN4.out.mono ?_
      rintro e w7 ⟨rfl, b7⟩
      have b07 : Below w.heap.size w w7 := b04.trans (b7.mono b04.size)
      clear b04 b7
      go_wp2
      go_ret
      exact ⟨by rw [HE.out]; rfl, b07⟩
  · have hcc : ∀ (j : Nat) (h : j < n9), w2.cell? ⟨g, j, none⟩ = some (.int .u16 ((uns s)[j]'(by omega) : Nat)) := by
      rcases HR2.out with ⟨c', e1, e2⟩ | ⟨g', o, c', e1, hg', hc⟩
      · intro j h
        have : (uns s).length = 0 := by rw [e2]; rfl
        omega
      · intro j h
        have e3 : g' = g ∧ o = 0 := by
          rw [hx1] at e1
          simp at e1
          omega
        have := hc j (by omega)
        rw [e3.1, e3.2, Nat.zero_add] at this
        exact this
    have hgl : g < w2.heap.size := by
      have h2 := (o1.lt g (by rw [hx1]; rfl)).2
      exact Nat.lt_of_lt_of_le h2 b2.size
    have HD2 : Hid (∀ k o, n9 - f = 0 → Rd w2 (.slice (some ⟨g, o, none⟩) (n9 - f) k) d) := fun k o h0 => .inr ⟨g, o, k, by rw [hdl], hgl, fun j hj => by omega⟩
    have HD3 : Hid (Rd w2 (.slice (some ⟨g, f, none⟩) (n9 - f) (c1 - f)) d) := .inr ⟨g, f, c1 - f, by rw [hdl], hgl, fun j hj => by
      rw [hcc (f + j) (by omega)]
      simp [← hd]⟩
    clear HX HR HR2 HF hd hn9 HFE hcc o1 HU9 b1 b2 b12 hbh
    subst hx1
    go_wp2_with fail
    · have HK := Hid.mk' (HMk.out _ w2 (HD2.out 0 0 (by omega)))
      clear HD2 HD3 HMk
      refine HK.out.mono ?_
      rintro e w3 ⟨rfl, b3⟩
      have b03 : Below w.heap.size w w3 := HB12.out.trans (b3.mono HB12.out.size)
      clear b3 HB12 HK
      go_wp2_with fail
      refine (HAsc.out _).mono ?_
      rintro e w4 ⟨rfl, b4⟩
      have b04 : Below w.heap.size w w4 := b03.trans (b4.mono b03.size)
      clear b03 b4
      have hl4 : LaidN w4 := hl.out.below b04
      have hb4 : LaidB w4 := hlb.out.below b04
      have HN4 := Hid.mk' (HN.out w4 hl4 hb4)
      clear hl4 hb4 HN
      go_wp2_with fail
      refine (HLB.out _).mono ?_
      rintro e w5 ⟨rfl, hw5⟩
      rw [hw5]; clear hw5 w5
      go_wp2_with fail
      refine (HD.out _).mono ?_
      rintro e w6 ⟨rfl, hw6⟩
      rw [hw6]; clear hw6 w6
      by_cases h0 : n = 0
      · have q : ((n : Int) == 0) = true := by rw [beq_iff_eq]; omega
        have HE := Hid.mk' (HNO.out h0)
        clear HNO HY h0
        go_wp2_with (go_at_call 29; refine (HNaN.out _).mono ?_; rintro e w7 ⟨rfl, hw7⟩; rw [hw7]; clear hw7 w7)
        go_ret
        exact ⟨by rw [HE.out]; rfl, b04⟩
      · have q : ((n : Int) == 0) = false := by rw [beq_eq_false_iff_ne]; omega
        have hnle : (n : Int) ≤ u.size := by omega
        have HE := Hid.mk' (HY.out (by omega))
        clear HNO HY h0
        go_wp2_with fail
        refine HN4.out.mono ?_
        rintro e w7 ⟨rfl, b7⟩
        have b07 : Below w.heap.size w w7 := b04.trans (b7.mono b04.size)
        clear b04 b7
        go_wp2
        go_ret
        exact ⟨by rw [HE.out]; rfl, b07⟩
    · have HK := Hid.mk' (HMk.out _ w2 HD3.out)
      clear HD2 HD3 HMk
      refine HK.out.mono ?_
      rintro e w3 ⟨rfl, b3⟩
      have b03 : Below w.heap.size w w3 := HB12.out.trans (b3.mono HB12.out.size)
      clear b3 HB12 HK
      go_wp2_with fail
      refine (HAsc.out _).mono ?_
      rintro e w4 ⟨rfl, b4⟩
      have b04 : Below w.heap.size w w4 := b03.trans (b4.mono b03.size)
      clear b03 b4
      have hl4 : LaidN w4 := hl.out.below b04
      have hb4 : LaidB w4 := hlb.out.below b04
      have HN4 := Hid.mk' (HN.out w4 hl4 hb4)
      clear hl4 hb4 HN
      go_wp2_with fail
      refine (HLB.out _).mono ?_
      rintro e w5 ⟨rfl, hw5⟩
      rw [hw5]; clear hw5 w5
      go_wp2_with fail
      refine (HD.out _).mono ?_
      rintro e w6 ⟨rfl, hw6⟩
      rw [hw6]; clear hw6 w6
      by_cases h0 : n = 0
      · have q : ((n : Int) == 0) = true := by rw [beq_iff_eq]; omega
        have HE := Hid.mk' (HNO.out h0)
        clear HNO HY h0
        go_wp2_with (go_at_call 29; refine (HNaN.out _).mono ?_; rintro e w7 ⟨rfl, hw7⟩; rw [hw7]; clear hw7 w7)
        go_ret
        exact ⟨by rw [HE.out]; rfl, b04⟩
      · have q : ((n : Int) == 0) = false := by rw [beq_eq_false_iff_ne]; omega
        have hnle : (n : Int) ≤ u.size := by omega
        have HE := Hid.mk' (HY.out (by omega))
        clear HNO HY h0
        go_wp2_with fail
        refine HN4.out.mono ?_
        rintro e w7 ⟨rfl, b7⟩
        have b07 : Below w.heap.size w w7 := b04.trans (b7.mono b04.size)
        clear b04 b7
        go_wp2
        go_ret
        exact ⟨by rw [HE.out]; rfl, b07⟩
set_option maxHeartbeats 4000000 in
set_option maxRecDepth 100000 in
theorem rwhole_n4 (s : ByteArray) (base : Int) (w : World) (hs : (s.size : Int) ≤ 10000) (hl : Hid (LaidN w)) (hlb : Hid (LaidB w)) (r : Int) (hr : IntKind.i32.wrap base = r) (A u : ByteArray) (hA : Sb (nb ((uns (bhd s)).map ascN)) = A) (hu : unsT A = u) (hsg : 0 < A.size ∧ by' A 0 ≠ 43 ∧ by' A 0 ≠ 45)
    (hr0 : r = 16) (hp : prefN u ≠ 16) :
    Calls Tryz.prog 9 #[.string s, .int .i64 base] w fun e w' => e = .returned (.float .f64 (wRes r A)) ∧ Below w.heap.size w w' := by
  have hAs : (A.size : Int) ≤ 10000 := by rw [← hA, asc_size]; have := bhd_size s; omega
  have hlen := uns_length s
  have hfl := frontN_le (uns s)
  have hbt := PlainAid.get_bt A
  have hz0 := bt_by A 0
  have HAsc := Hid.mk' (fun W => asc3_any (bhd s) W (by have := bhd_size s; omega))
  rw [hA] at HAsc
  have hsg0 : sgnN A = false := by unfold sgnN; exact decide_eq_false (by omega)
  have hUA : u = A := by rw [← hu]; unfold unsT; rw [hsg0]; exact if_neg (by simp)
  have hMA : minusN A = false := by unfold minusN; rw [hsg0]; rfl
  have hne : A.toList.isEmpty = false := ne_empty (by omega)
  have hA0 : (0 : Int) < A.size := by omega
  obtain ⟨z, hz⟩ : ∃ z : Int, PlainAid.bt A 0 = z := ⟨_, rfl⟩
  have q43 : (z == 43) = false := by rw [beq_eq_false_iff_ne]; omega
  have q45 : (z == 45) = false := by rw [beq_eq_false_iff_ne]; omega
  have hus : (u.size : Int) ≤ 20000 := by rw [hUA]; omega
  have HLB := Hid.mk' (fun W => prefixed_any u W (by omega))
  obtain ⟨pp, hpp⟩ : ∃ pp, prefN u = pp := ⟨_, rfl⟩
  rw [hpp] at HLB
  have hp16 : ((pp : Int) == 16) = false := by rw [beq_eq_false_iff_ne]; omega
  have hWR : wR r u = ((16 : Nat) : Int) := by unfold wR; rw [if_neg (fun q => hp q.2), if_neg (by omega)]; exact hr0
  have hWT : wT r u = u := by unfold wT; rw [if_neg (fun q => hp q.2)]
  have hTs1 := hus
  obtain ⟨n, hn⟩ : ∃ n, runN u 0 ((16 : Nat) : Int) = n := ⟨_, rfl⟩
  have hnl := runN_le u 0 ((16 : Nat) : Int)
  rw [hn] at hnl
  have HD := Hid.mk' (fun W => run_any u 0 ((16 : Nat) : Int) W (by omega) (Nat.zero_le _))
  rw [hn] at HD
  have HN := Hid.mk' (fun W h1 h2 => rnear_run u 16 n W hTs1 hn ⟨by omega, by omega⟩ h1 h2)
  have HY := Hid.mk' (fun h0 => res_yes r A u u 16 n hu hWR hWT hn h0 ⟨by omega, by omega⟩)
  have HNO := Hid.mk' (fun h0 => res_no r A u u 16 n hu hWR hWT hn h0)
  rw [hMA] at HY
  obtain ⟨V, hV⟩ : ∃ V, NF (numN (u.extract 0 n) 16 n) = V := ⟨_, rfl⟩
  have hVl : V ≤ 9218868437227405312 := by rw [← hV]; exact NF_lt _
  rw [hV] at HN HY
  obtain ⟨Z, hZ⟩ : ∃ Z, sg false V = Z := ⟨_, rfl⟩
  rw [hZ] at HY
  have hmul : ∀ W, (binOp .mul 22 (.float .f64 4607182418800017408) (.float .f64 V)).run Tryz.prog W = .ok (.float .f64 Z) W := fun W => run_mul 22 4607182418800017408 V Z W (by rw [← hZ]; exact mul_sg false V hVl)
  obtain ⟨Res, hRes⟩ : ∃ Res, wRes r A = Res := ⟨_, rfl⟩
  rw [hRes] at HNO ⊢
  rw [hRes] at HY
  subst hr0
  subst hUA
  have HNaN := Hid.mk' (fun W => nan_any W)
  clear hA hu hRes hMA hsg0 hz0 hsg
  clear hn hWR hWT hV hZ
  go_enter Tryz.func9, Tryz.ntmps9
  go_wp2_with fail
  refine (runits_any s _ (by omega)).mono ?_
  rintro e w1 ⟨v1, rfl, o1, b1⟩
  have HR := Hid.mk' (Rd.own o1)
  have HF := Hid.mk' (rfront_any (uns s) (uns_lt s) (by rw [hlen]; omega) v1 w1 HR.out)
  obtain ⟨x1, c1, rfl, hx⟩ := own_slice' o1
  have hcap : s.size / 2 ≤ c1 := by
    rcases o1.2 with ⟨e, h⟩ | ⟨g, cap, cur, e, _, _, h, _⟩
    · omega
    · simp at e; omega
  have hcm : (c1 : Int) ≤ 9223372036854775807 := by
    rcases o1.2 with ⟨e, _⟩ | ⟨g, cap, cur, e, _, _, _, h, _⟩
    · simp at e; omega
    · simp at e; unfold maxLen at h; omega
  obtain ⟨f, hf⟩ : ∃ f, frontN (uns s) = f := ⟨_, rfl⟩
  rw [hf] at HF hfl
  rw [hlen] at hfl
  have f1 : (0 : Int) ≤ (f : Int) := by omega
  have f2 : (f : Int) ≤ ((s.size / 2 : Nat) : Int) := by omega
  have f3 : ((s.size / 2 : Nat) : Int) ≤ (c1 : Int) := by omega
  have HX := Hid.mk' hx
  have HFE := Hid.mk' hf
  clear hx hf
  obtain ⟨n9, hn9⟩ : ∃ n9, s.size / 2 = n9 := ⟨_, rfl⟩
  rw [hn9] at HF hfl f2 f3 hcap hlen HX o1 HR ⊢
  have hnl9 : (n9 : Int) ≤ 10000 := by omega
  go_wp2_with fail
  refine HF.out.mono ?_
  rintro e w2 ⟨rfl, b2⟩
  have b12 : Below w.heap.size w w2 := b1.trans (b2.mono b1.size)
  obtain ⟨d, hd⟩ : ∃ d, (uns s).drop f = d := ⟨_, rfl⟩
  have hdl : d.length = n9 - f := by rw [← hd, List.length_drop, hlen]
  have HU9 : Hid (∀ q ∈ d, q < 65536) := fun q hq => uns_lt s q (by rw [← hd] at hq; exact List.mem_of_mem_drop hq)
  have HMk : Hid (∀ v W, Rd W v d → Calls Tryz.prog 35 #[v] W fun e w' => e = .returned (.string (bhd s)) ∧ Below W.heap.size W w') := fun v W hv => by
    have := rmake_any d HU9.out (by omega) v W hv
    have e : (⟨(mkB d).toArray⟩ : ByteArray) = bhd s := by unfold bhd; rw [HFE.out, hd]
    rw [e] at this
    exact this
  have HR2 := Hid.mk' (HR.out.below b2)
  have HB12 := Hid.mk' b12
  obtain ⟨bh, hbh⟩ : ∃ bh, bhd s = bh := ⟨_, rfl⟩
  rw [hbh] at HMk HAsc
  rcases HX.out with ⟨hx1, hx2, hx3⟩ | ⟨g, hx1, hg⟩
  · have hf0 : f = 0 := by omega
    have HRd : Hid (Rd w2 (.slice none 0 0) d) := .inl ⟨0, by rw [hdl]; simp; omega, List.eq_nil_of_length_eq_zero (by omega)⟩
    have HK := Hid.mk' (HMk.out _ w2 HRd.out)
    clear HX HR HR2 HF hd o1 hn9 HFE HMk HRd HU9 b1 b2 b12 hbh
    subst hx1 hx2 hx3 hf0
    go_wp2_with fail
    refine HK.out.mono ?_
    rintro e w3 ⟨rfl, b3⟩
    have b03 : Below w.heap.size w w3 := HB12.out.trans (b3.mono HB12.out.size)
    clear b3 HB12 HK
    go_wp2_with fail
    refine (HAsc.out _).mono ?_
    rintro e w4 ⟨rfl, b4⟩
    have b04 : Below w.heap.size w w4 := b03.trans (b4.mono b03.size)
    clear b03 b4
    have hl4 : LaidN w4 := hl.out.below b04
    have hb4 : LaidB w4 := hlb.out.below b04
    have HN4 := Hid.mk' (HN.out w4 hl4 hb4)
    clear hl4 hb4 HN
    go_wp2_with fail
    refine (HLB.out _).mono ?_
    rintro e w5 ⟨rfl, hw5⟩
    rw [hw5]; clear hw5 w5
    go_wp2_with fail
    refine (HD.out _).mono ?_
    rintro e w6 ⟨rfl, hw6⟩
    rw [hw6]; clear hw6 w6
    by_cases h0 : n = 0
    · have q : ((n : Int) == 0) = true := by rw [beq_iff_eq]; omega
      have HE := Hid.mk' (HNO.out h0)
      clear HNO HY h0
      go_wp2_with (go_at_call 29; refine (HNaN.out _).mono ?_; rintro e w7 ⟨rfl, hw7⟩; rw [hw7]; clear hw7 w7)
      go_ret
      exact ⟨by rw [HE.out]; rfl, b04⟩
    · have q : ((n : Int) == 0) = false := by rw [beq_eq_false_iff_ne]; omega
      have hnle : (n : Int) ≤ u.size := by omega
      have HE := Hid.mk' (HY.out (by omega))
      clear HNO HY h0
      go_wp2_with fail
      refine HN4.out.mono ?_
      rintro e w7 ⟨rfl, b7⟩
      have b07 : Below w.heap.size w w7 := b04.trans (b7.mono b04.size)
      clear b04 b7
      go_wp2
      go_ret
      exact ⟨by rw [HE.out]; rfl, b07⟩
  · have hcc : ∀ (j : Nat) (h : j < n9), w2.cell? ⟨g, j, none⟩ = some (.int .u16 ((uns s)[j]'(by omega) : Nat)) := by
      rcases HR2.out with ⟨c', e1, e2⟩ | ⟨g', o, c', e1, hg', hc⟩
      · intro j h
        have : (uns s).length = 0 := by rw [e2]; rfl
        omega
      · intro j h
        have e3 : g' = g ∧ o = 0 := by
          rw [hx1] at e1
          simp at e1
          omega
        have := hc j (by omega)
        rw [e3.1, e3.2, Nat.zero_add] at this
        exact this
    have hgl : g < w2.heap.size := by
      have h2 := (o1.lt g (by rw [hx1]; rfl)).2
      exact Nat.lt_of_lt_of_le h2 b2.size
    have HD2 : Hid (∀ k o, n9 - f = 0 → Rd w2 (.slice (some ⟨g, o, none⟩) (n9 - f) k) d) := fun k o h0 => .inr ⟨g, o, k, by rw [hdl], hgl, fun j hj => by omega⟩
    have HD3 : Hid (Rd w2 (.slice (some ⟨g, f, none⟩) (n9 - f) (c1 - f)) d) := .inr ⟨g, f, c1 - f, by rw [hdl], hgl, fun j hj => by
      rw [hcc (f + j) (by omega)]
      simp [← hd]⟩
    clear HX HR HR2 HF hd hn9 HFE hcc o1 HU9 b1 b2 b12 hbh
    subst hx1
    go_wp2_with fail
    · have HK := Hid.mk' (HMk.out _ w2 (HD2.out 0 0 (by omega)))
      clear HD2 HD3 HMk
      refine HK.out.mono ?_
      rintro e w3 ⟨rfl, b3⟩
      have b03 : Below w.heap.size w w3 := HB12.out.trans (b3.mono HB12.out.size)
      clear b3 HB12 HK
      go_wp2_with fail
      refine (HAsc.out _).mono ?_
      rintro e w4 ⟨rfl, b4⟩
      have b04 : Below w.heap.size w w4 := b03.trans (b4.mono b03.size)
      clear b03 b4
      have hl4 : LaidN w4 := hl.out.below b04
      have hb4 : LaidB w4 := hlb.out.below b04
      have HN4 := Hid.mk' (HN.out w4 hl4 hb4)
      clear hl4 hb4 HN
      go_wp2_with fail
      refine (HLB.out _).mono ?_
      rintro e w5 ⟨rfl, hw5⟩
      rw [hw5]; clear hw5 w5
      go_wp2_with fail
      refine (HD.out _).mono ?_
      rintro e w6 ⟨rfl, hw6⟩
      rw [hw6]; clear hw6 w6
      by_cases h0 : n = 0
      · have q : ((n : Int) == 0) = true := by rw [beq_iff_eq]; omega
        have HE := Hid.mk' (HNO.out h0)
        clear HNO HY h0
        go_wp2_with (go_at_call 29; refine (HNaN.out _).mono ?_; rintro e w7 ⟨rfl, hw7⟩; rw [hw7]; clear hw7 w7)
        go_ret
        exact ⟨by rw [HE.out]; rfl, b04⟩
      · have q : ((n : Int) == 0) = false := by rw [beq_eq_false_iff_ne]; omega
        have hnle : (n : Int) ≤ u.size := by omega
        have HE := Hid.mk' (HY.out (by omega))
        clear HNO HY h0
        go_wp2_with fail
        refine HN4.out.mono ?_
        rintro e w7 ⟨rfl, b7⟩
        have b07 : Below w.heap.size w w7 := b04.trans (b7.mono b04.size)
        clear b04 b7
        go_wp2
        go_ret
        exact ⟨by rw [HE.out]; rfl, b07⟩
    · have HK := Hid.mk' (HMk.out _ w2 HD3.out)
      clear HD2 HD3 HMk
      refine HK.out.mono ?_
      rintro e w3 ⟨rfl, b3⟩
      have b03 : Below w.heap.size w w3 := HB12.out.trans (b3.mono HB12.out.size)
      clear b3 HB12 HK
      go_wp2_with fail
      refine (HAsc.out _).mono ?_
      rintro e w4 ⟨rfl, b4⟩
      have b04 : Below w.heap.size w w4 := b03.trans (b4.mono b03.size)
      clear b03 b4
      have hl4 : LaidN w4 := hl.out.below b04
      have hb4 : LaidB w4 := hlb.out.below b04
      have HN4 := Hid.mk' (HN.out w4 hl4 hb4)
      clear hl4 hb4 HN
      go_wp2_with fail
      refine (HLB.out _).mono ?_
      rintro e w5 ⟨rfl, hw5⟩
      rw [hw5]; clear hw5 w5
      go_wp2_with fail
      refine (HD.out _).mono ?_
      rintro e w6 ⟨rfl, hw6⟩
      rw [hw6]; clear hw6 w6
      by_cases h0 : n = 0
      · have q : ((n : Int) == 0) = true := by rw [beq_iff_eq]; omega
        have HE := Hid.mk' (HNO.out h0)
        clear HNO HY h0
        go_wp2_with (go_at_call 29; refine (HNaN.out _).mono ?_; rintro e w7 ⟨rfl, hw7⟩; rw [hw7]; clear hw7 w7)
        go_ret
        exact ⟨by rw [HE.out]; rfl, b04⟩
      · have q : ((n : Int) == 0) = false := by rw [beq_eq_false_iff_ne]; omega
        have hnle : (n : Int) ≤ u.size := by omega
        have HE := Hid.mk' (HY.out (by omega))
        clear HNO HY h0
        go_wp2_with fail
        refine HN4.out.mono ?_
        rintro e w7 ⟨rfl, b7⟩
        have b07 : Below w.heap.size w w7 := b04.trans (b7.mono b04.size)
        clear b04 b7
        go_wp2
        go_ret
        exact ⟨by rw [HE.out]; rfl, b07⟩
set_option maxHeartbeats 4000000 in
set_option maxRecDepth 100000 in
theorem rwhole_n5 (s : ByteArray) (base : Int) (w : World) (hs : (s.size : Int) ≤ 10000) (hl : Hid (LaidN w)) (hlb : Hid (LaidB w)) (r : Int) (hr : IntKind.i32.wrap base = r) (A u : ByteArray) (hA : Sb (nb ((uns (bhd s)).map ascN)) = A) (hu : unsT A = u) (hsg : 0 < A.size ∧ by' A 0 ≠ 43 ∧ by' A 0 ≠ 45)
    (R : Nat) (hR : r = (R : Nat)) (hR2 : 2 ≤ R ∧ R ≤ 36) (hR3 : R ≠ 16) :
    Calls Tryz.prog 9 #[.string s, .int .i64 base] w fun e w' => e = .returned (.float .f64 (wRes r A)) ∧ Below w.heap.size w w' := by
  have hAs : (A.size : Int) ≤ 10000 := by rw [← hA, asc_size]; have := bhd_size s; omega
  have hlen := uns_length s
  have hfl := frontN_le (uns s)
  have hbt := PlainAid.get_bt A
  have hz0 := bt_by A 0
  have HAsc := Hid.mk' (fun W => asc3_any (bhd s) W (by have := bhd_size s; omega))
  rw [hA] at HAsc
  have hsg0 : sgnN A = false := by unfold sgnN; exact decide_eq_false (by omega)
  have hUA : u = A := by rw [← hu]; unfold unsT; rw [hsg0]; exact if_neg (by simp)
  have hMA : minusN A = false := by unfold minusN; rw [hsg0]; rfl
  have hne : A.toList.isEmpty = false := ne_empty (by omega)
  have hA0 : (0 : Int) < A.size := by omega
  obtain ⟨z, hz⟩ : ∃ z : Int, PlainAid.bt A 0 = z := ⟨_, rfl⟩
  have q43 : (z == 43) = false := by rw [beq_eq_false_iff_ne]; omega
  have q45 : (z == 45) = false := by rw [beq_eq_false_iff_ne]; omega
  have hus : (u.size : Int) ≤ 20000 := by rw [hUA]; omega
  have hWR : wR r u = ((R : Nat) : Int) := by unfold wR; rw [if_neg (fun q => by omega), if_neg (by omega)]; exact hR
  have hWT : wT r u = u := by unfold wT; rw [if_neg (fun q => by omega)]
  have hTs1 := hus
  obtain ⟨n, hn⟩ : ∃ n, runN u 0 ((R : Nat) : Int) = n := ⟨_, rfl⟩
  have hnl := runN_le u 0 ((R : Nat) : Int)
  rw [hn] at hnl
  have HD := Hid.mk' (fun W => run_any u 0 ((R : Nat) : Int) W (by omega) (Nat.zero_le _))
  rw [hn] at HD
  have HN := Hid.mk' (fun W h1 h2 => rnear_run u R n W hTs1 hn hR2 h1 h2)
  have HY := Hid.mk' (fun h0 => res_yes r A u u R n hu hWR hWT hn h0 hR2)
  have HNO := Hid.mk' (fun h0 => res_no r A u u R n hu hWR hWT hn h0)
  rw [hMA] at HY
  obtain ⟨V, hV⟩ : ∃ V, NF (numN (u.extract 0 n) R n) = V := ⟨_, rfl⟩
  have hVl : V ≤ 9218868437227405312 := by rw [← hV]; exact NF_lt _
  rw [hV] at HN HY
  obtain ⟨Z, hZ⟩ : ∃ Z, sg false V = Z := ⟨_, rfl⟩
  rw [hZ] at HY
  have hmul : ∀ W, (binOp .mul 22 (.float .f64 4607182418800017408) (.float .f64 V)).run Tryz.prog W = .ok (.float .f64 Z) W := fun W => run_mul 22 4607182418800017408 V Z W (by rw [← hZ]; exact mul_sg false V hVl)
  obtain ⟨Res, hRes⟩ : ∃ Res, wRes r A = Res := ⟨_, rfl⟩
  rw [hRes] at HNO ⊢
  rw [hRes] at HY
  subst hR
  have q0 : ((R : Int) == 0) = false := by rw [beq_eq_false_iff_ne]; omega
  have q16 : ((R : Int) == 16) = false := by rw [beq_eq_false_iff_ne]; omega
  subst hUA
  have HNaN := Hid.mk' (fun W => nan_any W)
  clear hA hu hRes hMA hsg0 hz0 hsg
  clear hn hWR hWT hV hZ
  go_enter Tryz.func9, Tryz.ntmps9
  go_wp2_with fail
  refine (runits_any s _ (by omega)).mono ?_
  rintro e w1 ⟨v1, rfl, o1, b1⟩
  have HR := Hid.mk' (Rd.own o1)
  have HF := Hid.mk' (rfront_any (uns s) (uns_lt s) (by rw [hlen]; omega) v1 w1 HR.out)
  obtain ⟨x1, c1, rfl, hx⟩ := own_slice' o1
  have hcap : s.size / 2 ≤ c1 := by
    rcases o1.2 with ⟨e, h⟩ | ⟨g, cap, cur, e, _, _, h, _⟩
    · omega
    · simp at e; omega
  have hcm : (c1 : Int) ≤ 9223372036854775807 := by
    rcases o1.2 with ⟨e, _⟩ | ⟨g, cap, cur, e, _, _, _, h, _⟩
    · simp at e; omega
    · simp at e; unfold maxLen at h; omega
  obtain ⟨f, hf⟩ : ∃ f, frontN (uns s) = f := ⟨_, rfl⟩
  rw [hf] at HF hfl
  rw [hlen] at hfl
  have f1 : (0 : Int) ≤ (f : Int) := by omega
  have f2 : (f : Int) ≤ ((s.size / 2 : Nat) : Int) := by omega
  have f3 : ((s.size / 2 : Nat) : Int) ≤ (c1 : Int) := by omega
  have HX := Hid.mk' hx
  have HFE := Hid.mk' hf
  clear hx hf
  obtain ⟨n9, hn9⟩ : ∃ n9, s.size / 2 = n9 := ⟨_, rfl⟩
  rw [hn9] at HF hfl f2 f3 hcap hlen HX o1 HR ⊢
  have hnl9 : (n9 : Int) ≤ 10000 := by omega
  go_wp2_with fail
  refine HF.out.mono ?_
  rintro e w2 ⟨rfl, b2⟩
  have b12 : Below w.heap.size w w2 := b1.trans (b2.mono b1.size)
  obtain ⟨d, hd⟩ : ∃ d, (uns s).drop f = d := ⟨_, rfl⟩
  have hdl : d.length = n9 - f := by rw [← hd, List.length_drop, hlen]
  have HU9 : Hid (∀ q ∈ d, q < 65536) := fun q hq => uns_lt s q (by rw [← hd] at hq; exact List.mem_of_mem_drop hq)
  have HMk : Hid (∀ v W, Rd W v d → Calls Tryz.prog 35 #[v] W fun e w' => e = .returned (.string (bhd s)) ∧ Below W.heap.size W w') := fun v W hv => by
    have := rmake_any d HU9.out (by omega) v W hv
    have e : (⟨(mkB d).toArray⟩ : ByteArray) = bhd s := by unfold bhd; rw [HFE.out, hd]
    rw [e] at this
    exact this
  have HR2 := Hid.mk' (HR.out.below b2)
  have HB12 := Hid.mk' b12
  obtain ⟨bh, hbh⟩ : ∃ bh, bhd s = bh := ⟨_, rfl⟩
  rw [hbh] at HMk HAsc
  rcases HX.out with ⟨hx1, hx2, hx3⟩ | ⟨g, hx1, hg⟩
  · have hf0 : f = 0 := by omega
    have HRd : Hid (Rd w2 (.slice none 0 0) d) := .inl ⟨0, by rw [hdl]; simp; omega, List.eq_nil_of_length_eq_zero (by omega)⟩
    have HK := Hid.mk' (HMk.out _ w2 HRd.out)
    clear HX HR HR2 HF hd o1 hn9 HFE HMk HRd HU9 b1 b2 b12 hbh
    subst hx1 hx2 hx3 hf0
    go_wp2_with fail
    refine HK.out.mono ?_
    rintro e w3 ⟨rfl, b3⟩
    have b03 : Below w.heap.size w w3 := HB12.out.trans (b3.mono HB12.out.size)
    clear b3 HB12 HK
    go_wp2_with fail
    refine (HAsc.out _).mono ?_
    rintro e w4 ⟨rfl, b4⟩
    have b04 : Below w.heap.size w w4 := b03.trans (b4.mono b03.size)
    clear b03 b4
    have hl4 : LaidN w4 := hl.out.below b04
    have hb4 : LaidB w4 := hlb.out.below b04
    have HN4 := Hid.mk' (HN.out w4 hl4 hb4)
    clear hl4 hb4 HN
    go_wp2_with fail
    refine (HD.out _).mono ?_
    rintro e w6 ⟨rfl, hw6⟩
    rw [hw6]; clear hw6 w6
    by_cases h0 : n = 0
    · have q : ((n : Int) == 0) = true := by rw [beq_iff_eq]; omega
      have HE := Hid.mk' (HNO.out h0)
      clear HNO HY h0
      go_wp2_with (go_at_call 29; refine (HNaN.out _).mono ?_; rintro e w7 ⟨rfl, hw7⟩; rw [hw7]; clear hw7 w7)
      go_ret
      exact ⟨by rw [HE.out]; rfl, b04⟩
    · have q : ((n : Int) == 0) = false := by rw [beq_eq_false_iff_ne]; omega
      have hnle : (n : Int) ≤ u.size := by omega
      have HE := Hid.mk' (HY.out (by omega))
      clear HNO HY h0
      go_wp2_with fail
      refine HN4.out.mono ?_
      rintro e w7 ⟨rfl, b7⟩
      have b07 : Below w.heap.size w w7 := b04.trans (b7.mono b04.size)
      clear b04 b7
      go_wp2
      go_ret
      exact ⟨by rw [HE.out]; rfl, b07⟩
  · have hcc : ∀ (j : Nat) (h : j < n9), w2.cell? ⟨g, j, none⟩ = some (.int .u16 ((uns s)[j]'(by omega) : Nat)) := by
      rcases HR2.out with ⟨c', e1, e2⟩ | ⟨g', o, c', e1, hg', hc⟩
      · intro j h
        have : (uns s).length = 0 := by rw [e2]; rfl
        omega
      · intro j h
        have e3 : g' = g ∧ o = 0 := by
          rw [hx1] at e1
          simp at e1
          omega
        have := hc j (by omega)
        rw [e3.1, e3.2, Nat.zero_add] at this
        exact this
    have hgl : g < w2.heap.size := by
      have h2 := (o1.lt g (by rw [hx1]; rfl)).2
      exact Nat.lt_of_lt_of_le h2 b2.size
    have HD2 : Hid (∀ k o, n9 - f = 0 → Rd w2 (.slice (some ⟨g, o, none⟩) (n9 - f) k) d) := fun k o h0 => .inr ⟨g, o, k, by rw [hdl], hgl, fun j hj => by omega⟩
    have HD3 : Hid (Rd w2 (.slice (some ⟨g, f, none⟩) (n9 - f) (c1 - f)) d) := .inr ⟨g, f, c1 - f, by rw [hdl], hgl, fun j hj => by
      rw [hcc (f + j) (by omega)]
      simp [← hd]⟩
    clear HX HR HR2 HF hd hn9 HFE hcc o1 HU9 b1 b2 b12 hbh
    subst hx1
    go_wp2_with fail
    · have HK := Hid.mk' (HMk.out _ w2 (HD2.out 0 0 (by omega)))
      clear HD2 HD3 HMk
      refine HK.out.mono ?_
      rintro e w3 ⟨rfl, b3⟩
      have b03 : Below w.heap.size w w3 := HB12.out.trans (b3.mono HB12.out.size)
      clear b3 HB12 HK
      go_wp2_with fail
      refine (HAsc.out _).mono ?_
      rintro e w4 ⟨rfl, b4⟩
      have b04 : Below w.heap.size w w4 := b03.trans (b4.mono b03.size)
      clear b03 b4
      have hl4 : LaidN w4 := hl.out.below b04
      have hb4 : LaidB w4 := hlb.out.below b04
      have HN4 := Hid.mk' (HN.out w4 hl4 hb4)
      clear hl4 hb4 HN
      go_wp2_with fail
      refine (HD.out _).mono ?_
      rintro e w6 ⟨rfl, hw6⟩
      rw [hw6]; clear hw6 w6
      by_cases h0 : n = 0
      · have q : ((n : Int) == 0) = true := by rw [beq_iff_eq]; omega
        have HE := Hid.mk' (HNO.out h0)
        clear HNO HY h0
        go_wp2_with (go_at_call 29; refine (HNaN.out _).mono ?_; rintro e w7 ⟨rfl, hw7⟩; rw [hw7]; clear hw7 w7)
        go_ret
        exact ⟨by rw [HE.out]; rfl, b04⟩
      · have q : ((n : Int) == 0) = false := by rw [beq_eq_false_iff_ne]; omega
        have hnle : (n : Int) ≤ u.size := by omega
        have HE := Hid.mk' (HY.out (by omega))
        clear HNO HY h0
        go_wp2_with fail
        refine HN4.out.mono ?_
        rintro e w7 ⟨rfl, b7⟩
        have b07 : Below w.heap.size w w7 := b04.trans (b7.mono b04.size)
        clear b04 b7
        go_wp2
        go_ret
        exact ⟨by rw [HE.out]; rfl, b07⟩
    · have HK := Hid.mk' (HMk.out _ w2 HD3.out)
      clear HD2 HD3 HMk
      refine HK.out.mono ?_
      rintro e w3 ⟨rfl, b3⟩
      have b03 : Below w.heap.size w w3 := HB12.out.trans (b3.mono HB12.out.size)
      clear b3 HB12 HK
      go_wp2_with fail
      refine (HAsc.out _).mono ?_
      rintro e w4 ⟨rfl, b4⟩
      have b04 : Below w.heap.size w w4 := b03.trans (b4.mono b03.size)
      clear b03 b4
      have hl4 : LaidN w4 := hl.out.below b04
      have hb4 : LaidB w4 := hlb.out.below b04
      have HN4 := Hid.mk' (HN.out w4 hl4 hb4)
      clear hl4 hb4 HN
      go_wp2_with fail
      refine (HD.out _).mono ?_
      rintro e w6 ⟨rfl, hw6⟩
      rw [hw6]; clear hw6 w6
      by_cases h0 : n = 0
      · have q : ((n : Int) == 0) = true := by rw [beq_iff_eq]; omega
        have HE := Hid.mk' (HNO.out h0)
        clear HNO HY h0
        go_wp2_with (go_at_call 29; refine (HNaN.out _).mono ?_; rintro e w7 ⟨rfl, hw7⟩; rw [hw7]; clear hw7 w7)
        go_ret
        exact ⟨by rw [HE.out]; rfl, b04⟩
      · have q : ((n : Int) == 0) = false := by rw [beq_eq_false_iff_ne]; omega
        have hnle : (n : Int) ≤ u.size := by omega
        have HE := Hid.mk' (HY.out (by omega))
        clear HNO HY h0
        go_wp2_with fail
        refine HN4.out.mono ?_
        rintro e w7 ⟨rfl, b7⟩
        have b07 : Below w.heap.size w w7 := b04.trans (b7.mono b04.size)
        clear b04 b7
        go_wp2
        go_ret
        exact ⟨by rw [HE.out]; rfl, b07⟩
set_option maxHeartbeats 4000000 in
set_option maxRecDepth 100000 in
theorem rwhole_n6 (s : ByteArray) (base : Int) (w : World) (hs : (s.size : Int) ≤ 10000) (hl : Hid (LaidN w)) (hlb : Hid (LaidB w)) (r : Int) (hr : IntKind.i32.wrap base = r) (A u : ByteArray) (hA : Sb (nb ((uns (bhd s)).map ascN)) = A) (hu : unsT A = u) (hsg : 0 < A.size ∧ by' A 0 ≠ 43 ∧ by' A 0 ≠ 45)
    (h1 : r ≠ 0) (h2 : r ≠ 16) (h3 : r < 2) :
    Calls Tryz.prog 9 #[.string s, .int .i64 base] w fun e w' => e = .returned (.float .f64 (wRes r A)) ∧ Below w.heap.size w w' := by
  have hAs : (A.size : Int) ≤ 10000 := by rw [← hA, asc_size]; have := bhd_size s; omega
  have hlen := uns_length s
  have hfl := frontN_le (uns s)
  have hbt := PlainAid.get_bt A
  have hz0 := bt_by A 0
  have HAsc := Hid.mk' (fun W => asc3_any (bhd s) W (by have := bhd_size s; omega))
  rw [hA] at HAsc
  have hsg0 : sgnN A = false := by unfold sgnN; exact decide_eq_false (by omega)
  have hUA : u = A := by rw [← hu]; unfold unsT; rw [hsg0]; exact if_neg (by simp)
  have hMA : minusN A = false := by unfold minusN; rw [hsg0]; rfl
  have hne : A.toList.isEmpty = false := ne_empty (by omega)
  have hA0 : (0 : Int) < A.size := by omega
  obtain ⟨z, hz⟩ : ∃ z : Int, PlainAid.bt A 0 = z := ⟨_, rfl⟩
  have q43 : (z == 43) = false := by rw [beq_eq_false_iff_ne]; omega
  have q45 : (z == 45) = false := by rw [beq_eq_false_iff_ne]; omega
  have hus : (u.size : Int) ≤ 20000 := by rw [hUA]; omega
  have hNo : wRes r A = 9221120237041090561 := by
    have hWR : wR r u = r := by unfold wR; rw [if_neg (fun q => by omega), if_neg h1]
    have hno : wNo r u = true := by unfold wNo; rw [hWR]; exact decide_eq_true (by omega)
    unfold wRes
    rw [hu, hno]
    exact if_pos rfl
  have HNO := Hid.mk' hNo
  obtain ⟨Res, hRes⟩ : ∃ Res, wRes r A = Res := ⟨_, rfl⟩
  rw [hRes] at HNO ⊢
  have hrb1 : -2147483648 ≤ r := by rw [← hr, IntKind.wrap_i32]; omega
  have hrb2 : r ≤ 2147483647 := by rw [← hr, IntKind.wrap_i32]; omega
  have q0 : (r == 0) = false := by rw [beq_eq_false_iff_ne]; omega
  have q16 : (r == 16) = false := by rw [beq_eq_false_iff_ne]; omega
  clear h1 h2
  subst hUA
  have HNaN := Hid.mk' (fun W => nan_any W)
  clear hA hu hRes hMA hsg0 hz0 hsg
  go_enter Tryz.func9, Tryz.ntmps9
  go_wp2_with fail
  refine (runits_any s _ (by omega)).mono ?_
  rintro e w1 ⟨v1, rfl, o1, b1⟩
  have HR := Hid.mk' (Rd.own o1)
  have HF := Hid.mk' (rfront_any (uns s) (uns_lt s) (by rw [hlen]; omega) v1 w1 HR.out)
  obtain ⟨x1, c1, rfl, hx⟩ := own_slice' o1
  have hcap : s.size / 2 ≤ c1 := by
    rcases o1.2 with ⟨e, h⟩ | ⟨g, cap, cur, e, _, _, h, _⟩
    · omega
    · simp at e; omega
  have hcm : (c1 : Int) ≤ 9223372036854775807 := by
    rcases o1.2 with ⟨e, _⟩ | ⟨g, cap, cur, e, _, _, _, h, _⟩
    · simp at e; omega
    · simp at e; unfold maxLen at h; omega
  obtain ⟨f, hf⟩ : ∃ f, frontN (uns s) = f := ⟨_, rfl⟩
  rw [hf] at HF hfl
  rw [hlen] at hfl
  have f1 : (0 : Int) ≤ (f : Int) := by omega
  have f2 : (f : Int) ≤ ((s.size / 2 : Nat) : Int) := by omega
  have f3 : ((s.size / 2 : Nat) : Int) ≤ (c1 : Int) := by omega
  have HX := Hid.mk' hx
  have HFE := Hid.mk' hf
  clear hx hf
  obtain ⟨n9, hn9⟩ : ∃ n9, s.size / 2 = n9 := ⟨_, rfl⟩
  rw [hn9] at HF hfl f2 f3 hcap hlen HX o1 HR ⊢
  have hnl9 : (n9 : Int) ≤ 10000 := by omega
  go_wp2_with fail
  refine HF.out.mono ?_
  rintro e w2 ⟨rfl, b2⟩
  have b12 : Below w.heap.size w w2 := b1.trans (b2.mono b1.size)
  obtain ⟨d, hd⟩ : ∃ d, (uns s).drop f = d := ⟨_, rfl⟩
  have hdl : d.length = n9 - f := by rw [← hd, List.length_drop, hlen]
  have HU9 : Hid (∀ q ∈ d, q < 65536) := fun q hq => uns_lt s q (by rw [← hd] at hq; exact List.mem_of_mem_drop hq)
  have HMk : Hid (∀ v W, Rd W v d → Calls Tryz.prog 35 #[v] W fun e w' => e = .returned (.string (bhd s)) ∧ Below W.heap.size W w') := fun v W hv => by
    have := rmake_any d HU9.out (by omega) v W hv
    have e : (⟨(mkB d).toArray⟩ : ByteArray) = bhd s := by unfold bhd; rw [HFE.out, hd]
    rw [e] at this
    exact this
  have HR2 := Hid.mk' (HR.out.below b2)
  have HB12 := Hid.mk' b12
  obtain ⟨bh, hbh⟩ : ∃ bh, bhd s = bh := ⟨_, rfl⟩
  rw [hbh] at HMk HAsc
  rcases HX.out with ⟨hx1, hx2, hx3⟩ | ⟨g, hx1, hg⟩
  · have hf0 : f = 0 := by omega
    have HRd : Hid (Rd w2 (.slice none 0 0) d) := .inl ⟨0, by rw [hdl]; simp; omega, List.eq_nil_of_length_eq_zero (by omega)⟩
    have HK := Hid.mk' (HMk.out _ w2 HRd.out)
    clear HX HR HR2 HF hd o1 hn9 HFE HMk HRd HU9 b1 b2 b12 hbh
    subst hx1 hx2 hx3 hf0
    go_wp2_with fail
    refine HK.out.mono ?_
    rintro e w3 ⟨rfl, b3⟩
    have b03 : Below w.heap.size w w3 := HB12.out.trans (b3.mono HB12.out.size)
    clear b3 HB12 HK
    go_wp2_with fail
    refine (HAsc.out _).mono ?_
    rintro e w4 ⟨rfl, b4⟩
    have b04 : Below w.heap.size w w4 := b03.trans (b4.mono b03.size)
    clear b03 b4
    go_wp2_with (go_at_call 29; refine (HNaN.out _).mono ?_; rintro e w5 ⟨rfl, hw5⟩; rw [hw5]; clear hw5 w5)
    go_ret
    exact ⟨by rw [HNO.out]; rfl, b04⟩
  · have hcc : ∀ (j : Nat) (h : j < n9), w2.cell? ⟨g, j, none⟩ = some (.int .u16 ((uns s)[j]'(by omega) : Nat)) := by
      rcases HR2.out with ⟨c', e1, e2⟩ | ⟨g', o, c', e1, hg', hc⟩
      · intro j h
        have : (uns s).length = 0 := by rw [e2]; rfl
        omega
      · intro j h
        have e3 : g' = g ∧ o = 0 := by
          rw [hx1] at e1
          simp at e1
          omega
        have := hc j (by omega)
        rw [e3.1, e3.2, Nat.zero_add] at this
        exact this
    have hgl : g < w2.heap.size := by
      have h2 := (o1.lt g (by rw [hx1]; rfl)).2
      exact Nat.lt_of_lt_of_le h2 b2.size
    have HD2 : Hid (∀ k o, n9 - f = 0 → Rd w2 (.slice (some ⟨g, o, none⟩) (n9 - f) k) d) := fun k o h0 => .inr ⟨g, o, k, by rw [hdl], hgl, fun j hj => by omega⟩
    have HD3 : Hid (Rd w2 (.slice (some ⟨g, f, none⟩) (n9 - f) (c1 - f)) d) := .inr ⟨g, f, c1 - f, by rw [hdl], hgl, fun j hj => by
      rw [hcc (f + j) (by omega)]
      simp [← hd]⟩
    clear HX HR HR2 HF hd hn9 HFE hcc o1 HU9 b1 b2 b12 hbh
    subst hx1
    go_wp2_with fail
    · have HK := Hid.mk' (HMk.out _ w2 (HD2.out 0 0 (by omega)))
      clear HD2 HD3 HMk
      refine HK.out.mono ?_
      rintro e w3 ⟨rfl, b3⟩
      have b03 : Below w.heap.size w w3 := HB12.out.trans (b3.mono HB12.out.size)
      clear b3 HB12 HK
      go_wp2_with fail
      refine (HAsc.out _).mono ?_
      rintro e w4 ⟨rfl, b4⟩
      have b04 : Below w.heap.size w w4 := b03.trans (b4.mono b03.size)
      clear b03 b4
      go_wp2_with (go_at_call 29; refine (HNaN.out _).mono ?_; rintro e w5 ⟨rfl, hw5⟩; rw [hw5]; clear hw5 w5)
      go_ret
      exact ⟨by rw [HNO.out]; rfl, b04⟩
    · have HK := Hid.mk' (HMk.out _ w2 HD3.out)
      clear HD2 HD3 HMk
      refine HK.out.mono ?_
      rintro e w3 ⟨rfl, b3⟩
      have b03 : Below w.heap.size w w3 := HB12.out.trans (b3.mono HB12.out.size)
      clear b3 HB12 HK
      go_wp2_with fail
      refine (HAsc.out _).mono ?_
      rintro e w4 ⟨rfl, b4⟩
      have b04 : Below w.heap.size w w4 := b03.trans (b4.mono b03.size)
      clear b03 b4
      go_wp2_with (go_at_call 29; refine (HNaN.out _).mono ?_; rintro e w5 ⟨rfl, hw5⟩; rw [hw5]; clear hw5 w5)
      go_ret
      exact ⟨by rw [HNO.out]; rfl, b04⟩
set_option maxHeartbeats 4000000 in
set_option maxRecDepth 100000 in
theorem rwhole_n7 (s : ByteArray) (base : Int) (w : World) (hs : (s.size : Int) ≤ 10000) (hl : Hid (LaidN w)) (hlb : Hid (LaidB w)) (r : Int) (hr : IntKind.i32.wrap base = r) (A u : ByteArray) (hA : Sb (nb ((uns (bhd s)).map ascN)) = A) (hu : unsT A = u) (hsg : 0 < A.size ∧ by' A 0 ≠ 43 ∧ by' A 0 ≠ 45)
    (h1 : r ≠ 0) (h2 : r ≠ 16) (h3 : 36 < r) :
    Calls Tryz.prog 9 #[.string s, .int .i64 base] w fun e w' => e = .returned (.float .f64 (wRes r A)) ∧ Below w.heap.size w w' := by
  have hAs : (A.size : Int) ≤ 10000 := by rw [← hA, asc_size]; have := bhd_size s; omega
  have hlen := uns_length s
  have hfl := frontN_le (uns s)
  have hbt := PlainAid.get_bt A
  have hz0 := bt_by A 0
  have HAsc := Hid.mk' (fun W => asc3_any (bhd s) W (by have := bhd_size s; omega))
  rw [hA] at HAsc
  have hsg0 : sgnN A = false := by unfold sgnN; exact decide_eq_false (by omega)
  have hUA : u = A := by rw [← hu]; unfold unsT; rw [hsg0]; exact if_neg (by simp)
  have hMA : minusN A = false := by unfold minusN; rw [hsg0]; rfl
  have hne : A.toList.isEmpty = false := ne_empty (by omega)
  have hA0 : (0 : Int) < A.size := by omega
  obtain ⟨z, hz⟩ : ∃ z : Int, PlainAid.bt A 0 = z := ⟨_, rfl⟩
  have q43 : (z == 43) = false := by rw [beq_eq_false_iff_ne]; omega
  have q45 : (z == 45) = false := by rw [beq_eq_false_iff_ne]; omega
  have hus : (u.size : Int) ≤ 20000 := by rw [hUA]; omega
  have hNo : wRes r A = 9221120237041090561 := by
    have hWR : wR r u = r := by unfold wR; rw [if_neg (fun q => by omega), if_neg h1]
    have hno : wNo r u = true := by unfold wNo; rw [hWR]; exact decide_eq_true (by omega)
    unfold wRes
    rw [hu, hno]
    exact if_pos rfl
  have HNO := Hid.mk' hNo
  obtain ⟨Res, hRes⟩ : ∃ Res, wRes r A = Res := ⟨_, rfl⟩
  rw [hRes] at HNO ⊢
  have hrb1 : -2147483648 ≤ r := by rw [← hr, IntKind.wrap_i32]; omega
  have hrb2 : r ≤ 2147483647 := by rw [← hr, IntKind.wrap_i32]; omega
  have q0 : (r == 0) = false := by rw [beq_eq_false_iff_ne]; omega
  have q16 : (r == 16) = false := by rw [beq_eq_false_iff_ne]; omega
  clear h1 h2
  subst hUA
  have HNaN := Hid.mk' (fun W => nan_any W)
  clear hA hu hRes hMA hsg0 hz0 hsg
  go_enter Tryz.func9, Tryz.ntmps9
  go_wp2_with fail
  refine (runits_any s _ (by omega)).mono ?_
  rintro e w1 ⟨v1, rfl, o1, b1⟩
  have HR := Hid.mk' (Rd.own o1)
  have HF := Hid.mk' (rfront_any (uns s) (uns_lt s) (by rw [hlen]; omega) v1 w1 HR.out)
  obtain ⟨x1, c1, rfl, hx⟩ := own_slice' o1
  have hcap : s.size / 2 ≤ c1 := by
    rcases o1.2 with ⟨e, h⟩ | ⟨g, cap, cur, e, _, _, h, _⟩
    · omega
    · simp at e; omega
  have hcm : (c1 : Int) ≤ 9223372036854775807 := by
    rcases o1.2 with ⟨e, _⟩ | ⟨g, cap, cur, e, _, _, _, h, _⟩
    · simp at e; omega
    · simp at e; unfold maxLen at h; omega
  obtain ⟨f, hf⟩ : ∃ f, frontN (uns s) = f := ⟨_, rfl⟩
  rw [hf] at HF hfl
  rw [hlen] at hfl
  have f1 : (0 : Int) ≤ (f : Int) := by omega
  have f2 : (f : Int) ≤ ((s.size / 2 : Nat) : Int) := by omega
  have f3 : ((s.size / 2 : Nat) : Int) ≤ (c1 : Int) := by omega
  have HX := Hid.mk' hx
  have HFE := Hid.mk' hf
  clear hx hf
  obtain ⟨n9, hn9⟩ : ∃ n9, s.size / 2 = n9 := ⟨_, rfl⟩
  rw [hn9] at HF hfl f2 f3 hcap hlen HX o1 HR ⊢
  have hnl9 : (n9 : Int) ≤ 10000 := by omega
  go_wp2_with fail
  refine HF.out.mono ?_
  rintro e w2 ⟨rfl, b2⟩
  have b12 : Below w.heap.size w w2 := b1.trans (b2.mono b1.size)
  obtain ⟨d, hd⟩ : ∃ d, (uns s).drop f = d := ⟨_, rfl⟩
  have hdl : d.length = n9 - f := by rw [← hd, List.length_drop, hlen]
  have HU9 : Hid (∀ q ∈ d, q < 65536) := fun q hq => uns_lt s q (by rw [← hd] at hq; exact List.mem_of_mem_drop hq)
  have HMk : Hid (∀ v W, Rd W v d → Calls Tryz.prog 35 #[v] W fun e w' => e = .returned (.string (bhd s)) ∧ Below W.heap.size W w') := fun v W hv => by
    have := rmake_any d HU9.out (by omega) v W hv
    have e : (⟨(mkB d).toArray⟩ : ByteArray) = bhd s := by unfold bhd; rw [HFE.out, hd]
    rw [e] at this
    exact this
  have HR2 := Hid.mk' (HR.out.below b2)
  have HB12 := Hid.mk' b12
  obtain ⟨bh, hbh⟩ : ∃ bh, bhd s = bh := ⟨_, rfl⟩
  rw [hbh] at HMk HAsc
  rcases HX.out with ⟨hx1, hx2, hx3⟩ | ⟨g, hx1, hg⟩
  · have hf0 : f = 0 := by omega
    have HRd : Hid (Rd w2 (.slice none 0 0) d) := .inl ⟨0, by rw [hdl]; simp; omega, List.eq_nil_of_length_eq_zero (by omega)⟩
    have HK := Hid.mk' (HMk.out _ w2 HRd.out)
    clear HX HR HR2 HF hd o1 hn9 HFE HMk HRd HU9 b1 b2 b12 hbh
    subst hx1 hx2 hx3 hf0
    go_wp2_with fail
    refine HK.out.mono ?_
    rintro e w3 ⟨rfl, b3⟩
    have b03 : Below w.heap.size w w3 := HB12.out.trans (b3.mono HB12.out.size)
    clear b3 HB12 HK
    go_wp2_with fail
    refine (HAsc.out _).mono ?_
    rintro e w4 ⟨rfl, b4⟩
    have b04 : Below w.heap.size w w4 := b03.trans (b4.mono b03.size)
    clear b03 b4
    go_wp2_with (go_at_call 29; refine (HNaN.out _).mono ?_; rintro e w5 ⟨rfl, hw5⟩; rw [hw5]; clear hw5 w5)
    go_ret
    exact ⟨by rw [HNO.out]; rfl, b04⟩
  · have hcc : ∀ (j : Nat) (h : j < n9), w2.cell? ⟨g, j, none⟩ = some (.int .u16 ((uns s)[j]'(by omega) : Nat)) := by
      rcases HR2.out with ⟨c', e1, e2⟩ | ⟨g', o, c', e1, hg', hc⟩
      · intro j h
        have : (uns s).length = 0 := by rw [e2]; rfl
        omega
      · intro j h
        have e3 : g' = g ∧ o = 0 := by
          rw [hx1] at e1
          simp at e1
          omega
        have := hc j (by omega)
        rw [e3.1, e3.2, Nat.zero_add] at this
        exact this
    have hgl : g < w2.heap.size := by
      have h2 := (o1.lt g (by rw [hx1]; rfl)).2
      exact Nat.lt_of_lt_of_le h2 b2.size
    have HD2 : Hid (∀ k o, n9 - f = 0 → Rd w2 (.slice (some ⟨g, o, none⟩) (n9 - f) k) d) := fun k o h0 => .inr ⟨g, o, k, by rw [hdl], hgl, fun j hj => by omega⟩
    have HD3 : Hid (Rd w2 (.slice (some ⟨g, f, none⟩) (n9 - f) (c1 - f)) d) := .inr ⟨g, f, c1 - f, by rw [hdl], hgl, fun j hj => by
      rw [hcc (f + j) (by omega)]
      simp [← hd]⟩
    clear HX HR HR2 HF hd hn9 HFE hcc o1 HU9 b1 b2 b12 hbh
    subst hx1
    go_wp2_with fail
    · have HK := Hid.mk' (HMk.out _ w2 (HD2.out 0 0 (by omega)))
      clear HD2 HD3 HMk
      refine HK.out.mono ?_
      rintro e w3 ⟨rfl, b3⟩
      have b03 : Below w.heap.size w w3 := HB12.out.trans (b3.mono HB12.out.size)
      clear b3 HB12 HK
      go_wp2_with fail
      refine (HAsc.out _).mono ?_
      rintro e w4 ⟨rfl, b4⟩
      have b04 : Below w.heap.size w w4 := b03.trans (b4.mono b03.size)
      clear b03 b4
      go_wp2_with (go_at_call 29; refine (HNaN.out _).mono ?_; rintro e w5 ⟨rfl, hw5⟩; rw [hw5]; clear hw5 w5)
      go_ret
      exact ⟨by rw [HNO.out]; rfl, b04⟩
    · have HK := Hid.mk' (HMk.out _ w2 HD3.out)
      clear HD2 HD3 HMk
      refine HK.out.mono ?_
      rintro e w3 ⟨rfl, b3⟩
      have b03 : Below w.heap.size w w3 := HB12.out.trans (b3.mono HB12.out.size)
      clear b3 HB12 HK
      go_wp2_with fail
      refine (HAsc.out _).mono ?_
      rintro e w4 ⟨rfl, b4⟩
      have b04 : Below w.heap.size w w4 := b03.trans (b4.mono b03.size)
      clear b03 b4
      go_wp2_with (go_at_call 29; refine (HNaN.out _).mono ?_; rintro e w5 ⟨rfl, hw5⟩; rw [hw5]; clear hw5 w5)
      go_ret
      exact ⟨by rw [HNO.out]; rfl, b04⟩
set_option maxHeartbeats 4000000 in
set_option maxRecDepth 100000 in
theorem rwhole_p1 (s : ByteArray) (base : Int) (w : World) (hs : (s.size : Int) ≤ 10000) (hl : Hid (LaidN w)) (hlb : Hid (LaidB w)) (r : Int) (hr : IntKind.i32.wrap base = r) (A u : ByteArray) (hA : Sb (nb ((uns (bhd s)).map ascN)) = A) (hu : unsT A = u) (hsg : 0 < A.size ∧ by' A 0 = 43)
    (hr0 : r = 0) (hp : prefN u = 16) :
    Calls Tryz.prog 9 #[.string s, .int .i64 base] w fun e w' => e = .returned (.float .f64 (wRes r A)) ∧ Below w.heap.size w w' := by
  have hAs : (A.size : Int) ≤ 10000 := by rw [← hA, asc_size]; have := bhd_size s; omega
  have hlen := uns_length s
  have hfl := frontN_le (uns s)
  have hbt := PlainAid.get_bt A
  have hz0 := bt_by A 0
  have HAsc := Hid.mk' (fun W => asc3_any (bhd s) W (by have := bhd_size s; omega))
  rw [hA] at HAsc
  have hsg0 : sgnN A = true := by unfold sgnN; exact decide_eq_true (by omega)
  have hUA : A.extract 1 A.size = u := by rw [← hu]; unfold unsT; rw [hsg0, if_pos rfl]; rfl
  have hMA : minusN A = false := by unfold minusN; rw [hsg0, Bool.true_and]; exact decide_eq_false (by omega)
  have hne : A.toList.isEmpty = false := ne_empty (by omega)
  have hA0 : (0 : Int) < A.size := by omega
  have hz : PlainAid.bt A 0 = 43 := by omega
  have hA1 : (1 : Int) ≤ A.size := by omega
  have HUA := Hid.mk' hUA
  have hus : (u.size : Int) ≤ 20000 := by rw [← hUA, ByteArray.size_extract]; omega
  have HLB := Hid.mk' (fun W => prefixed_any u W (by omega))
  have hu2 : (2 : Int) ≤ u.size := by
    rcases Nat.lt_or_ge u.size 2 with q | q
    · have : prefN u = 0 := by unfold prefN; rw [if_pos (.inl q)]
      omega
    · omega
  rw [hp] at HLB
  have hWR : wR r u = ((16 : Nat) : Int) := by unfold wR; rw [if_pos ⟨by omega, hp⟩]; rfl
  have hWT : wT r u = u.extract 2 u.size := by unfold wT; rw [if_pos ⟨by omega, hp⟩]
  obtain ⟨T1, hT1⟩ : ∃ T1, u.extract 2 u.size = T1 := ⟨_, rfl⟩
  rw [hT1] at hWT
  have hTs1 : (T1.size : Int) ≤ 20000 := by rw [← hT1]; rw [ByteArray.size_extract]; omega
  obtain ⟨n, hn⟩ : ∃ n, runN T1 0 ((16 : Nat) : Int) = n := ⟨_, rfl⟩
  have hnl := runN_le T1 0 ((16 : Nat) : Int)
  rw [hn] at hnl
  have HD := Hid.mk' (fun W => run_any T1 0 ((16 : Nat) : Int) W (by omega) (Nat.zero_le _))
  rw [hn] at HD
  have HN := Hid.mk' (fun W h1 h2 => rnear_run T1 16 n W hTs1 hn ⟨by omega, by omega⟩ h1 h2)
  have HY := Hid.mk' (fun h0 => res_yes r A u T1 16 n hu hWR hWT hn h0 ⟨by omega, by omega⟩)
  have HNO := Hid.mk' (fun h0 => res_no r A u T1 16 n hu hWR hWT hn h0)
  rw [hMA] at HY
  obtain ⟨V, hV⟩ : ∃ V, NF (numN (T1.extract 0 n) 16 n) = V := ⟨_, rfl⟩
  have hVl : V ≤ 9218868437227405312 := by rw [← hV]; exact NF_lt _
  rw [hV] at HN HY
  obtain ⟨Z, hZ⟩ : ∃ Z, sg false V = Z := ⟨_, rfl⟩
  rw [hZ] at HY
  have hmul : ∀ W, (binOp .mul 22 (.float .f64 4607182418800017408) (.float .f64 V)).run Tryz.prog W = .ok (.float .f64 Z) W := fun W => run_mul 22 4607182418800017408 V Z W (by rw [← hZ]; exact mul_sg false V hVl)
  have HT1 := Hid.mk' hT1
  obtain ⟨Res, hRes⟩ : ∃ Res, wRes r A = Res := ⟨_, rfl⟩
  rw [hRes] at HNO ⊢
  rw [hRes] at HY
  subst hr0
  have HNaN := Hid.mk' (fun W => nan_any W)
  clear hA hu hRes hMA hsg0 hz0 hsg
  clear hUA
  clear hn hWR hWT hT1 hV hZ
  go_enter Tryz.func9, Tryz.ntmps9
  go_wp2_with fail
  refine (runits_any s _ (by omega)).mono ?_
  rintro e w1 ⟨v1, rfl, o1, b1⟩
  have HR := Hid.mk' (Rd.own o1)
  have HF := Hid.mk' (rfront_any (uns s) (uns_lt s) (by rw [hlen]; omega) v1 w1 HR.out)
  obtain ⟨x1, c1, rfl, hx⟩ := own_slice' o1
  have hcap : s.size / 2 ≤ c1 := by
    rcases o1.2 with ⟨e, h⟩ | ⟨g, cap, cur, e, _, _, h, _⟩
    · omega
    · simp at e; omega
  have hcm : (c1 : Int) ≤ 9223372036854775807 := by
    rcases o1.2 with ⟨e, _⟩ | ⟨g, cap, cur, e, _, _, _, h, _⟩
    · simp at e; omega
    · simp at e; unfold maxLen at h; omega
  obtain ⟨f, hf⟩ : ∃ f, frontN (uns s) = f := ⟨_, rfl⟩
  rw [hf] at HF hfl
  rw [hlen] at hfl
  have f1 : (0 : Int) ≤ (f : Int) := by omega
  have f2 : (f : Int) ≤ ((s.size / 2 : Nat) : Int) := by omega
  have f3 : ((s.size / 2 : Nat) : Int) ≤ (c1 : Int) := by omega
  have HX := Hid.mk' hx
  have HFE := Hid.mk' hf
  clear hx hf
  obtain ⟨n9, hn9⟩ : ∃ n9, s.size / 2 = n9 := ⟨_, rfl⟩
  rw [hn9] at HF hfl f2 f3 hcap hlen HX o1 HR ⊢
  have hnl9 : (n9 : Int) ≤ 10000 := by omega
  go_wp2_with fail
  refine HF.out.mono ?_
  rintro e w2 ⟨rfl, b2⟩
  have b12 : Below w.heap.size w w2 := b1.trans (b2.mono b1.size)
  obtain ⟨d, hd⟩ : ∃ d, (uns s).drop f = d := ⟨_, rfl⟩
  have hdl : d.length = n9 - f := by rw [← hd, List.length_drop, hlen]
  have HU9 : Hid (∀ q ∈ d, q < 65536) := fun q hq => uns_lt s q (by rw [← hd] at hq; exact List.mem_of_mem_drop hq)
  have HMk : Hid (∀ v W, Rd W v d → Calls Tryz.prog 35 #[v] W fun e w' => e = .returned (.string (bhd s)) ∧ Below W.heap.size W w') := fun v W hv => by
    have := rmake_any d HU9.out (by omega) v W hv
    have e : (⟨(mkB d).toArray⟩ : ByteArray) = bhd s := by unfold bhd; rw [HFE.out, hd]
    rw [e] at this
    exact this
  have HR2 := Hid.mk' (HR.out.below b2)
  have HB12 := Hid.mk' b12
  obtain ⟨bh, hbh⟩ : ∃ bh, bhd s = bh := ⟨_, rfl⟩
  rw [hbh] at HMk HAsc
  rcases HX.out with ⟨hx1, hx2, hx3⟩ | ⟨g, hx1, hg⟩
  · have hf0 : f = 0 := by omega
    have HRd : Hid (Rd w2 (.slice none 0 0) d) := .inl ⟨0, by rw [hdl]; simp; omega, List.eq_nil_of_length_eq_zero (by omega)⟩
    have HK := Hid.mk' (HMk.out _ w2 HRd.out)
    clear HX HR HR2 HF hd o1 hn9 HFE HMk HRd HU9 b1 b2 b12 hbh
    subst hx1 hx2 hx3 hf0
    go_wp2_with fail
    refine HK.out.mono ?_
    rintro e w3 ⟨rfl, b3⟩
    have b03 : Below w.heap.size w w3 := HB12.out.trans (b3.mono HB12.out.size)
    clear b3 HB12 HK
    go_wp2_with fail
    refine (HAsc.out _).mono ?_
    rintro e w4 ⟨rfl, b4⟩
    have b04 : Below w.heap.size w w4 := b03.trans (b4.mono b03.size)
    clear b03 b4
    have hl4 : LaidN w4 := hl.out.below b04
    have hb4 : LaidB w4 := hlb.out.below b04
    have HN4 := Hid.mk' (HN.out w4 hl4 hb4)
    clear hl4 hb4 HN
    go_wp2_with fail
    rw [HUA.out]
    refine (HLB.out _).mono ?_
    rintro e w5 ⟨rfl, hw5⟩
    rw [hw5]; clear hw5 w5
    go_wp2_with fail
    rw [HT1.out]
    refine (HD.out _).mono ?_
    rintro e w6 ⟨rfl, hw6⟩
    rw [hw6]; clear hw6 w6
    by_cases h0 : n = 0
    · have q : ((n : Int) == 0) = true := by rw [beq_iff_eq]; omega
      have HE := Hid.mk' (HNO.out h0)
      clear HNO HY h0
      go_wp2_with (go_at_call 29; refine (HNaN.out _).mono ?_; rintro e w7 ⟨rfl, hw7⟩; rw [hw7]; clear hw7 w7)
      go_ret
      exact ⟨by rw [HE.out]; rfl, b04⟩
    · have q : ((n : Int) == 0) = false := by rw [beq_eq_false_iff_ne]; omega
      have hnle : (n : Int) ≤ T1.size := by omega
      have HE := Hid.mk' (HY.out (by omega))
      clear HNO HY h0
      go_wp2_with fail
      refine HN4.out.mono ?_
      rintro e w7 ⟨rfl, b7⟩
      have b07 : Below w.heap.size w w7 := b04.trans (b7.mono b04.size)
      clear b04 b7
      go_wp2
      go_ret
      exact ⟨by rw [HE.out]; rfl, b07⟩
  · have hcc : ∀ (j : Nat) (h : j < n9), w2.cell? ⟨g, j, none⟩ = some (.int .u16 ((uns s)[j]'(by omega) : Nat)) := by
      rcases HR2.out with ⟨c', e1, e2⟩ | ⟨g', o, c', e1, hg', hc⟩
      · intro j h
        have : (uns s).length = 0 := by rw [e2]; rfl
        omega
      · intro j h
        have e3 : g' = g ∧ o = 0 := by
          rw [hx1] at e1
          simp at e1
          omega
        have := hc j (by omega)
        rw [e3.1, e3.2, Nat.zero_add] at this
        exact this
    have hgl : g < w2.heap.size := by
      have h2 := (o1.lt g (by rw [hx1]; rfl)).2
      exact Nat.lt_of_lt_of_le h2 b2.size
    have HD2 : Hid (∀ k o, n9 - f = 0 → Rd w2 (.slice (some ⟨g, o, none⟩) (n9 - f) k) d) := fun k o h0 => .inr ⟨g, o, k, by rw [hdl], hgl, fun j hj => by omega⟩
    have HD3 : Hid (Rd w2 (.slice (some ⟨g, f, none⟩) (n9 - f) (c1 - f)) d) := .inr ⟨g, f, c1 - f, by rw [hdl], hgl, fun j hj => by
      rw [hcc (f + j) (by omega)]
      simp [← hd]⟩
    clear HX HR HR2 HF hd hn9 HFE hcc o1 HU9 b1 b2 b12 hbh
    subst hx1
    go_wp2_with fail
    · have HK := Hid.mk' (HMk.out _ w2 (HD2.out 0 0 (by omega)))
      clear HD2 HD3 HMk
      refine HK.out.mono ?_
      rintro e w3 ⟨rfl, b3⟩
      have b03 : Below w.heap.size w w3 := HB12.out.trans (b3.mono HB12.out.size)
      clear b3 HB12 HK
      go_wp2_with fail
      refine (HAsc.out _).mono ?_
      rintro e w4 ⟨rfl, b4⟩
      have b04 : Below w.heap.size w w4 := b03.trans (b4.mono b03.size)
      clear b03 b4
      have hl4 : LaidN w4 := hl.out.below b04
      have hb4 : LaidB w4 := hlb.out.below b04
      have HN4 := Hid.mk' (HN.out w4 hl4 hb4)
      clear hl4 hb4 HN
      go_wp2_with fail
      rw [HUA.out]
      refine (HLB.out _).mono ?_
      rintro e w5 ⟨rfl, hw5⟩
      rw [hw5]; clear hw5 w5
      go_wp2_with fail
      rw [HT1.out]
      refine (HD.out _).mono ?_
      rintro e w6 ⟨rfl, hw6⟩
      rw [hw6]; clear hw6 w6
      by_cases h0 : n = 0
      · have q : ((n : Int) == 0) = true := by rw [beq_iff_eq]; omega
        have HE := Hid.mk' (HNO.out h0)
        clear HNO HY h0
        go_wp2_with (go_at_call 29; refine (HNaN.out _).mono ?_; rintro e w7 ⟨rfl, hw7⟩; rw [hw7]; clear hw7 w7)
        go_ret
        exact ⟨by rw [HE.out]; rfl, b04⟩
      · have q : ((n : Int) == 0) = false := by rw [beq_eq_false_iff_ne]; omega
        have hnle : (n : Int) ≤ T1.size := by omega
        have HE := Hid.mk' (HY.out (by omega))
        clear HNO HY h0
        go_wp2_with fail
        refine HN4.out.mono ?_
        rintro e w7 ⟨rfl, b7⟩
        have b07 : Below w.heap.size w w7 := b04.trans (b7.mono b04.size)
        clear b04 b7
        go_wp2
        go_ret
        exact ⟨by rw [HE.out]; rfl, b07⟩
    · have HK := Hid.mk' (HMk.out _ w2 HD3.out)
      clear HD2 HD3 HMk
      refine HK.out.mono ?_
      rintro e w3 ⟨rfl, b3⟩
      have b03 : Below w.heap.size w w3 := HB12.out.trans (b3.mono HB12.out.size)
      clear b3 HB12 HK
      go_wp2_with fail
      refine (HAsc.out _).mono ?_
      rintro e w4 ⟨rfl, b4⟩
      have b04 : Below w.heap.size w w4 := b03.trans (b4.mono b03.size)
      clear b03 b4
      have hl4 : LaidN w4 := hl.out.below b04
      have hb4 : LaidB w4 := hlb.out.below b04
      have HN4 := Hid.mk' (HN.out w4 hl4 hb4)
      clear hl4 hb4 HN
      go_wp2_with fail
      rw [HUA.out]
      refine (HLB.out _).mono ?_
      rintro e w5 ⟨rfl, hw5⟩
      rw [hw5]; clear hw5 w5
      go_wp2_with fail
      rw [HT1.out]
      refine (HD.out _).mono ?_
      rintro e w6 ⟨rfl, hw6⟩
      rw [hw6]; clear hw6 w6
      by_cases h0 : n = 0
      · have q : ((n : Int) == 0) = true := by rw [beq_iff_eq]; omega
        have HE := Hid.mk' (HNO.out h0)
        clear HNO HY h0
        go_wp2_with (go_at_call 29; refine (HNaN.out _).mono ?_; rintro e w7 ⟨rfl, hw7⟩; rw [hw7]; clear hw7 w7)
        go_ret
        exact ⟨by rw [HE.out]; rfl, b04⟩
      · have q : ((n : Int) == 0) = false := by rw [beq_eq_false_iff_ne]; omega
        have hnle : (n : Int) ≤ T1.size := by omega
        have HE := Hid.mk' (HY.out (by omega))
        clear HNO HY h0
        go_wp2_with fail
        refine HN4.out.mono ?_
        rintro e w7 ⟨rfl, b7⟩
        have b07 : Below w.heap.size w w7 := b04.trans (b7.mono b04.size)
        clear b04 b7
        go_wp2
        go_ret
        exact ⟨by rw [HE.out]; rfl, b07⟩
set_option maxHeartbeats 4000000 in
set_option maxRecDepth 100000 in
theorem rwhole_p2 (s : ByteArray) (base : Int) (w : World) (hs : (s.size : Int) ≤ 10000) (hl : Hid (LaidN w)) (hlb : Hid (LaidB w)) (r : Int) (hr : IntKind.i32.wrap base = r) (A u : ByteArray) (hA : Sb (nb ((uns (bhd s)).map ascN)) = A) (hu : unsT A = u) (hsg : 0 < A.size ∧ by' A 0 = 43)
    (hr0 : r = 16) (hp : prefN u = 16) :
    Calls Tryz.prog 9 #[.string s, .int .i64 base] w fun e w' => e = .returned (.float .f64 (wRes r A)) ∧ Below w.heap.size w w' := by
  have hAs : (A.size : Int) ≤ 10000 := by rw [← hA, asc_size]; have := bhd_size s; omega
  have hlen := uns_length s
  have hfl := frontN_le (uns s)
  have hbt := PlainAid.get_bt A
  have hz0 := bt_by A 0
  have HAsc := Hid.mk' (fun W => asc3_any (bhd s) W (by have := bhd_size s; omega))
  rw [hA] at HAsc
  have hsg0 : sgnN A = true := by unfold sgnN; exact decide_eq_true (by omega)
  have hUA : A.extract 1 A.size = u := by rw [← hu]; unfold unsT; rw [hsg0, if_pos rfl]; rfl
  have hMA : minusN A = false := by unfold minusN; rw [hsg0, Bool.true_and]; exact decide_eq_false (by omega)
  have hne : A.toList.isEmpty = false := ne_empty (by omega)
  have hA0 : (0 : Int) < A.size := by omega
  have hz : PlainAid.bt A 0 = 43 := by omega
  have hA1 : (1 : Int) ≤ A.size := by omega
  have HUA := Hid.mk' hUA
  have hus : (u.size : Int) ≤ 20000 := by rw [← hUA, ByteArray.size_extract]; omega
  have HLB := Hid.mk' (fun W => prefixed_any u W (by omega))
  have hu2 : (2 : Int) ≤ u.size := by
    rcases Nat.lt_or_ge u.size 2 with q | q
    · have : prefN u = 0 := by unfold prefN; rw [if_pos (.inl q)]
      omega
    · omega
  rw [hp] at HLB
  have hWR : wR r u = ((16 : Nat) : Int) := by unfold wR; rw [if_pos ⟨by omega, hp⟩]; rfl
  have hWT : wT r u = u.extract 2 u.size := by unfold wT; rw [if_pos ⟨by omega, hp⟩]
  obtain ⟨T1, hT1⟩ : ∃ T1, u.extract 2 u.size = T1 := ⟨_, rfl⟩
  rw [hT1] at hWT
  have hTs1 : (T1.size : Int) ≤ 20000 := by rw [← hT1]; rw [ByteArray.size_extract]; omega
  obtain ⟨n, hn⟩ : ∃ n, runN T1 0 ((16 : Nat) : Int) = n := ⟨_, rfl⟩
  have hnl := runN_le T1 0 ((16 : Nat) : Int)
  rw [hn] at hnl
  have HD := Hid.mk' (fun W => run_any T1 0 ((16 : Nat) : Int) W (by omega) (Nat.zero_le _))
  rw [hn] at HD
  have HN := Hid.mk' (fun W h1 h2 => rnear_run T1 16 n W hTs1 hn ⟨by omega, by omega⟩ h1 h2)
  have HY := Hid.mk' (fun h0 => res_yes r A u T1 16 n hu hWR hWT hn h0 ⟨by omega, by omega⟩)
  have HNO := Hid.mk' (fun h0 => res_no r A u T1 16 n hu hWR hWT hn h0)
  rw [hMA] at HY
  obtain ⟨V, hV⟩ : ∃ V, NF (numN (T1.extract 0 n) 16 n) = V := ⟨_, rfl⟩
  have hVl : V ≤ 9218868437227405312 := by rw [← hV]; exact NF_lt _
  rw [hV] at HN HY
  obtain ⟨Z, hZ⟩ : ∃ Z, sg false V = Z := ⟨_, rfl⟩
  rw [hZ] at HY
  have hmul : ∀ W, (binOp .mul 22 (.float .f64 4607182418800017408) (.float .f64 V)).run Tryz.prog W = .ok (.float .f64 Z) W := fun W => run_mul 22 4607182418800017408 V Z W (by rw [← hZ]; exact mul_sg false V hVl)
  have HT1 := Hid.mk' hT1
  obtain ⟨Res, hRes⟩ : ∃ Res, wRes r A = Res := ⟨_, rfl⟩
  rw [hRes] at HNO ⊢
  rw [hRes] at HY
  subst hr0
  have HNaN := Hid.mk' (fun W => nan_any W)
  clear hA hu hRes hMA hsg0 hz0 hsg
  clear hUA
  clear hn hWR hWT hT1 hV hZ
  go_enter Tryz.func9, Tryz.ntmps9
  go_wp2_with fail
  refine (runits_any s _ (by omega)).mono ?_
  rintro e w1 ⟨v1, rfl, o1, b1⟩
  have HR := Hid.mk' (Rd.own o1)
  have HF := Hid.mk' (rfront_any (uns s) (uns_lt s) (by rw [hlen]; omega) v1 w1 HR.out)
  obtain ⟨x1, c1, rfl, hx⟩ := own_slice' o1
  have hcap : s.size / 2 ≤ c1 := by
    rcases o1.2 with ⟨e, h⟩ | ⟨g, cap, cur, e, _, _, h, _⟩
    · omega
    · simp at e; omega
  have hcm : (c1 : Int) ≤ 9223372036854775807 := by
    rcases o1.2 with ⟨e, _⟩ | ⟨g, cap, cur, e, _, _, _, h, _⟩
    · simp at e; omega
    · simp at e; unfold maxLen at h; omega
  obtain ⟨f, hf⟩ : ∃ f, frontN (uns s) = f := ⟨_, rfl⟩
  rw [hf] at HF hfl
  rw [hlen] at hfl
  have f1 : (0 : Int) ≤ (f : Int) := by omega
  have f2 : (f : Int) ≤ ((s.size / 2 : Nat) : Int) := by omega
  have f3 : ((s.size / 2 : Nat) : Int) ≤ (c1 : Int) := by omega
  have HX := Hid.mk' hx
  have HFE := Hid.mk' hf
  clear hx hf
  obtain ⟨n9, hn9⟩ : ∃ n9, s.size / 2 = n9 := ⟨_, rfl⟩
  rw [hn9] at HF hfl f2 f3 hcap hlen HX o1 HR ⊢
  have hnl9 : (n9 : Int) ≤ 10000 := by omega
  go_wp2_with fail
  refine HF.out.mono ?_
  rintro e w2 ⟨rfl, b2⟩
  have b12 : Below w.heap.size w w2 := b1.trans (b2.mono b1.size)
  obtain ⟨d, hd⟩ : ∃ d, (uns s).drop f = d := ⟨_, rfl⟩
  have hdl : d.length = n9 - f := by rw [← hd, List.length_drop, hlen]
  have HU9 : Hid (∀ q ∈ d, q < 65536) := fun q hq => uns_lt s q (by rw [← hd] at hq; exact List.mem_of_mem_drop hq)
  have HMk : Hid (∀ v W, Rd W v d → Calls Tryz.prog 35 #[v] W fun e w' => e = .returned (.string (bhd s)) ∧ Below W.heap.size W w') := fun v W hv => by
    have := rmake_any d HU9.out (by omega) v W hv
    have e : (⟨(mkB d).toArray⟩ : ByteArray) = bhd s := by unfold bhd; rw [HFE.out, hd]
    rw [e] at this
    exact this
  have HR2 := Hid.mk' (HR.out.below b2)
  have HB12 := Hid.mk' b12
  obtain ⟨bh, hbh⟩ : ∃ bh, bhd s = bh := ⟨_, rfl⟩
  rw [hbh] at HMk HAsc
  rcases HX.out with ⟨hx1, hx2, hx3⟩ | ⟨g, hx1, hg⟩
  · have hf0 : f = 0 := by omega
    have HRd : Hid (Rd w2 (.slice none 0 0) d) := .inl ⟨0, by rw [hdl]; simp; omega, List.eq_nil_of_length_eq_zero (by omega)⟩
    have HK := Hid.mk' (HMk.out _ w2 HRd.out)
    clear HX HR HR2 HF hd o1 hn9 HFE HMk HRd HU9 b1 b2 b12 hbh
    subst hx1 hx2 hx3 hf0
    go_wp2_with fail
    refine HK.out.mono ?_
    rintro e w3 ⟨rfl, b3⟩
    have b03 : Below w.heap.size w w3 := HB12.out.trans (b3.mono HB12.out.size)
    clear b3 HB12 HK
    go_wp2_with fail
    refine (HAsc.out _).mono ?_
    rintro e w4 ⟨rfl, b4⟩
    have b04 : Below w.heap.size w w4 := b03.trans (b4.mono b03.size)
    clear b03 b4
    have hl4 : LaidN w4 := hl.out.below b04
    have hb4 : LaidB w4 := hlb.out.below b04
    have HN4 := Hid.mk' (HN.out w4 hl4 hb4)
    clear hl4 hb4 HN
    go_wp2_with fail
    rw [HUA.out]
    refine (HLB.out _).mono ?_
    rintro e w5 ⟨rfl, hw5⟩
    rw [hw5]; clear hw5 w5
    go_wp2_with fail
    rw [HT1.out]
    refine (HD.out _).mono ?_
    rintro e w6 ⟨rfl, hw6⟩
    rw [hw6]; clear hw6 w6
    by_cases h0 : n = 0
    · have q : ((n : Int) == 0) = true := by rw [beq_iff_eq]; omega
      have HE := Hid.mk' (HNO.out h0)
      clear HNO HY h0
      go_wp2_with (go_at_call 29; refine (HNaN.out _).mono ?_; rintro e w7 ⟨rfl, hw7⟩; rw [hw7]; clear hw7 w7)
      go_ret
      exact ⟨by rw [HE.out]; rfl, b04⟩
    · have q : ((n : Int) == 0) = false := by rw [beq_eq_false_iff_ne]; omega
      have hnle : (n : Int) ≤ T1.size := by omega
      have HE := Hid.mk' (HY.out (by omega))
      clear HNO HY h0
      go_wp2_with fail
      refine HN4.out.mono ?_
      rintro e w7 ⟨rfl, b7⟩
      have b07 : Below w.heap.size w w7 := b04.trans (b7.mono b04.size)
      clear b04 b7
      go_wp2
      go_ret
      exact ⟨by rw [HE.out]; rfl, b07⟩
  · have hcc : ∀ (j : Nat) (h : j < n9), w2.cell? ⟨g, j, none⟩ = some (.int .u16 ((uns s)[j]'(by omega) : Nat)) := by
      rcases HR2.out with ⟨c', e1, e2⟩ | ⟨g', o, c', e1, hg', hc⟩
      · intro j h
        have : (uns s).length = 0 := by rw [e2]; rfl
        omega
      · intro j h
        have e3 : g' = g ∧ o = 0 := by
          rw [hx1] at e1
          simp at e1
          omega
        have := hc j (by omega)
        rw [e3.1, e3.2, Nat.zero_add] at this
        exact this
    have hgl : g < w2.heap.size := by
      have h2 := (o1.lt g (by rw [hx1]; rfl)).2
      exact Nat.lt_of_lt_of_le h2 b2.size
    have HD2 : Hid (∀ k o, n9 - f = 0 → Rd w2 (.slice (some ⟨g, o, none⟩) (n9 - f) k) d) := fun k o h0 => .inr ⟨g, o, k, by rw [hdl], hgl, fun j hj => by omega⟩
    have HD3 : Hid (Rd w2 (.slice (some ⟨g, f, none⟩) (n9 - f) (c1 - f)) d) := .inr ⟨g, f, c1 - f, by rw [hdl], hgl, fun j hj => by
      rw [hcc (f + j) (by omega)]
      simp [← hd]⟩
    clear HX HR HR2 HF hd hn9 HFE hcc o1 HU9 b1 b2 b12 hbh
    subst hx1
    go_wp2_with fail
    · have HK := Hid.mk' (HMk.out _ w2 (HD2.out 0 0 (by omega)))
      clear HD2 HD3 HMk
      refine HK.out.mono ?_
      rintro e w3 ⟨rfl, b3⟩
      have b03 : Below w.heap.size w w3 := HB12.out.trans (b3.mono HB12.out.size)
      clear b3 HB12 HK
      go_wp2_with fail
      refine (HAsc.out _).mono ?_
      rintro e w4 ⟨rfl, b4⟩
      have b04 : Below w.heap.size w w4 := b03.trans (b4.mono b03.size)
      clear b03 b4
      have hl4 : LaidN w4 := hl.out.below b04
      have hb4 : LaidB w4 := hlb.out.below b04
      have HN4 := Hid.mk' (HN.out w4 hl4 hb4)
      clear hl4 hb4 HN
      go_wp2_with fail
      rw [HUA.out]
      refine (HLB.out _).mono ?_
      rintro e w5 ⟨rfl, hw5⟩
      rw [hw5]; clear hw5 w5
      go_wp2_with fail
      rw [HT1.out]
      refine (HD.out _).mono ?_
      rintro e w6 ⟨rfl, hw6⟩
      rw [hw6]; clear hw6 w6
      by_cases h0 : n = 0
      · have q : ((n : Int) == 0) = true := by rw [beq_iff_eq]; omega
        have HE := Hid.mk' (HNO.out h0)
        clear HNO HY h0
        go_wp2_with (go_at_call 29; refine (HNaN.out _).mono ?_; rintro e w7 ⟨rfl, hw7⟩; rw [hw7]; clear hw7 w7)
        go_ret
        exact ⟨by rw [HE.out]; rfl, b04⟩
      · have q : ((n : Int) == 0) = false := by rw [beq_eq_false_iff_ne]; omega
        have hnle : (n : Int) ≤ T1.size := by omega
        have HE := Hid.mk' (HY.out (by omega))
        clear HNO HY h0
        go_wp2_with fail
        refine HN4.out.mono ?_
        rintro e w7 ⟨rfl, b7⟩
        have b07 : Below w.heap.size w w7 := b04.trans (b7.mono b04.size)
        clear b04 b7
        go_wp2
        go_ret
        exact ⟨by rw [HE.out]; rfl, b07⟩
    · have HK := Hid.mk' (HMk.out _ w2 HD3.out)
      clear HD2 HD3 HMk
      refine HK.out.mono ?_
      rintro e w3 ⟨rfl, b3⟩
      have b03 : Below w.heap.size w w3 := HB12.out.trans (b3.mono HB12.out.size)
      clear b3 HB12 HK
      go_wp2_with fail
      refine (HAsc.out _).mono ?_
      rintro e w4 ⟨rfl, b4⟩
      have b04 : Below w.heap.size w w4 := b03.trans (b4.mono b03.size)
      clear b03 b4
      have hl4 : LaidN w4 := hl.out.below b04
      have hb4 : LaidB w4 := hlb.out.below b04
      have HN4 := Hid.mk' (HN.out w4 hl4 hb4)
      clear hl4 hb4 HN
      go_wp2_with fail
      rw [HUA.out]
      refine (HLB.out _).mono ?_
      rintro e w5 ⟨rfl, hw5⟩
      rw [hw5]; clear hw5 w5
      go_wp2_with fail
      rw [HT1.out]
      refine (HD.out _).mono ?_
      rintro e w6 ⟨rfl, hw6⟩
      rw [hw6]; clear hw6 w6
      by_cases h0 : n = 0
      · have q : ((n : Int) == 0) = true := by rw [beq_iff_eq]; omega
        have HE := Hid.mk' (HNO.out h0)
        clear HNO HY h0
        go_wp2_with (go_at_call 29; refine (HNaN.out _).mono ?_; rintro e w7 ⟨rfl, hw7⟩; rw [hw7]; clear hw7 w7)
        go_ret
        exact ⟨by rw [HE.out]; rfl, b04⟩
      · have q : ((n : Int) == 0) = false := by rw [beq_eq_false_iff_ne]; omega
        have hnle : (n : Int) ≤ T1.size := by omega
        have HE := Hid.mk' (HY.out (by omega))
        clear HNO HY h0
        go_wp2_with fail
        refine HN4.out.mono ?_
        rintro e w7 ⟨rfl, b7⟩
        have b07 : Below w.heap.size w w7 := b04.trans (b7.mono b04.size)
        clear b04 b7
        go_wp2
        go_ret
        exact ⟨by rw [HE.out]; rfl, b07⟩
set_option maxHeartbeats 4000000 in
set_option maxRecDepth 100000 in
theorem rwhole_p3 (s : ByteArray) (base : Int) (w : World) (hs : (s.size : Int) ≤ 10000) (hl : Hid (LaidN w)) (hlb : Hid (LaidB w)) (r : Int) (hr : IntKind.i32.wrap base = r) (A u : ByteArray) (hA : Sb (nb ((uns (bhd s)).map ascN)) = A) (hu : unsT A = u) (hsg : 0 < A.size ∧ by' A 0 = 43)
    (hr0 : r = 0) (hp : prefN u ≠ 16) :
    Calls Tryz.prog 9 #[.string s, .int .i64 base] w fun e w' => e = .returned (.float .f64 (wRes r A)) ∧ Below w.heap.size w w' := by
  have hAs : (A.size : Int) ≤ 10000 := by rw [← hA, asc_size]; have := bhd_size s; omega
  have hlen := uns_length s
  have hfl := frontN_le (uns s)
  have hbt := PlainAid.get_bt A
  have hz0 := bt_by A 0
  have HAsc := Hid.mk' (fun W => asc3_any (bhd s) W (by have := bhd_size s; omega))
  rw [hA] at HAsc
  have hsg0 : sgnN A = true := by unfold sgnN; exact decide_eq_true (by omega)
  have hUA : A.extract 1 A.size = u := by rw [← hu]; unfold unsT; rw [hsg0, if_pos rfl]; rfl
  have hMA : minusN A = false := by unfold minusN; rw [hsg0, Bool.true_and]; exact decide_eq_false (by omega)
  have hne : A.toList.isEmpty = false := ne_empty (by omega)
  have hA0 : (0 : Int) < A.size := by omega
  have hz : PlainAid.bt A 0 = 43 := by omega
  have hA1 : (1 : Int) ≤ A.size := by omega
  have HUA := Hid.mk' hUA
  have hus : (u.size : Int) ≤ 20000 := by rw [← hUA, ByteArray.size_extract]; omega
  have HLB := Hid.mk' (fun W => prefixed_any u W (by omega))
  obtain ⟨pp, hpp⟩ : ∃ pp, prefN u = pp := ⟨_, rfl⟩
  rw [hpp] at HLB
  have hp16 : ((pp : Int) == 16) = false := by rw [beq_eq_false_iff_ne]; omega
  have hWR : wR r u = ((10 : Nat) : Int) := by unfold wR; rw [if_neg (fun q => hp q.2), if_pos (by omega)]; rfl
  have hWT : wT r u = u := by unfold wT; rw [if_neg (fun q => hp q.2)]
  have hTs1 := hus
  obtain ⟨n, hn⟩ : ∃ n, runN u 0 ((10 : Nat) : Int) = n := ⟨_, rfl⟩
  have hnl := runN_le u 0 ((10 : Nat) : Int)
  rw [hn] at hnl
  have HD := Hid.mk' (fun W => run_any u 0 ((10 : Nat) : Int) W (by omega) (Nat.zero_le _))
  rw [hn] at HD
  have HN := Hid.mk' (fun W h1 h2 => rnear_run u 10 n W hTs1 hn ⟨by omega, by omega⟩ h1 h2)
  have HY := Hid.mk' (fun h0 => res_yes r A u u 10 n hu hWR hWT hn h0 ⟨by omega, by omega⟩)
  have HNO := Hid.mk' (fun h0 => res_no r A u u 10 n hu hWR hWT hn h0)
  rw [hMA] at HY
  obtain ⟨V, hV⟩ : ∃ V, NF (numN (u.extract 0 n) 10 n) = V := ⟨_, rfl⟩
  have hVl : V ≤ 9218868437227405312 := by rw [← hV]; exact NF_lt _
  rw [hV] at HN HY
  obtain ⟨Z, hZ⟩ : ∃ Z, sg false V = Z := ⟨_, rfl⟩
  rw [hZ] at HY
  have hmul : ∀ W, (binOp .mul 22 (.float .f64 4607182418800017408) (.float .f64 V)).run Tryz.prog W = .ok (.float .f64 Z) W := fun W => run_mul 22 4607182418800017408 V Z W (by rw [← hZ]; exact mul_sg false V hVl)
  obtain ⟨Res, hRes⟩ : ∃ Res, wRes r A = Res := ⟨_, rfl⟩
  rw [hRes] at HNO ⊢
  rw [hRes] at HY
  subst hr0
  have HNaN := Hid.mk' (fun W => nan_any W)
  clear hA hu hRes hMA hsg0 hz0 hsg
  clear hUA
  clear hn hWR hWT hV hZ
  go_enter Tryz.func9, Tryz.ntmps9
  go_wp2_with fail
  refine (runits_any s _ (by omega)).mono ?_
  rintro e w1 ⟨v1, rfl, o1, b1⟩
  have HR := Hid.mk' (Rd.own o1)
  have HF := Hid.mk' (rfront_any (uns s) (uns_lt s) (by rw [hlen]; omega) v1 w1 HR.out)
  obtain ⟨x1, c1, rfl, hx⟩ := own_slice' o1
  have hcap : s.size / 2 ≤ c1 := by
    rcases o1.2 with ⟨e, h⟩ | ⟨g, cap, cur, e, _, _, h, _⟩
    · omega
    · simp at e; omega
  have hcm : (c1 : Int) ≤ 9223372036854775807 := by
    rcases o1.2 with ⟨e, _⟩ | ⟨g, cap, cur, e, _, _, _, h, _⟩
    · simp at e; omega
    · simp at e; unfold maxLen at h; omega
  obtain ⟨f, hf⟩ : ∃ f, frontN (uns s) = f := ⟨_, rfl⟩
  rw [hf] at HF hfl
  rw [hlen] at hfl
  have f1 : (0 : Int) ≤ (f : Int) := by omega
  have f2 : (f : Int) ≤ ((s.size / 2 : Nat) : Int) := by omega
  have f3 : ((s.size / 2 : Nat) : Int) ≤ (c1 : Int) := by omega
  have HX := Hid.mk' hx
  have HFE := Hid.mk' hf
  clear hx hf
  obtain ⟨n9, hn9⟩ : ∃ n9, s.size / 2 = n9 := ⟨_, rfl⟩
  rw [hn9] at HF hfl f2 f3 hcap hlen HX o1 HR ⊢
  have hnl9 : (n9 : Int) ≤ 10000 := by omega
  go_wp2_with fail
  refine HF.out.mono ?_
  rintro e w2 ⟨rfl, b2⟩
  have b12 : Below w.heap.size w w2 := b1.trans (b2.mono b1.size)
  obtain ⟨d, hd⟩ : ∃ d, (uns s).drop f = d := ⟨_, rfl⟩
  have hdl : d.length = n9 - f := by rw [← hd, List.length_drop, hlen]
  have HU9 : Hid (∀ q ∈ d, q < 65536) := fun q hq => uns_lt s q (by rw [← hd] at hq; exact List.mem_of_mem_drop hq)
  have HMk : Hid (∀ v W, Rd W v d → Calls Tryz.prog 35 #[v] W fun e w' => e = .returned (.string (bhd s)) ∧ Below W.heap.size W w') := fun v W hv => by
    have := rmake_any d HU9.out (by omega) v W hv
    have e : (⟨(mkB d).toArray⟩ : ByteArray) = bhd s := by unfold bhd; rw [HFE.out, hd]
    rw [e] at this
    exact this
  have HR2 := Hid.mk' (HR.out.below b2)
  have HB12 := Hid.mk' b12
  obtain ⟨bh, hbh⟩ : ∃ bh, bhd s = bh := ⟨_, rfl⟩
  rw [hbh] at HMk HAsc
  rcases HX.out with ⟨hx1, hx2, hx3⟩ | ⟨g, hx1, hg⟩
  · have hf0 : f = 0 := by omega
    have HRd : Hid (Rd w2 (.slice none 0 0) d) := .inl ⟨0, by rw [hdl]; simp; omega, List.eq_nil_of_length_eq_zero (by omega)⟩
    have HK := Hid.mk' (HMk.out _ w2 HRd.out)
    clear HX HR HR2 HF hd o1 hn9 HFE HMk HRd HU9 b1 b2 b12 hbh
    subst hx1 hx2 hx3 hf0
    go_wp2_with fail
    refine HK.out.mono ?_
    rintro e w3 ⟨rfl, b3⟩
    have b03 : Below w.heap.size w w3 := HB12.out.trans (b3.mono HB12.out.size)
    clear b3 HB12 HK
    go_wp2_with fail
    refine (HAsc.out _).mono ?_
    rintro e w4 ⟨rfl, b4⟩
    have b04 : Below w.heap.size w w4 := b03.trans (b4.mono b03.size)
    clear b03 b4
    have hl4 : LaidN w4 := hl.out.below b04
    have hb4 : LaidB w4 := hlb.out.below b04
    have HN4 := Hid.mk' (HN.out w4 hl4 hb4)
    clear hl4 hb4 HN
    go_wp2_with fail
    rw [HUA.out]
    refine (HLB.out _).mono ?_
    rintro e w5 ⟨rfl, hw5⟩
    rw [hw5]; clear hw5 w5
    go_wp2_with fail
    refine (HD.out _).mono ?_
    rintro e w6 ⟨rfl, hw6⟩
    rw [hw6]; clear hw6 w6
    by_cases h0 : n = 0
    · have q : ((n : Int) == 0) = true := by rw [beq_iff_eq]; omega
      have HE := Hid.mk' (HNO.out h0)
      clear HNO HY h0
      go_wp2_with (go_at_call 29; refine (HNaN.out _).mono ?_; rintro e w7 ⟨rfl, hw7⟩; rw [hw7]; clear hw7 w7)
      go_ret
      exact ⟨by rw [HE.out]; rfl, b04⟩
    · have q : ((n : Int) == 0) = false := by rw [beq_eq_false_iff_ne]; omega
      have hnle : (n : Int) ≤ u.size := by omega
      have HE := Hid.mk' (HY.out (by omega))
      clear HNO HY h0
      go_wp2_with fail
      refine HN4.out.mono ?_
      rintro e w7 ⟨rfl, b7⟩
      have b07 : Below w.heap.size w w7 := b04.trans (b7.mono b04.size)
      clear b04 b7
      go_wp2
      go_ret
      exact ⟨by rw [HE.out]; rfl, b07⟩
  · have hcc : ∀ (j : Nat) (h : j < n9), w2.cell? ⟨g, j, none⟩ = some (.int .u16 ((uns s)[j]'(by omega) : Nat)) := by
      rcases HR2.out with ⟨c', e1, e2⟩ | ⟨g', o, c', e1, hg', hc⟩
      · intro j h
        have : (uns s).length = 0 := by rw [e2]; rfl
        omega
      · intro j h
        have e3 : g' = g ∧ o = 0 := by
          rw [hx1] at e1
          simp at e1
          omega
        have := hc j (by omega)
        rw [e3.1, e3.2, Nat.zero_add] at this
        exact this
    have hgl : g < w2.heap.size := by
      have h2 := (o1.lt g (by rw [hx1]; rfl)).2
      exact Nat.lt_of_lt_of_le h2 b2.size
    have HD2 : Hid (∀ k o, n9 - f = 0 → Rd w2 (.slice (some ⟨g, o, none⟩) (n9 - f) k) d) := fun k o h0 => .inr ⟨g, o, k, by rw [hdl], hgl, fun j hj => by omega⟩
    have HD3 : Hid (Rd w2 (.slice (some ⟨g, f, none⟩) (n9 - f) (c1 - f)) d) := .inr ⟨g, f, c1 - f, by rw [hdl], hgl, fun j hj => by
      rw [hcc (f + j) (by omega)]
      simp [← hd]⟩
    clear HX HR HR2 HF hd hn9 HFE hcc o1 HU9 b1 b2 b12 hbh
    subst hx1
    go_wp2_with fail
    · have HK := Hid.mk' (HMk.out _ w2 (HD2.out 0 0 (by omega)))
      clear HD2 HD3 HMk
      refine HK.out.mono ?_
      rintro e w3 ⟨rfl, b3⟩
      have b03 : Below w.heap.size w w3 := HB12.out.trans (b3.mono HB12.out.size)
      clear b3 HB12 HK
      go_wp2_with fail
      refine (HAsc.out _).mono ?_
      rintro e w4 ⟨rfl, b4⟩
      have b04 : Below w.heap.size w w4 := b03.trans (b4.mono b03.size)
      clear b03 b4
      have hl4 : LaidN w4 := hl.out.below b04
      have hb4 : LaidB w4 := hlb.out.below b04
      have HN4 := Hid.mk' (HN.out w4 hl4 hb4)
      clear hl4 hb4 HN
      go_wp2_with fail
      rw [HUA.out]
      refine (HLB.out _).mono ?_
      rintro e w5 ⟨rfl, hw5⟩
      rw [hw5]; clear hw5 w5
      go_wp2_with fail
      refine (HD.out _).mono ?_
      rintro e w6 ⟨rfl, hw6⟩
      rw [hw6]; clear hw6 w6
      by_cases h0 : n = 0
      · have q : ((n : Int) == 0) = true := by rw [beq_iff_eq]; omega
        have HE := Hid.mk' (HNO.out h0)
        clear HNO HY h0
        go_wp2_with (go_at_call 29; refine (HNaN.out _).mono ?_; rintro e w7 ⟨rfl, hw7⟩; rw [hw7]; clear hw7 w7)
        go_ret
        exact ⟨by rw [HE.out]; rfl, b04⟩
      · have q : ((n : Int) == 0) = false := by rw [beq_eq_false_iff_ne]; omega
        have hnle : (n : Int) ≤ u.size := by omega
        have HE := Hid.mk' (HY.out (by omega))
        clear HNO HY h0
        go_wp2_with fail
        refine HN4.out.mono ?_
        rintro e w7 ⟨rfl, b7⟩
        have b07 : Below w.heap.size w w7 := b04.trans (b7.mono b04.size)
        clear b04 b7
        go_wp2
        go_ret
        exact ⟨by rw [HE.out]; rfl, b07⟩
    · have HK := Hid.mk' (HMk.out _ w2 HD3.out)
      clear HD2 HD3 HMk
      refine HK.out.mono ?_
      rintro e w3 ⟨rfl, b3⟩
      have b03 : Below w.heap.size w w3 := HB12.out.trans (b3.mono HB12.out.size)
      clear b3 HB12 HK
      go_wp2_with fail
      refine (HAsc.out _).mono ?_
      rintro e w4 ⟨rfl, b4⟩
      have b04 : Below w.heap.size w w4 := b03.trans (b4.mono b03.size)
      clear b03 b4
      have hl4 : LaidN w4 := hl.out.below b04
      have hb4 : LaidB w4 := hlb.out.below b04
      have HN4 := Hid.mk' (HN.out w4 hl4 hb4)
      clear hl4 hb4 HN
      go_wp2_with fail
      rw [HUA.out]
      refine (HLB.out _).mono ?_
      rintro e w5 ⟨rfl, hw5⟩
      rw [hw5]; clear hw5 w5
      go_wp2_with fail
      refine (HD.out _).mono ?_
      rintro e w6 ⟨rfl, hw6⟩
      rw [hw6]; clear hw6 w6
      by_cases h0 : n = 0
      · have q : ((n : Int) == 0) = true := by rw [beq_iff_eq]; omega
        have HE := Hid.mk' (HNO.out h0)
        clear HNO HY h0
        go_wp2_with (go_at_call 29; refine (HNaN.out _).mono ?_; rintro e w7 ⟨rfl, hw7⟩; rw [hw7]; clear hw7 w7)
        go_ret
        exact ⟨by rw [HE.out]; rfl, b04⟩
      · have q : ((n : Int) == 0) = false := by rw [beq_eq_false_iff_ne]; omega
        have hnle : (n : Int) ≤ u.size := by omega
        have HE := Hid.mk' (HY.out (by omega))
        clear HNO HY h0
        go_wp2_with fail
        refine HN4.out.mono ?_
        rintro e w7 ⟨rfl, b7⟩
        have b07 : Below w.heap.size w w7 := b04.trans (b7.mono b04.size)
        clear b04 b7
        go_wp2
        go_ret
        exact ⟨by rw [HE.out]; rfl, b07⟩
set_option maxHeartbeats 4000000 in
set_option maxRecDepth 100000 in
theorem rwhole_p4 (s : ByteArray) (base : Int) (w : World) (hs : (s.size : Int) ≤ 10000) (hl : Hid (LaidN w)) (hlb : Hid (LaidB w)) (r : Int) (hr : IntKind.i32.wrap base = r) (A u : ByteArray) (hA : Sb (nb ((uns (bhd s)).map ascN)) = A) (hu : unsT A = u) (hsg : 0 < A.size ∧ by' A 0 = 43)
    (hr0 : r = 16) (hp : prefN u ≠ 16) :
    Calls Tryz.prog 9 #[.string s, .int .i64 base] w fun e w' => e = .returned (.float .f64 (wRes r A)) ∧ Below w.heap.size w w' := by
  have hAs : (A.size : Int) ≤ 10000 := by rw [← hA, asc_size]; have := bhd_size s; omega
  have hlen := uns_length s
  have hfl := frontN_le (uns s)
  have hbt := PlainAid.get_bt A
  have hz0 := bt_by A 0
  have HAsc := Hid.mk' (fun W => asc3_any (bhd s) W (by have := bhd_size s; omega))
  rw [hA] at HAsc
  have hsg0 : sgnN A = true := by unfold sgnN; exact decide_eq_true (by omega)
  have hUA : A.extract 1 A.size = u := by rw [← hu]; unfold unsT; rw [hsg0, if_pos rfl]; rfl
  have hMA : minusN A = false := by unfold minusN; rw [hsg0, Bool.true_and]; exact decide_eq_false (by omega)
  have hne : A.toList.isEmpty = false := ne_empty (by omega)
  have hA0 : (0 : Int) < A.size := by omega
  have hz : PlainAid.bt A 0 = 43 := by omega
  have hA1 : (1 : Int) ≤ A.size := by omega
  have HUA := Hid.mk' hUA
  have hus : (u.size : Int) ≤ 20000 := by rw [← hUA, ByteArray.size_extract]; omega
  have HLB := Hid.mk' (fun W => prefixed_any u W (by omega))
  obtain ⟨pp, hpp⟩ : ∃ pp, prefN u = pp := ⟨_, rfl⟩
  rw [hpp] at HLB
  have hp16 : ((pp : Int) == 16) = false := by rw [beq_eq_false_iff_ne]; omega
  have hWR : wR r u = ((16 : Nat) : Int) := by unfold wR; rw [if_neg (fun q => hp q.2), if_neg (by omega)]; exact hr0
  have hWT : wT r u = u := by unfold wT; rw [if_neg (fun q => hp q.2)]
  have hTs1 := hus
  obtain ⟨n, hn⟩ : ∃ n, runN u 0 ((16 : Nat) : Int) = n := ⟨_, rfl⟩
  have hnl := runN_le u 0 ((16 : Nat) : Int)
  rw [hn] at hnl
  have HD := Hid.mk' (fun W => run_any u 0 ((16 : Nat) : Int) W (by omega) (Nat.zero_le _))
  rw [hn] at HD
  have HN := Hid.mk' (fun W h1 h2 => rnear_run u 16 n W hTs1 hn ⟨by omega, by omega⟩ h1 h2)
  have HY := Hid.mk' (fun h0 => res_yes r A u u 16 n hu hWR hWT hn h0 ⟨by omega, by omega⟩)
  have HNO := Hid.mk' (fun h0 => res_no r A u u 16 n hu hWR hWT hn h0)
  rw [hMA] at HY
  obtain ⟨V, hV⟩ : ∃ V, NF (numN (u.extract 0 n) 16 n) = V := ⟨_, rfl⟩
  have hVl : V ≤ 9218868437227405312 := by rw [← hV]; exact NF_lt _
  rw [hV] at HN HY
  obtain ⟨Z, hZ⟩ : ∃ Z, sg false V = Z := ⟨_, rfl⟩
  rw [hZ] at HY
  have hmul : ∀ W, (binOp .mul 22 (.float .f64 4607182418800017408) (.float .f64 V)).run Tryz.prog W = .ok (.float .f64 Z) W := fun W => run_mul 22 4607182418800017408 V Z W (by rw [← hZ]; exact mul_sg false V hVl)
  obtain ⟨Res, hRes⟩ : ∃ Res, wRes r A = Res := ⟨_, rfl⟩
  rw [hRes] at HNO ⊢
  rw [hRes] at HY
  subst hr0
  have HNaN := Hid.mk' (fun W => nan_any W)
  clear hA hu hRes hMA hsg0 hz0 hsg
  clear hUA
  clear hn hWR hWT hV hZ
  go_enter Tryz.func9, Tryz.ntmps9
  go_wp2_with fail
  refine (runits_any s _ (by omega)).mono ?_
  rintro e w1 ⟨v1, rfl, o1, b1⟩
  have HR := Hid.mk' (Rd.own o1)
  have HF := Hid.mk' (rfront_any (uns s) (uns_lt s) (by rw [hlen]; omega) v1 w1 HR.out)
  obtain ⟨x1, c1, rfl, hx⟩ := own_slice' o1
  have hcap : s.size / 2 ≤ c1 := by
    rcases o1.2 with ⟨e, h⟩ | ⟨g, cap, cur, e, _, _, h, _⟩
    · omega
    · simp at e; omega
  have hcm : (c1 : Int) ≤ 9223372036854775807 := by
    rcases o1.2 with ⟨e, _⟩ | ⟨g, cap, cur, e, _, _, _, h, _⟩
    · simp at e; omega
    · simp at e; unfold maxLen at h; omega
  obtain ⟨f, hf⟩ : ∃ f, frontN (uns s) = f := ⟨_, rfl⟩
  rw [hf] at HF hfl
  rw [hlen] at hfl
  have f1 : (0 : Int) ≤ (f : Int) := by omega
  have f2 : (f : Int) ≤ ((s.size / 2 : Nat) : Int) := by omega
  have f3 : ((s.size / 2 : Nat) : Int) ≤ (c1 : Int) := by omega
  have HX := Hid.mk' hx
  have HFE := Hid.mk' hf
  clear hx hf
  obtain ⟨n9, hn9⟩ : ∃ n9, s.size / 2 = n9 := ⟨_, rfl⟩
  rw [hn9] at HF hfl f2 f3 hcap hlen HX o1 HR ⊢
  have hnl9 : (n9 : Int) ≤ 10000 := by omega
  go_wp2_with fail
  refine HF.out.mono ?_
  rintro e w2 ⟨rfl, b2⟩
  have b12 : Below w.heap.size w w2 := b1.trans (b2.mono b1.size)
  obtain ⟨d, hd⟩ : ∃ d, (uns s).drop f = d := ⟨_, rfl⟩
  have hdl : d.length = n9 - f := by rw [← hd, List.length_drop, hlen]
  have HU9 : Hid (∀ q ∈ d, q < 65536) := fun q hq => uns_lt s q (by rw [← hd] at hq; exact List.mem_of_mem_drop hq)
  have HMk : Hid (∀ v W, Rd W v d → Calls Tryz.prog 35 #[v] W fun e w' => e = .returned (.string (bhd s)) ∧ Below W.heap.size W w') := fun v W hv => by
    have := rmake_any d HU9.out (by omega) v W hv
    have e : (⟨(mkB d).toArray⟩ : ByteArray) = bhd s := by unfold bhd; rw [HFE.out, hd]
    rw [e] at this
    exact this
  have HR2 := Hid.mk' (HR.out.below b2)
  have HB12 := Hid.mk' b12
  obtain ⟨bh, hbh⟩ : ∃ bh, bhd s = bh := ⟨_, rfl⟩
  rw [hbh] at HMk HAsc
  rcases HX.out with ⟨hx1, hx2, hx3⟩ | ⟨g, hx1, hg⟩
  · have hf0 : f = 0 := by omega
    have HRd : Hid (Rd w2 (.slice none 0 0) d) := .inl ⟨0, by rw [hdl]; simp; omega, List.eq_nil_of_length_eq_zero (by omega)⟩
    have HK := Hid.mk' (HMk.out _ w2 HRd.out)
    clear HX HR HR2 HF hd o1 hn9 HFE HMk HRd HU9 b1 b2 b12 hbh
    subst hx1 hx2 hx3 hf0
    go_wp2_with fail
    refine HK.out.mono ?_
    rintro e w3 ⟨rfl, b3⟩
    have b03 : Below w.heap.size w w3 := HB12.out.trans (b3.mono HB12.out.size)
    clear b3 HB12 HK
    go_wp2_with fail
    refine (HAsc.out _).mono ?_
    rintro e w4 ⟨rfl, b4⟩
    have b04 : Below w.heap.size w w4 := b03.trans (b4.mono b03.size)
    clear b03 b4
    have hl4 : LaidN w4 := hl.out.below b04
    have hb4 : LaidB w4 := hlb.out.below b04
    have HN4 := Hid.mk' (HN.out w4 hl4 hb4)
    clear hl4 hb4 HN
    go_wp2_with fail
    rw [HUA.out]
    refine (HLB.out _).mono ?_
    rintro e w5 ⟨rfl, hw5⟩
    rw [hw5]; clear hw5 w5
    go_wp2_with fail
    refine (HD.out _).mono ?_
    rintro e w6 ⟨rfl, hw6⟩
    rw [hw6]; clear hw6 w6
    by_cases h0 : n = 0
    · have q : ((n : Int) == 0) = true := by rw [beq_iff_eq]; omega
      have HE := Hid.mk' (HNO.out h0)
      clear HNO HY h0
      go_wp2_with (go_at_call 29; refine (HNaN.out _).mono ?_; rintro e w7 ⟨rfl, hw7⟩; rw [hw7]; clear hw7 w7)
      go_ret
      exact ⟨by rw [HE.out]; rfl, b04⟩
    · have q : ((n : Int) == 0) = false := by rw [beq_eq_false_iff_ne]; omega
      have hnle : (n : Int) ≤ u.size := by omega
      have HE := Hid.mk' (HY.out (by omega))
      clear HNO HY h0
      go_wp2_with fail
      refine HN4.out.mono ?_
      rintro e w7 ⟨rfl, b7⟩
      have b07 : Below w.heap.size w w7 := b04.trans (b7.mono b04.size)
      clear b04 b7
      go_wp2
      go_ret
      exact ⟨by rw [HE.out]; rfl, b07⟩
  · have hcc : ∀ (j : Nat) (h : j < n9), w2.cell? ⟨g, j, none⟩ = some (.int .u16 ((uns s)[j]'(by omega) : Nat)) := by
      rcases HR2.out with ⟨c', e1, e2⟩ | ⟨g', o, c', e1, hg', hc⟩
      · intro j h
        have : (uns s).length = 0 := by rw [e2]; rfl
        omega
      · intro j h
        have e3 : g' = g ∧ o = 0 := by
          rw [hx1] at e1
          simp at e1
          omega
        have := hc j (by omega)
        rw [e3.1, e3.2, Nat.zero_add] at this
        exact this
    have hgl : g < w2.heap.size := by
      have h2 := (o1.lt g (by rw [hx1]; rfl)).2
      exact Nat.lt_of_lt_of_le h2 b2.size
    have HD2 : Hid (∀ k o, n9 - f = 0 → Rd w2 (.slice (some ⟨g, o, none⟩) (n9 - f) k) d) := fun k o h0 => .inr ⟨g, o, k, by rw [hdl], hgl, fun j hj => by omega⟩
    have HD3 : Hid (Rd w2 (.slice (some ⟨g, f, none⟩) (n9 - f) (c1 - f)) d) := .inr ⟨g, f, c1 - f, by rw [hdl], hgl, fun j hj => by
      rw [hcc (f + j) (by omega)]
      simp [← hd]⟩
    clear HX HR HR2 HF hd hn9 HFE hcc o1 HU9 b1 b2 b12 hbh
    subst hx1
    go_wp2_with fail
    · have HK := Hid.mk' (HMk.out _ w2 (HD2.out 0 0 (by omega)))
      clear HD2 HD3 HMk
      refine HK.out.mono ?_
      rintro e w3 ⟨rfl, b3⟩
      have b03 : Below w.heap.size w w3 := HB12.out.trans (b3.mono HB12.out.size)
      clear b3 HB12 HK
      go_wp2_with fail
      refine (HAsc.out _).mono ?_
      rintro e w4 ⟨rfl, b4⟩
      have b04 : Below w.heap.size w w4 := b03.trans (b4.mono b03.size)
      clear b03 b4
      have hl4 : LaidN w4 := hl.out.below b04
      have hb4 : LaidB w4 := hlb.out.below b04
      have HN4 := Hid.mk' (HN.out w4 hl4 hb4)
      clear hl4 hb4 HN
      go_wp2_with fail
      rw [HUA.out]
      refine (HLB.out _).mono ?_
      rintro e w5 ⟨rfl, hw5⟩
      rw [hw5]; clear hw5 w5
      go_wp2_with fail
      refine (HD.out _).mono ?_
      rintro e w6 ⟨rfl, hw6⟩
      rw [hw6]; clear hw6 w6
      by_cases h0 : n = 0
      · have q : ((n : Int) == 0) = true := by rw [beq_iff_eq]; omega
        have HE := Hid.mk' (HNO.out h0)
        clear HNO HY h0
        go_wp2_with (go_at_call 29; refine (HNaN.out _).mono ?_; rintro e w7 ⟨rfl, hw7⟩; rw [hw7]; clear hw7 w7)
        go_ret
        exact ⟨by rw [HE.out]; rfl, b04⟩
      · have q : ((n : Int) == 0) = false := by rw [beq_eq_false_iff_ne]; omega
        have hnle : (n : Int) ≤ u.size := by omega
        have HE := Hid.mk' (HY.out (by omega))
        clear HNO HY h0
        go_wp2_with fail
        refine HN4.out.mono ?_
        rintro e w7 ⟨rfl, b7⟩
        have b07 : Below w.heap.size w w7 := b04.trans (b7.mono b04.size)
        clear b04 b7
        go_wp2
        go_ret
        exact ⟨by rw [HE.out]; rfl, b07⟩
    · have HK := Hid.mk' (HMk.out _ w2 HD3.out)
      clear HD2 HD3 HMk
      refine HK.out.mono ?_
      rintro e w3 ⟨rfl, b3⟩
      have b03 : Below w.heap.size w w3 := HB12.out.trans (b3.mono HB12.out.size)
      clear b3 HB12 HK
      go_wp2_with fail
      refine (HAsc.out _).mono ?_
      rintro e w4 ⟨rfl, b4⟩
      have b04 : Below w.heap.size w w4 := b03.trans (b4.mono b03.size)
      clear b03 b4
      have hl4 : LaidN w4 := hl.out.below b04
      have hb4 : LaidB w4 := hlb.out.below b04
      have HN4 := Hid.mk' (HN.out w4 hl4 hb4)
      clear hl4 hb4 HN
      go_wp2_with fail
      rw [HUA.out]
      refine (HLB.out _).mono ?_
      rintro e w5 ⟨rfl, hw5⟩
      rw [hw5]; clear hw5 w5
      go_wp2_with fail
      refine (HD.out _).mono ?_
      rintro e w6 ⟨rfl, hw6⟩
      rw [hw6]; clear hw6 w6
      by_cases h0 : n = 0
      · have q : ((n : Int) == 0) = true := by rw [beq_iff_eq]; omega
        have HE := Hid.mk' (HNO.out h0)
        clear HNO HY h0
        go_wp2_with (go_at_call 29; refine (HNaN.out _).mono ?_; rintro e w7 ⟨rfl, hw7⟩; rw [hw7]; clear hw7 w7)
        go_ret
        exact ⟨by rw [HE.out]; rfl, b04⟩
      · have q : ((n : Int) == 0) = false := by rw [beq_eq_false_iff_ne]; omega
        have hnle : (n : Int) ≤ u.size := by omega
        have HE := Hid.mk' (HY.out (by omega))
        clear HNO HY h0
        go_wp2_with fail
        refine HN4.out.mono ?_
        rintro e w7 ⟨rfl, b7⟩
        have b07 : Below w.heap.size w w7 := b04.trans (b7.mono b04.size)
        clear b04 b7
        go_wp2
        go_ret
        exact ⟨by rw [HE.out]; rfl, b07⟩
set_option maxHeartbeats 4000000 in
set_option maxRecDepth 100000 in
theorem rwhole_p5 (s : ByteArray) (base : Int) (w : World) (hs : (s.size : Int) ≤ 10000) (hl : Hid (LaidN w)) (hlb : Hid (LaidB w)) (r : Int) (hr : IntKind.i32.wrap base = r) (A u : ByteArray) (hA : Sb (nb ((uns (bhd s)).map ascN)) = A) (hu : unsT A = u) (hsg : 0 < A.size ∧ by' A 0 = 43)
    (R : Nat) (hR : r = (R : Nat)) (hR2 : 2 ≤ R ∧ R ≤ 36) (hR3 : R ≠ 16) :
    Calls Tryz.prog 9 #[.string s, .int .i64 base] w fun e w' => e = .returned (.float .f64 (wRes r A)) ∧ Below w.heap.size w w' := by
  have hAs : (A.size : Int) ≤ 10000 := by rw [← hA, asc_size]; have := bhd_size s; omega
  have hlen := uns_length s
  have hfl := frontN_le (uns s)
  have hbt := PlainAid.get_bt A
  have hz0 := bt_by A 0
  have HAsc := Hid.mk' (fun W => asc3_any (bhd s) W (by have := bhd_size s; omega))
  rw [hA] at HAsc
  have hsg0 : sgnN A = true := by unfold sgnN; exact decide_eq_true (by omega)
  have hUA : A.extract 1 A.size = u := by rw [← hu]; unfold unsT; rw [hsg0, if_pos rfl]; rfl
  have hMA : minusN A = false := by unfold minusN; rw [hsg0, Bool.true_and]; exact decide_eq_false (by omega)
  have hne : A.toList.isEmpty = false := ne_empty (by omega)
  have hA0 : (0 : Int) < A.size := by omega
  have hz : PlainAid.bt A 0 = 43 := by omega
  have hA1 : (1 : Int) ≤ A.size := by omega
  have HUA := Hid.mk' hUA
  have hus : (u.size : Int) ≤ 20000 := by rw [← hUA, ByteArray.size_extract]; omega
  have hWR : wR r u = ((R : Nat) : Int) := by unfold wR; rw [if_neg (fun q => by omega), if_neg (by omega)]; exact hR
  have hWT : wT r u = u := by unfold wT; rw [if_neg (fun q => by omega)]
  have hTs1 := hus
  obtain ⟨n, hn⟩ : ∃ n, runN u 0 ((R : Nat) : Int) = n := ⟨_, rfl⟩
  have hnl := runN_le u 0 ((R : Nat) : Int)
  rw [hn] at hnl
  have HD := Hid.mk' (fun W => run_any u 0 ((R : Nat) : Int) W (by omega) (Nat.zero_le _))
  rw [hn] at HD
  have HN := Hid.mk' (fun W h1 h2 => rnear_run u R n W hTs1 hn hR2 h1 h2)
  have HY := Hid.mk' (fun h0 => res_yes r A u u R n hu hWR hWT hn h0 hR2)
  have HNO := Hid.mk' (fun h0 => res_no r A u u R n hu hWR hWT hn h0)
  rw [hMA] at HY
  obtain ⟨V, hV⟩ : ∃ V, NF (numN (u.extract 0 n) R n) = V := ⟨_, rfl⟩
  have hVl : V ≤ 9218868437227405312 := by rw [← hV]; exact NF_lt _
  rw [hV] at HN HY
  obtain ⟨Z, hZ⟩ : ∃ Z, sg false V = Z := ⟨_, rfl⟩
  rw [hZ] at HY
  have hmul : ∀ W, (binOp .mul 22 (.float .f64 4607182418800017408) (.float .f64 V)).run Tryz.prog W = .ok (.float .f64 Z) W := fun W => run_mul 22 4607182418800017408 V Z W (by rw [← hZ]; exact mul_sg false V hVl)
  obtain ⟨Res, hRes⟩ : ∃ Res, wRes r A = Res := ⟨_, rfl⟩
  rw [hRes] at HNO ⊢
  rw [hRes] at HY
  subst hR
  have q0 : ((R : Int) == 0) = false := by rw [beq_eq_false_iff_ne]; omega
  have q16 : ((R : Int) == 16) = false := by rw [beq_eq_false_iff_ne]; omega
  have HNaN := Hid.mk' (fun W => nan_any W)
  clear hA hu hRes hMA hsg0 hz0 hsg
  clear hUA
  clear hn hWR hWT hV hZ
  go_enter Tryz.func9, Tryz.ntmps9
  go_wp2_with fail
  refine (runits_any s _ (by omega)).mono ?_
  rintro e w1 ⟨v1, rfl, o1, b1⟩
  have HR := Hid.mk' (Rd.own o1)
  have HF := Hid.mk' (rfront_any (uns s) (uns_lt s) (by rw [hlen]; omega) v1 w1 HR.out)
  obtain ⟨x1, c1, rfl, hx⟩ := own_slice' o1
  have hcap : s.size / 2 ≤ c1 := by
    rcases o1.2 with ⟨e, h⟩ | ⟨g, cap, cur, e, _, _, h, _⟩
    · omega
    · simp at e; omega
  have hcm : (c1 : Int) ≤ 9223372036854775807 := by
    rcases o1.2 with ⟨e, _⟩ | ⟨g, cap, cur, e, _, _, _, h, _⟩
    · simp at e; omega
    · simp at e; unfold maxLen at h; omega
  obtain ⟨f, hf⟩ : ∃ f, frontN (uns s) = f := ⟨_, rfl⟩
  rw [hf] at HF hfl
  rw [hlen] at hfl
  have f1 : (0 : Int) ≤ (f : Int) := by omega
  have f2 : (f : Int) ≤ ((s.size / 2 : Nat) : Int) := by omega
  have f3 : ((s.size / 2 : Nat) : Int) ≤ (c1 : Int) := by omega
  have HX := Hid.mk' hx
  have HFE := Hid.mk' hf
  clear hx hf
  obtain ⟨n9, hn9⟩ : ∃ n9, s.size / 2 = n9 := ⟨_, rfl⟩
  rw [hn9] at HF hfl f2 f3 hcap hlen HX o1 HR ⊢
  have hnl9 : (n9 : Int) ≤ 10000 := by omega
  go_wp2_with fail
  refine HF.out.mono ?_
  rintro e w2 ⟨rfl, b2⟩
  have b12 : Below w.heap.size w w2 := b1.trans (b2.mono b1.size)
  obtain ⟨d, hd⟩ : ∃ d, (uns s).drop f = d := ⟨_, rfl⟩
  have hdl : d.length = n9 - f := by rw [← hd, List.length_drop, hlen]
  have HU9 : Hid (∀ q ∈ d, q < 65536) := fun q hq => uns_lt s q (by rw [← hd] at hq; exact List.mem_of_mem_drop hq)
  have HMk : Hid (∀ v W, Rd W v d → Calls Tryz.prog 35 #[v] W fun e w' => e = .returned (.string (bhd s)) ∧ Below W.heap.size W w') := fun v W hv => by
    have := rmake_any d HU9.out (by omega) v W hv
    have e : (⟨(mkB d).toArray⟩ : ByteArray) = bhd s := by unfold bhd; rw [HFE.out, hd]
    rw [e] at this
    exact this
  have HR2 := Hid.mk' (HR.out.below b2)
  have HB12 := Hid.mk' b12
  obtain ⟨bh, hbh⟩ : ∃ bh, bhd s = bh := ⟨_, rfl⟩
  rw [hbh] at HMk HAsc
  rcases HX.out with ⟨hx1, hx2, hx3⟩ | ⟨g, hx1, hg⟩
  · have hf0 : f = 0 := by omega
    have HRd : Hid (Rd w2 (.slice none 0 0) d) := .inl ⟨0, by rw [hdl]; simp; omega, List.eq_nil_of_length_eq_zero (by omega)⟩
    have HK := Hid.mk' (HMk.out _ w2 HRd.out)
    clear HX HR HR2 HF hd o1 hn9 HFE HMk HRd HU9 b1 b2 b12 hbh
    subst hx1 hx2 hx3 hf0
    go_wp2_with fail
    refine HK.out.mono ?_
    rintro e w3 ⟨rfl, b3⟩
    have b03 : Below w.heap.size w w3 := HB12.out.trans (b3.mono HB12.out.size)
    clear b3 HB12 HK
    go_wp2_with fail
    refine (HAsc.out _).mono ?_
    rintro e w4 ⟨rfl, b4⟩
    have b04 : Below w.heap.size w w4 := b03.trans (b4.mono b03.size)
    clear b03 b4
    have hl4 : LaidN w4 := hl.out.below b04
    have hb4 : LaidB w4 := hlb.out.below b04
    have HN4 := Hid.mk' (HN.out w4 hl4 hb4)
    clear hl4 hb4 HN
    go_wp2_with fail
    rw [HUA.out]
    refine (HD.out _).mono ?_
    rintro e w6 ⟨rfl, hw6⟩
    rw [hw6]; clear hw6 w6
    by_cases h0 : n = 0
    · have q : ((n : Int) == 0) = true := by rw [beq_iff_eq]; omega
      have HE := Hid.mk' (HNO.out h0)
      clear HNO HY h0
      go_wp2_with (go_at_call 29; refine (HNaN.out _).mono ?_; rintro e w7 ⟨rfl, hw7⟩; rw [hw7]; clear hw7 w7)
      go_ret
      exact ⟨by rw [HE.out]; rfl, b04⟩
    · have q : ((n : Int) == 0) = false := by rw [beq_eq_false_iff_ne]; omega
      have hnle : (n : Int) ≤ u.size := by omega
      have HE := Hid.mk' (HY.out (by omega))
      clear HNO HY h0
      go_wp2_with fail
      refine HN4.out.mono ?_
      rintro e w7 ⟨rfl, b7⟩
      have b07 : Below w.heap.size w w7 := b04.trans (b7.mono b04.size)
      clear b04 b7
      go_wp2
      go_ret
      exact ⟨by rw [HE.out]; rfl, b07⟩
  · have hcc : ∀ (j : Nat) (h : j < n9), w2.cell? ⟨g, j, none⟩ = some (.int .u16 ((uns s)[j]'(by omega) : Nat)) := by
      rcases HR2.out with ⟨c', e1, e2⟩ | ⟨g', o, c', e1, hg', hc⟩
      · intro j h
        have : (uns s).length = 0 := by rw [e2]; rfl
        omega
      · intro j h
        have e3 : g' = g ∧ o = 0 := by
          rw [hx1] at e1
          simp at e1
          omega
        have := hc j (by omega)
        rw [e3.1, e3.2, Nat.zero_add] at this
        exact this
    have hgl : g < w2.heap.size := by
      have h2 := (o1.lt g (by rw [hx1]; rfl)).2
      exact Nat.lt_of_lt_of_le h2 b2.size
    have HD2 : Hid (∀ k o, n9 - f = 0 → Rd w2 (.slice (some ⟨g, o, none⟩) (n9 - f) k) d) := fun k o h0 => .inr ⟨g, o, k, by rw [hdl], hgl, fun j hj => by omega⟩
    have HD3 : Hid (Rd w2 (.slice (some ⟨g, f, none⟩) (n9 - f) (c1 - f)) d) := .inr ⟨g, f, c1 - f, by rw [hdl], hgl, fun j hj => by
      rw [hcc (f + j) (by omega)]
      simp [← hd]⟩
    clear HX HR HR2 HF hd hn9 HFE hcc o1 HU9 b1 b2 b12 hbh
    subst hx1
    go_wp2_with fail
    · have HK := Hid.mk' (HMk.out _ w2 (HD2.out 0 0 (by omega)))
      clear HD2 HD3 HMk
      refine HK.out.mono ?_
      rintro e w3 ⟨rfl, b3⟩
      have b03 : Below w.heap.size w w3 := HB12.out.trans (b3.mono HB12.out.size)
      clear b3 HB12 HK
      go_wp2_with fail
      refine (HAsc.out _).mono ?_
      rintro e w4 ⟨rfl, b4⟩
      have b04 : Below w.heap.size w w4 := b03.trans (b4.mono b03.size)
      clear b03 b4
      have hl4 : LaidN w4 := hl.out.below b04
      have hb4 : LaidB w4 := hlb.out.below b04
      have HN4 := Hid.mk' (HN.out w4 hl4 hb4)
      clear hl4 hb4 HN
      go_wp2_with fail
      rw [HUA.out]
      refine (HD.out _).mono ?_
      rintro e w6 ⟨rfl, hw6⟩
      rw [hw6]; clear hw6 w6
      by_cases h0 : n = 0
      · have q : ((n : Int) == 0) = true := by rw [beq_iff_eq]; omega
        have HE := Hid.mk' (HNO.out h0)
        clear HNO HY h0
        go_wp2_with (go_at_call 29; refine (HNaN.out _).mono ?_; rintro e w7 ⟨rfl, hw7⟩; rw [hw7]; clear hw7 w7)
        go_ret
        exact ⟨by rw [HE.out]; rfl, b04⟩
      · have q : ((n : Int) == 0) = false := by rw [beq_eq_false_iff_ne]; omega
        have hnle : (n : Int) ≤ u.size := by omega
        have HE := Hid.mk' (HY.out (by omega))
        clear HNO HY h0
        go_wp2_with fail
        refine HN4.out.mono ?_
        rintro e w7 ⟨rfl, b7⟩
        have b07 : Below w.heap.size w w7 := b04.trans (b7.mono b04.size)
        clear b04 b7
        go_wp2
        go_ret
        exact ⟨by rw [HE.out]; rfl, b07⟩
    · have HK := Hid.mk' (HMk.out _ w2 HD3.out)
      clear HD2 HD3 HMk
      refine HK.out.mono ?_
      rintro e w3 ⟨rfl, b3⟩
      have b03 : Below w.heap.size w w3 := HB12.out.trans (b3.mono HB12.out.size)
      clear b3 HB12 HK
      go_wp2_with fail
      refine (HAsc.out _).mono ?_
      rintro e w4 ⟨rfl, b4⟩
      have b04 : Below w.heap.size w w4 := b03.trans (b4.mono b03.size)
      clear b03 b4
      have hl4 : LaidN w4 := hl.out.below b04
      have hb4 : LaidB w4 := hlb.out.below b04
      have HN4 := Hid.mk' (HN.out w4 hl4 hb4)
      clear hl4 hb4 HN
      go_wp2_with fail
      rw [HUA.out]
      refine (HD.out _).mono ?_
      rintro e w6 ⟨rfl, hw6⟩
      rw [hw6]; clear hw6 w6
      by_cases h0 : n = 0
      · have q : ((n : Int) == 0) = true := by rw [beq_iff_eq]; omega
        have HE := Hid.mk' (HNO.out h0)
        clear HNO HY h0
        go_wp2_with (go_at_call 29; refine (HNaN.out _).mono ?_; rintro e w7 ⟨rfl, hw7⟩; rw [hw7]; clear hw7 w7)
        go_ret
        exact ⟨by rw [HE.out]; rfl, b04⟩
      · have q : ((n : Int) == 0) = false := by rw [beq_eq_false_iff_ne]; omega
        have hnle : (n : Int) ≤ u.size := by omega
        have HE := Hid.mk' (HY.out (by omega))
        clear HNO HY h0
        go_wp2_with fail
        refine HN4.out.mono ?_
        rintro e w7 ⟨rfl, b7⟩
        have b07 : Below w.heap.size w w7 := b04.trans (b7.mono b04.size)
        clear b04 b7
        go_wp2
        go_ret
        exact ⟨by rw [HE.out]; rfl, b07⟩
set_option maxHeartbeats 4000000 in
set_option maxRecDepth 100000 in
theorem rwhole_p6 (s : ByteArray) (base : Int) (w : World) (hs : (s.size : Int) ≤ 10000) (hl : Hid (LaidN w)) (hlb : Hid (LaidB w)) (r : Int) (hr : IntKind.i32.wrap base = r) (A u : ByteArray) (hA : Sb (nb ((uns (bhd s)).map ascN)) = A) (hu : unsT A = u) (hsg : 0 < A.size ∧ by' A 0 = 43)
    (h1 : r ≠ 0) (h2 : r ≠ 16) (h3 : r < 2) :
    Calls Tryz.prog 9 #[.string s, .int .i64 base] w fun e w' => e = .returned (.float .f64 (wRes r A)) ∧ Below w.heap.size w w' := by
  have hAs : (A.size : Int) ≤ 10000 := by rw [← hA, asc_size]; have := bhd_size s; omega
  have hlen := uns_length s
  have hfl := frontN_le (uns s)
  have hbt := PlainAid.get_bt A
  have hz0 := bt_by A 0
  have HAsc := Hid.mk' (fun W => asc3_any (bhd s) W (by have := bhd_size s; omega))
  rw [hA] at HAsc
  have hsg0 : sgnN A = true := by unfold sgnN; exact decide_eq_true (by omega)
  have hUA : A.extract 1 A.size = u := by rw [← hu]; unfold unsT; rw [hsg0, if_pos rfl]; rfl
  have hMA : minusN A = false := by unfold minusN; rw [hsg0, Bool.true_and]; exact decide_eq_false (by omega)
  have hne : A.toList.isEmpty = false := ne_empty (by omega)
  have hA0 : (0 : Int) < A.size := by omega
  have hz : PlainAid.bt A 0 = 43 := by omega
  have hA1 : (1 : Int) ≤ A.size := by omega
  have HUA := Hid.mk' hUA
  have hus : (u.size : Int) ≤ 20000 := by rw [← hUA, ByteArray.size_extract]; omega
  have hNo : wRes r A = 9221120237041090561 := by
    have hWR : wR r u = r := by unfold wR; rw [if_neg (fun q => by omega), if_neg h1]
    have hno : wNo r u = true := by unfold wNo; rw [hWR]; exact decide_eq_true (by omega)
    unfold wRes
    rw [hu, hno]
    exact if_pos rfl
  have HNO := Hid.mk' hNo
  obtain ⟨Res, hRes⟩ : ∃ Res, wRes r A = Res := ⟨_, rfl⟩
  rw [hRes] at HNO ⊢
  have hrb1 : -2147483648 ≤ r := by rw [← hr, IntKind.wrap_i32]; omega
  have hrb2 : r ≤ 2147483647 := by rw [← hr, IntKind.wrap_i32]; omega
  have q0 : (r == 0) = false := by rw [beq_eq_false_iff_ne]; omega
  have q16 : (r == 16) = false := by rw [beq_eq_false_iff_ne]; omega
  clear h1 h2
  have HNaN := Hid.mk' (fun W => nan_any W)
  clear hA hu hRes hMA hsg0 hz0 hsg
  clear hUA
  go_enter Tryz.func9, Tryz.ntmps9
  go_wp2_with fail
  refine (runits_any s _ (by omega)).mono ?_
  rintro e w1 ⟨v1, rfl, o1, b1⟩
  have HR := Hid.mk' (Rd.own o1)
  have HF := Hid.mk' (rfront_any (uns s) (uns_lt s) (by rw [hlen]; omega) v1 w1 HR.out)
  obtain ⟨x1, c1, rfl, hx⟩ := own_slice' o1
  have hcap : s.size / 2 ≤ c1 := by
    rcases o1.2 with ⟨e, h⟩ | ⟨g, cap, cur, e, _, _, h, _⟩
    · omega
    · simp at e; omega
  have hcm : (c1 : Int) ≤ 9223372036854775807 := by
    rcases o1.2 with ⟨e, _⟩ | ⟨g, cap, cur, e, _, _, _, h, _⟩
    · simp at e; omega
    · simp at e; unfold maxLen at h; omega
  obtain ⟨f, hf⟩ : ∃ f, frontN (uns s) = f := ⟨_, rfl⟩
  rw [hf] at HF hfl
  rw [hlen] at hfl
  have f1 : (0 : Int) ≤ (f : Int) := by omega
  have f2 : (f : Int) ≤ ((s.size / 2 : Nat) : Int) := by omega
  have f3 : ((s.size / 2 : Nat) : Int) ≤ (c1 : Int) := by omega
  have HX := Hid.mk' hx
  have HFE := Hid.mk' hf
  clear hx hf
  obtain ⟨n9, hn9⟩ : ∃ n9, s.size / 2 = n9 := ⟨_, rfl⟩
  rw [hn9] at HF hfl f2 f3 hcap hlen HX o1 HR ⊢
  have hnl9 : (n9 : Int) ≤ 10000 := by omega
  go_wp2_with fail
  refine HF.out.mono ?_
  rintro e w2 ⟨rfl, b2⟩
  have b12 : Below w.heap.size w w2 := b1.trans (b2.mono b1.size)
  obtain ⟨d, hd⟩ : ∃ d, (uns s).drop f = d := ⟨_, rfl⟩
  have hdl : d.length = n9 - f := by rw [← hd, List.length_drop, hlen]
  have HU9 : Hid (∀ q ∈ d, q < 65536) := fun q hq => uns_lt s q (by rw [← hd] at hq; exact List.mem_of_mem_drop hq)
  have HMk : Hid (∀ v W, Rd W v d → Calls Tryz.prog 35 #[v] W fun e w' => e = .returned (.string (bhd s)) ∧ Below W.heap.size W w') := fun v W hv => by
    have := rmake_any d HU9.out (by omega) v W hv
    have e : (⟨(mkB d).toArray⟩ : ByteArray) = bhd s := by unfold bhd; rw [HFE.out, hd]
    rw [e] at this
    exact this
  have HR2 := Hid.mk' (HR.out.below b2)
  have HB12 := Hid.mk' b12
  obtain ⟨bh, hbh⟩ : ∃ bh, bhd s = bh := ⟨_, rfl⟩
  rw [hbh] at HMk HAsc
  rcases HX.out with ⟨hx1, hx2, hx3⟩ | ⟨g, hx1, hg⟩
  · have hf0 : f = 0 := by omega
    have HRd : Hid (Rd w2 (.slice none 0 0) d) := .inl ⟨0, by rw [hdl]; simp; omega, List.eq_nil_of_length_eq_zero (by omega)⟩
    have HK := Hid.mk' (HMk.out _ w2 HRd.out)
    clear HX HR HR2 HF hd o1 hn9 HFE HMk HRd HU9 b1 b2 b12 hbh
    subst hx1 hx2 hx3 hf0
    go_wp2_with fail
    refine HK.out.mono ?_
    rintro e w3 ⟨rfl, b3⟩
    have b03 : Below w.heap.size w w3 := HB12.out.trans (b3.mono HB12.out.size)
    clear b3 HB12 HK
    go_wp2_with fail
    refine (HAsc.out _).mono ?_
    rintro e w4 ⟨rfl, b4⟩
    have b04 : Below w.heap.size w w4 := b03.trans (b4.mono b03.size)
    clear b03 b4
    go_wp2_with (go_at_call 29; refine (HNaN.out _).mono ?_; rintro e w5 ⟨rfl, hw5⟩; rw [hw5]; clear hw5 w5)
    go_ret
    exact ⟨by rw [HNO.out]; rfl, b04⟩
  · have hcc : ∀ (j : Nat) (h : j < n9), w2.cell? ⟨g, j, none⟩ = some (.int .u16 ((uns s)[j]'(by omega) : Nat)) := by
      rcases HR2.out with ⟨c', e1, e2⟩ | ⟨g', o, c', e1, hg', hc⟩
      · intro j h
        have : (uns s).length = 0 := by rw [e2]; rfl
        omega
      · intro j h
        have e3 : g' = g ∧ o = 0 := by
          rw [hx1] at e1
          simp at e1
          omega
        have := hc j (by omega)
        rw [e3.1, e3.2, Nat.zero_add] at this
        exact this
    have hgl : g < w2.heap.size := by
      have h2 := (o1.lt g (by rw [hx1]; rfl)).2
      exact Nat.lt_of_lt_of_le h2 b2.size
    have HD2 : Hid (∀ k o, n9 - f = 0 → Rd w2 (.slice (some ⟨g, o, none⟩) (n9 - f) k) d) := fun k o h0 => .inr ⟨g, o, k, by rw [hdl], hgl, fun j hj => by omega⟩
    have HD3 : Hid (Rd w2 (.slice (some ⟨g, f, none⟩) (n9 - f) (c1 - f)) d) := .inr ⟨g, f, c1 - f, by rw [hdl], hgl, fun j hj => by
      rw [hcc (f + j) (by omega)]
      simp [← hd]⟩
    clear HX HR HR2 HF hd hn9 HFE hcc o1 HU9 b1 b2 b12 hbh
    subst hx1
    go_wp2_with fail
    · have HK := Hid.mk' (HMk.out _ w2 (HD2.out 0 0 (by omega)))
      clear HD2 HD3 HMk
      refine HK.out.mono ?_
      rintro e w3 ⟨rfl, b3⟩
      have b03 : Below w.heap.size w w3 := HB12.out.trans (b3.mono HB12.out.size)
      clear b3 HB12 HK
      go_wp2_with fail
      refine (HAsc.out _).mono ?_
      rintro e w4 ⟨rfl, b4⟩
      have b04 : Below w.heap.size w w4 := b03.trans (b4.mono b03.size)
      clear b03 b4
      go_wp2_with (go_at_call 29; refine (HNaN.out _).mono ?_; rintro e w5 ⟨rfl, hw5⟩; rw [hw5]; clear hw5 w5)
      go_ret
      exact ⟨by rw [HNO.out]; rfl, b04⟩
    · have HK := Hid.mk' (HMk.out _ w2 HD3.out)
      clear HD2 HD3 HMk
      refine HK.out.mono ?_
      rintro e w3 ⟨rfl, b3⟩
      have b03 : Below w.heap.size w w3 := HB12.out.trans (b3.mono HB12.out.size)
      clear b3 HB12 HK
      go_wp2_with fail
      refine (HAsc.out _).mono ?_
      rintro e w4 ⟨rfl, b4⟩
      have b04 : Below w.heap.size w w4 := b03.trans (b4.mono b03.size)
      clear b03 b4
      go_wp2_with (go_at_call 29; refine (HNaN.out _).mono ?_; rintro e w5 ⟨rfl, hw5⟩; rw [hw5]; clear hw5 w5)
      go_ret
      exact ⟨by rw [HNO.out]; rfl, b04⟩
set_option maxHeartbeats 4000000 in
set_option maxRecDepth 100000 in
theorem rwhole_p7 (s : ByteArray) (base : Int) (w : World) (hs : (s.size : Int) ≤ 10000) (hl : Hid (LaidN w)) (hlb : Hid (LaidB w)) (r : Int) (hr : IntKind.i32.wrap base = r) (A u : ByteArray) (hA : Sb (nb ((uns (bhd s)).map ascN)) = A) (hu : unsT A = u) (hsg : 0 < A.size ∧ by' A 0 = 43)
    (h1 : r ≠ 0) (h2 : r ≠ 16) (h3 : 36 < r) :
    Calls Tryz.prog 9 #[.string s, .int .i64 base] w fun e w' => e = .returned (.float .f64 (wRes r A)) ∧ Below w.heap.size w w' := by
  have hAs : (A.size : Int) ≤ 10000 := by rw [← hA, asc_size]; have := bhd_size s; omega
  have hlen := uns_length s
  have hfl := frontN_le (uns s)
  have hbt := PlainAid.get_bt A
  have hz0 := bt_by A 0
  have HAsc := Hid.mk' (fun W => asc3_any (bhd s) W (by have := bhd_size s; omega))
  rw [hA] at HAsc
  have hsg0 : sgnN A = true := by unfold sgnN; exact decide_eq_true (by omega)
  have hUA : A.extract 1 A.size = u := by rw [← hu]; unfold unsT; rw [hsg0, if_pos rfl]; rfl
  have hMA : minusN A = false := by unfold minusN; rw [hsg0, Bool.true_and]; exact decide_eq_false (by omega)
  have hne : A.toList.isEmpty = false := ne_empty (by omega)
  have hA0 : (0 : Int) < A.size := by omega
  have hz : PlainAid.bt A 0 = 43 := by omega
  have hA1 : (1 : Int) ≤ A.size := by omega
  have HUA := Hid.mk' hUA
  have hus : (u.size : Int) ≤ 20000 := by rw [← hUA, ByteArray.size_extract]; omega
  have hNo : wRes r A = 9221120237041090561 := by
    have hWR : wR r u = r := by unfold wR; rw [if_neg (fun q => by omega), if_neg h1]
    have hno : wNo r u = true := by unfold wNo; rw [hWR]; exact decide_eq_true (by omega)
    unfold wRes
    rw [hu, hno]
    exact if_pos rfl
  have HNO := Hid.mk' hNo
  obtain ⟨Res, hRes⟩ : ∃ Res, wRes r A = Res := ⟨_, rfl⟩
  rw [hRes] at HNO ⊢
  have hrb1 : -2147483648 ≤ r := by rw [← hr, IntKind.wrap_i32]; omega
  have hrb2 : r ≤ 2147483647 := by rw [← hr, IntKind.wrap_i32]; omega
  have q0 : (r == 0) = false := by rw [beq_eq_false_iff_ne]; omega
  have q16 : (r == 16) = false := by rw [beq_eq_false_iff_ne]; omega
  clear h1 h2
  have HNaN := Hid.mk' (fun W => nan_any W)
  clear hA hu hRes hMA hsg0 hz0 hsg
  clear hUA
  go_enter Tryz.func9, Tryz.ntmps9
  go_wp2_with fail
  refine (runits_any s _ (by omega)).mono ?_
  rintro e w1 ⟨v1, rfl, o1, b1⟩
  have HR := Hid.mk' (Rd.own o1)
  have HF := Hid.mk' (rfront_any (uns s) (uns_lt s) (by rw [hlen]; omega) v1 w1 HR.out)
  obtain ⟨x1, c1, rfl, hx⟩ := own_slice' o1
  have hcap : s.size / 2 ≤ c1 := by
    rcases o1.2 with ⟨e, h⟩ | ⟨g, cap, cur, e, _, _, h, _⟩
    · omega
    · simp at e; omega
  have hcm : (c1 : Int) ≤ 9223372036854775807 := by
    rcases o1.2 with ⟨e, _⟩ | ⟨g, cap, cur, e, _, _, _, h, _⟩
    · simp at e; omega
    · simp at e; unfold maxLen at h; omega
  obtain ⟨f, hf⟩ : ∃ f, frontN (uns s) = f := ⟨_, rfl⟩
  rw [hf] at HF hfl
  rw [hlen] at hfl
  have f1 : (0 : Int) ≤ (f : Int) := by omega
  have f2 : (f : Int) ≤ ((s.size / 2 : Nat) : Int) := by omega
  have f3 : ((s.size / 2 : Nat) : Int) ≤ (c1 : Int) := by omega
  have HX := Hid.mk' hx
  have HFE := Hid.mk' hf
  clear hx hf
  obtain ⟨n9, hn9⟩ : ∃ n9, s.size / 2 = n9 := ⟨_, rfl⟩
  rw [hn9] at HF hfl f2 f3 hcap hlen HX o1 HR ⊢
  have hnl9 : (n9 : Int) ≤ 10000 := by omega
  go_wp2_with fail
  refine HF.out.mono ?_
  rintro e w2 ⟨rfl, b2⟩
  have b12 : Below w.heap.size w w2 := b1.trans (b2.mono b1.size)
  obtain ⟨d, hd⟩ : ∃ d, (uns s).drop f = d := ⟨_, rfl⟩
  have hdl : d.length = n9 - f := by rw [← hd, List.length_drop, hlen]
  have HU9 : Hid (∀ q ∈ d, q < 65536) := fun q hq => uns_lt s q (by rw [← hd] at hq; exact List.mem_of_mem_drop hq)
  have HMk : Hid (∀ v W, Rd W v d → Calls Tryz.prog 35 #[v] W fun e w' => e = .returned (.string (bhd s)) ∧ Below W.heap.size W w') := fun v W hv => by
    have := rmake_any d HU9.out (by omega) v W hv
    have e : (⟨(mkB d).toArray⟩ : ByteArray) = bhd s := by unfold bhd; rw [HFE.out, hd]
    rw [e] at this
    exact this
  have HR2 := Hid.mk' (HR.out.below b2)
  have HB12 := Hid.mk' b12
  obtain ⟨bh, hbh⟩ : ∃ bh, bhd s = bh := ⟨_, rfl⟩
  rw [hbh] at HMk HAsc
  rcases HX.out with ⟨hx1, hx2, hx3⟩ | ⟨g, hx1, hg⟩
  · have hf0 : f = 0 := by omega
    have HRd : Hid (Rd w2 (.slice none 0 0) d) := .inl ⟨0, by rw [hdl]; simp; omega, List.eq_nil_of_length_eq_zero (by omega)⟩
    have HK := Hid.mk' (HMk.out _ w2 HRd.out)
    clear HX HR HR2 HF hd o1 hn9 HFE HMk HRd HU9 b1 b2 b12 hbh
    subst hx1 hx2 hx3 hf0
    go_wp2_with fail
    refine HK.out.mono ?_
    rintro e w3 ⟨rfl, b3⟩
    have b03 : Below w.heap.size w w3 := HB12.out.trans (b3.mono HB12.out.size)
    clear b3 HB12 HK
    go_wp2_with fail
    refine (HAsc.out _).mono ?_
    rintro e w4 ⟨rfl, b4⟩
    have b04 : Below w.heap.size w w4 := b03.trans (b4.mono b03.size)
    clear b03 b4
    go_wp2_with (go_at_call 29; refine (HNaN.out _).mono ?_; rintro e w5 ⟨rfl, hw5⟩; rw [hw5]; clear hw5 w5)
    go_ret
    exact ⟨by rw [HNO.out]; rfl, b04⟩
  · have hcc : ∀ (j : Nat) (h : j < n9), w2.cell? ⟨g, j, none⟩ = some (.int .u16 ((uns s)[j]'(by omega) : Nat)) := by
      rcases HR2.out with ⟨c', e1, e2⟩ | ⟨g', o, c', e1, hg', hc⟩
      · intro j h
        have : (uns s).length = 0 := by rw [e2]; rfl
        omega
      · intro j h
        have e3 : g' = g ∧ o = 0 := by
          rw [hx1] at e1
          simp at e1
          omega
        have := hc j (by omega)
        rw [e3.1, e3.2, Nat.zero_add] at this
        exact this
    have hgl : g < w2.heap.size := by
      have h2 := (o1.lt g (by rw [hx1]; rfl)).2
      exact Nat.lt_of_lt_of_le h2 b2.size
    have HD2 : Hid (∀ k o, n9 - f = 0 → Rd w2 (.slice (some ⟨g, o, none⟩) (n9 - f) k) d) := fun k o h0 => .inr ⟨g, o, k, by rw [hdl], hgl, fun j hj => by omega⟩
    have HD3 : Hid (Rd w2 (.slice (some ⟨g, f, none⟩) (n9 - f) (c1 - f)) d) := .inr ⟨g, f, c1 - f, by rw [hdl], hgl, fun j hj => by
      rw [hcc (f + j) (by omega)]
      simp [← hd]⟩
    clear HX HR HR2 HF hd hn9 HFE hcc o1 HU9 b1 b2 b12 hbh
    subst hx1
    go_wp2_with fail
    · have HK := Hid.mk' (HMk.out _ w2 (HD2.out 0 0 (by omega)))
      clear HD2 HD3 HMk
      refine HK.out.mono ?_
      rintro e w3 ⟨rfl, b3⟩
      have b03 : Below w.heap.size w w3 := HB12.out.trans (b3.mono HB12.out.size)
      clear b3 HB12 HK
      go_wp2_with fail
      refine (HAsc.out _).mono ?_
      rintro e w4 ⟨rfl, b4⟩
      have b04 : Below w.heap.size w w4 := b03.trans (b4.mono b03.size)
      clear b03 b4
      go_wp2_with (go_at_call 29; refine (HNaN.out _).mono ?_; rintro e w5 ⟨rfl, hw5⟩; rw [hw5]; clear hw5 w5)
      go_ret
      exact ⟨by rw [HNO.out]; rfl, b04⟩
    · have HK := Hid.mk' (HMk.out _ w2 HD3.out)
      clear HD2 HD3 HMk
      refine HK.out.mono ?_
      rintro e w3 ⟨rfl, b3⟩
      have b03 : Below w.heap.size w w3 := HB12.out.trans (b3.mono HB12.out.size)
      clear b3 HB12 HK
      go_wp2_with fail
      refine (HAsc.out _).mono ?_
      rintro e w4 ⟨rfl, b4⟩
      have b04 : Below w.heap.size w w4 := b03.trans (b4.mono b03.size)
      clear b03 b4
      go_wp2_with (go_at_call 29; refine (HNaN.out _).mono ?_; rintro e w5 ⟨rfl, hw5⟩; rw [hw5]; clear hw5 w5)
      go_ret
      exact ⟨by rw [HNO.out]; rfl, b04⟩
set_option maxHeartbeats 4000000 in
set_option maxRecDepth 100000 in
theorem rwhole_m1 (s : ByteArray) (base : Int) (w : World) (hs : (s.size : Int) ≤ 10000) (hl : Hid (LaidN w)) (hlb : Hid (LaidB w)) (r : Int) (hr : IntKind.i32.wrap base = r) (A u : ByteArray) (hA : Sb (nb ((uns (bhd s)).map ascN)) = A) (hu : unsT A = u) (hsg : 0 < A.size ∧ by' A 0 = 45)
    (hr0 : r = 0) (hp : prefN u = 16) :
    Calls Tryz.prog 9 #[.string s, .int .i64 base] w fun e w' => e = .returned (.float .f64 (wRes r A)) ∧ Below w.heap.size w w' := by
  have hAs : (A.size : Int) ≤ 10000 := by rw [← hA, asc_size]; have := bhd_size s; omega
  have hlen := uns_length s
  have hfl := frontN_le (uns s)
  have hbt := PlainAid.get_bt A
  have hz0 := bt_by A 0
  have HAsc := Hid.mk' (fun W => asc3_any (bhd s) W (by have := bhd_size s; omega))
  rw [hA] at HAsc
  have hsg0 : sgnN A = true := by unfold sgnN; exact decide_eq_true (by omega)
  have hUA : A.extract 1 A.size = u := by rw [← hu]; unfold unsT; rw [hsg0, if_pos rfl]; rfl
  have hMA : minusN A = true := by unfold minusN; rw [hsg0, Bool.true_and]; exact decide_eq_true (by omega)
  have hne : A.toList.isEmpty = false := ne_empty (by omega)
  have hA0 : (0 : Int) < A.size := by omega
  have hz : PlainAid.bt A 0 = 45 := by omega
  have hA1 : (1 : Int) ≤ A.size := by omega
  have HUA := Hid.mk' hUA
  have hus : (u.size : Int) ≤ 20000 := by rw [← hUA, ByteArray.size_extract]; omega
  have HLB := Hid.mk' (fun W => prefixed_any u W (by omega))
  have hu2 : (2 : Int) ≤ u.size := by
    rcases Nat.lt_or_ge u.size 2 with q | q
    · have : prefN u = 0 := by unfold prefN; rw [if_pos (.inl q)]
      omega
    · omega
  rw [hp] at HLB
  have hWR : wR r u = ((16 : Nat) : Int) := by unfold wR; rw [if_pos ⟨by omega, hp⟩]; rfl
  have hWT : wT r u = u.extract 2 u.size := by unfold wT; rw [if_pos ⟨by omega, hp⟩]
  obtain ⟨T1, hT1⟩ : ∃ T1, u.extract 2 u.size = T1 := ⟨_, rfl⟩
  rw [hT1] at hWT
  have hTs1 : (T1.size : Int) ≤ 20000 := by rw [← hT1]; rw [ByteArray.size_extract]; omega
  obtain ⟨n, hn⟩ : ∃ n, runN T1 0 ((16 : Nat) : Int) = n := ⟨_, rfl⟩
  have hnl := runN_le T1 0 ((16 : Nat) : Int)
  rw [hn] at hnl
  have HD := Hid.mk' (fun W => run_any T1 0 ((16 : Nat) : Int) W (by omega) (Nat.zero_le _))
  rw [hn] at HD
  have HN := Hid.mk' (fun W h1 h2 => rnear_run T1 16 n W hTs1 hn ⟨by omega, by omega⟩ h1 h2)
  have HY := Hid.mk' (fun h0 => res_yes r A u T1 16 n hu hWR hWT hn h0 ⟨by omega, by omega⟩)
  have HNO := Hid.mk' (fun h0 => res_no r A u T1 16 n hu hWR hWT hn h0)
  rw [hMA] at HY
  obtain ⟨V, hV⟩ : ∃ V, NF (numN (T1.extract 0 n) 16 n) = V := ⟨_, rfl⟩
  have hVl : V ≤ 9218868437227405312 := by rw [← hV]; exact NF_lt _
  rw [hV] at HN HY
  obtain ⟨Z, hZ⟩ : ∃ Z, sg true V = Z := ⟨_, rfl⟩
  rw [hZ] at HY
  have hmul : ∀ W, (binOp .mul 22 (.float .f64 13830554455654793216) (.float .f64 V)).run Tryz.prog W = .ok (.float .f64 Z) W := fun W => run_mul 22 13830554455654793216 V Z W (by rw [← hZ]; exact mul_sg true V hVl)
  have HT1 := Hid.mk' hT1
  obtain ⟨Res, hRes⟩ : ∃ Res, wRes r A = Res := ⟨_, rfl⟩
  rw [hRes] at HNO ⊢
  rw [hRes] at HY
  subst hr0
  have HNaN := Hid.mk' (fun W => nan_any W)
  clear hA hu hRes hMA hsg0 hz0 hsg
  clear hUA
  clear hn hWR hWT hT1 hV hZ
  go_enter Tryz.func9, Tryz.ntmps9
  go_wp2_with fail
  refine (runits_any s _ (by omega)).mono ?_
  rintro e w1 ⟨v1, rfl, o1, b1⟩
  have HR := Hid.mk' (Rd.own o1)
  have HF := Hid.mk' (rfront_any (uns s) (uns_lt s) (by rw [hlen]; omega) v1 w1 HR.out)
  obtain ⟨x1, c1, rfl, hx⟩ := own_slice' o1
  have hcap : s.size / 2 ≤ c1 := by
    rcases o1.2 with ⟨e, h⟩ | ⟨g, cap, cur, e, _, _, h, _⟩
    · omega
    · simp at e; omega
  have hcm : (c1 : Int) ≤ 9223372036854775807 := by
    rcases o1.2 with ⟨e, _⟩ | ⟨g, cap, cur, e, _, _, _, h, _⟩
    · simp at e; omega
    · simp at e; unfold maxLen at h; omega
  obtain ⟨f, hf⟩ : ∃ f, frontN (uns s) = f := ⟨_, rfl⟩
  rw [hf] at HF hfl
  rw [hlen] at hfl
  have f1 : (0 : Int) ≤ (f : Int) := by omega
  have f2 : (f : Int) ≤ ((s.size / 2 : Nat) : Int) := by omega
  have f3 : ((s.size / 2 : Nat) : Int) ≤ (c1 : Int) := by omega
  have HX := Hid.mk' hx
  have HFE := Hid.mk' hf
  clear hx hf
  obtain ⟨n9, hn9⟩ : ∃ n9, s.size / 2 = n9 := ⟨_, rfl⟩
  rw [hn9] at HF hfl f2 f3 hcap hlen HX o1 HR ⊢
  have hnl9 : (n9 : Int) ≤ 10000 := by omega
  go_wp2_with fail
  refine HF.out.mono ?_
  rintro e w2 ⟨rfl, b2⟩
  have b12 : Below w.heap.size w w2 := b1.trans (b2.mono b1.size)
  obtain ⟨d, hd⟩ : ∃ d, (uns s).drop f = d := ⟨_, rfl⟩
  have hdl : d.length = n9 - f := by rw [← hd, List.length_drop, hlen]
  have HU9 : Hid (∀ q ∈ d, q < 65536) := fun q hq => uns_lt s q (by rw [← hd] at hq; exact List.mem_of_mem_drop hq)
  have HMk : Hid (∀ v W, Rd W v d → Calls Tryz.prog 35 #[v] W fun e w' => e = .returned (.string (bhd s)) ∧ Below W.heap.size W w') := fun v W hv => by
    have := rmake_any d HU9.out (by omega) v W hv
    have e : (⟨(mkB d).toArray⟩ : ByteArray) = bhd s := by unfold bhd; rw [HFE.out, hd]
    rw [e] at this
    exact this
  have HR2 := Hid.mk' (HR.out.below b2)
  have HB12 := Hid.mk' b12
  obtain ⟨bh, hbh⟩ : ∃ bh, bhd s = bh := ⟨_, rfl⟩
  rw [hbh] at HMk HAsc
  rcases HX.out with ⟨hx1, hx2, hx3⟩ | ⟨g, hx1, hg⟩
  · have hf0 : f = 0 := by omega
    have HRd : Hid (Rd w2 (.slice none 0 0) d) := .inl ⟨0, by rw [hdl]; simp; omega, List.eq_nil_of_length_eq_zero (by omega)⟩
    have HK := Hid.mk' (HMk.out _ w2 HRd.out)
    clear HX HR HR2 HF hd o1 hn9 HFE HMk HRd HU9 b1 b2 b12 hbh
    subst hx1 hx2 hx3 hf0
    go_wp2_with fail
    refine HK.out.mono ?_
    rintro e w3 ⟨rfl, b3⟩
    have b03 : Below w.heap.size w w3 := HB12.out.trans (b3.mono HB12.out.size)
    clear b3 HB12 HK
    go_wp2_with fail
    refine (HAsc.out _).mono ?_
    rintro e w4 ⟨rfl, b4⟩
    have b04 : Below w.heap.size w w4 := b03.trans (b4.mono b03.size)
    clear b03 b4
    have hl4 : LaidN w4 := hl.out.below b04
    have hb4 : LaidB w4 := hlb.out.below b04
    have HN4 := Hid.mk' (HN.out w4 hl4 hb4)
    clear hl4 hb4 HN
    go_wp2_with fail
    rw [HUA.out]
    refine (HLB.out _).mono ?_
    rintro e w5 ⟨rfl, hw5⟩
    rw [hw5]; clear hw5 w5
    go_wp2_with fail
    rw [HT1.out]
    refine (HD.out _).mono ?_
    rintro e w6 ⟨rfl, hw6⟩
    rw [hw6]; clear hw6 w6
    by_cases h0 : n = 0
    · have q : ((n : Int) == 0) = true := by rw [beq_iff_eq]; omega
      have HE := Hid.mk' (HNO.out h0)
      clear HNO HY h0
      go_wp2_with (go_at_call 29; refine (HNaN.out _).mono ?_; rintro e w7 ⟨rfl, hw7⟩; rw [hw7]; clear hw7 w7)
      go_ret
      exact ⟨by rw [HE.out]; rfl, b04⟩
    · have q : ((n : Int) == 0) = false := by rw [beq_eq_false_iff_ne]; omega
      have hnle : (n : Int) ≤ T1.size := by omega
      have HE := Hid.mk' (HY.out (by omega))
      clear HNO HY h0
      go_wp2_with fail
      refine HN4.out.mono ?_
      rintro e w7 ⟨rfl, b7⟩
      have b07 : Below w.heap.size w w7 := b04.trans (b7.mono b04.size)
      clear b04 b7
      go_wp2
      go_ret
      exact ⟨by rw [HE.out]; rfl, b07⟩
  · have hcc : ∀ (j : Nat) (h : j < n9), w2.cell? ⟨g, j, none⟩ = some (.int .u16 ((uns s)[j]'(by omega) : Nat)) := by
      rcases HR2.out with ⟨c', e1, e2⟩ | ⟨g', o, c', e1, hg', hc⟩
      · intro j h
        have : (uns s).length = 0 := by rw [e2]; rfl
        omega
      · intro j h
        have e3 : g' = g ∧ o = 0 := by
          rw [hx1] at e1
          simp at e1
          omega
        have := hc j (by omega)
        rw [e3.1, e3.2, Nat.zero_add] at this
        exact this
    have hgl : g < w2.heap.size := by
      have h2 := (o1.lt g (by rw [hx1]; rfl)).2
      exact Nat.lt_of_lt_of_le h2 b2.size
    have HD2 : Hid (∀ k o, n9 - f = 0 → Rd w2 (.slice (some ⟨g, o, none⟩) (n9 - f) k) d) := fun k o h0 => .inr ⟨g, o, k, by rw [hdl], hgl, fun j hj => by omega⟩
    have HD3 : Hid (Rd w2 (.slice (some ⟨g, f, none⟩) (n9 - f) (c1 - f)) d) := .inr ⟨g, f, c1 - f, by rw [hdl], hgl, fun j hj => by
      rw [hcc (f + j) (by omega)]
      simp [← hd]⟩
    clear HX HR HR2 HF hd hn9 HFE hcc o1 HU9 b1 b2 b12 hbh
    subst hx1
    go_wp2_with fail
    · have HK := Hid.mk' (HMk.out _ w2 (HD2.out 0 0 (by omega)))
      clear HD2 HD3 HMk
      refine HK.out.mono ?_
      rintro e w3 ⟨rfl, b3⟩
      have b03 : Below w.heap.size w w3 := HB12.out.trans (b3.mono HB12.out.size)
      clear b3 HB12 HK
      go_wp2_with fail
      refine (HAsc.out _).mono ?_
      rintro e w4 ⟨rfl, b4⟩
      have b04 : Below w.heap.size w w4 := b03.trans (b4.mono b03.size)
      clear b03 b4
      have hl4 : LaidN w4 := hl.out.below b04
      have hb4 : LaidB w4 := hlb.out.below b04
      have HN4 := Hid.mk' (HN.out w4 hl4 hb4)
      clear hl4 hb4 HN
      go_wp2_with fail
      rw [HUA.out]
      refine (HLB.out _).mono ?_
      rintro e w5 ⟨rfl, hw5⟩
      rw [hw5]; clear hw5 w5
      go_wp2_with fail
      rw [HT1.out]
      refine (HD.out _).mono ?_
      rintro e w6 ⟨rfl, hw6⟩
      rw [hw6]; clear hw6 w6
      by_cases h0 : n = 0
      · have q : ((n : Int) == 0) = true := by rw [beq_iff_eq]; omega
        have HE := Hid.mk' (HNO.out h0)
        clear HNO HY h0
        go_wp2_with (go_at_call 29; refine (HNaN.out _).mono ?_; rintro e w7 ⟨rfl, hw7⟩; rw [hw7]; clear hw7 w7)
        go_ret
        exact ⟨by rw [HE.out]; rfl, b04⟩
      · have q : ((n : Int) == 0) = false := by rw [beq_eq_false_iff_ne]; omega
        have hnle : (n : Int) ≤ T1.size := by omega
        have HE := Hid.mk' (HY.out (by omega))
        clear HNO HY h0
        go_wp2_with fail
        refine HN4.out.mono ?_
        rintro e w7 ⟨rfl, b7⟩
        have b07 : Below w.heap.size w w7 := b04.trans (b7.mono b04.size)
        clear b04 b7
        go_wp2
        go_ret
        exact ⟨by rw [HE.out]; rfl, b07⟩
    · have HK := Hid.mk' (HMk.out _ w2 HD3.out)
      clear HD2 HD3 HMk
      refine HK.out.mono ?_
      rintro e w3 ⟨rfl, b3⟩
      have b03 : Below w.heap.size w w3 := HB12.out.trans (b3.mono HB12.out.size)
      clear b3 HB12 HK
      go_wp2_with fail
      refine (HAsc.out _).mono ?_
      rintro e w4 ⟨rfl, b4⟩
      have b04 : Below w.heap.size w w4 := b03.trans (b4.mono b03.size)
      clear b03 b4
      have hl4 : LaidN w4 := hl.out.below b04
      have hb4 : LaidB w4 := hlb.out.below b04
      have HN4 := Hid.mk' (HN.out w4 hl4 hb4)
      clear hl4 hb4 HN
      go_wp2_with fail
      rw [HUA.out]
      refine (HLB.out _).mono ?_
      rintro e w5 ⟨rfl, hw5⟩
      rw [hw5]; clear hw5 w5
      go_wp2_with fail
      rw [HT1.out]
      refine (HD.out _).mono ?_
      rintro e w6 ⟨rfl, hw6⟩
      rw [hw6]; clear hw6 w6
      by_cases h0 : n = 0
      · have q : ((n : Int) == 0) = true := by rw [beq_iff_eq]; omega
        have HE := Hid.mk' (HNO.out h0)
        clear HNO HY h0
        go_wp2_with (go_at_call 29; refine (HNaN.out _).mono ?_; rintro e w7 ⟨rfl, hw7⟩; rw [hw7]; clear hw7 w7)
        go_ret
        exact ⟨by rw [HE.out]; rfl, b04⟩
      · have q : ((n : Int) == 0) = false := by rw [beq_eq_false_iff_ne]; omega
        have hnle : (n : Int) ≤ T1.size := by omega
        have HE := Hid.mk' (HY.out (by omega))
        clear HNO HY h0
        go_wp2_with fail
        refine HN4.out.mono ?_
        rintro e w7 ⟨rfl, b7⟩
        have b07 : Below w.heap.size w w7 := b04.trans (b7.mono b04.size)
        clear b04 b7
        go_wp2
        go_ret
        exact ⟨by rw [HE.out]; rfl, b07⟩
set_option maxHeartbeats 4000000 in
set_option maxRecDepth 100000 in
theorem rwhole_m2 (s : ByteArray) (base : Int) (w : World) (hs : (s.size : Int) ≤ 10000) (hl : Hid (LaidN w)) (hlb : Hid (LaidB w)) (r : Int) (hr : IntKind.i32.wrap base = r) (A u : ByteArray) (hA : Sb (nb ((uns (bhd s)).map ascN)) = A) (hu : unsT A = u) (hsg : 0 < A.size ∧ by' A 0 = 45)
    (hr0 : r = 16) (hp : prefN u = 16) :
    Calls Tryz.prog 9 #[.string s, .int .i64 base] w fun e w' => e = .returned (.float .f64 (wRes r A)) ∧ Below w.heap.size w w' := by
  have hAs : (A.size : Int) ≤ 10000 := by rw [← hA, asc_size]; have := bhd_size s; omega
  have hlen := uns_length s
  have hfl := frontN_le (uns s)
  have hbt := PlainAid.get_bt A
  have hz0 := bt_by A 0
  have HAsc := Hid.mk' (fun W => asc3_any (bhd s) W (by have := bhd_size s; omega))
  rw [hA] at HAsc
  have hsg0 : sgnN A = true := by unfold sgnN; exact decide_eq_true (by omega)
  have hUA : A.extract 1 A.size = u := by rw [← hu]; unfold unsT; rw [hsg0, if_pos rfl]; rfl
  have hMA : minusN A = true := by unfold minusN; rw [hsg0, Bool.true_and]; exact decide_eq_true (by omega)
  have hne : A.toList.isEmpty = false := ne_empty (by omega)
  have hA0 : (0 : Int) < A.size := by omega
  have hz : PlainAid.bt A 0 = 45 := by omega
  have hA1 : (1 : Int) ≤ A.size := by omega
  have HUA := Hid.mk' hUA
  have hus : (u.size : Int) ≤ 20000 := by rw [← hUA, ByteArray.size_extract]; omega
  have HLB := Hid.mk' (fun W => prefixed_any u W (by omega))
  have hu2 : (2 : Int) ≤ u.size := by
    rcases Nat.lt_or_ge u.size 2 with q | q
    · have : prefN u = 0 := by unfold prefN; rw [if_pos (.inl q)]
      omega
    · omega
  rw [hp] at HLB
  have hWR : wR r u = ((16 : Nat) : Int) := by unfold wR; rw [if_pos ⟨by omega, hp⟩]; rfl
  have hWT : wT r u = u.extract 2 u.size := by unfold wT; rw [if_pos ⟨by omega, hp⟩]
  obtain ⟨T1, hT1⟩ : ∃ T1, u.extract 2 u.size = T1 := ⟨_, rfl⟩
  rw [hT1] at hWT
  have hTs1 : (T1.size : Int) ≤ 20000 := by rw [← hT1]; rw [ByteArray.size_extract]; omega
  obtain ⟨n, hn⟩ : ∃ n, runN T1 0 ((16 : Nat) : Int) = n := ⟨_, rfl⟩
  have hnl := runN_le T1 0 ((16 : Nat) : Int)
  rw [hn] at hnl
  have HD := Hid.mk' (fun W => run_any T1 0 ((16 : Nat) : Int) W (by omega) (Nat.zero_le _))
  rw [hn] at HD
  have HN := Hid.mk' (fun W h1 h2 => rnear_run T1 16 n W hTs1 hn ⟨by omega, by omega⟩ h1 h2)
  have HY := Hid.mk' (fun h0 => res_yes r A u T1 16 n hu hWR hWT hn h0 ⟨by omega, by omega⟩)
  have HNO := Hid.mk' (fun h0 => res_no r A u T1 16 n hu hWR hWT hn h0)
  rw [hMA] at HY
  obtain ⟨V, hV⟩ : ∃ V, NF (numN (T1.extract 0 n) 16 n) = V := ⟨_, rfl⟩
  have hVl : V ≤ 9218868437227405312 := by rw [← hV]; exact NF_lt _
  rw [hV] at HN HY
  obtain ⟨Z, hZ⟩ : ∃ Z, sg true V = Z := ⟨_, rfl⟩
  rw [hZ] at HY
  have hmul : ∀ W, (binOp .mul 22 (.float .f64 13830554455654793216) (.float .f64 V)).run Tryz.prog W = .ok (.float .f64 Z) W := fun W => run_mul 22 13830554455654793216 V Z W (by rw [← hZ]; exact mul_sg true V hVl)
  have HT1 := Hid.mk' hT1
  obtain ⟨Res, hRes⟩ : ∃ Res, wRes r A = Res := ⟨_, rfl⟩
  rw [hRes] at HNO ⊢
  rw [hRes] at HY
  subst hr0
  have HNaN := Hid.mk' (fun W => nan_any W)
  clear hA hu hRes hMA hsg0 hz0 hsg
  clear hUA
  clear hn hWR hWT hT1 hV hZ
  go_enter Tryz.func9, Tryz.ntmps9
  go_wp2_with fail
  refine (runits_any s _ (by omega)).mono ?_
  rintro e w1 ⟨v1, rfl, o1, b1⟩
  have HR := Hid.mk' (Rd.own o1)
  have HF := Hid.mk' (rfront_any (uns s) (uns_lt s) (by rw [hlen]; omega) v1 w1 HR.out)
  obtain ⟨x1, c1, rfl, hx⟩ := own_slice' o1
  have hcap : s.size / 2 ≤ c1 := by
    rcases o1.2 with ⟨e, h⟩ | ⟨g, cap, cur, e, _, _, h, _⟩
    · omega
    · simp at e; omega
  have hcm : (c1 : Int) ≤ 9223372036854775807 := by
    rcases o1.2 with ⟨e, _⟩ | ⟨g, cap, cur, e, _, _, _, h, _⟩
    · simp at e; omega
    · simp at e; unfold maxLen at h; omega
  obtain ⟨f, hf⟩ : ∃ f, frontN (uns s) = f := ⟨_, rfl⟩
  rw [hf] at HF hfl
  rw [hlen] at hfl
  have f1 : (0 : Int) ≤ (f : Int) := by omega
  have f2 : (f : Int) ≤ ((s.size / 2 : Nat) : Int) := by omega
  have f3 : ((s.size / 2 : Nat) : Int) ≤ (c1 : Int) := by omega
  have HX := Hid.mk' hx
  have HFE := Hid.mk' hf
  clear hx hf
  obtain ⟨n9, hn9⟩ : ∃ n9, s.size / 2 = n9 := ⟨_, rfl⟩
  rw [hn9] at HF hfl f2 f3 hcap hlen HX o1 HR ⊢
  have hnl9 : (n9 : Int) ≤ 10000 := by omega
  go_wp2_with fail
  refine HF.out.mono ?_
  rintro e w2 ⟨rfl, b2⟩
  have b12 : Below w.heap.size w w2 := b1.trans (b2.mono b1.size)
  obtain ⟨d, hd⟩ : ∃ d, (uns s).drop f = d := ⟨_, rfl⟩
  have hdl : d.length = n9 - f := by rw [← hd, List.length_drop, hlen]
  have HU9 : Hid (∀ q ∈ d, q < 65536) := fun q hq => uns_lt s q (by rw [← hd] at hq; exact List.mem_of_mem_drop hq)
  have HMk : Hid (∀ v W, Rd W v d → Calls Tryz.prog 35 #[v] W fun e w' => e = .returned (.string (bhd s)) ∧ Below W.heap.size W w') := fun v W hv => by
    have := rmake_any d HU9.out (by omega) v W hv
    have e : (⟨(mkB d).toArray⟩ : ByteArray) = bhd s := by unfold bhd; rw [HFE.out, hd]
    rw [e] at this
    exact this
  have HR2 := Hid.mk' (HR.out.below b2)
  have HB12 := Hid.mk' b12
  obtain ⟨bh, hbh⟩ : ∃ bh, bhd s = bh := ⟨_, rfl⟩
  rw [hbh] at HMk HAsc
  rcases HX.out with ⟨hx1, hx2, hx3⟩ | ⟨g, hx1, hg⟩
  · have hf0 : f = 0 := by omega
    have HRd : Hid (Rd w2 (.slice none 0 0) d) := .inl ⟨0, by rw [hdl]; simp; omega, List.eq_nil_of_length_eq_zero (by omega)⟩
    have HK := Hid.mk' (HMk.out _ w2 HRd.out)
    clear HX HR HR2 HF hd o1 hn9 HFE HMk HRd HU9 b1 b2 b12 hbh
    subst hx1 hx2 hx3 hf0
    go_wp2_with fail
    refine HK.out.mono ?_
    rintro e w3 ⟨rfl, b3⟩
    have b03 : Below w.heap.size w w3 := HB12.out.trans (b3.mono HB12.out.size)
    clear b3 HB12 HK
    go_wp2_with fail
    refine (HAsc.out _).mono ?_
    rintro e w4 ⟨rfl, b4⟩
    have b04 : Below w.heap.size w w4 := b03.trans (b4.mono b03.size)
    clear b03 b4
    have hl4 : LaidN w4 := hl.out.below b04
    have hb4 : LaidB w4 := hlb.out.below b04
    have HN4 := Hid.mk' (HN.out w4 hl4 hb4)
    clear hl4 hb4 HN
    go_wp2_with fail
    rw [HUA.out]
    refine (HLB.out _).mono ?_
    rintro e w5 ⟨rfl, hw5⟩
    rw [hw5]; clear hw5 w5
    go_wp2_with fail
    rw [HT1.out]
    refine (HD.out _).mono ?_
    rintro e w6 ⟨rfl, hw6⟩
    rw [hw6]; clear hw6 w6
    by_cases h0 : n = 0
    · have q : ((n : Int) == 0) = true := by rw [beq_iff_eq]; omega
      have HE := Hid.mk' (HNO.out h0)
      clear HNO HY h0
      go_wp2_with (go_at_call 29; refine (HNaN.out _).mono ?_; rintro e w7 ⟨rfl, hw7⟩; rw [hw7]; clear hw7 w7)
      go_ret
      exact ⟨by rw [HE.out]; rfl, b04⟩
    · have q : ((n : Int) == 0) = false := by rw [beq_eq_false_iff_ne]; omega
      have hnle : (n : Int) ≤ T1.size := by omega
      have HE := Hid.mk' (HY.out (by omega))
      clear HNO HY h0
      go_wp2_with fail
      refine HN4.out.mono ?_
      rintro e w7 ⟨rfl, b7⟩
      have b07 : Below w.heap.size w w7 := b04.trans (b7.mono b04.size)
      clear b04 b7
      go_wp2
      go_ret
      exact ⟨by rw [HE.out]; rfl, b07⟩
  · have hcc : ∀ (j : Nat) (h : j < n9), w2.cell? ⟨g, j, none⟩ = some (.int .u16 ((uns s)[j]'(by omega) : Nat)) := by
      rcases HR2.out with ⟨c', e1, e2⟩ | ⟨g', o, c', e1, hg', hc⟩
      · intro j h
        have : (uns s).length = 0 := by rw [e2]; rfl
        omega
      · intro j h
        have e3 : g' = g ∧ o = 0 := by
          rw [hx1] at e1
          simp at e1
          omega
        have := hc j (by omega)
        rw [e3.1, e3.2, Nat.zero_add] at this
        exact this
    have hgl : g < w2.heap.size := by
      have h2 := (o1.lt g (by rw [hx1]; rfl)).2
      exact Nat.lt_of_lt_of_le h2 b2.size
    have HD2 : Hid (∀ k o, n9 - f = 0 → Rd w2 (.slice (some ⟨g, o, none⟩) (n9 - f) k) d) := fun k o h0 => .inr ⟨g, o, k, by rw [hdl], hgl, fun j hj => by omega⟩
    have HD3 : Hid (Rd w2 (.slice (some ⟨g, f, none⟩) (n9 - f) (c1 - f)) d) := .inr ⟨g, f, c1 - f, by rw [hdl], hgl, fun j hj => by
      rw [hcc (f + j) (by omega)]
      simp [← hd]⟩
    clear HX HR HR2 HF hd hn9 HFE hcc o1 HU9 b1 b2 b12 hbh
    subst hx1
    go_wp2_with fail
    · have HK := Hid.mk' (HMk.out _ w2 (HD2.out 0 0 (by omega)))
      clear HD2 HD3 HMk
      refine HK.out.mono ?_
      rintro e w3 ⟨rfl, b3⟩
      have b03 : Below w.heap.size w w3 := HB12.out.trans (b3.mono HB12.out.size)
      clear b3 HB12 HK
      go_wp2_with fail
      refine (HAsc.out _).mono ?_
      rintro e w4 ⟨rfl, b4⟩
      have b04 : Below w.heap.size w w4 := b03.trans (b4.mono b03.size)
      clear b03 b4
      have hl4 : LaidN w4 := hl.out.below b04
      have hb4 : LaidB w4 := hlb.out.below b04
      have HN4 := Hid.mk' (HN.out w4 hl4 hb4)
      clear hl4 hb4 HN
      go_wp2_with fail
      rw [HUA.out]
      refine (HLB.out _).mono ?_
      rintro e w5 ⟨rfl, hw5⟩
      rw [hw5]; clear hw5 w5
      go_wp2_with fail
      rw [HT1.out]
      refine (HD.out _).mono ?_
      rintro e w6 ⟨rfl, hw6⟩
      rw [hw6]; clear hw6 w6
      by_cases h0 : n = 0
      · have q : ((n : Int) == 0) = true := by rw [beq_iff_eq]; omega
        have HE := Hid.mk' (HNO.out h0)
        clear HNO HY h0
        go_wp2_with (go_at_call 29; refine (HNaN.out _).mono ?_; rintro e w7 ⟨rfl, hw7⟩; rw [hw7]; clear hw7 w7)
        go_ret
        exact ⟨by rw [HE.out]; rfl, b04⟩
      · have q : ((n : Int) == 0) = false := by rw [beq_eq_false_iff_ne]; omega
        have hnle : (n : Int) ≤ T1.size := by omega
        have HE := Hid.mk' (HY.out (by omega))
        clear HNO HY h0
        go_wp2_with fail
        refine HN4.out.mono ?_
        rintro e w7 ⟨rfl, b7⟩
        have b07 : Below w.heap.size w w7 := b04.trans (b7.mono b04.size)
        clear b04 b7
        go_wp2
        go_ret
        exact ⟨by rw [HE.out]; rfl, b07⟩
    · have HK := Hid.mk' (HMk.out _ w2 HD3.out)
      clear HD2 HD3 HMk
      refine HK.out.mono ?_
      rintro e w3 ⟨rfl, b3⟩
      have b03 : Below w.heap.size w w3 := HB12.out.trans (b3.mono HB12.out.size)
      clear b3 HB12 HK
      go_wp2_with fail
      refine (HAsc.out _).mono ?_
      rintro e w4 ⟨rfl, b4⟩
      have b04 : Below w.heap.size w w4 := b03.trans (b4.mono b03.size)
      clear b03 b4
      have hl4 : LaidN w4 := hl.out.below b04
      have hb4 : LaidB w4 := hlb.out.below b04
      have HN4 := Hid.mk' (HN.out w4 hl4 hb4)
      clear hl4 hb4 HN
      go_wp2_with fail
      rw [HUA.out]
      refine (HLB.out _).mono ?_
      rintro e w5 ⟨rfl, hw5⟩
      rw [hw5]; clear hw5 w5
      go_wp2_with fail
      rw [HT1.out]
      refine (HD.out _).mono ?_
      rintro e w6 ⟨rfl, hw6⟩
      rw [hw6]; clear hw6 w6
      by_cases h0 : n = 0
      · have q : ((n : Int) == 0) = true := by rw [beq_iff_eq]; omega
        have HE := Hid.mk' (HNO.out h0)
        clear HNO HY h0
        go_wp2_with (go_at_call 29; refine (HNaN.out _).mono ?_; rintro e w7 ⟨rfl, hw7⟩; rw [hw7]; clear hw7 w7)
        go_ret
        exact ⟨by rw [HE.out]; rfl, b04⟩
      · have q : ((n : Int) == 0) = false := by rw [beq_eq_false_iff_ne]; omega
        have hnle : (n : Int) ≤ T1.size := by omega
        have HE := Hid.mk' (HY.out (by omega))
        clear HNO HY h0
        go_wp2_with fail
        refine HN4.out.mono ?_
        rintro e w7 ⟨rfl, b7⟩
        have b07 : Below w.heap.size w w7 := b04.trans (b7.mono b04.size)
        clear b04 b7
        go_wp2
        go_ret
        exact ⟨by rw [HE.out]; rfl, b07⟩
set_option maxHeartbeats 4000000 in
set_option maxRecDepth 100000 in
theorem rwhole_m3 (s : ByteArray) (base : Int) (w : World) (hs : (s.size : Int) ≤ 10000) (hl : Hid (LaidN w)) (hlb : Hid (LaidB w)) (r : Int) (hr : IntKind.i32.wrap base = r) (A u : ByteArray) (hA : Sb (nb ((uns (bhd s)).map ascN)) = A) (hu : unsT A = u) (hsg : 0 < A.size ∧ by' A 0 = 45)
    (hr0 : r = 0) (hp : prefN u ≠ 16) :
    Calls Tryz.prog 9 #[.string s, .int .i64 base] w fun e w' => e = .returned (.float .f64 (wRes r A)) ∧ Below w.heap.size w w' := by
  have hAs : (A.size : Int) ≤ 10000 := by rw [← hA, asc_size]; have := bhd_size s; omega
  have hlen := uns_length s
  have hfl := frontN_le (uns s)
  have hbt := PlainAid.get_bt A
  have hz0 := bt_by A 0
  have HAsc := Hid.mk' (fun W => asc3_any (bhd s) W (by have := bhd_size s; omega))
  rw [hA] at HAsc
  have hsg0 : sgnN A = true := by unfold sgnN; exact decide_eq_true (by omega)
  have hUA : A.extract 1 A.size = u := by rw [← hu]; unfold unsT; rw [hsg0, if_pos rfl]; rfl
  have hMA : minusN A = true := by unfold minusN; rw [hsg0, Bool.true_and]; exact decide_eq_true (by omega)
  have hne : A.toList.isEmpty = false := ne_empty (by omega)
  have hA0 : (0 : Int) < A.size := by omega
  have hz : PlainAid.bt A 0 = 45 := by omega
  have hA1 : (1 : Int) ≤ A.size := by omega
  have HUA := Hid.mk' hUA
  have hus : (u.size : Int) ≤ 20000 := by rw [← hUA, ByteArray.size_extract]; omega
  have HLB := Hid.mk' (fun W => prefixed_any u W (by omega))
  obtain ⟨pp, hpp⟩ : ∃ pp, prefN u = pp := ⟨_, rfl⟩
  rw [hpp] at HLB
  have hp16 : ((pp : Int) == 16) = false := by rw [beq_eq_false_iff_ne]; omega
  have hWR : wR r u = ((10 : Nat) : Int) := by unfold wR; rw [if_neg (fun q => hp q.2), if_pos (by omega)]; rfl
  have hWT : wT r u = u := by unfold wT; rw [if_neg (fun q => hp q.2)]
  have hTs1 := hus
  obtain ⟨n, hn⟩ : ∃ n, runN u 0 ((10 : Nat) : Int) = n := ⟨_, rfl⟩
  have hnl := runN_le u 0 ((10 : Nat) : Int)
  rw [hn] at hnl
  have HD := Hid.mk' (fun W => run_any u 0 ((10 : Nat) : Int) W (by omega) (Nat.zero_le _))
  rw [hn] at HD
  have HN := Hid.mk' (fun W h1 h2 => rnear_run u 10 n W hTs1 hn ⟨by omega, by omega⟩ h1 h2)
  have HY := Hid.mk' (fun h0 => res_yes r A u u 10 n hu hWR hWT hn h0 ⟨by omega, by omega⟩)
  have HNO := Hid.mk' (fun h0 => res_no r A u u 10 n hu hWR hWT hn h0)
  rw [hMA] at HY
  obtain ⟨V, hV⟩ : ∃ V, NF (numN (u.extract 0 n) 10 n) = V := ⟨_, rfl⟩
  have hVl : V ≤ 9218868437227405312 := by rw [← hV]; exact NF_lt _
  rw [hV] at HN HY
  obtain ⟨Z, hZ⟩ : ∃ Z, sg true V = Z := ⟨_, rfl⟩
  rw [hZ] at HY
  have hmul : ∀ W, (binOp .mul 22 (.float .f64 13830554455654793216) (.float .f64 V)).run Tryz.prog W = .ok (.float .f64 Z) W := fun W => run_mul 22 13830554455654793216 V Z W (by rw [← hZ]; exact mul_sg true V hVl)
  obtain ⟨Res, hRes⟩ : ∃ Res, wRes r A = Res := ⟨_, rfl⟩
  rw [hRes] at HNO ⊢
  rw [hRes] at HY
  subst hr0
  have HNaN := Hid.mk' (fun W => nan_any W)
  clear hA hu hRes hMA hsg0 hz0 hsg
  clear hUA
  clear hn hWR hWT hV hZ
  go_enter Tryz.func9, Tryz.ntmps9
  go_wp2_with fail
  refine (runits_any s _ (by omega)).mono ?_
  rintro e w1 ⟨v1, rfl, o1, b1⟩
  have HR := Hid.mk' (Rd.own o1)
  have HF := Hid.mk' (rfront_any (uns s) (uns_lt s) (by rw [hlen]; omega) v1 w1 HR.out)
  obtain ⟨x1, c1, rfl, hx⟩ := own_slice' o1
  have hcap : s.size / 2 ≤ c1 := by
    rcases o1.2 with ⟨e, h⟩ | ⟨g, cap, cur, e, _, _, h, _⟩
    · omega
    · simp at e; omega
  have hcm : (c1 : Int) ≤ 9223372036854775807 := by
    rcases o1.2 with ⟨e, _⟩ | ⟨g, cap, cur, e, _, _, _, h, _⟩
    · simp at e; omega
    · simp at e; unfold maxLen at h; omega
  obtain ⟨f, hf⟩ : ∃ f, frontN (uns s) = f := ⟨_, rfl⟩
  rw [hf] at HF hfl
  rw [hlen] at hfl
  have f1 : (0 : Int) ≤ (f : Int) := by omega
  have f2 : (f : Int) ≤ ((s.size / 2 : Nat) : Int) := by omega
  have f3 : ((s.size / 2 : Nat) : Int) ≤ (c1 : Int) := by omega
  have HX := Hid.mk' hx
  have HFE := Hid.mk' hf
  clear hx hf
  obtain ⟨n9, hn9⟩ : ∃ n9, s.size / 2 = n9 := ⟨_, rfl⟩
  rw [hn9] at HF hfl f2 f3 hcap hlen HX o1 HR ⊢
  have hnl9 : (n9 : Int) ≤ 10000 := by omega
  go_wp2_with fail
  refine HF.out.mono ?_
  rintro e w2 ⟨rfl, b2⟩
  have b12 : Below w.heap.size w w2 := b1.trans (b2.mono b1.size)
  obtain ⟨d, hd⟩ : ∃ d, (uns s).drop f = d := ⟨_, rfl⟩
  have hdl : d.length = n9 - f := by rw [← hd, List.length_drop, hlen]
  have HU9 : Hid (∀ q ∈ d, q < 65536) := fun q hq => uns_lt s q (by rw [← hd] at hq; exact List.mem_of_mem_drop hq)
  have HMk : Hid (∀ v W, Rd W v d → Calls Tryz.prog 35 #[v] W fun e w' => e = .returned (.string (bhd s)) ∧ Below W.heap.size W w') := fun v W hv => by
    have := rmake_any d HU9.out (by omega) v W hv
    have e : (⟨(mkB d).toArray⟩ : ByteArray) = bhd s := by unfold bhd; rw [HFE.out, hd]
    rw [e] at this
    exact this
  have HR2 := Hid.mk' (HR.out.below b2)
  have HB12 := Hid.mk' b12
  obtain ⟨bh, hbh⟩ : ∃ bh, bhd s = bh := ⟨_, rfl⟩
  rw [hbh] at HMk HAsc
  rcases HX.out with ⟨hx1, hx2, hx3⟩ | ⟨g, hx1, hg⟩
  · have hf0 : f = 0 := by omega
    have HRd : Hid (Rd w2 (.slice none 0 0) d) := .inl ⟨0, by rw [hdl]; simp; omega, List.eq_nil_of_length_eq_zero (by omega)⟩
    have HK := Hid.mk' (HMk.out _ w2 HRd.out)
    clear HX HR HR2 HF hd o1 hn9 HFE HMk HRd HU9 b1 b2 b12 hbh
    subst hx1 hx2 hx3 hf0
    go_wp2_with fail
    refine HK.out.mono ?_
    rintro e w3 ⟨rfl, b3⟩
    have b03 : Below w.heap.size w w3 := HB12.out.trans (b3.mono HB12.out.size)
    clear b3 HB12 HK
    go_wp2_with fail
    refine (HAsc.out _).mono ?_
    rintro e w4 ⟨rfl, b4⟩
    have b04 : Below w.heap.size w w4 := b03.trans (b4.mono b03.size)
    clear b03 b4
    have hl4 : LaidN w4 := hl.out.below b04
    have hb4 : LaidB w4 := hlb.out.below b04
    have HN4 := Hid.mk' (HN.out w4 hl4 hb4)
    clear hl4 hb4 HN
    go_wp2_with fail
    rw [HUA.out]
    refine (HLB.out _).mono ?_
    rintro e w5 ⟨rfl, hw5⟩
    rw [hw5]; clear hw5 w5
    go_wp2_with fail
    refine (HD.out _).mono ?_
    rintro e w6 ⟨rfl, hw6⟩
    rw [hw6]; clear hw6 w6
    by_cases h0 : n = 0
    · have q : ((n : Int) == 0) = true := by rw [beq_iff_eq]; omega
      have HE := Hid.mk' (HNO.out h0)
      clear HNO HY h0
      go_wp2_with (go_at_call 29; refine (HNaN.out _).mono ?_; rintro e w7 ⟨rfl, hw7⟩; rw [hw7]; clear hw7 w7)
      go_ret
      exact ⟨by rw [HE.out]; rfl, b04⟩
    · have q : ((n : Int) == 0) = false := by rw [beq_eq_false_iff_ne]; omega
      have hnle : (n : Int) ≤ u.size := by omega
      have HE := Hid.mk' (HY.out (by omega))
      clear HNO HY h0
      go_wp2_with fail
      refine HN4.out.mono ?_
      rintro e w7 ⟨rfl, b7⟩
      have b07 : Below w.heap.size w w7 := b04.trans (b7.mono b04.size)
      clear b04 b7
      go_wp2
      go_ret
      exact ⟨by rw [HE.out]; rfl, b07⟩
  · have hcc : ∀ (j : Nat) (h : j < n9), w2.cell? ⟨g, j, none⟩ = some (.int .u16 ((uns s)[j]'(by omega) : Nat)) := by
      rcases HR2.out with ⟨c', e1, e2⟩ | ⟨g', o, c', e1, hg', hc⟩
      · intro j h
        have : (uns s).length = 0 := by rw [e2]; rfl
        omega
      · intro j h
        have e3 : g' = g ∧ o = 0 := by
          rw [hx1] at e1
          simp at e1
          omega
        have := hc j (by omega)
        rw [e3.1, e3.2, Nat.zero_add] at this
        exact this
    have hgl : g < w2.heap.size := by
      have h2 := (o1.lt g (by rw [hx1]; rfl)).2
      exact Nat.lt_of_lt_of_le h2 b2.size
    have HD2 : Hid (∀ k o, n9 - f = 0 → Rd w2 (.slice (some ⟨g, o, none⟩) (n9 - f) k) d) := fun k o h0 => .inr ⟨g, o, k, by rw [hdl], hgl, fun j hj => by omega⟩
    have HD3 : Hid (Rd w2 (.slice (some ⟨g, f, none⟩) (n9 - f) (c1 - f)) d) := .inr ⟨g, f, c1 - f, by rw [hdl], hgl, fun j hj => by
      rw [hcc (f + j) (by omega)]
      simp [← hd]⟩
    clear HX HR HR2 HF hd hn9 HFE hcc o1 HU9 b1 b2 b12 hbh
    subst hx1
    go_wp2_with fail
    · have HK := Hid.mk' (HMk.out _ w2 (HD2.out 0 0 (by omega)))
      clear HD2 HD3 HMk
      refine HK.out.mono ?_
      rintro e w3 ⟨rfl, b3⟩
      have b03 : Below w.heap.size w w3 := HB12.out.trans (b3.mono HB12.out.size)
      clear b3 HB12 HK
      go_wp2_with fail
      refine (HAsc.out _).mono ?_
      rintro e w4 ⟨rfl, b4⟩
      have b04 : Below w.heap.size w w4 := b03.trans (b4.mono b03.size)
      clear b03 b4
      have hl4 : LaidN w4 := hl.out.below b04
      have hb4 : LaidB w4 := hlb.out.below b04
      have HN4 := Hid.mk' (HN.out w4 hl4 hb4)
      clear hl4 hb4 HN
      go_wp2_with fail
      rw [HUA.out]
      refine (HLB.out _).mono ?_
      rintro e w5 ⟨rfl, hw5⟩
      rw [hw5]; clear hw5 w5
      go_wp2_with fail
      refine (HD.out _).mono ?_
      rintro e w6 ⟨rfl, hw6⟩
      rw [hw6]; clear hw6 w6
      by_cases h0 : n = 0
      · have q : ((n : Int) == 0) = true := by rw [beq_iff_eq]; omega
        have HE := Hid.mk' (HNO.out h0)
        clear HNO HY h0
        go_wp2_with (go_at_call 29; refine (HNaN.out _).mono ?_; rintro e w7 ⟨rfl, hw7⟩; rw [hw7]; clear hw7 w7)
        go_ret
        exact ⟨by rw [HE.out]; rfl, b04⟩
      · have q : ((n : Int) == 0) = false := by rw [beq_eq_false_iff_ne]; omega
        have hnle : (n : Int) ≤ u.size := by omega
        have HE := Hid.mk' (HY.out (by omega))
        clear HNO HY h0
        go_wp2_with fail
        refine HN4.out.mono ?_
        rintro e w7 ⟨rfl, b7⟩
        have b07 : Below w.heap.size w w7 := b04.trans (b7.mono b04.size)
        clear b04 b7
        go_wp2
        go_ret
        exact ⟨by rw [HE.out]; rfl, b07⟩
    · have HK := Hid.mk' (HMk.out _ w2 HD3.out)
      clear HD2 HD3 HMk
      refine HK.out.mono ?_
      rintro e w3 ⟨rfl, b3⟩
      have b03 : Below w.heap.size w w3 := HB12.out.trans (b3.mono HB12.out.size)
      clear b3 HB12 HK
      go_wp2_with fail
      refine (HAsc.out _).mono ?_
      rintro e w4 ⟨rfl, b4⟩
      have b04 : Below w.heap.size w w4 := b03.trans (b4.mono b03.size)
      clear b03 b4
      have hl4 : LaidN w4 := hl.out.below b04
      have hb4 : LaidB w4 := hlb.out.below b04
      have HN4 := Hid.mk' (HN.out w4 hl4 hb4)
      clear hl4 hb4 HN
      go_wp2_with fail
      rw [HUA.out]
      refine (HLB.out _).mono ?_
      rintro e w5 ⟨rfl, hw5⟩
      rw [hw5]; clear hw5 w5
      go_wp2_with fail
      refine (HD.out _).mono ?_
      rintro e w6 ⟨rfl, hw6⟩
      rw [hw6]; clear hw6 w6
      by_cases h0 : n = 0
      · have q : ((n : Int) == 0) = true := by rw [beq_iff_eq]; omega
        have HE := Hid.mk' (HNO.out h0)
        clear HNO HY h0
        go_wp2_with (go_at_call 29; refine (HNaN.out _).mono ?_; rintro e w7 ⟨rfl, hw7⟩; rw [hw7]; clear hw7 w7)
        go_ret
        exact ⟨by rw [HE.out]; rfl, b04⟩
      · have q : ((n : Int) == 0) = false := by rw [beq_eq_false_iff_ne]; omega
        have hnle : (n : Int) ≤ u.size := by omega
        have HE := Hid.mk' (HY.out (by omega))
        clear HNO HY h0
        go_wp2_with fail
        refine HN4.out.mono ?_
        rintro e w7 ⟨rfl, b7⟩
        have b07 : Below w.heap.size w w7 := b04.trans (b7.mono b04.size)
        clear b04 b7
        go_wp2
        go_ret
        exact ⟨by rw [HE.out]; rfl, b07⟩
set_option maxHeartbeats 4000000 in
set_option maxRecDepth 100000 in
theorem rwhole_m4 (s : ByteArray) (base : Int) (w : World) (hs : (s.size : Int) ≤ 10000) (hl : Hid (LaidN w)) (hlb : Hid (LaidB w)) (r : Int) (hr : IntKind.i32.wrap base = r) (A u : ByteArray) (hA : Sb (nb ((uns (bhd s)).map ascN)) = A) (hu : unsT A = u) (hsg : 0 < A.size ∧ by' A 0 = 45)
    (hr0 : r = 16) (hp : prefN u ≠ 16) :
    Calls Tryz.prog 9 #[.string s, .int .i64 base] w fun e w' => e = .returned (.float .f64 (wRes r A)) ∧ Below w.heap.size w w' := by
  have hAs : (A.size : Int) ≤ 10000 := by rw [← hA, asc_size]; have := bhd_size s; omega
  have hlen := uns_length s
  have hfl := frontN_le (uns s)
  have hbt := PlainAid.get_bt A
  have hz0 := bt_by A 0
  have HAsc := Hid.mk' (fun W => asc3_any (bhd s) W (by have := bhd_size s; omega))
  rw [hA] at HAsc
  have hsg0 : sgnN A = true := by unfold sgnN; exact decide_eq_true (by omega)
  have hUA : A.extract 1 A.size = u := by rw [← hu]; unfold unsT; rw [hsg0, if_pos rfl]; rfl
  have hMA : minusN A = true := by unfold minusN; rw [hsg0, Bool.true_and]; exact decide_eq_true (by omega)
  have hne : A.toList.isEmpty = false := ne_empty (by omega)
  have hA0 : (0 : Int) < A.size := by omega
  have hz : PlainAid.bt A 0 = 45 := by omega
  have hA1 : (1 : Int) ≤ A.size := by omega
  have HUA := Hid.mk' hUA
  have hus : (u.size : Int) ≤ 20000 := by rw [← hUA, ByteArray.size_extract]; omega
  have HLB := Hid.mk' (fun W => prefixed_any u W (by omega))
  obtain ⟨pp, hpp⟩ : ∃ pp, prefN u = pp := ⟨_, rfl⟩
  rw [hpp] at HLB
  have hp16 : ((pp : Int) == 16) = false := by rw [beq_eq_false_iff_ne]; omega
  have hWR : wR r u = ((16 : Nat) : Int) := by unfold wR; rw [if_neg (fun q => hp q.2), if_neg (by omega)]; exact hr0
  have hWT : wT r u = u := by unfold wT; rw [if_neg (fun q => hp q.2)]
  have hTs1 := hus
  obtain ⟨n, hn⟩ : ∃ n, runN u 0 ((16 : Nat) : Int) = n := ⟨_, rfl⟩
  have hnl := runN_le u 0 ((16 : Nat) : Int)
  rw [hn] at hnl
  have HD := Hid.mk' (fun W => run_any u 0 ((16 : Nat) : Int) W (by omega) (Nat.zero_le _))
  rw [hn] at HD
  have HN := Hid.mk' (fun W h1 h2 => rnear_run u 16 n W hTs1 hn ⟨by omega, by omega⟩ h1 h2)
  have HY := Hid.mk' (fun h0 => res_yes r A u u 16 n hu hWR hWT hn h0 ⟨by omega, by omega⟩)
  have HNO := Hid.mk' (fun h0 => res_no r A u u 16 n hu hWR hWT hn h0)
  rw [hMA] at HY
  obtain ⟨V, hV⟩ : ∃ V, NF (numN (u.extract 0 n) 16 n) = V := ⟨_, rfl⟩
  have hVl : V ≤ 9218868437227405312 := by rw [← hV]; exact NF_lt _
  rw [hV] at HN HY
  obtain ⟨Z, hZ⟩ : ∃ Z, sg true V = Z := ⟨_, rfl⟩
  rw [hZ] at HY
  have hmul : ∀ W, (binOp .mul 22 (.float .f64 13830554455654793216) (.float .f64 V)).run Tryz.prog W = .ok (.float .f64 Z) W := fun W => run_mul 22 13830554455654793216 V Z W (by rw [← hZ]; exact mul_sg true V hVl)
  obtain ⟨Res, hRes⟩ : ∃ Res, wRes r A = Res := ⟨_, rfl⟩
  rw [hRes] at HNO ⊢
  rw [hRes] at HY
  subst hr0
  have HNaN := Hid.mk' (fun W => nan_any W)
  clear hA hu hRes hMA hsg0 hz0 hsg
  clear hUA
  clear hn hWR hWT hV hZ
  go_enter Tryz.func9, Tryz.ntmps9
  go_wp2_with fail
  refine (runits_any s _ (by omega)).mono ?_
  rintro e w1 ⟨v1, rfl, o1, b1⟩
  have HR := Hid.mk' (Rd.own o1)
  have HF := Hid.mk' (rfront_any (uns s) (uns_lt s) (by rw [hlen]; omega) v1 w1 HR.out)
  obtain ⟨x1, c1, rfl, hx⟩ := own_slice' o1
  have hcap : s.size / 2 ≤ c1 := by
    rcases o1.2 with ⟨e, h⟩ | ⟨g, cap, cur, e, _, _, h, _⟩
    · omega
    · simp at e; omega
  have hcm : (c1 : Int) ≤ 9223372036854775807 := by
    rcases o1.2 with ⟨e, _⟩ | ⟨g, cap, cur, e, _, _, _, h, _⟩
    · simp at e; omega
    · simp at e; unfold maxLen at h; omega
  obtain ⟨f, hf⟩ : ∃ f, frontN (uns s) = f := ⟨_, rfl⟩
  rw [hf] at HF hfl
  rw [hlen] at hfl
  have f1 : (0 : Int) ≤ (f : Int) := by omega
  have f2 : (f : Int) ≤ ((s.size / 2 : Nat) : Int) := by omega
  have f3 : ((s.size / 2 : Nat) : Int) ≤ (c1 : Int) := by omega
  have HX := Hid.mk' hx
  have HFE := Hid.mk' hf
  clear hx hf
  obtain ⟨n9, hn9⟩ : ∃ n9, s.size / 2 = n9 := ⟨_, rfl⟩
  rw [hn9] at HF hfl f2 f3 hcap hlen HX o1 HR ⊢
  have hnl9 : (n9 : Int) ≤ 10000 := by omega
  go_wp2_with fail
  refine HF.out.mono ?_
  rintro e w2 ⟨rfl, b2⟩
  have b12 : Below w.heap.size w w2 := b1.trans (b2.mono b1.size)
  obtain ⟨d, hd⟩ : ∃ d, (uns s).drop f = d := ⟨_, rfl⟩
  have hdl : d.length = n9 - f := by rw [← hd, List.length_drop, hlen]
  have HU9 : Hid (∀ q ∈ d, q < 65536) := fun q hq => uns_lt s q (by rw [← hd] at hq; exact List.mem_of_mem_drop hq)
  have HMk : Hid (∀ v W, Rd W v d → Calls Tryz.prog 35 #[v] W fun e w' => e = .returned (.string (bhd s)) ∧ Below W.heap.size W w') := fun v W hv => by
    have := rmake_any d HU9.out (by omega) v W hv
    have e : (⟨(mkB d).toArray⟩ : ByteArray) = bhd s := by unfold bhd; rw [HFE.out, hd]
    rw [e] at this
    exact this
  have HR2 := Hid.mk' (HR.out.below b2)
  have HB12 := Hid.mk' b12
  obtain ⟨bh, hbh⟩ : ∃ bh, bhd s = bh := ⟨_, rfl⟩
  rw [hbh] at HMk HAsc
  rcases HX.out with ⟨hx1, hx2, hx3⟩ | ⟨g, hx1, hg⟩
  · have hf0 : f = 0 := by omega
    have HRd : Hid (Rd w2 (.slice none 0 0) d) := .inl ⟨0, by rw [hdl]; simp; omega, List.eq_nil_of_length_eq_zero (by omega)⟩
    have HK := Hid.mk' (HMk.out _ w2 HRd.out)
    clear HX HR HR2 HF hd o1 hn9 HFE HMk HRd HU9 b1 b2 b12 hbh
    subst hx1 hx2 hx3 hf0
    go_wp2_with fail
    refine HK.out.mono ?_
    rintro e w3 ⟨rfl, b3⟩
    have b03 : Below w.heap.size w w3 := HB12.out.trans (b3.mono HB12.out.size)
    clear b3 HB12 HK
    go_wp2_with fail
    refine (HAsc.out _).mono ?_
    rintro e w4 ⟨rfl, b4⟩
    have b04 : Below w.heap.size w w4 := b03.trans (b4.mono b03.size)
    clear b03 b4
    have hl4 : LaidN w4 := hl.out.below b04
    have hb4 : LaidB w4 := hlb.out.below b04
    have HN4 := Hid.mk' (HN.out w4 hl4 hb4)
    clear hl4 hb4 HN
    go_wp2_with fail
    rw [HUA.out]
    refine (HLB.out _).mono ?_
    rintro e w5 ⟨rfl, hw5⟩
    rw [hw5]; clear hw5 w5
    go_wp2_with fail
    refine (HD.out _).mono ?_
    rintro e w6 ⟨rfl, hw6⟩
    rw [hw6]; clear hw6 w6
    by_cases h0 : n = 0
    · have q : ((n : Int) == 0) = true := by rw [beq_iff_eq]; omega
      have HE := Hid.mk' (HNO.out h0)
      clear HNO HY h0
      go_wp2_with (go_at_call 29; refine (HNaN.out _).mono ?_; rintro e w7 ⟨rfl, hw7⟩; rw [hw7]; clear hw7 w7)
      go_ret
      exact ⟨by rw [HE.out]; rfl, b04⟩
    · have q : ((n : Int) == 0) = false := by rw [beq_eq_false_iff_ne]; omega
      have hnle : (n : Int) ≤ u.size := by omega
      have HE := Hid.mk' (HY.out (by omega))
      clear HNO HY h0
      go_wp2_with fail
      refine HN4.out.mono ?_
      rintro e w7 ⟨rfl, b7⟩
      have b07 : Below w.heap.size w w7 := b04.trans (b7.mono b04.size)
      clear b04 b7
      go_wp2
      go_ret
      exact ⟨by rw [HE.out]; rfl, b07⟩
  · have hcc : ∀ (j : Nat) (h : j < n9), w2.cell? ⟨g, j, none⟩ = some (.int .u16 ((uns s)[j]'(by omega) : Nat)) := by
      rcases HR2.out with ⟨c', e1, e2⟩ | ⟨g', o, c', e1, hg', hc⟩
      · intro j h
        have : (uns s).length = 0 := by rw [e2]; rfl
        omega
      · intro j h
        have e3 : g' = g ∧ o = 0 := by
          rw [hx1] at e1
          simp at e1
          omega
        have := hc j (by omega)
        rw [e3.1, e3.2, Nat.zero_add] at this
        exact this
    have hgl : g < w2.heap.size := by
      have h2 := (o1.lt g (by rw [hx1]; rfl)).2
      exact Nat.lt_of_lt_of_le h2 b2.size
    have HD2 : Hid (∀ k o, n9 - f = 0 → Rd w2 (.slice (some ⟨g, o, none⟩) (n9 - f) k) d) := fun k o h0 => .inr ⟨g, o, k, by rw [hdl], hgl, fun j hj => by omega⟩
    have HD3 : Hid (Rd w2 (.slice (some ⟨g, f, none⟩) (n9 - f) (c1 - f)) d) := .inr ⟨g, f, c1 - f, by rw [hdl], hgl, fun j hj => by
      rw [hcc (f + j) (by omega)]
      simp [← hd]⟩
    clear HX HR HR2 HF hd hn9 HFE hcc o1 HU9 b1 b2 b12 hbh
    subst hx1
    go_wp2_with fail
    · have HK := Hid.mk' (HMk.out _ w2 (HD2.out 0 0 (by omega)))
      clear HD2 HD3 HMk
      refine HK.out.mono ?_
      rintro e w3 ⟨rfl, b3⟩
      have b03 : Below w.heap.size w w3 := HB12.out.trans (b3.mono HB12.out.size)
      clear b3 HB12 HK
      go_wp2_with fail
      refine (HAsc.out _).mono ?_
      rintro e w4 ⟨rfl, b4⟩
      have b04 : Below w.heap.size w w4 := b03.trans (b4.mono b03.size)
      clear b03 b4
      have hl4 : LaidN w4 := hl.out.below b04
      have hb4 : LaidB w4 := hlb.out.below b04
      have HN4 := Hid.mk' (HN.out w4 hl4 hb4)
      clear hl4 hb4 HN
      go_wp2_with fail
      rw [HUA.out]
      refine (HLB.out _).mono ?_
      rintro e w5 ⟨rfl, hw5⟩
      rw [hw5]; clear hw5 w5
      go_wp2_with fail
      refine (HD.out _).mono ?_
      rintro e w6 ⟨rfl, hw6⟩
      rw [hw6]; clear hw6 w6
      by_cases h0 : n = 0
      · have q : ((n : Int) == 0) = true := by rw [beq_iff_eq]; omega
        have HE := Hid.mk' (HNO.out h0)
        clear HNO HY h0
        go_wp2_with (go_at_call 29; refine (HNaN.out _).mono ?_; rintro e w7 ⟨rfl, hw7⟩; rw [hw7]; clear hw7 w7)
        go_ret
        exact ⟨by rw [HE.out]; rfl, b04⟩
      · have q : ((n : Int) == 0) = false := by rw [beq_eq_false_iff_ne]; omega
        have hnle : (n : Int) ≤ u.size := by omega
        have HE := Hid.mk' (HY.out (by omega))
        clear HNO HY h0
        go_wp2_with fail
        refine HN4.out.mono ?_
        rintro e w7 ⟨rfl, b7⟩
        have b07 : Below w.heap.size w w7 := b04.trans (b7.mono b04.size)
        clear b04 b7
        go_wp2
        go_ret
        exact ⟨by rw [HE.out]; rfl, b07⟩
    · have HK := Hid.mk' (HMk.out _ w2 HD3.out)
      clear HD2 HD3 HMk
      refine HK.out.mono ?_
      rintro e w3 ⟨rfl, b3⟩
      have b03 : Below w.heap.size w w3 := HB12.out.trans (b3.mono HB12.out.size)
      clear b3 HB12 HK
      go_wp2_with fail
      refine (HAsc.out _).mono ?_
      rintro e w4 ⟨rfl, b4⟩
      have b04 : Below w.heap.size w w4 := b03.trans (b4.mono b03.size)
      clear b03 b4
      have hl4 : LaidN w4 := hl.out.below b04
      have hb4 : LaidB w4 := hlb.out.below b04
      have HN4 := Hid.mk' (HN.out w4 hl4 hb4)
      clear hl4 hb4 HN
      go_wp2_with fail
      rw [HUA.out]
      refine (HLB.out _).mono ?_
      rintro e w5 ⟨rfl, hw5⟩
      rw [hw5]; clear hw5 w5
      go_wp2_with fail
      refine (HD.out _).mono ?_
      rintro e w6 ⟨rfl, hw6⟩
      rw [hw6]; clear hw6 w6
      by_cases h0 : n = 0
      · have q : ((n : Int) == 0) = true := by rw [beq_iff_eq]; omega
        have HE := Hid.mk' (HNO.out h0)
        clear HNO HY h0
        go_wp2_with (go_at_call 29; refine (HNaN.out _).mono ?_; rintro e w7 ⟨rfl, hw7⟩; rw [hw7]; clear hw7 w7)
        go_ret
        exact ⟨by rw [HE.out]; rfl, b04⟩
      · have q : ((n : Int) == 0) = false := by rw [beq_eq_false_iff_ne]; omega
        have hnle : (n : Int) ≤ u.size := by omega
        have HE := Hid.mk' (HY.out (by omega))
        clear HNO HY h0
        go_wp2_with fail
        refine HN4.out.mono ?_
        rintro e w7 ⟨rfl, b7⟩
        have b07 : Below w.heap.size w w7 := b04.trans (b7.mono b04.size)
        clear b04 b7
        go_wp2
        go_ret
        exact ⟨by rw [HE.out]; rfl, b07⟩
set_option maxHeartbeats 4000000 in
set_option maxRecDepth 100000 in
theorem rwhole_m5 (s : ByteArray) (base : Int) (w : World) (hs : (s.size : Int) ≤ 10000) (hl : Hid (LaidN w)) (hlb : Hid (LaidB w)) (r : Int) (hr : IntKind.i32.wrap base = r) (A u : ByteArray) (hA : Sb (nb ((uns (bhd s)).map ascN)) = A) (hu : unsT A = u) (hsg : 0 < A.size ∧ by' A 0 = 45)
    (R : Nat) (hR : r = (R : Nat)) (hR2 : 2 ≤ R ∧ R ≤ 36) (hR3 : R ≠ 16) :
    Calls Tryz.prog 9 #[.string s, .int .i64 base] w fun e w' => e = .returned (.float .f64 (wRes r A)) ∧ Below w.heap.size w w' := by
  have hAs : (A.size : Int) ≤ 10000 := by rw [← hA, asc_size]; have := bhd_size s; omega
  have hlen := uns_length s
  have hfl := frontN_le (uns s)
  have hbt := PlainAid.get_bt A
  have hz0 := bt_by A 0
  have HAsc := Hid.mk' (fun W => asc3_any (bhd s) W (by have := bhd_size s; omega))
  rw [hA] at HAsc
  have hsg0 : sgnN A = true := by unfold sgnN; exact decide_eq_true (by omega)
  have hUA : A.extract 1 A.size = u := by rw [← hu]; unfold unsT; rw [hsg0, if_pos rfl]; rfl
  have hMA : minusN A = true := by unfold minusN; rw [hsg0, Bool.true_and]; exact decide_eq_true (by omega)
  have hne : A.toList.isEmpty = false := ne_empty (by omega)
  have hA0 : (0 : Int) < A.size := by omega
  have hz : PlainAid.bt A 0 = 45 := by omega
  have hA1 : (1 : Int) ≤ A.size := by omega
  have HUA := Hid.mk' hUA
  have hus : (u.size : Int) ≤ 20000 := by rw [← hUA, ByteArray.size_extract]; omega
  have hWR : wR r u = ((R : Nat) : Int) := by unfold wR; rw [if_neg (fun q => by omega), if_neg (by omega)]; exact hR
  have hWT : wT r u = u := by unfold wT; rw [if_neg (fun q => by omega)]
  have hTs1 := hus
  obtain ⟨n, hn⟩ : ∃ n, runN u 0 ((R : Nat) : Int) = n := ⟨_, rfl⟩
  have hnl := runN_le u 0 ((R : Nat) : Int)
  rw [hn] at hnl
  have HD := Hid.mk' (fun W => run_any u 0 ((R : Nat) : Int) W (by omega) (Nat.zero_le _))
  rw [hn] at HD
  have HN := Hid.mk' (fun W h1 h2 => rnear_run u R n W hTs1 hn hR2 h1 h2)
  have HY := Hid.mk' (fun h0 => res_yes r A u u R n hu hWR hWT hn h0 hR2)
  have HNO := Hid.mk' (fun h0 => res_no r A u u R n hu hWR hWT hn h0)
  rw [hMA] at HY
  obtain ⟨V, hV⟩ : ∃ V, NF (numN (u.extract 0 n) R n) = V := ⟨_, rfl⟩
  have hVl : V ≤ 9218868437227405312 := by rw [← hV]; exact NF_lt _
  rw [hV] at HN HY
  obtain ⟨Z, hZ⟩ : ∃ Z, sg true V = Z := ⟨_, rfl⟩
  rw [hZ] at HY
  have hmul : ∀ W, (binOp .mul 22 (.float .f64 13830554455654793216) (.float .f64 V)).run Tryz.prog W = .ok (.float .f64 Z) W := fun W => run_mul 22 13830554455654793216 V Z W (by rw [← hZ]; exact mul_sg true V hVl)
  obtain ⟨Res, hRes⟩ : ∃ Res, wRes r A = Res := ⟨_, rfl⟩
  rw [hRes] at HNO ⊢
  rw [hRes] at HY
  subst hR
  have q0 : ((R : Int) == 0) = false := by rw [beq_eq_false_iff_ne]; omega
  have q16 : ((R : Int) == 16) = false := by rw [beq_eq_false_iff_ne]; omega
  have HNaN := Hid.mk' (fun W => nan_any W)
  clear hA hu hRes hMA hsg0 hz0 hsg
  clear hUA
  clear hn hWR hWT hV hZ
  go_enter Tryz.func9, Tryz.ntmps9
  go_wp2_with fail
  refine (runits_any s _ (by omega)).mono ?_
  rintro e w1 ⟨v1, rfl, o1, b1⟩
  have HR := Hid.mk' (Rd.own o1)
  have HF := Hid.mk' (rfront_any (uns s) (uns_lt s) (by rw [hlen]; omega) v1 w1 HR.out)
  obtain ⟨x1, c1, rfl, hx⟩ := own_slice' o1
  have hcap : s.size / 2 ≤ c1 := by
    rcases o1.2 with ⟨e, h⟩ | ⟨g, cap, cur, e, _, _, h, _⟩
    · omega
    · simp at e; omega
  have hcm : (c1 : Int) ≤ 9223372036854775807 := by
    rcases o1.2 with ⟨e, _⟩ | ⟨g, cap, cur, e, _, _, _, h, _⟩
    · simp at e; omega
    · simp at e; unfold maxLen at h; omega
  obtain ⟨f, hf⟩ : ∃ f, frontN (uns s) = f := ⟨_, rfl⟩
  rw [hf] at HF hfl
  rw [hlen] at hfl
  have f1 : (0 : Int) ≤ (f : Int) := by omega
  have f2 : (f : Int) ≤ ((s.size / 2 : Nat) : Int) := by omega
  have f3 : ((s.size / 2 : Nat) : Int) ≤ (c1 : Int) := by omega
  have HX := Hid.mk' hx
  have HFE := Hid.mk' hf
  clear hx hf
  obtain ⟨n9, hn9⟩ : ∃ n9, s.size / 2 = n9 := ⟨_, rfl⟩
  rw [hn9] at HF hfl f2 f3 hcap hlen HX o1 HR ⊢
  have hnl9 : (n9 : Int) ≤ 10000 := by omega
  go_wp2_with fail
  refine HF.out.mono ?_
  rintro e w2 ⟨rfl, b2⟩
  have b12 : Below w.heap.size w w2 := b1.trans (b2.mono b1.size)
  obtain ⟨d, hd⟩ : ∃ d, (uns s).drop f = d := ⟨_, rfl⟩
  have hdl : d.length = n9 - f := by rw [← hd, List.length_drop, hlen]
  have HU9 : Hid (∀ q ∈ d, q < 65536) := fun q hq => uns_lt s q (by rw [← hd] at hq; exact List.mem_of_mem_drop hq)
  have HMk : Hid (∀ v W, Rd W v d → Calls Tryz.prog 35 #[v] W fun e w' => e = .returned (.string (bhd s)) ∧ Below W.heap.size W w') := fun v W hv => by
    have := rmake_any d HU9.out (by omega) v W hv
    have e : (⟨(mkB d).toArray⟩ : ByteArray) = bhd s := by unfold bhd; rw [HFE.out, hd]
    rw [e] at this
    exact this
  have HR2 := Hid.mk' (HR.out.below b2)
  have HB12 := Hid.mk' b12
  obtain ⟨bh, hbh⟩ : ∃ bh, bhd s = bh := ⟨_, rfl⟩
  rw [hbh] at HMk HAsc
  rcases HX.out with ⟨hx1, hx2, hx3⟩ | ⟨g, hx1, hg⟩
  · have hf0 : f = 0 := by omega
    have HRd : Hid (Rd w2 (.slice none 0 0) d) := .inl ⟨0, by rw [hdl]; simp; omega, List.eq_nil_of_length_eq_zero (by omega)⟩
    have HK := Hid.mk' (HMk.out _ w2 HRd.out)
    clear HX HR HR2 HF hd o1 hn9 HFE HMk HRd HU9 b1 b2 b12 hbh
    subst hx1 hx2 hx3 hf0
    go_wp2_with fail
    refine HK.out.mono ?_
    rintro e w3 ⟨rfl, b3⟩
    have b03 : Below w.heap.size w w3 := HB12.out.trans (b3.mono HB12.out.size)
    clear b3 HB12 HK
    go_wp2_with fail
    refine (HAsc.out _).mono ?_
    rintro e w4 ⟨rfl, b4⟩
    have b04 : Below w.heap.size w w4 := b03.trans (b4.mono b03.size)
    clear b03 b4
    have hl4 : LaidN w4 := hl.out.below b04
    have hb4 : LaidB w4 := hlb.out.below b04
    have HN4 := Hid.mk' (HN.out w4 hl4 hb4)
    clear hl4 hb4 HN
    go_wp2_with fail
    rw [HUA.out]
    refine (HD.out _).mono ?_
    rintro e w6 ⟨rfl, hw6⟩
    rw [hw6]; clear hw6 w6
    by_cases h0 : n = 0
    · have q : ((n : Int) == 0) = true := by rw [beq_iff_eq]; omega
      have HE := Hid.mk' (HNO.out h0)
      clear HNO HY h0
      go_wp2_with (go_at_call 29; refine (HNaN.out _).mono ?_; rintro e w7 ⟨rfl, hw7⟩; rw [hw7]; clear hw7 w7)
      go_ret
      exact ⟨by rw [HE.out]; rfl, b04⟩
    · have q : ((n : Int) == 0) = false := by rw [beq_eq_false_iff_ne]; omega
      have hnle : (n : Int) ≤ u.size := by omega
      have HE := Hid.mk' (HY.out (by omega))
      clear HNO HY h0
      go_wp2_with fail
      refine HN4.out.mono ?_
      rintro e w7 ⟨rfl, b7⟩
      have b07 : Below w.heap.size w w7 := b04.trans (b7.mono b04.size)
      clear b04 b7
      go_wp2
      go_ret
      exact ⟨by rw [HE.out]; rfl, b07⟩
  · have hcc : ∀ (j : Nat) (h : j < n9), w2.cell? ⟨g, j, none⟩ = some (.int .u16 ((uns s)[j]'(by omega) : Nat)) := by
      rcases HR2.out with ⟨c', e1, e2⟩ | ⟨g', o, c', e1, hg', hc⟩
      · intro j h
        have : (uns s).length = 0 := by rw [e2]; rfl
        omega
      · intro j h
        have e3 : g' = g ∧ o = 0 := by
          rw [hx1] at e1
          simp at e1
          omega
        have := hc j (by omega)
        rw [e3.1, e3.2, Nat.zero_add] at this
        exact this
    have hgl : g < w2.heap.size := by
      have h2 := (o1.lt g (by rw [hx1]; rfl)).2
      exact Nat.lt_of_lt_of_le h2 b2.size
    have HD2 : Hid (∀ k o, n9 - f = 0 → Rd w2 (.slice (some ⟨g, o, none⟩) (n9 - f) k) d) := fun k o h0 => .inr ⟨g, o, k, by rw [hdl], hgl, fun j hj => by omega⟩
    have HD3 : Hid (Rd w2 (.slice (some ⟨g, f, none⟩) (n9 - f) (c1 - f)) d) := .inr ⟨g, f, c1 - f, by rw [hdl], hgl, fun j hj => by
      rw [hcc (f + j) (by omega)]
      simp [← hd]⟩
    clear HX HR HR2 HF hd hn9 HFE hcc o1 HU9 b1 b2 b12 hbh
    subst hx1
    go_wp2_with fail
    · have HK := Hid.mk' (HMk.out _ w2 (HD2.out 0 0 (by omega)))
      clear HD2 HD3 HMk
      refine HK.out.mono ?_
      rintro e w3 ⟨rfl, b3⟩
      have b03 : Below w.heap.size w w3 := HB12.out.trans (b3.mono HB12.out.size)
      clear b3 HB12 HK
      go_wp2_with fail
      refine (HAsc.out _).mono ?_
      rintro e w4 ⟨rfl, b4⟩
      have b04 : Below w.heap.size w w4 := b03.trans (b4.mono b03.size)
      clear b03 b4
      have hl4 : LaidN w4 := hl.out.below b04
      have hb4 : LaidB w4 := hlb.out.below b04
      have HN4 := Hid.mk' (HN.out w4 hl4 hb4)
      clear hl4 hb4 HN
      go_wp2_with fail
      rw [HUA.out]
      refine (HD.out _).mono ?_
      rintro e w6 ⟨rfl, hw6⟩
      rw [hw6]; clear hw6 w6
      by_cases h0 : n = 0
      · have q : ((n : Int) == 0) = true := by rw [beq_iff_eq]; omega
        have HE := Hid.mk' (HNO.out h0)
        clear HNO HY h0
        go_wp2_with (go_at_call 29; refine (HNaN.out _).mono ?_; rintro e w7 ⟨rfl, hw7⟩; rw [hw7]; clear hw7 w7)
        go_ret
        exact ⟨by rw [HE.out]; rfl, b04⟩
      · have q : ((n : Int) == 0) = false := by rw [beq_eq_false_iff_ne]; omega
        have hnle : (n : Int) ≤ u.size := by omega
        have HE := Hid.mk' (HY.out (by omega))
        clear HNO HY h0
        go_wp2_with fail
        refine HN4.out.mono ?_
        rintro e w7 ⟨rfl, b7⟩
        have b07 : Below w.heap.size w w7 := b04.trans (b7.mono b04.size)
        clear b04 b7
        go_wp2
        go_ret
        exact ⟨by rw [HE.out]; rfl, b07⟩
    · have HK := Hid.mk' (HMk.out _ w2 HD3.out)
      clear HD2 HD3 HMk
      refine HK.out.mono ?_
      rintro e w3 ⟨rfl, b3⟩
      have b03 : Below w.heap.size w w3 := HB12.out.trans (b3.mono HB12.out.size)
      clear b3 HB12 HK
      go_wp2_with fail
      refine (HAsc.out _).mono ?_
      rintro e w4 ⟨rfl, b4⟩
      have b04 : Below w.heap.size w w4 := b03.trans (b4.mono b03.size)
      clear b03 b4
      have hl4 : LaidN w4 := hl.out.below b04
      have hb4 : LaidB w4 := hlb.out.below b04
      have HN4 := Hid.mk' (HN.out w4 hl4 hb4)
      clear hl4 hb4 HN
      go_wp2_with fail
      rw [HUA.out]
      refine (HD.out _).mono ?_
      rintro e w6 ⟨rfl, hw6⟩
      rw [hw6]; clear hw6 w6
      by_cases h0 : n = 0
      · have q : ((n : Int) == 0) = true := by rw [beq_iff_eq]; omega
        have HE := Hid.mk' (HNO.out h0)
        clear HNO HY h0
        go_wp2_with (go_at_call 29; refine (HNaN.out _).mono ?_; rintro e w7 ⟨rfl, hw7⟩; rw [hw7]; clear hw7 w7)
        go_ret
        exact ⟨by rw [HE.out]; rfl, b04⟩
      · have q : ((n : Int) == 0) = false := by rw [beq_eq_false_iff_ne]; omega
        have hnle : (n : Int) ≤ u.size := by omega
        have HE := Hid.mk' (HY.out (by omega))
        clear HNO HY h0
        go_wp2_with fail
        refine HN4.out.mono ?_
        rintro e w7 ⟨rfl, b7⟩
        have b07 : Below w.heap.size w w7 := b04.trans (b7.mono b04.size)
        clear b04 b7
        go_wp2
        go_ret
        exact ⟨by rw [HE.out]; rfl, b07⟩
set_option maxHeartbeats 4000000 in
set_option maxRecDepth 100000 in
theorem rwhole_m6 (s : ByteArray) (base : Int) (w : World) (hs : (s.size : Int) ≤ 10000) (hl : Hid (LaidN w)) (hlb : Hid (LaidB w)) (r : Int) (hr : IntKind.i32.wrap base = r) (A u : ByteArray) (hA : Sb (nb ((uns (bhd s)).map ascN)) = A) (hu : unsT A = u) (hsg : 0 < A.size ∧ by' A 0 = 45)
    (h1 : r ≠ 0) (h2 : r ≠ 16) (h3 : r < 2) :
    Calls Tryz.prog 9 #[.string s, .int .i64 base] w fun e w' => e = .returned (.float .f64 (wRes r A)) ∧ Below w.heap.size w w' := by
  have hAs : (A.size : Int) ≤ 10000 := by rw [← hA, asc_size]; have := bhd_size s; omega
  have hlen := uns_length s
  have hfl := frontN_le (uns s)
  have hbt := PlainAid.get_bt A
  have hz0 := bt_by A 0
  have HAsc := Hid.mk' (fun W => asc3_any (bhd s) W (by have := bhd_size s; omega))
  rw [hA] at HAsc
  have hsg0 : sgnN A = true := by unfold sgnN; exact decide_eq_true (by omega)
  have hUA : A.extract 1 A.size = u := by rw [← hu]; unfold unsT; rw [hsg0, if_pos rfl]; rfl
  have hMA : minusN A = true := by unfold minusN; rw [hsg0, Bool.true_and]; exact decide_eq_true (by omega)
  have hne : A.toList.isEmpty = false := ne_empty (by omega)
  have hA0 : (0 : Int) < A.size := by omega
  have hz : PlainAid.bt A 0 = 45 := by omega
  have hA1 : (1 : Int) ≤ A.size := by omega
  have HUA := Hid.mk' hUA
  have hus : (u.size : Int) ≤ 20000 := by rw [← hUA, ByteArray.size_extract]; omega
  have hNo : wRes r A = 9221120237041090561 := by
    have hWR : wR r u = r := by unfold wR; rw [if_neg (fun q => by omega), if_neg h1]
    have hno : wNo r u = true := by unfold wNo; rw [hWR]; exact decide_eq_true (by omega)
    unfold wRes
    rw [hu, hno]
    exact if_pos rfl
  have HNO := Hid.mk' hNo
  obtain ⟨Res, hRes⟩ : ∃ Res, wRes r A = Res := ⟨_, rfl⟩
  rw [hRes] at HNO ⊢
  have hrb1 : -2147483648 ≤ r := by rw [← hr, IntKind.wrap_i32]; omega
  have hrb2 : r ≤ 2147483647 := by rw [← hr, IntKind.wrap_i32]; omega
  have q0 : (r == 0) = false := by rw [beq_eq_false_iff_ne]; omega
  have q16 : (r == 16) = false := by rw [beq_eq_false_iff_ne]; omega
  clear h1 h2
  have HNaN := Hid.mk' (fun W => nan_any W)
  clear hA hu hRes hMA hsg0 hz0 hsg
  clear hUA
  go_enter Tryz.func9, Tryz.ntmps9
  go_wp2_with fail
  refine (runits_any s _ (by omega)).mono ?_
  rintro e w1 ⟨v1, rfl, o1, b1⟩
  have HR := Hid.mk' (Rd.own o1)
  have HF := Hid.mk' (rfront_any (uns s) (uns_lt s) (by rw [hlen]; omega) v1 w1 HR.out)
  obtain ⟨x1, c1, rfl, hx⟩ := own_slice' o1
  have hcap : s.size / 2 ≤ c1 := by
    rcases o1.2 with ⟨e, h⟩ | ⟨g, cap, cur, e, _, _, h, _⟩
    · omega
    · simp at e; omega
  have hcm : (c1 : Int) ≤ 9223372036854775807 := by
    rcases o1.2 with ⟨e, _⟩ | ⟨g, cap, cur, e, _, _, _, h, _⟩
    · simp at e; omega
    · simp at e; unfold maxLen at h; omega
  obtain ⟨f, hf⟩ : ∃ f, frontN (uns s) = f := ⟨_, rfl⟩
  rw [hf] at HF hfl
  rw [hlen] at hfl
  have f1 : (0 : Int) ≤ (f : Int) := by omega
  have f2 : (f : Int) ≤ ((s.size / 2 : Nat) : Int) := by omega
  have f3 : ((s.size / 2 : Nat) : Int) ≤ (c1 : Int) := by omega
  have HX := Hid.mk' hx
  have HFE := Hid.mk' hf
  clear hx hf
  obtain ⟨n9, hn9⟩ : ∃ n9, s.size / 2 = n9 := ⟨_, rfl⟩
  rw [hn9] at HF hfl f2 f3 hcap hlen HX o1 HR ⊢
  have hnl9 : (n9 : Int) ≤ 10000 := by omega
  go_wp2_with fail
  refine HF.out.mono ?_
  rintro e w2 ⟨rfl, b2⟩
  have b12 : Below w.heap.size w w2 := b1.trans (b2.mono b1.size)
  obtain ⟨d, hd⟩ : ∃ d, (uns s).drop f = d := ⟨_, rfl⟩
  have hdl : d.length = n9 - f := by rw [← hd, List.length_drop, hlen]
  have HU9 : Hid (∀ q ∈ d, q < 65536) := fun q hq => uns_lt s q (by rw [← hd] at hq; exact List.mem_of_mem_drop hq)
  have HMk : Hid (∀ v W, Rd W v d → Calls Tryz.prog 35 #[v] W fun e w' => e = .returned (.string (bhd s)) ∧ Below W.heap.size W w') := fun v W hv => by
    have := rmake_any d HU9.out (by omega) v W hv
    have e : (⟨(mkB d).toArray⟩ : ByteArray) = bhd s := by unfold bhd; rw [HFE.out, hd]
    rw [e] at this
    exact this
  have HR2 := Hid.mk' (HR.out.below b2)
  have HB12 := Hid.mk' b12
  obtain ⟨bh, hbh⟩ : ∃ bh, bhd s = bh := ⟨_, rfl⟩
  rw [hbh] at HMk HAsc
  rcases HX.out with ⟨hx1, hx2, hx3⟩ | ⟨g, hx1, hg⟩
  · have hf0 : f = 0 := by omega
    have HRd : Hid (Rd w2 (.slice none 0 0) d) := .inl ⟨0, by rw [hdl]; simp; omega, List.eq_nil_of_length_eq_zero (by omega)⟩
    have HK := Hid.mk' (HMk.out _ w2 HRd.out)
    clear HX HR HR2 HF hd o1 hn9 HFE HMk HRd HU9 b1 b2 b12 hbh
    subst hx1 hx2 hx3 hf0
    go_wp2_with fail
    refine HK.out.mono ?_
    rintro e w3 ⟨rfl, b3⟩
    have b03 : Below w.heap.size w w3 := HB12.out.trans (b3.mono HB12.out.size)
    clear b3 HB12 HK
    go_wp2_with fail
    refine (HAsc.out _).mono ?_
    rintro e w4 ⟨rfl, b4⟩
    have b04 : Below w.heap.size w w4 := b03.trans (b4.mono b03.size)
    clear b03 b4
    go_wp2_with (go_at_call 29; refine (HNaN.out _).mono ?_; rintro e w5 ⟨rfl, hw5⟩; rw [hw5]; clear hw5 w5)
    go_ret
    exact ⟨by rw [HNO.out]; rfl, b04⟩
  · have hcc : ∀ (j : Nat) (h : j < n9), w2.cell? ⟨g, j, none⟩ = some (.int .u16 ((uns s)[j]'(by omega) : Nat)) := by
      rcases HR2.out with ⟨c', e1, e2⟩ | ⟨g', o, c', e1, hg', hc⟩
      · intro j h
        have : (uns s).length = 0 := by rw [e2]; rfl
        omega
      · intro j h
        have e3 : g' = g ∧ o = 0 := by
          rw [hx1] at e1
          simp at e1
          omega
        have := hc j (by omega)
        rw [e3.1, e3.2, Nat.zero_add] at this
        exact this
    have hgl : g < w2.heap.size := by
      have h2 := (o1.lt g (by rw [hx1]; rfl)).2
      exact Nat.lt_of_lt_of_le h2 b2.size
    have HD2 : Hid (∀ k o, n9 - f = 0 → Rd w2 (.slice (some ⟨g, o, none⟩) (n9 - f) k) d) := fun k o h0 => .inr ⟨g, o, k, by rw [hdl], hgl, fun j hj => by omega⟩
    have HD3 : Hid (Rd w2 (.slice (some ⟨g, f, none⟩) (n9 - f) (c1 - f)) d) := .inr ⟨g, f, c1 - f, by rw [hdl], hgl, fun j hj => by
      rw [hcc (f + j) (by omega)]
      simp [← hd]⟩
    clear HX HR HR2 HF hd hn9 HFE hcc o1 HU9 b1 b2 b12 hbh
    subst hx1
    go_wp2_with fail
    · have HK := Hid.mk' (HMk.out _ w2 (HD2.out 0 0 (by omega)))
      clear HD2 HD3 HMk
      refine HK.out.mono ?_
      rintro e w3 ⟨rfl, b3⟩
      have b03 : Below w.heap.size w w3 := HB12.out.trans (b3.mono HB12.out.size)
      clear b3 HB12 HK
      go_wp2_with fail
      refine (HAsc.out _).mono ?_
      rintro e w4 ⟨rfl, b4⟩
      have b04 : Below w.heap.size w w4 := b03.trans (b4.mono b03.size)
      clear b03 b4
      go_wp2_with (go_at_call 29; refine (HNaN.out _).mono ?_; rintro e w5 ⟨rfl, hw5⟩; rw [hw5]; clear hw5 w5)
      go_ret
      exact ⟨by rw [HNO.out]; rfl, b04⟩
    · have HK := Hid.mk' (HMk.out _ w2 HD3.out)
      clear HD2 HD3 HMk
      refine HK.out.mono ?_
      rintro e w3 ⟨rfl, b3⟩
      have b03 : Below w.heap.size w w3 := HB12.out.trans (b3.mono HB12.out.size)
      clear b3 HB12 HK
      go_wp2_with fail
      refine (HAsc.out _).mono ?_
      rintro e w4 ⟨rfl, b4⟩
      have b04 : Below w.heap.size w w4 := b03.trans (b4.mono b03.size)
      clear b03 b4
      go_wp2_with (go_at_call 29; refine (HNaN.out _).mono ?_; rintro e w5 ⟨rfl, hw5⟩; rw [hw5]; clear hw5 w5)
      go_ret
      exact ⟨by rw [HNO.out]; rfl, b04⟩
set_option maxHeartbeats 4000000 in
set_option maxRecDepth 100000 in
theorem rwhole_m7 (s : ByteArray) (base : Int) (w : World) (hs : (s.size : Int) ≤ 10000) (hl : Hid (LaidN w)) (hlb : Hid (LaidB w)) (r : Int) (hr : IntKind.i32.wrap base = r) (A u : ByteArray) (hA : Sb (nb ((uns (bhd s)).map ascN)) = A) (hu : unsT A = u) (hsg : 0 < A.size ∧ by' A 0 = 45)
    (h1 : r ≠ 0) (h2 : r ≠ 16) (h3 : 36 < r) :
    Calls Tryz.prog 9 #[.string s, .int .i64 base] w fun e w' => e = .returned (.float .f64 (wRes r A)) ∧ Below w.heap.size w w' := by
  have hAs : (A.size : Int) ≤ 10000 := by rw [← hA, asc_size]; have := bhd_size s; omega
  have hlen := uns_length s
  have hfl := frontN_le (uns s)
  have hbt := PlainAid.get_bt A
  have hz0 := bt_by A 0
  have HAsc := Hid.mk' (fun W => asc3_any (bhd s) W (by have := bhd_size s; omega))
  rw [hA] at HAsc
  have hsg0 : sgnN A = true := by unfold sgnN; exact decide_eq_true (by omega)
  have hUA : A.extract 1 A.size = u := by rw [← hu]; unfold unsT; rw [hsg0, if_pos rfl]; rfl
  have hMA : minusN A = true := by unfold minusN; rw [hsg0, Bool.true_and]; exact decide_eq_true (by omega)
  have hne : A.toList.isEmpty = false := ne_empty (by omega)
  have hA0 : (0 : Int) < A.size := by omega
  have hz : PlainAid.bt A 0 = 45 := by omega
  have hA1 : (1 : Int) ≤ A.size := by omega
  have HUA := Hid.mk' hUA
  have hus : (u.size : Int) ≤ 20000 := by rw [← hUA, ByteArray.size_extract]; omega
  have hNo : wRes r A = 9221120237041090561 := by
    have hWR : wR r u = r := by unfold wR; rw [if_neg (fun q => by omega), if_neg h1]
    have hno : wNo r u = true := by unfold wNo; rw [hWR]; exact decide_eq_true (by omega)
    unfold wRes
    rw [hu, hno]
    exact if_pos rfl
  have HNO := Hid.mk' hNo
  obtain ⟨Res, hRes⟩ : ∃ Res, wRes r A = Res := ⟨_, rfl⟩
  rw [hRes] at HNO ⊢
  have hrb1 : -2147483648 ≤ r := by rw [← hr, IntKind.wrap_i32]; omega
  have hrb2 : r ≤ 2147483647 := by rw [← hr, IntKind.wrap_i32]; omega
  have q0 : (r == 0) = false := by rw [beq_eq_false_iff_ne]; omega
  have q16 : (r == 16) = false := by rw [beq_eq_false_iff_ne]; omega
  clear h1 h2
  have HNaN := Hid.mk' (fun W => nan_any W)
  clear hA hu hRes hMA hsg0 hz0 hsg
  clear hUA
  go_enter Tryz.func9, Tryz.ntmps9
  go_wp2_with fail
  refine (runits_any s _ (by omega)).mono ?_
  rintro e w1 ⟨v1, rfl, o1, b1⟩
  have HR := Hid.mk' (Rd.own o1)
  have HF := Hid.mk' (rfront_any (uns s) (uns_lt s) (by rw [hlen]; omega) v1 w1 HR.out)
  obtain ⟨x1, c1, rfl, hx⟩ := own_slice' o1
  have hcap : s.size / 2 ≤ c1 := by
    rcases o1.2 with ⟨e, h⟩ | ⟨g, cap, cur, e, _, _, h, _⟩
    · omega
    · simp at e; omega
  have hcm : (c1 : Int) ≤ 9223372036854775807 := by
    rcases o1.2 with ⟨e, _⟩ | ⟨g, cap, cur, e, _, _, _, h, _⟩
    · simp at e; omega
    · simp at e; unfold maxLen at h; omega
  obtain ⟨f, hf⟩ : ∃ f, frontN (uns s) = f := ⟨_, rfl⟩
  rw [hf] at HF hfl
  rw [hlen] at hfl
  have f1 : (0 : Int) ≤ (f : Int) := by omega
  have f2 : (f : Int) ≤ ((s.size / 2 : Nat) : Int) := by omega
  have f3 : ((s.size / 2 : Nat) : Int) ≤ (c1 : Int) := by omega
  have HX := Hid.mk' hx
  have HFE := Hid.mk' hf
  clear hx hf
  obtain ⟨n9, hn9⟩ : ∃ n9, s.size / 2 = n9 := ⟨_, rfl⟩
  rw [hn9] at HF hfl f2 f3 hcap hlen HX o1 HR ⊢
  have hnl9 : (n9 : Int) ≤ 10000 := by omega
  go_wp2_with fail
  refine HF.out.mono ?_
  rintro e w2 ⟨rfl, b2⟩
  have b12 : Below w.heap.size w w2 := b1.trans (b2.mono b1.size)
  obtain ⟨d, hd⟩ : ∃ d, (uns s).drop f = d := ⟨_, rfl⟩
  have hdl : d.length = n9 - f := by rw [← hd, List.length_drop, hlen]
  have HU9 : Hid (∀ q ∈ d, q < 65536) := fun q hq => uns_lt s q (by rw [← hd] at hq; exact List.mem_of_mem_drop hq)
  have HMk : Hid (∀ v W, Rd W v d → Calls Tryz.prog 35 #[v] W fun e w' => e = .returned (.string (bhd s)) ∧ Below W.heap.size W w') := fun v W hv => by
    have := rmake_any d HU9.out (by omega) v W hv
    have e : (⟨(mkB d).toArray⟩ : ByteArray) = bhd s := by unfold bhd; rw [HFE.out, hd]
    rw [e] at this
    exact this
  have HR2 := Hid.mk' (HR.out.below b2)
  have HB12 := Hid.mk' b12
  obtain ⟨bh, hbh⟩ : ∃ bh, bhd s = bh := ⟨_, rfl⟩
  rw [hbh] at HMk HAsc
  rcases HX.out with ⟨hx1, hx2, hx3⟩ | ⟨g, hx1, hg⟩
  · have hf0 : f = 0 := by omega
    have HRd : Hid (Rd w2 (.slice none 0 0) d) := .inl ⟨0, by rw [hdl]; simp; omega, List.eq_nil_of_length_eq_zero (by omega)⟩
    have HK := Hid.mk' (HMk.out _ w2 HRd.out)
    clear HX HR HR2 HF hd o1 hn9 HFE HMk HRd HU9 b1 b2 b12 hbh
    subst hx1 hx2 hx3 hf0
    go_wp2_with fail
    refine HK.out.mono ?_
    rintro e w3 ⟨rfl, b3⟩
    have b03 : Below w.heap.size w w3 := HB12.out.trans (b3.mono HB12.out.size)
    clear b3 HB12 HK
    go_wp2_with fail
    refine (HAsc.out _).mono ?_
    rintro e w4 ⟨rfl, b4⟩
    have b04 : Below w.heap.size w w4 := b03.trans (b4.mono b03.size)
    clear b03 b4
    go_wp2_with (go_at_call 29; refine (HNaN.out _).mono ?_; rintro e w5 ⟨rfl, hw5⟩; rw [hw5]; clear hw5 w5)
    go_ret
    exact ⟨by rw [HNO.out]; rfl, b04⟩
  · have hcc : ∀ (j : Nat) (h : j < n9), w2.cell? ⟨g, j, none⟩ = some (.int .u16 ((uns s)[j]'(by omega) : Nat)) := by
      rcases HR2.out with ⟨c', e1, e2⟩ | ⟨g', o, c', e1, hg', hc⟩
      · intro j h
        have : (uns s).length = 0 := by rw [e2]; rfl
        omega
      · intro j h
        have e3 : g' = g ∧ o = 0 := by
          rw [hx1] at e1
          simp at e1
          omega
        have := hc j (by omega)
        rw [e3.1, e3.2, Nat.zero_add] at this
        exact this
    have hgl : g < w2.heap.size := by
      have h2 := (o1.lt g (by rw [hx1]; rfl)).2
      exact Nat.lt_of_lt_of_le h2 b2.size
    have HD2 : Hid (∀ k o, n9 - f = 0 → Rd w2 (.slice (some ⟨g, o, none⟩) (n9 - f) k) d) := fun k o h0 => .inr ⟨g, o, k, by rw [hdl], hgl, fun j hj => by omega⟩
    have HD3 : Hid (Rd w2 (.slice (some ⟨g, f, none⟩) (n9 - f) (c1 - f)) d) := .inr ⟨g, f, c1 - f, by rw [hdl], hgl, fun j hj => by
      rw [hcc (f + j) (by omega)]
      simp [← hd]⟩
    clear HX HR HR2 HF hd hn9 HFE hcc o1 HU9 b1 b2 b12 hbh
    subst hx1
    go_wp2_with fail
    · have HK := Hid.mk' (HMk.out _ w2 (HD2.out 0 0 (by omega)))
      clear HD2 HD3 HMk
      refine HK.out.mono ?_
      rintro e w3 ⟨rfl, b3⟩
      have b03 : Below w.heap.size w w3 := HB12.out.trans (b3.mono HB12.out.size)
      clear b3 HB12 HK
      go_wp2_with fail
      refine (HAsc.out _).mono ?_
      rintro e w4 ⟨rfl, b4⟩
      have b04 : Below w.heap.size w w4 := b03.trans (b4.mono b03.size)
      clear b03 b4
      go_wp2_with (go_at_call 29; refine (HNaN.out _).mono ?_; rintro e w5 ⟨rfl, hw5⟩; rw [hw5]; clear hw5 w5)
      go_ret
      exact ⟨by rw [HNO.out]; rfl, b04⟩
    · have HK := Hid.mk' (HMk.out _ w2 HD3.out)
      clear HD2 HD3 HMk
      refine HK.out.mono ?_
      rintro e w3 ⟨rfl, b3⟩
      have b03 : Below w.heap.size w w3 := HB12.out.trans (b3.mono HB12.out.size)
      clear b3 HB12 HK
      go_wp2_with fail
      refine (HAsc.out _).mono ?_
      rintro e w4 ⟨rfl, b4⟩
      have b04 : Below w.heap.size w w4 := b03.trans (b4.mono b03.size)
      clear b03 b4
      go_wp2_with (go_at_call 29; refine (HNaN.out _).mono ?_; rintro e w5 ⟨rfl, hw5⟩; rw [hw5]; clear hw5 w5)
      go_ret
      exact ⟨by rw [HNO.out]; rfl, b04⟩
/-- lintelref03.Whole. -/
theorem rwhole_any (s : ByteArray) (base : Int) (w : World) (hs : (s.size : Int) ≤ 10000) (hl : Hid (LaidN w)) (hlb : Hid (LaidB w)) :
    Calls Tryz.prog 9 #[.string s, .int .i64 base] w fun e w' => e = .returned (.float .f64 (wRes (IntKind.i32.wrap base) (Sb (nb ((uns (bhd s)).map ascN))))) ∧ Below w.heap.size w w' := by
  obtain ⟨r, hr⟩ : ∃ r, IntKind.i32.wrap base = r := ⟨_, rfl⟩
  obtain ⟨A, hA⟩ : ∃ A, Sb (nb ((uns (bhd s)).map ascN)) = A := ⟨_, rfl⟩
  rw [hr, hA]
  by_cases he : A.size = 0
  · skip
    by_cases h0 : r = 0
    · by_cases hp : prefN (unsT A) = 16
      · exact absurd hp (by rw [show unsT A = A by unfold unsT sgnN; rw [if_neg (by simp; omega)]]; unfold prefN; rw [if_pos (.inl (by omega))]; omega)
      · exact rwhole_e3 s base w hs hl hlb r hr A _ hA rfl he h0 hp
    · by_cases h16 : r = 16
      · by_cases hp : prefN (unsT A) = 16
        · exact absurd hp (by rw [show unsT A = A by unfold unsT sgnN; rw [if_neg (by simp; omega)]]; unfold prefN; rw [if_pos (.inl (by omega))]; omega)
        · exact rwhole_e4 s base w hs hl hlb r hr A _ hA rfl he h16 hp
      · by_cases h3 : r < 2
        · exact rwhole_e6 s base w hs hl hlb r hr A _ hA rfl he h0 h16 h3
        · by_cases h4 : 36 < r
          · exact rwhole_e7 s base w hs hl hlb r hr A _ hA rfl he h0 h16 h4
          exact rwhole_e5 s base w hs hl hlb r hr A _ hA rfl he r.toNat (by omega) (by omega) (by omega)
  · by_cases hp43 : by' A 0 = 43
    · skip
      by_cases h0 : r = 0
      · by_cases hp : prefN (unsT A) = 16
        · exact rwhole_p1 s base w hs hl hlb r hr A _ hA rfl ⟨by omega, hp43⟩ h0 hp
        · exact rwhole_p3 s base w hs hl hlb r hr A _ hA rfl ⟨by omega, hp43⟩ h0 hp
      · by_cases h16 : r = 16
        · by_cases hp : prefN (unsT A) = 16
          · exact rwhole_p2 s base w hs hl hlb r hr A _ hA rfl ⟨by omega, hp43⟩ h16 hp
          · exact rwhole_p4 s base w hs hl hlb r hr A _ hA rfl ⟨by omega, hp43⟩ h16 hp
        · by_cases h3 : r < 2
          · exact rwhole_p6 s base w hs hl hlb r hr A _ hA rfl ⟨by omega, hp43⟩ h0 h16 h3
          · by_cases h4 : 36 < r
            · exact rwhole_p7 s base w hs hl hlb r hr A _ hA rfl ⟨by omega, hp43⟩ h0 h16 h4
            exact rwhole_p5 s base w hs hl hlb r hr A _ hA rfl ⟨by omega, hp43⟩ r.toNat (by omega) (by omega) (by omega)
    · by_cases hm : by' A 0 = 45
      · skip
        by_cases h0 : r = 0
        · by_cases hp : prefN (unsT A) = 16
          · exact rwhole_m1 s base w hs hl hlb r hr A _ hA rfl ⟨by omega, hm⟩ h0 hp
          · exact rwhole_m3 s base w hs hl hlb r hr A _ hA rfl ⟨by omega, hm⟩ h0 hp
        · by_cases h16 : r = 16
          · by_cases hp : prefN (unsT A) = 16
            · exact rwhole_m2 s base w hs hl hlb r hr A _ hA rfl ⟨by omega, hm⟩ h16 hp
            · exact rwhole_m4 s base w hs hl hlb r hr A _ hA rfl ⟨by omega, hm⟩ h16 hp
          · by_cases h3 : r < 2
            · exact rwhole_m6 s base w hs hl hlb r hr A _ hA rfl ⟨by omega, hm⟩ h0 h16 h3
            · by_cases h4 : 36 < r
              · exact rwhole_m7 s base w hs hl hlb r hr A _ hA rfl ⟨by omega, hm⟩ h0 h16 h4
              exact rwhole_m5 s base w hs hl hlb r hr A _ hA rfl ⟨by omega, hm⟩ r.toNat (by omega) (by omega) (by omega)
      · skip
        by_cases h0 : r = 0
        · by_cases hp : prefN (unsT A) = 16
          · exact rwhole_n1 s base w hs hl hlb r hr A _ hA rfl ⟨by omega, hp43, hm⟩ h0 hp
          · exact rwhole_n3 s base w hs hl hlb r hr A _ hA rfl ⟨by omega, hp43, hm⟩ h0 hp
        · by_cases h16 : r = 16
          · by_cases hp : prefN (unsT A) = 16
            · exact rwhole_n2 s base w hs hl hlb r hr A _ hA rfl ⟨by omega, hp43, hm⟩ h16 hp
            · exact rwhole_n4 s base w hs hl hlb r hr A _ hA rfl ⟨by omega, hp43, hm⟩ h16 hp
          · by_cases h3 : r < 2
            · exact rwhole_n6 s base w hs hl hlb r hr A _ hA rfl ⟨by omega, hp43, hm⟩ h0 h16 h3
            · by_cases h4 : 36 < r
              · exact rwhole_n7 s base w hs hl hlb r hr A _ hA rfl ⟨by omega, hp43, hm⟩ h0 h16 h4
              exact rwhole_n5 s base w hs hl hlb r hr A _ hA rfl ⟨by omega, hp43, hm⟩ r.toNat (by omega) (by omega) (by omega)
end Go.Proofs.YtighenikjedojaaGreatDoor
