/- lintelref03.zeros, Plain, Show; lintelref01.Ascii: the document's text of a number. -/
import Derived.Test.YtaknclffnoljlaaGreatDoorShowU
import Derived.Test.YtaknclffnoljlaaGreatDoorRAsc
import Derived.PlainAid
namespace Go.Proofs.YtaknclffnoljlaaGreatDoor
set_option linter.unusedVariables false
open Go.RowKit Fl

set_option maxHeartbeats 400000 in
theorem zeros_any (n : Nat) (w : World) (hn : n ≤ 10000) :
    Calls Tryz.prog 89 #[.int .i64 (n : Nat)] w fun e w' => e = .returned (.string (Sb (zs n))) ∧ w' = w := by
  go_enter Tryz.func89, Tryz.ntmps89
  go_wp2
  go_loop [3, 4] (fun s i => ∃ k : Nat, i = .int .i64 k ∧ k ≤ n ∧ s = .string (Sb (zs k))) (fun _ i => n - (intOf i).toNat)
  case atStart => exact ⟨0, rfl, Nat.zero_le _, rfl⟩
  case round =>
    obtain ⟨k, rfl, hk, rfl⟩ := hrel
    have hz := Sb_size (zs k)
    have hz2 : (zs k).length = k := by simp [zs]
    have hz3 : ((Sb (zs k)).size : Int) ≤ 10000 := by omega
    clear hz hz2
    by_cases hlt : k < n
    · go_wp2
      go_round
      case rel => exact ⟨k + 1, by go_num, by omega, by rw [Sb48, Sb_append]; simp [zs, List.replicate_succ']⟩
      case measure => simp [intOf]; omega
    · obtain rfl : k = n := by omega
      go_wp2
      go_ret
      exact ⟨rfl, rfl⟩
theorem man_filter (b : Nat) : (u8s (manN (shDs b))).filter (· != 46) = u8s (shDs b) := by
  have hd := shDs_digit b
  have hf : ∀ l : List Nat, (∀ c ∈ l, 48 ≤ c ∧ c ≤ 57) → (u8s l).filter (· != 46) = u8s l := fun l hl => by
    rw [List.filter_eq_self]
    intro c hc
    have := u8s_mem hc (fun x hx => by have := hl x hx; omega)
    have := hl _ this
    rw [bne_iff_ne]
    rintro rfl
    exact absurd this.1 (by decide)
  cases h : shDs b with
  | nil => rfl
  | cons d r =>
    rw [h] at hd
    cases r with
    | nil => exact hf [d] hd
    | cons e r =>
      have h1 := hf [d] (fun c hc => hd c (by simp at hc; simp [hc]))
      have h2 := hf (e :: r) (fun c hc => hd c (by simp at hc ⊢; right; exact hc))
      show ((u8s [d]) ++ ([46] ++ u8s (e :: r))).filter (· != 46) = u8s [d] ++ u8s (e :: r)
      rw [List.filter_append, h1, List.filter_append, h2]
      rfl

theorem enc_ascii (c : UInt8) (h : c.toNat < 128) : Utf8.encode (c.toNat : Int) = Sb [c] := by
  unfold Utf8.encode
  have hv : Utf8.valid (c.toNat : Int) = true := by unfold Utf8.valid; simp; omega
  simp only [hv, if_true]
  simp [h, Sb]
set_option maxHeartbeats 2000000 in
set_option maxRecDepth 100000 in
theorem rplain_pos (b : Nat) (w : World) (h0 : 0 < b) (h1 : b < 9218868437227405312) (hl : Hid (LaidF w)) :
    Calls Tryz.prog 65 #[.float .f64 b] w fun e w' => e = .returned (.string (Sb (posB b))) ∧ Below w.heap.size w w' := by
  have HF := Hid.mk' (fmtFloat_any b w h0 h1 hl.out)
  have HI := Hid.mk' (fun W => isInf1_any b W (by omega))
  rw [decide_eq_false (show ¬ b = 9218868437227405312 by omega)] at HI
  have e0 := eq0 b (by omega)
  rw [decide_eq_false (show ¬ b % 9223372036854775808 = 0 by omega)] at e0
  have l0 := lt0 b (by omega) (by unfold nan; omega)
  rw [decide_eq_false (show ¬ 9223372036854775808 < b by omega)] at l0
  have hnn : (FloatKind.f64.format.order b b != some Ordering.eq) = false := by
    rw [f64, order_key b b (by omega) (by omega) (by unfold nan; omega) (by unfold nan; omega), Int.compare_eq_eq.2 rfl]; rfl
  have hx := shX_range b h0 h1
  have hn := shDs_len b h0 h1
  obtain ⟨M, hM⟩ : ∃ M, u8s (manN (shDs b)) = M := ⟨_, rfl⟩
  obtain ⟨X, hX⟩ : ∃ X, u8s (expS (shX b)) = X := ⟨_, rfl⟩
  have hT : u8s (ffT b) = M ++ 101 :: X := by rw [ffT_parts, u8s_append, hM, ← hX]; rfl
  have hat : Lib.atoi X = some (shX b) := hX ▸ atoi_exp _ ⟨by omega, by omega⟩
  have hXl : X.length ≤ 4 := by rw [← hX]; simp [u8s, expS_len]
  have hMl : M.length ≤ 21 := by
    rw [← hM]
    simp only [u8s, List.length_map]
    cases h : shDs b with
    | nil => simp [manN]
    | cons d r =>
      rw [h] at hn
      cases r with
      | nil => simp [manN]
      | cons e r => simp [manN] at *; omega
  have hMe : ∀ c ∈ M, c ≠ 101 ∧ c.toNat < 128 := fun c hc => by
    rw [← hM] at hc
    refine ⟨fun e => man_no_e b (e ▸ hc), ?_⟩
    have hd := shDs_digit b
    have := u8s_mem hc (fun x hx => by
      rcases manN_mem hx with rfl | hx
      · omega
      · have := hd x hx; omega)
    rcases manN_mem this with e | e
    · omega
    · have := hd _ e; omega
  have hfil : M.filter (· != 46) = u8s (shDs b) := hM ▸ man_filter b
  have hpos : posB b = laidB (u8s (shDs b)) (shX b + 1) := rfl
  have hDl : (u8s (shDs b)).length = (shDs b).length := by simp [u8s]
  generalize u8s (shDs b) = D at *
  generalize shX b = x at *
  obtain ⟨n, hn'⟩ : ∃ n, x + 1 = n := ⟨_, rfl⟩
  have hnr : -402 ≤ n ∧ n ≤ 421 := by omega
  rw [hpos, hn']
  rw [strN_Sb, hT] at HF
  have HA := Hid.mk' hat
  have HM := Hid.mk' hMe
  have HL := Hid.mk' hfil
  have hD1 : 1 ≤ D.length ∧ D.length ≤ 20 := by omega
  clear hT hat hM hX hn hMe hfil hpos hDl
  go_enter Tryz.func65, Tryz.ntmps65
  go_wp2_with (go_at_call 84; refine (HI.out _).mono ?_; rintro e w1 ⟨rfl, hw1⟩; rw [hw1]; clear hw1 w1)
  refine HF.out.mono ?_
  rintro e1 w1 ⟨rfl, b1⟩
  have hsz : ((Sb (M ++ 101 :: X)).size : Int) = M.length + 1 + X.length := by rw [Sb_size]; simp; omega
  have hbt := PlainAid.get_bt (Sb (M ++ 101 :: X))
  have HBT : Hid (∀ k, PlainAid.bt (Sb (M ++ 101 :: X)) k = (((M ++ 101 :: X).getD k 0).toNat : Int)) := fun k => by
    unfold PlainAid.bt
    rw [List.getD_eq_getElem?_getD]
    split
    · rename_i h
      rw [Sb_size] at h
      rw [List.getElem?_eq_getElem h]
      rfl
    · rename_i h
      rw [Sb_size] at h
      rw [List.getElem?_eq_none (by omega)]
      rfl
  go_wp2
  go_loop [4, 5] (fun d i => ∃ k : Nat, i = .int .i64 k ∧ k ≤ M.length ∧ d = .string (Sb ((M.take k).filter (· != 46)))) (fun _ i => M.length - (intOf i).toNat)
  case atStart => exact ⟨0, rfl, Nat.zero_le _, rfl⟩
  case round =>
    obtain ⟨k, rfl, hk, rfl⟩ := hrel
    have hfs := Sb_size ((M.take k).filter (· != 46))
    have hfl := List.length_filter_le (· != (46 : UInt8)) (M.take k)
    have hfl2 : (M.take k).length ≤ 21 := by simp; omega
    have hz3 : ((Sb ((M.take k).filter (· != 46))).size : Int) ≤ 21 := by omega
    clear hfs hfl hfl2
    have hbk := HBT.out k
    by_cases hlt : k < M.length
    · rw [List.getD_eq_getElem?_getD, List.getElem?_append_left hlt, List.getElem?_eq_getElem hlt, Option.getD_some] at hbk
      obtain ⟨n1, n2⟩ := HM.out M[k] (List.getElem_mem hlt)
      have hstep : (M.take (k + 1)).filter (· != 46) = (M.take k).filter (· != 46) ++ (if M[k] = 46 then [] else [M[k]]) := by
        rw [List.take_succ_eq_append_getElem hlt, List.filter_append]
        congr 1
        by_cases e : M[k] = 46 <;> simp [e]
      generalize M[k] = c at *
      have HS := Hid.mk' hstep
      obtain ⟨z, hz⟩ : ∃ z : Int, (c.toNat : Int) = z := ⟨_, rfl⟩
      have hz1 : z < 128 := by omega
      have hz0 : 0 ≤ z := by omega
      have hne : (z != 101) = true := by
        rw [bne_iff_ne]
        intro e
        exact n1 (UInt8.toNat_inj.1 (by rw [show (101 : UInt8).toNat = 101 from rfl]; omega))
      by_cases e : c = 46
      · have h46 : (z != 46) = false := by rw [bne_eq_false_iff_eq, ← hz, e]; rfl
        rw [hz] at hbk
        rw [if_pos e] at HS
        clear hstep hz n1 n2 e
        go_wp2
        go_round
        case rel => exact ⟨k + 1, by go_num, by omega, by rw [HS.out]; simp⟩
        case measure => simp [intOf]; omega
      · have h46 : (z != 46) = true := by
          rw [bne_iff_ne]
          intro q
          exact e (UInt8.toNat_inj.1 (by rw [show (46 : UInt8).toNat = 46 from rfl]; omega))
        have henc := enc_ascii c n2
        rw [hz] at henc hbk
        rw [if_neg e] at HS
        have hs1 : ((Sb [c]).size : Int) = 1 := by rw [Sb_size]; rfl
        clear hstep hz n1 n2 e
        go_wp2
        go_round
        case rel => exact ⟨k + 1, by go_num, by omega, by rw [HS.out, Sb_append]⟩
        case measure => simp [intOf]; omega
    · obtain rfl : k = M.length := by omega
      rw [List.getD_eq_getElem?_getD, List.getElem?_append_right (Nat.le_refl _), Nat.sub_self] at hbk
      have hbk2 : PlainAid.bt (Sb (M ++ 101 :: X)) M.length = 101 := hbk
      rw [List.take_length, HL.out] at *
      clear hbk
      have hext : (Sb (M ++ 101 :: X)).extract (M.length + 1) (Sb (M ++ 101 :: X)).size = Sb X := by
        rw [Sb_extract, Sb_size, List.take_length, show M.length + 1 = (M ++ [101]).length by simp, show M ++ 101 :: X = (M ++ [101]) ++ X by simp, List.drop_left]
      have HX := Hid.mk' hext
      clear hext
      have hs : (Sb D).size = D.length := Sb_size D
      have ATO := Hid.mk' (fun W => Tryz.strconv_Atoi (Sb X) x (by rw [Sb_size]; omega) (by rw [Sb_list]; exact HA.out) W)
      clear HM HBT
      by_cases a1 : (D.length : Int) ≤ n ∧ n ≤ 21
      · obtain ⟨k, hk⟩ : ∃ k : Nat, n - (D.length : Int) = (k : Int) := ⟨(n - D.length).toNat, by omega⟩
        have HE : Hid (laidB D n = D ++ zs k) := by show _ = _; unfold laidB; rw [if_neg (by omega), if_neg (by omega), if_neg (by omega), hk]; rfl
        have HZ := Hid.mk' (fun W => zeros_any k W (by omega))
        have hz3 : ((Sb (zs k)).size : Int) ≤ 21 := by rw [Sb_size]; simp [zs]; omega
        obtain ⟨a2, a3⟩ := a1
        go_wp2_with fail
        rw [HX.out]
        refine (ATO.out _).mono ?_
        rintro e2 w2 ⟨rfl, t2, hw2⟩
        have b2 : Below w.heap.size w w2 := by rw [hw2]; exact b1.trans ((Lib.bytesWorld_below _ _ _).mono b1.size)
        clear hw2
        go_wp2_with (go_at_call 89; refine (HZ.out _).mono ?_; rintro e w3 ⟨rfl, hw3⟩; rw [hw3]; clear hw3 w3)
        go_ret
        refine ⟨congrArg (fun s => Ending.returned (.string s)) (Sb_ext ?_), b2⟩
        rw [HE.out]
        simp only [Sb_append, Sb_list]
      · by_cases a2 : 0 < n ∧ n ≤ 21
        · obtain ⟨k, rfl⟩ : ∃ k : Nat, n = (k : Int) := ⟨n.toNat, by omega⟩
          have HE : Hid (laidB D k = D.take k ++ 46 :: D.drop k) := by show _ = _; unfold laidB; rw [if_neg (by omega), if_neg (by omega), if_pos (by omega)]; rfl
          have hk : k < D.length := by omega
          have hk2 : k ≤ 21 := by omega
          have hk0 : 0 < k := by omega
          clear a1 a2
          go_wp2_with fail
          rw [HX.out]
          refine (ATO.out _).mono ?_
          rintro e2 w2 ⟨rfl, t2, hw2⟩
          have b2 : Below w.heap.size w w2 := by rw [hw2]; exact b1.trans ((Lib.bytesWorld_below _ _ _).mono b1.size)
          clear hw2
          go_wp2_with fail
          go_region
          go_wp2
          go_ret
          refine ⟨congrArg (fun s => Ending.returned (.string s)) (Sb_ext ?_), below_draws b2 1⟩
          rw [HE.out]
          simp only [Sb_extract, Sb46, Sb_append, Sb_list]
          simp
        · by_cases a3 : -6 < n ∧ n ≤ 0
          · obtain ⟨k, hk⟩ : ∃ k : Nat, -n = (k : Int) := ⟨(-n).toNat, by omega⟩
            have HE : Hid (laidB D n = [48, 46] ++ zs k ++ D) := by show _ = _; unfold laidB; rw [if_neg (by omega), if_pos (by omega), hk]; rfl
            have HZ := Hid.mk' (fun W => zeros_any k W (by omega))
            have hz3 : ((Sb (zs k)).size : Int) ≤ 5 := by rw [Sb_size]; simp [zs]; omega
            obtain ⟨a4, a5⟩ := a3
            have a6 : n < (D.length : Int) := by omega
            clear a1 a2
            go_wp2_with fail
            rw [HX.out]
            refine (ATO.out _).mono ?_
            rintro e2 w2 ⟨rfl, t2, hw2⟩
            have b2 : Below w.heap.size w w2 := by rw [hw2]; exact b1.trans ((Lib.bytesWorld_below _ _ _).mono b1.size)
            clear hw2
            go_wp2_with (go_at_call 89; refine (HZ.out _).mono ?_; rintro e w3 ⟨rfl, hw3⟩; rw [hw3]; clear hw3 w3)
            go_ret
            refine ⟨congrArg (fun s => Ending.returned (.string s)) (Sb_ext ?_), b2⟩
            rw [HE.out]
            simp only [Sb4846, Sb_append, Sb_list]
          · have a4 : n < -5 ∨ 21 < n := by omega
            have HE : Hid (laidB D n = sciB D (n - 1)) := by show _ = _; unfold laidB; rw [if_pos a4]
            clear a1 a2 a3
            obtain ⟨q, hq⟩ : ∃ q, (n - 1 < 0 ∧ q = 1 - n) ∨ (0 ≤ n - 1 ∧ q = n - 1) := by
              rcases Int.lt_or_le (n - 1) 0 with c | c
              · exact ⟨_, .inl ⟨c, rfl⟩⟩
              · exact ⟨_, .inr ⟨c, rfl⟩⟩
            have hq0 : 0 ≤ q ∧ q ≤ 10000 := by omega
            have hI := Sb_size (Lib.itoa q)
            have hI2 := Lib.itoa_length_le q (by omega) (by omega)
            have hI3 : ((Sb (Lib.itoa q)).size : Int) ≤ 21 := by omega
            have HP : Hid (powB (n - 1) = (if n - 1 < 0 then 45 else 43) :: Lib.itoa q) := by
              show _ = _
              unfold powB
              rcases hq with ⟨c, rfl⟩ | ⟨c, rfl⟩
              · rw [if_pos c, if_pos c, show -(n - 1) = 1 - n by omega]
              · rw [if_neg (by omega), if_neg (by omega)]
            clear hI hI2
            rcases Nat.lt_or_ge 1 D.length with a | a <;> rcases hq with ⟨c, rfl⟩ | ⟨c, rfl⟩ <;> rcases a4 with a4 | a4
            all_goals first | (exfalso; omega) | skip
            all_goals
              go_wp2_with fail
              rw [HX.out]
              refine (ATO.out _).mono ?_
              rintro e2 w2 ⟨rfl, t2, hw2⟩
              have b2 : Below w.heap.size w w2 := by rw [hw2]; exact b1.trans ((Lib.bytesWorld_below _ _ _).mono b1.size)
              clear hw2
              go_wp2_with fail
              refine (Tryz.strconv_Itoa _ (by omega) (by omega) _ (hl.out.below b2).u64p).mono ?_
              rintro e1 w3 ⟨rfl, k1, os1, hw3⟩
              have b3 : Below w.heap.size w w3 := by rw [hw3]; exact b2.trans ((Lib.below_grow _ _ (Nat.le_refl _) _ _).mono b2.size)
              clear hw3
              rw [show ∀ I : List UInt8, (⟨I.toArray⟩ : ByteArray) = Sb I from fun _ => rfl]
              go_wp2
              go_ret
              refine ⟨congrArg (fun s => Ending.returned (.string s)) (Sb_ext ?_), b3⟩
              rw [HE.out, sciB, HP.out]
              simp only [Sb_extract, Sb46, show (⟨#[101, 45]⟩ : ByteArray) = Sb [101, 45] from rfl, show (⟨#[101, 43]⟩ : ByteArray) = Sb [101, 43] from rfl, Sb_append, Sb_list]
              first
                | (rw [if_pos a, if_pos c]; simp; done)
                | (rw [if_pos a, if_neg (by omega)]; simp; done)
                | (rw [if_neg (by omega), if_pos c]; simp; done)
                | (rw [if_neg (by omega), if_neg (by omega)]; simp; done)

set_option maxHeartbeats 1000000 in
set_option maxRecDepth 100000 in
theorem rplain_non (y : Nat) (w : World) (h0 : 0 < y) (h1 : y ≤ 9218868437227405312) (hl : Hid (LaidF w)) :
    Calls Tryz.prog 65 #[.float .f64 y] w fun e w' => e = .returned (.string (Sb (unsB y))) ∧ Below w.heap.size w w' := by
  by_cases h2 : y = 9218868437227405312
  · have HE : Hid (unsB y = [73, 110, 102, 105, 110, 105, 116, 121]) := by show _ = _; unfold unsB; rw [if_neg (by unfold nan; omega), if_pos h2]
    have HI := Hid.mk' (fun W => isInf1_any y W (by omega))
    rw [decide_eq_true h2] at HI
    have e0 := eq0 y (by omega)
    rw [decide_eq_false (show ¬ y % 9223372036854775808 = 0 by omega)] at e0
    have l0 := lt0 y (by omega) (by unfold nan; omega)
    rw [decide_eq_false (show ¬ 9223372036854775808 < y by omega)] at l0
    have hnn : (FloatKind.f64.format.order y y != some Ordering.eq) = false := by
      rw [f64, order_key y y (by omega) (by omega) (by unfold nan; omega) (by unfold nan; omega), Int.compare_eq_eq.2 rfl]; rfl
    clear h2
    go_enter Tryz.func65, Tryz.ntmps65
    go_wp2_with (go_at_call 84; refine (HI.out _).mono ?_; rintro e w1 ⟨rfl, hw1⟩; rw [hw1]; clear hw1 w1)
    go_ret
    exact ⟨by rw [HE.out]; rfl, Below.refl _ _⟩
  · have HE : unsB y = posB y := by unfold unsB; rw [if_neg (by unfold nan; omega), if_neg h2, if_neg (by omega)]
    rw [HE]
    exact rplain_pos y w h0 (by omega) hl
set_option maxHeartbeats 1000000 in
set_option maxRecDepth 100000 in
theorem rplain_any (x : Nat) (w : World) (hx : x < 18446744073709551616) (hl : Hid (LaidF w)) :
    Calls Tryz.prog 65 #[.float .f64 x] w fun e w' => e = .returned (.string (Sb (showB x))) ∧ Below w.heap.size w w' := by
  by_cases h1 : nan x
  · have HE : Hid (showB x = [78, 97, 78]) := by show _ = _; rw [showB_pos x (.inl h1)]; unfold unsB; rw [if_pos h1]
    have hnn : (FloatKind.f64.format.order x x != some Ordering.eq) = true := by
      rw [f64, order_nan x x hx hx (.inl h1)]; rfl
    go_enter Tryz.func65, Tryz.ntmps65
    go_wp2
    go_ret
    exact ⟨by rw [HE.out]; rfl, Below.refl _ _⟩
  · have hnn : (FloatKind.f64.format.order x x != some Ordering.eq) = false := by
      rw [f64, order_key x x hx hx h1 h1, Int.compare_eq_eq.2 rfl]; rfl
    have e0 := eq0 x hx
    have l0 := lt0 x hx h1
    by_cases h2 : x % 9223372036854775808 = 0
    · rw [decide_eq_true h2] at e0
      have HE : Hid (showB x = [48]) := by show _ = _; rw [showB_pos x (.inr (by omega))]; unfold unsB; rw [if_neg h1, if_neg (by omega), if_pos h2]
      clear h2 l0
      go_enter Tryz.func65, Tryz.ntmps65
      go_wp2
      go_ret
      exact ⟨by rw [HE.out]; rfl, Below.refl _ _⟩
    · rw [decide_eq_false h2] at e0
      by_cases h3 : 9223372036854775808 < x
      · rw [decide_eq_true h3] at l0
        have HE := Hid.mk' (showB_neg x h3 h1)
        have hy0 : x % 9223372036854775808 ≤ 9218868437227405312 := by unfold nan at h1; omega
        have hneg : Op.negFloat .f64 x = x % 9223372036854775808 := by
          have := neg_neg' (x % 9223372036854775808) (by omega)
          rw [show 9223372036854775808 + x % 9223372036854775808 = x by omega] at this
          exact this
        have hlen := unsB_len (x % 9223372036854775808) (.inl hy0)
        have hyp : 0 < x % 9223372036854775808 := by omega
        generalize x % 9223372036854775808 = y at *
        have HR := Hid.mk' (fun W hW => rplain_non y W hyp hy0 hW)
        have hs2 : ((Sb (unsB y)).size : Int) ≤ 300 := by rw [Sb_size]; omega
        clear hlen h2
        go_enter Tryz.func65, Tryz.ntmps65
        go_wp2_with fail
        refine (HR.out _ hl).mono ?_
        rintro e w1 ⟨rfl, b1⟩
        go_wp2
        go_ret
        refine ⟨congrArg (fun s => Ending.returned (.string s)) (Sb_ext ?_), b1⟩
        rw [HE.out]
        simp only [Sb45, Sb_append, Sb_list]
        rfl
      · rw [showB_pos x (.inr h3)]
        exact rplain_non x w (by omega) (by unfold nan at h1; omega) hl
set_option maxHeartbeats 400000 in
theorem rshow_any (x : Nat) (w : World) (hx : x < 18446744073709551616) (hl : Hid (LaidF w)) :
    Calls Tryz.prog 46 #[.float .f64 x] w fun e w' => e = .returned (.string (ofFst (ofS (Sb (showB x))))) ∧ Below w.heap.size w w' := by
  have HP := Hid.mk' (fun W hW => rplain_any x W hx hW)
  have hlen := showB_len x hx
  have HA := Hid.mk' (fun W => rascii_any (Sb (showB x)) W (by rw [Sb_size]; omega))
  clear hlen
  go_enter Tryz.func46, Tryz.ntmps46
  go_wp2_with fail
  refine (HP.out _ hl).mono ?_
  rintro e w1 ⟨rfl, b1⟩
  go_wp2_with fail
  refine (HA.out _).mono ?_
  rintro e w2 ⟨rfl, b2⟩
  go_wp2
  go_ret
  exact ⟨rfl, b1.trans (b2.mono b1.size)⟩
end Go.Proofs.YtaknclffnoljlaaGreatDoor
