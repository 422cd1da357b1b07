/- digits.timesPlus, rounded, nearest for every number. digits.rounded for every number; math.Ldexp where it goes beyond. digits.rounded at more than one word. digits.nearest for every text of digits. -/
import Derived.Test.YtighenikjedojaaGreatDoorNear
import Derived.Test.YtighenikjedojaaGreatDoorNst
import Derived.Sort.WalkA
namespace Go.Proofs.YtighenikjedojaaGreatDoor
set_option linter.unusedVariables false
open Go.RowKit Fl

/-- Words as cells. -/
def uC (l : List Nat) : List Value := l.map fun x => Value.int .u64 (x : Nat)
theorem uC_length (l : List Nat) : (uC l).length = l.length := by simp [uC]
theorem uC_get (l : List Nat) (j : Nat) (h : j < l.length) : (uC l)[j]? = some (.int .u64 ((l.getD j 0 : Nat) : Int)) := by
  unfold uC
  rw [List.getElem?_map, List.getElem?_eq_getElem h, List.getD_eq_getElem?_getD, List.getElem?_eq_getElem h]
  rfl
theorem uC_set (l : List Nat) (j x : Nat) : (uC l).set j (.int .u64 (x : Nat)) = uC (l.set j x) := by
  unfold uC; rw [List.map_set]
theorem call_add64w (x y : Nat) (w : World) (hx : x < 18446744073709551616) (hy : y < 18446744073709551616) : (callFunc 97 #[.int .u64 (x : Nat), .int .u64 (y : Nat), .int .u64 0]).run Tryz.prog w = .ok (.value (.tuple #[.int .u64 (((x + y) % 18446744073709551616 : Nat) : Int), .int .u64 (((x + y) / 18446744073709551616 : Nat) : Int)])) w := by
  rw [run_callFunc_extern Tryz.func97 (by kernel_rfl) (by kernel_rfl) (by kernel_rfl) (e := add64Entry) (by kernel_rfl), run_add64 (x : Int) (y : Int) 0 (by omega) (by omega) (by omega) (by omega)]
  have e1 : ((x : Int) + (y : Int) + 0) % 18446744073709551616 = (((x + y) % 18446744073709551616 : Nat) : Int) := by omega
  have e2 : ((x : Int) + (y : Int) + 0) / 18446744073709551616 = (((x + y) / 18446744073709551616 : Nat) : Int) := by omega
  rw [e1, e2]
  rfl
theorem tp_arith (x b m : Nat) (hb : b ≤ 36) (hx : x < 18446744073709551616) (hm : m < 36) :
    (x * b % 18446744073709551616 + m) % 18446744073709551616 = (x * b + m) % 18446744073709551616 ∧ x * b / 18446744073709551616 + (x * b % 18446744073709551616 + m) / 18446744073709551616 = (x * b + m) / 18446744073709551616 ∧ (x * b + m) / 18446744073709551616 < 37 := by
  have : x * b ≤ 18446744073709551615 * 36 := Nat.mul_le_mul (by omega) hb
  generalize x * b = y at *
  omega
set_option maxHeartbeats 2000000 in
set_option maxRecDepth 100000 in
theorem tp_any (B N b c : Nat) (l : List Nat) (v : Value) (w : World) (hW : IsW W64 N l) (ho : w.ownsRow B 66 1 v l.length (uC l)) (hb : 2 ≤ b ∧ b ≤ 36) (hc : c < b) (hB : B ≤ w.heap.size) (hl : l.length ≤ 16) :
    Calls Tryz.prog 63 #[v, .int .u64 b, .int .u64 c] w fun e w' => ∃ v', e = .returned v' ∧ ∃ l', IsW W64 (N * b + c) l' ∧ l'.length ≤ l.length + 1 ∧ w'.ownsRow B 66 1 v' l'.length (uC l') ∧ Below B w w' := by
  obtain ⟨i0, hi, hz0, hz1, hz2⟩ := info_parts info64
  obtain ⟨a, cap, rfl, hsh⟩ := own_slice' ho
  obtain ⟨n, hn⟩ : ∃ n, l.length = n := ⟨_, rfl⟩
  have hl0 := hW.wdo b c
  have HW := Hid.mk' hW
  have HN := Hid.mk' hn
  rw [hn] at ho hl0 hl ⊢
  rw [hl0] at ho
  clear hsh hn
  have HO0 := Hid.mk' ho
  clear ho hW hl0
  have hc36 : c < 36 := by omega
  go_enter Tryz.func63, Tryz.ntmps63
  go_wp2
  go_loopw [15, 2] (fun iv m wr => ∃ i k : Nat, iv = .int .i64 i ∧ i ≤ n ∧ m = .int .u64 (k : Nat) ∧ Hid (k = cry W64 N b c i) ∧ k < 36 ∧ Hid (wr.ownsRow B 66 1 (.slice a n cap) n (uC (wdo W64 N b c i n))) ∧ Hid (Below B w wr)) (fun v _ _ => n - (intOf v).toNat)
  case atStart => exact ⟨0, c, rfl, by omega, rfl, Hid.mk' (cry_zero ..).symm, hc36, HO0, Hid.mk' (Below.refl _ _)⟩
  case round =>
    obtain ⟨i, k, rfl, hi', rfl, HK, hk, HO, HB⟩ := hrel
    by_cases hlt : i < n
    · obtain ⟨g, rfl⟩ : ∃ g, a = some ⟨g, 0, none⟩ := own_some HO.out (by omega)
      obtain ⟨x, hx⟩ : ∃ x, N / W64 ^ i % W64 = x := ⟨_, rfl⟩
      have hx64 : x < 18446744073709551616 := by rw [← hx]; exact Nat.mod_lt _ (by decide)
      have hcell : wr.cell? ⟨g, i, none⟩ = some (.int .u64 (x : Nat)) := by
        refine own_cell HO.out ?_
        rw [uC_get _ _ (by rw [wdo_length]; exact hlt), wdo_get _ _ _ _ _ _ _ hlt, if_neg (by omega), hx]
      have hfr := HO.out.frozenAt i
      have HM := Hid.mk' (fun W => Tryz.bits_Mul64 x b hx64 (by omega) W)
      have har := tp_arith x b k hb.2 hx64 hk
      have hst := cry_step W64 N b c i (by decide)
      rw [hx, ← HK.out] at hst
      obtain ⟨h1, h2⟩ := hst
      have e1 : (x * b + k) % 18446744073709551616 = (N * b + c) / W64 ^ i % W64 := h1
      have e2 : (x * b + k) / 18446744073709551616 = cry W64 N b c (i + 1) := h2
      have hadd := fun W => call_add64w (x * b % 18446744073709551616) k W (Nat.mod_lt _ (by decide)) (by omega)
      rw [har.1] at hadd
      obtain ⟨H, hH⟩ : ∃ H, x * b / 18446744073709551616 = H := ⟨_, rfl⟩
      obtain ⟨L, hL⟩ : ∃ L, x * b % 18446744073709551616 = L := ⟨_, rfl⟩
      obtain ⟨S, hS⟩ : ∃ S, (x * b + k) % 18446744073709551616 = S := ⟨_, rfl⟩
      obtain ⟨C, hC⟩ : ∃ C, (x * b % 18446744073709551616 + k) / 18446744073709551616 = C := ⟨_, rfl⟩
      obtain ⟨T, hT⟩ : ∃ T, (x * b + k) / 18446744073709551616 = T := ⟨_, rfl⟩
      have hsum : H + C = T := by rw [← hH, ← hC, ← hT]; exact har.2.1
      have hT37 : T < 37 := by rw [← hT]; exact har.2.2
      rw [hS, hC, hL] at hadd
      rw [hH, hL] at HM
      have hwr : IntKind.u64.wrap ((H : Int) + (C : Int)) = ((T : Nat) : Int) := by
        rw [show (H : Int) + (C : Int) = ((T : Nat) : Int) by omega]
        rw [IntKind.wrap_u64]; omega
      have HT := Hid.mk' (show T = cry W64 N b c (i + 1) by rw [← hT]; exact e2)
      have hT36 : T < 36 := by rw [HT.out]; exact Nat.lt_of_lt_of_le (cry_lt W64 N b c (i + 1) (by decide) hc) hb.2
      have hst2 := HO.out.stored i (.int .u64 (S : Nat))
      rw [uC_set, ← hS, e1, wdo_step W64 N b c i n hlt] at hst2
      have HS2 := Hid.mk' hst2.1
      have hgB : B ≤ g := by
        obtain ⟨a', c', e, hh⟩ := own_slice' HO.out
        cases e
        rcases hh with ⟨q, _⟩ | ⟨g', q, hB'⟩
        · cases q
        · cases q; exact hB'
      have HB2 : Hid (Below B w (wr.setCell ⟨g, i, none⟩ (.int .u64 (((N * b + c) / W64 ^ i % W64 : Nat) : Int)))) := HB.out.setCell (p := ⟨g, i, none⟩) hgB _
      rw [← e1, hS] at HS2 HB2
      clear hst2 e1 e2 h1 h2 har hx hH hL hS hC hT hsum HK
      have hil : (i : Int) < (n : Int) := by omega
      go_wp2_with (go_at_call 96; refine (HM.out _).mono ?_; rintro e w1 ⟨rfl, hw1⟩; rw [hw1]; clear hw1 w1)
      go_roundw
      case rel => exact ⟨i + 1, T, by go_num, by omega, rfl, HT, hT36, HS2, HB2⟩
      case measure => simp [intOf]; omega
    · have hin : i = n := by omega
      subst hin
      have hlt' : ¬ (i : Int) < (i : Int) := by omega
      have hn := HN.out
      rw [← hn] at HK
      by_cases hk0 : k = 0
      · subst hk0
        have hr := HW.out.same b c (by omega) (by decide) HK.out.symm
        rw [hn] at hr
        have HR := Hid.mk' hr
        clear hr HK
        go_wp2
        go_ret
        exact ⟨_, rfl, _, HR.out, by rw [wdo_length]; omega, by rw [wdo_length]; exact HO.out, HB.out⟩
      · have hr := HW.out.more b c hc (Nat.le_trans hb.2 (by decide)) (by rw [← HK.out]; exact hk0)
        rw [← HK.out, hn] at hr
        have HR := Hid.mk' hr
        have hq : ((k : Int) == 0) = false := by rw [beq_eq_false_iff_ne]; omega
        clear hr HK
        go_wp2_with (at_builtin; refine wpList_append_own _ rfl _ _ 83 rfl B 66 i0 (.int .u64 0) 1 8 Tryz.underlying83 hi hz0 hz1 hz2 rfl (by decide) _ _ _ rfl (HO.out.alloc _) ⟨wr.heap.size, 0, none⟩ 1 1 [.int .u64 (k : Nat)] rfl rfl (cells_new _ _ _) (by intro u hu; simp at hu; subst hu; rfl) (by unfold maxLen; omega) (by omega) (by have := HB.out.size; simp; omega) ?_)
        intro v1 w1 o1 g1 _
        have hown := HO.out
        go_wp2
        go_ret
        refine ⟨_, rfl, _, HR.out, by rw [List.length_append, wdo_length]; simp, ?_, HB.out.trans ?_⟩
        · rw [List.length_append, wdo_length]
          have : uC (wdo W64 N b c i i ++ [k]) = uC (wdo W64 N b c i i) ++ [.int .u64 (k : Nat)] := by unfold uC; rw [List.map_append]; rfl
          rw [this]
          exact o1
        · exact (kept_append hown (grown_of_alloc g1) (by have := HB.out.size; omega)).1
end Go.Proofs.YtighenikjedojaaGreatDoor

namespace Go.Proofs.YtighenikjedojaaGreatDoor
set_option linter.unusedVariables false
open Go.RowKit Fl

theorem log_div (N k : Nat) (h : N / 2 ^ k ≠ 0) : N.log2 = (N / 2 ^ k).log2 + k := by
  have hp : 0 < 2 ^ k := Nat.two_pow_pos k
  have hN : N ≠ 0 := by rintro rfl; simp at h
  obtain ⟨h1, h2⟩ := (Nat.log2_eq_iff h).1 rfl
  rw [Nat.le_div_iff_mul_le hp, ← Nat.pow_add] at h1
  rw [Nat.div_lt_iff_lt_mul hp, ← Nat.pow_add] at h2
  rw [Nat.log2_eq_iff hN]
  exact ⟨h1, by rw [show (N / 2 ^ k).log2 + k + 1 = (N / 2 ^ k).log2 + 1 + k by omega]; exact h2⟩
set_option maxHeartbeats 1000000 in
set_option maxRecDepth 100000 in
theorem ldexp_far0 (h : Nat) (d : Int) (w : World) (h1 : 4503599627370496 ≤ h) (hh : h < 9218868437227405312) (E : Nat) (hE : h / 4503599627370496 = E) (hd : 2047 ≤ (E : Int) + d) (hd2 : d ≤ 2046) :
    Calls Tryz.prog 125 #[.float .f64 h, .int .i64 d] w fun e w' => e = .returned (.float .f64 9218868437227405312) ∧ w' = w := by
  have hc := eq_eq h 0 (by omega) (by omega) (by omega) (by omega)
  rw [decide_eq_false (by omega)] at hc
  have hinf : decide (h % 9223372036854775808 = 9218868437227405312) = false := by rw [decide_eq_false]; omega
  have hnan : decide (nan h) = false := by rw [decide_eq_false]; unfold nan; omega
  have hE2 : E ≤ 2046 := by omega
  have hX : wrap64 (d + wrap64 ((E : Int) - 1023)) = d + (E : Int) - 1023 := by
    rw [wrap64_id ((E : Int) - 1023) (by omega) (by omega), wrap64_id _ (by omega) (by omega)]
    omega
  have hex := i64_expo h hh
  rw [hE] at hex
  have hlt : (FloatKind.f64.format.order h 0 == some Ordering.lt) = false := by
    rw [f64, order_key _ _ (by omega) (by omega) (by unfold nan; omega) (by unfold nan; omega)]
    have k1 : key h = (h : Int) := by unfold key; rw [if_neg (by omega)]; omega
    have k2 : key 0 = 0 := by unfold key; rw [if_neg (by omega)]; rfl
    rw [k1, k2]
    have : compare (h : Int) 0 ≠ .lt := fun q => by have := Int.compare_eq_lt.1 q; omega
    generalize compare (h : Int) 0 = o at this ⊢
    cases o <;> simp at this ⊢
  have HX := Hid.mk' hX
  have hd3 : 1023 < d + (E : Int) - 1023 := by omega
  have hd4 : 0 ≤ d ∧ d ≤ 2046 := by omega
  clear hX hE
  go_enter Tryz.func125, Tryz.ntmps125
  go_wp2_with (first | (go_at_call 16; refine (isInf0_any _ _ (by omega)).mono ?_; rintro e w1 ⟨rfl, hw1⟩; rw [hw1, hinf]; clear hw1 w1) | (go_at_call 15; refine (isNaN_any _ _ (by omega)).mono ?_; rintro e w1 ⟨rfl, hw1⟩; rw [hw1, hnan]; clear hw1 w1))
  refine (normalize_norm h _ h1 hh).mono ?_
  rintro e w1 ⟨rfl, hw1⟩; rw [hw1]; clear hw1 w1
  go_wp2_with (go_at_call 64; refine (inf_any _).mono ?_; rintro e w1 ⟨rfl, hw1⟩; rw [hw1]; clear hw1 w1)
  go_ret
  exact ⟨rfl, rfl⟩
/-- Ldexp of a number that is not below the least normal one and does not come below it. -/
theorem ldexp_up (h : Nat) (d : Int) (w : World) (h1 : 4503599627370496 ≤ h) (hh : h < 9218868437227405312) (hd : 1 ≤ ((h / 4503599627370496 : Nat) : Int) + d) (hd2 : d ≤ 2046) (r : Nat) (hr : (r : Int) = min ((h : Int) + d * 4503599627370496) 9218868437227405312) :
    Calls Tryz.prog 100 #[.float .f64 h, .int .i64 d] w fun e w' => e = .returned (.float .f64 r) ∧ w' = w := by
  by_cases q : ((h / 4503599627370496 : Nat) : Int) + d ≤ 2046
  · refine ldexp_norm h r d w h1 hh _ rfl ⟨hd, q⟩ ?_
    omega
  · have HL := Hid.mk' (fun W => ldexp_far0 h d W h1 hh _ rfl (by omega) hd2)
    have hr2 : r = 9218868437227405312 := by omega
    rw [hr2]
    clear hr hr2 hd q
    go_enter Tryz.func100, Tryz.ntmps100
    go_wp2_with (go_at_call 125; refine (HL.out _).mono ?_; rintro e w1 ⟨rfl, hw1⟩; rw [hw1]; clear hw1 w1)
    go_ret
    exact ⟨rfl, rfl⟩
set_option maxHeartbeats 400000 in
theorem oneIf_any (x : Nat) (w : World) (hx : x < 18446744073709551616) : Calls Tryz.prog 99 #[.int .u64 (x : Nat)] w fun e w' => e = .returned (.int .u64 (((if x ≠ 0 then 1 else 0 : Nat)) : Int)) ∧ w' = w := by
  obtain ⟨r, hr⟩ : ∃ r : Nat, (if x ≠ 0 then 1 else 0 : Nat) = r := ⟨_, rfl⟩
  have hmin : min (x : Int) 1 = (r : Int) := by
    by_cases q : x ≠ 0
    · rw [if_pos q] at hr; omega
    · rw [if_neg q] at hr; omega
  rw [hr]
  clear hr
  go_enter Tryz.func99, Tryz.ntmps99
  go_wp2
  go_ret
  exact ⟨rfl, rfl⟩
theorem bl_log (x : Nat) (h0 : x ≠ 0) (h : x < 18446744073709551616) : Lib.bitLen x = x.log2 + 1 := by
  obtain ⟨a1, a2, a3⟩ := Lib.bitLenAux_bounds 64 x (by omega) h0
  have e : x.log2 = Lib.bitLenAux 64 x - 1 := by
    rw [Nat.log2_eq_iff h0, Nat.sub_add_cancel a1]
    exact ⟨a2, a3⟩
  show Lib.bitLenAux 64 x = _
  omega
theorem shl_lt (x : Nat) (h0 : x ≠ 0) (h : x < 18446744073709551616) : x * 2 ^ (63 - x.log2) < 18446744073709551616 := by
  obtain ⟨h1, h2⟩ := (Nat.log2_eq_iff h0).1 rfl
  have hl : x.log2 < 64 := (Nat.log2_lt h0).2 h
  have := Nat.mul_lt_mul_of_pos_right h2 (Nat.two_pow_pos (63 - x.log2))
  rw [← Nat.pow_add, show x.log2 + 1 + (63 - x.log2) = 64 by omega] at this
  exact this
theorem wrap_nat (n : Nat) (h : n < 18446744073709551616) : IntKind.u64.wrap (n : Int) = (n : Int) := by rw [IntKind.wrap_u64]; omega
theorem or_lt64 (a b : Nat) (ha : a < 18446744073709551616) (hb : b < 18446744073709551616) : a ||| b < 18446744073709551616 := Nat.or_lt_two_pow (n := 64) ha hb
theorem rd_arith (k L s T V : Nat) (hT : T = 4886405595696988160 + k) (hV : V = min ((L + 1022) * 4503599627370496 + k) 9218868437227405312) (h1 : 4503599627370496 ≤ k) (h2 : k ≤ 9007199254740992) (hs : 63 - L = s) (hL : L < 64) :
    (T / 4503599627370496 = 1086 ∨ T / 4503599627370496 = 1087) ∧ (V : Int) = ((T / 4503599627370496 : Nat) - (s : Int)) * 4503599627370496 + (T % 4503599627370496 : Nat) := by
  have h3 : V = (L + 1022) * 4503599627370496 + k := by omega
  clear hV
  omega
set_option maxHeartbeats 2000000 in
set_option maxRecDepth 100000 in
/-- One word. -/
theorem rounded1 (B N : Nat) (v : Value) (l : List Nat) (w : World) (hW : IsW W64 N l) (hn : l.length = 1) (ho : w.ownsRow B 66 1 v l.length (uC l)) :
    Calls Tryz.prog 65 #[v] w fun e w' => e = .returned (.float .f64 (NF N)) ∧ ∃ n, w' = w.drewN n := by
  obtain ⟨a, cap, rfl, hsh⟩ := own_slice' ho
  have h1 : N < 18446744073709551616 := by have := hW.lt; rw [hn, Nat.pow_one] at this; exact this
  have h0 : N ≠ 0 := by have := hW.pos (by decide) (by omega); omega
  rw [hn] at ho ⊢
  obtain ⟨g, rfl⟩ := own_some ho (by omega)
  have hc : w.cell? ⟨g, 0, none⟩ = some (.int .u64 (N : Nat)) := by
    refine own_cell ho ?_
    rw [uC_get l 0 (by omega), hW.get 0 (by omega), Nat.pow_zero, Nat.div_one, Nat.mod_eq_of_lt (show N < W64 from h1)]
  have hk := kept_bounds N h0
  have hL := bl_log N h0 h1
  have hl64 : N.log2 < 64 := (Nat.log2_lt h0).2 h1
  obtain ⟨s, hs⟩ : ∃ s, 63 - N.log2 = s := ⟨_, rfl⟩
  have hhi := hi_one N s (by omega) (by omega)
  have hT := NF_hi N h0
  have hv := NF_val N h0
  rw [← hhi] at hT
  have hlt := shl_lt N h0 h1
  rw [hs] at hlt
  have hone : OneW N s (NF (N * 2 ^ s)) (NF N) := by
    refine ⟨by omega, h1, by omega, by omega, ?_, ?_, by omega, by omega, ?_, ?_⟩
    · rw [show (N : Int) * 2 ^ s = ((N * 2 ^ s : Nat) : Int) by push_cast; rfl]; exact wrap_nat _ hlt
    · show FloatKind.nearest .f64 ((N * 2 ^ s : Nat) : Int) = _
      rw [← nearest_NF]; rfl
    · exact (rd_arith _ _ s _ _ hT hv hk.1 hk.2 hs hl64).1
    · exact (rd_arith _ _ s _ _ hT hv hk.1 hk.2 hs hl64).2
  exact rounded_one N s _ _ g cap w hone hc
end Go.Proofs.YtighenikjedojaaGreatDoor

namespace Go.Proofs.YtighenikjedojaaGreatDoor
set_option linter.unusedVariables false
open Go.RowKit Fl

theorem or_bit (a : Nat) (p q : Prop) [Decidable p] [Decidable q] [Decidable (p ∨ q)] : (a ||| (if p then 1 else 0)) ||| (if q then 1 else 0) = a ||| (if p ∨ q then 1 else 0) := by
  by_cases hp : p
  · by_cases hq : q
    · rw [if_pos hp, if_pos hq, if_pos (.inl hp), Nat.or_assoc]; rfl
    · rw [if_pos hp, if_neg hq, if_pos (.inl hp), Nat.or_zero]
  · by_cases hq : q
    · rw [if_neg hp, if_pos hq, if_pos (.inr hq), Nat.or_zero]
    · rw [if_neg hp, if_neg hq, if_neg (fun h => h.elim hp hq), Nat.or_zero]
theorem low_step (N i : Nat) : N % W64 ^ i ≠ 0 ∨ N / W64 ^ i % W64 ≠ 0 ↔ N % W64 ^ (i + 1) ≠ 0 := by
  have e1 : N % W64 ^ (i + 1) = N % W64 ^ i + W64 ^ i * (N / W64 ^ i % W64) := by rw [Nat.pow_succ, Nat.mod_mul]
  have hP : 0 < W64 ^ i := Nat.pow_pos (by decide)
  have e2 : W64 ^ i * (N / W64 ^ i % W64) = 0 ↔ N / W64 ^ i % W64 = 0 := by rw [Nat.mul_eq_zero]; omega
  rw [e1]
  generalize W64 ^ i * (N / W64 ^ i % W64) = t at *
  generalize N / W64 ^ i % W64 = u at *
  generalize N % W64 ^ i = v at *
  omega
theorem shl_zero (A s : Nat) (hs : s ≤ 63) : A * 2 ^ s % 18446744073709551616 ≠ 0 ↔ A % 2 ^ (64 - s) ≠ 0 := by
  have e : 18446744073709551616 = 2 ^ (64 - s) * 2 ^ s := by rw [← Nat.pow_add, show 64 - s + s = 64 by omega]
  have hp : 0 < 2 ^ s := Nat.two_pow_pos s
  rw [e, Nat.mul_mod_mul_right]
  generalize A % 2 ^ (64 - s) = u
  have : u * 2 ^ s = 0 ↔ u = 0 := by rw [Nat.mul_eq_zero]; omega
  omega
theorem rd2_arith (k m s T V L : Nat) (hT : T = 4886405595696988160 + k) (hV : V = min ((L + 1022) * 4503599627370496 + k) 9218868437227405312) (h1 : 4503599627370496 ≤ k) (h2 : k ≤ 9007199254740992) (hs : s ≤ 63) (hm : m ≤ 14) (hL : L = 64 * (m + 1) + 63 - s) :
    4503599627370496 ≤ T ∧ T < 9218868437227405312 ∧ (1 : Int) ≤ ((T / 4503599627370496 : Nat) : Int) + (64 * ((m : Int) + 2 - 1) - (s : Int)) ∧ (64 * ((m : Int) + 2 - 1) - (s : Int)) ≤ 2046 ∧ (V : Int) = min ((T : Int) + (64 * ((m : Int) + 2 - 1) - (s : Int)) * 4503599627370496) 9218868437227405312 := by
  subst hL
  refine ⟨by omega, by omega, by omega, by omega, ?_⟩
  rw [hV, hT]
  omega
set_option maxHeartbeats 4000000 in
set_option maxRecDepth 100000 in
/-- More than one word. -/
theorem rounded2 (B N m : Nat) (v : Value) (l : List Nat) (w : World) (hW : IsW W64 N l) (hn : l.length = m + 2) (hm : m ≤ 14) (ho : w.ownsRow B 66 1 v l.length (uC l)) :
    Calls Tryz.prog 65 #[v] w fun e w' => e = .returned (.float .f64 (NF N)) ∧ ∃ n, w' = w.drewN n := by
  obtain ⟨a, cap, rfl, hsh⟩ := own_slice' ho
  have h0 : N ≠ 0 := by have := hW.pos (by decide) (by omega); omega
  obtain ⟨x, hx⟩ : ∃ x, N / W64 ^ (m + 1) = x := ⟨_, rfl⟩
  have hxlt : x < 18446744073709551616 := by
    rw [← hx, Nat.div_lt_iff_lt_mul (Nat.pow_pos (by decide)), ← Nat.pow_succ']
    have := hW.lt
    rw [hn] at this
    exact this
  have hx0 : x ≠ 0 := by
    have h := hW.ge (by omega)
    rw [hn] at h
    have := (Nat.le_div_iff_mul_le (Nat.pow_pos (show 0 < W64 by decide)) (x := 1) (y := N) (k := W64 ^ (m + 1))).2 (by rw [Nat.one_mul]; exact h)
    omega
  obtain ⟨A, hA⟩ : ∃ A, N / W64 ^ m % W64 = A := ⟨_, rfl⟩
  have hAlt : A < 18446744073709551616 := by rw [← hA]; exact Nat.mod_lt _ (by decide)
  have hlg : x.log2 < 64 := (Nat.log2_lt hx0).2 hxlt
  obtain ⟨s, hs⟩ : ∃ s, 63 - x.log2 = s := ⟨_, rfl⟩
  have hL : N.log2 = 64 * (m + 1) + 63 - s := by
    have := log_div N (64 * (m + 1)) (by rw [← W64_pow, hx]; exact hx0)
    rw [← W64_pow, hx] at this
    omega
  have htop := top_hi N m s (by omega) hL
  rw [hx, hA] at htop
  have HZ := Hid.mk' (fun W => Tryz.bits_LeadingZeros64 (x : Int) W (by omega) (by omega))
  have hsz : (64 : Int) - (Lib.bitLen ((x : Int)).toNat : Int) = (s : Int) := by
    rw [Int.toNat_natCast, bl_log x hx0 hxlt]; omega
  rw [hsz] at HZ
  rw [hn] at ho ⊢
  obtain ⟨g, rfl⟩ := own_some ho (by omega)
  have hcw : ∀ j, j < m + 2 → w.cell? ⟨g, j, none⟩ = some (.int .u64 ((N / W64 ^ j % W64 : Nat) : Int)) := fun j hj => by
    refine own_cell ho ?_
    rw [uC_get l j (by omega), hW.get j (by omega)]
  have hc1 : w.cell? ⟨g, m + 1, none⟩ = some (.int .u64 (x : Nat)) := by rw [hcw (m + 1) (by omega), hx, Nat.mod_eq_of_lt (show x < W64 from hxlt)]
  have hc0 : w.cell? ⟨g, m, none⟩ = some (.int .u64 (A : Nat)) := by rw [hcw m (by omega), hA]
  have hcap : m + 2 ≤ cap := by
    rcases ho.2 with ⟨q, _⟩ | ⟨g', cap', cur, q, _, _, hnc, _⟩
    · simp at q
    · simp only [Value.slice.injEq, Option.some.injEq, Addr.mk.injEq, and_true, true_and] at q
      omega
  have HC := Hid.mk' hcw
  have hsl : s ≤ 63 := by omega
  have hX0lt : x * 2 ^ s < 18446744073709551616 := by rw [← hs]; exact shl_lt x hx0 hxlt
  have hk := kept_bounds N h0
  have har := rd2_arith _ m s _ _ _ (NF_hi N h0) (NF_val N h0) hk.1 hk.2 hsl hm hL
  have hfl : floatOfInt .f64 ((hi N 63 : Nat) : Int) = NF (hi N 63) := by rw [← nearest_NF]; rfl
  have HL := Hid.mk' (fun W => ldexp_up _ (64 * ((m : Int) + 2 - 1) - (s : Int)) W har.1 har.2.1 har.2.2.1 har.2.2.2.1 _ har.2.2.2.2)
  have hA1lt : A / 2 ^ (64 - s) < 18446744073709551616 := Nat.lt_of_le_of_lt (Nat.div_le_self _ _) hAlt
  have hsw := shl_zero A s hsl
  rw [Nat.mul_comm] at htop
  obtain ⟨X0, hX0⟩ : ∃ X0, x * 2 ^ s = X0 := ⟨_, rfl⟩
  obtain ⟨A1, hA1⟩ : ∃ A1, A / 2 ^ (64 - s) = A1 := ⟨_, rfl⟩
  obtain ⟨A2, hA2⟩ : ∃ A2, A * 2 ^ s % 18446744073709551616 = A2 := ⟨_, rfl⟩
  rw [hX0] at hX0lt htop
  rw [hA1] at hA1lt htop
  rw [hA2] at hsw
  have hO1lt := or_lt64 X0 A1 hX0lt hA1lt
  have ho1 := u64_or_nat X0 A1 hX0lt hA1lt
  obtain ⟨O1, hO1⟩ : ∃ O1, X0 ||| A1 = O1 := ⟨_, rfl⟩
  rw [hO1] at hO1lt ho1 htop
  have hA2lt : A2 < 18446744073709551616 := by rw [← hA2]; exact Nat.mod_lt _ (by decide)
  have HI := Hid.mk' (fun W => oneIf_any A2 W hA2lt)
  obtain ⟨p, hp⟩ : ∃ p : Nat, (if A2 ≠ 0 then 1 else 0 : Nat) = p := ⟨_, rfl⟩
  have hplt : p < 2 := by rw [← hp]; split <;> omega
  rw [hp] at HI
  have ho2 := u64_or_nat O1 p hO1lt (by omega)
  have hO2lt := or_lt64 O1 p hO1lt (by omega)
  obtain ⟨O2, hO2⟩ : ∃ O2, O1 ||| p = O2 := ⟨_, rfl⟩
  rw [hO2] at ho2 hO2lt
  have HT : Hid (O2 ||| (if N % W64 ^ m ≠ 0 then 1 else 0) = hi N 63) := by
    show _ = _
    rw [← htop, ← hO2, ← hp, or_bit]
    congr 1
    simp only [hsw]
    by_cases q1 : A % 2 ^ (64 - s) ≠ 0
    · rw [if_pos (.inl q1), if_pos (.inr q1)]
    · by_cases q2 : N % W64 ^ m ≠ 0
      · rw [if_pos (.inr q2), if_pos (.inl q2)]
      · rw [if_neg (fun h => h.elim q1 q2), if_neg (fun h => h.elim q2 q1)]
  have hw1 : IntKind.u64.wrap ((x : Int) * 2 ^ s) = (X0 : Int) := by
    rw [show (x : Int) * 2 ^ s = ((X0 : Nat) : Int) by rw [← hX0]; push_cast; rfl]; exact wrap_nat _ hX0lt
  have hw2 : (A : Int) / 2 ^ (64 - s) = (A1 : Int) := by rw [← hA1]; push_cast; rfl
  have hw3 : IntKind.u64.wrap ((A : Int) * 2 ^ s) = (A2 : Int) := by
    rw [show (A : Int) * 2 ^ s = ((A * 2 ^ s : Nat) : Int) by rw [Int.natCast_mul, Int.natCast_pow]; rfl, IntKind.wrap_u64, ← hA2]
    generalize A * 2 ^ s = z
    omega
  have hmx : max ((m : Int) + 2 - 1 - 1) 0 = (m : Int) := by omega
  obtain ⟨h63, hh63⟩ : ∃ h63, hi N 63 = h63 := ⟨_, rfl⟩
  rw [hh63] at HT hfl HL
  obtain ⟨T63, hT63⟩ : ∃ T63, NF h63 = T63 := ⟨_, rfl⟩
  rw [hT63] at hfl HL
  have HF := Hid.mk' hfl
  clear hcw htop hsw hX0 hA1 hA2 hO1 hO2 hp hx hA hs hL har hk hsz hh63 hT63 hfl ho hW hn hsh
  go_enter Tryz.func65, Tryz.ntmps65
  go_wp2_with (first | (go_at_call 98; refine (HZ.out _).mono ?_; rintro e w1 ⟨rfl, hw1⟩; rw [hw1]; clear hw1 w1) | (go_at_call 99; refine (HI.out _).mono ?_; rintro e w1 ⟨rfl, hw1⟩; rw [hw1]; clear hw1 w1))
  go_loop [5, 53] (fun u v => ∃ i t : Nat, u = .int .u64 (t : Nat) ∧ v = .int .i64 i ∧ i ≤ m ∧ t < 18446744073709551616 ∧ Hid (t = O2 ||| (if N % W64 ^ i ≠ 0 then 1 else 0))) (fun _ v => m - (intOf v).toNat)
  case atStart => exact ⟨0, O2, rfl, rfl, by omega, hO2lt, Hid.mk' (by rw [Nat.pow_zero, Nat.mod_one, if_neg (by omega), Nat.or_zero])⟩
  case round =>
    obtain ⟨i, t, rfl, rfl, hi', htlt, HE⟩ := hrel
    by_cases hlt : i < m
    · have hcell := HC.out i (by omega)
      obtain ⟨y, hy⟩ : ∃ y, N / W64 ^ i % W64 = y := ⟨_, rfl⟩
      have hylt : y < 18446744073709551616 := by rw [← hy]; exact Nat.mod_lt _ (by decide)
      have HI2 := Hid.mk' (fun W => oneIf_any y W hylt)
      obtain ⟨q, hq⟩ : ∃ q : Nat, (if y ≠ 0 then 1 else 0 : Nat) = q := ⟨_, rfl⟩
      have hqlt : q < 2 := by rw [← hq]; split <;> omega
      have hor := u64_or_nat t q htlt (by omega)
      have hnlt := or_lt64 t q htlt (by omega)
      have HN : Hid (t ||| q = O2 ||| (if N % W64 ^ (i + 1) ≠ 0 then 1 else 0)) := by
        show _ = _
        rw [HE.out, ← hq, ← hy, or_bit]
        congr 1
        simp only [low_step]
      rw [hq] at HI2
      obtain ⟨t2, ht2⟩ : ∃ t2, t ||| q = t2 := ⟨_, rfl⟩
      rw [ht2] at hor hnlt HN
      rw [hy] at hcell
      clear hq hy ht2 HE
      have hil : (i : Int) < (m : Int) := by omega
      go_wp2_with (go_at_call 99; refine (HI2.out _).mono ?_; rintro e w1 ⟨rfl, hw1⟩; rw [hw1]; clear hw1 w1)
      go_round
      case rel => exact ⟨i + 1, t2, rfl, by go_num, by omega, hnlt, HN⟩
      case measure => simp [intOf]; omega
    · have him : i = m := by omega
      subst him
      have ht : t = h63 := by rw [HE.out, HT.out]
      subst ht
      have hil : ¬ (i : Int) < (i : Int) := by omega
      have hfl := HF.out
      clear HE
      go_wp2_with fail
      refine (HL.out _).mono ?_
      rintro e w1 ⟨rfl, hw1⟩
      rw [hw1]; clear hw1 w1
      go_wp2
      go_ret
      exact ⟨rfl, 0, rfl⟩
set_option maxHeartbeats 1000000 in
theorem rounded0 (a : Option Addr) (cap : Nat) (w : World) : Calls Tryz.prog 65 #[.slice a 0 cap] w fun e w' => e = .returned (.float .f64 0) ∧ ∃ n, w' = w.drewN n := by
  go_enter Tryz.func65, Tryz.ntmps65
  go_wp2
  go_ret
  exact ⟨rfl, 0, rfl⟩
/-- digits.rounded: the float nearest to a number by its words. -/
theorem rounded_any (B N : Nat) (v : Value) (l : List Nat) (w : World) (hW : IsW W64 N l) (hl : l.length ≤ 16) (ho : w.ownsRow B 66 1 v l.length (uC l)) :
    Calls Tryz.prog 65 #[v] w fun e w' => e = .returned (.float .f64 (NF N)) ∧ ∃ n, w' = w.drewN n := by
  rcases Nat.lt_or_ge l.length 1 with q | q
  · have h0 := hW.nil (by omega)
    obtain ⟨a, cap, rfl, _⟩ := own_slice' ho
    rw [show l.length = 0 by omega, h0, show NF 0 = 0 from rfl]
    exact rounded0 a cap w
  · rcases Nat.lt_or_ge l.length 2 with q2 | q2
    · exact rounded1 B N v l w hW (by omega) ho
    · exact rounded2 B N (l.length - 2) v l w hW (by omega) (by omega) ho
/-- The number of the first digits of a text to a base. -/
def numN (s : ByteArray) (b : Nat) : Nat → Nat
  | 0 => 0
  | i + 1 => numN s b i * b + digitN (by' s i)
theorem numN_mono (s : ByteArray) (b i j : Nat) (hb : 1 ≤ b) (h : i ≤ j) : numN s b i ≤ numN s b j := by
  induction j with
  | zero => rw [show i = 0 by omega]; exact Nat.le_refl _
  | succ j ih =>
    by_cases e : i = j + 1
    · rw [e]; exact Nat.le_refl _
    · have := ih (by omega)
      have := Nat.mul_le_mul_left (numN s b j) hb
      show _ ≤ numN s b j * b + digitN (by' s j)
      omega
end Go.Proofs.YtighenikjedojaaGreatDoor

namespace Go.Proofs.YtighenikjedojaaGreatDoor
set_option linter.unusedVariables false
open Go.RowKit Fl

set_option maxHeartbeats 4000000 in
set_option maxRecDepth 100000 in
theorem nearest_any (s : ByteArray) (b : Nat) (w : World) (hs : s.size ≤ 1048576) (hb : 2 ≤ b ∧ b ≤ 36) (hd : ∀ j, j < s.size → digitN (by' s j) < b) :
    Calls Tryz.prog 32 #[.string s, .int .i64 b] w fun e w' => e = .returned (.float .f64 (NF (numN s b s.size))) ∧ Below w.heap.size w w' := by
  have hbt := PlainAid.get_bt s
  obtain ⟨n, hn⟩ : ∃ n, s.size = n := ⟨_, rfl⟩
  obtain ⟨R, hR⟩ : ∃ R, NF (numN s b n) = R := ⟨_, rfl⟩
  have HD := Hid.mk' hd
  have HFar : Hid (∀ i, i ≤ n → W64 ^ 16 ≤ numN s b i → R = 9218868437227405312) := fun i hi h => by
    rw [← hR]
    exact NF_far _ (far_log _ 16 (Nat.le_trans h (numN_mono s b i n (by omega) hi)))
  have HR := Hid.mk' hR
  rw [hn] at HD hs ⊢
  rw [hR]
  have HI := Hid.mk' (fun W => inf_any W)
  have hsz : (s.size : Int) = (n : Int) := by rw [hn]
  clear hd hR hn
  go_enter Tryz.func32, Tryz.ntmps32
  go_wp2_with (go_at_call 62; refine (worthTo_any _ _).mono ?_; rintro e w3 ⟨rfl, hw3⟩; rw [hw3]; clear hw3 w3)
  go_loopw [6, 12] (fun v iv wr => ∃ (i : Nat) (l : List Nat) (a : Option Addr) (cap : Nat), v = .slice a l.length cap ∧ iv = .int .i64 i ∧ i ≤ n ∧ l.length ≤ 16 ∧ Hid (IsW W64 (numN s b i) l) ∧ Hid (wr.ownsRow (w.heap.size + 1) 66 1 (.slice a l.length cap) l.length (uC l)) ∧ Hid (Below (w.heap.size + 1) (w.alloc (.cells #[.int .i64 (b : Nat)] 3)) wr)) (fun _ i _ => n - (intOf i).toNat)
  case atStart => exact ⟨0, [], none, 0, rfl, rfl, by omega, by simp, Hid.mk' (isW_nil _), Hid.mk' (World.ownsRow_nil _ _ _ _), Hid.mk' (Below.refl _ _)⟩
  case round =>
    obtain ⟨i, l, a, cap, rfl, rfl, hi, hl, HW, HO, HB⟩ := hrel
    have hbw : Below w.heap.size w wr := below_new.trans (HB.out.mono (by omega))
    have HBW := Hid.mk' hbw
    clear hbw
    by_cases hlt : i < n
    · obtain ⟨d, hdd⟩ : ∃ d, digitN (by' s i) = d := ⟨_, rfl⟩
      have hdb : d < b := by rw [← hdd]; exact HD.out i hlt
      have hc : wr.cell? ⟨w.heap.size, 0, none⟩ = some (.int .i64 (b : Nat)) := (HB.out.cell (p := ⟨w.heap.size, 0, none⟩) (by simp)).trans (by simp)
      have l0 : by' s i < 256 := by unfold by'; exact UInt8.toNat_lt _
      have HW1 := Hid.mk' (worth1_any (by' s i) w.heap.size (b : Nat) wr l0 ⟨by omega, by omega⟩ hc)
      have hwi : worthI (by' s i) (b : Nat) = (d : Int) := by unfold worthI; rw [hdd, if_pos (by omega)]
      rw [hwi] at HW1
      rw [← bt_by] at HW1
      have HT := Hid.mk' (tp_any (w.heap.size + 1) (numN s b i) b d l _ wr HW.out HO.out hb hdb (by have := HB.out.size; simp at this; omega) hl)
      have HNs : Hid (numN s b i * b + d = numN s b (i + 1)) := by show _ = _; rw [← hdd]; rfl
      have hil : (i : Int) < (n : Int) := by omega
      have hwb : IntKind.u64.wrap (b : Int) = (b : Int) := wrap_nat b (by omega)
      have hwd : IntKind.u64.wrap (d : Int) = (d : Int) := wrap_nat d (by omega)
      have hb36 : (b : Int) ≤ 36 := by omega
      clear hwi hdd hc
      go_wp2_with (go_at_call 95; refine HW1.out.mono ?_; rintro e w1 ⟨rfl, hw1⟩; rw [hw1]; clear hw1 w1)
      refine HT.out.mono ?_
      rintro e w1 ⟨v1, rfl, l1, hW1, hl1, o1, b1⟩
      obtain ⟨a1, c1, rfl, _⟩ := own_slice' o1
      have HW2 := Hid.mk' hW1
      have HO2 := Hid.mk' o1
      have HB2 : Hid (Below (w.heap.size + 1) (w.alloc (.cells #[.int .i64 (b : Nat)] 3)) w1) := HB.out.trans b1
      rw [HNs.out] at HW2
      clear hW1 o1 b1 HT HW1 HW HO HB
      by_cases h16 : l1.length ≤ 16
      · have h16' : (l1.length : Int) ≤ 16 := by omega
        go_wp2
        go_roundw
        case rel => exact ⟨i + 1, l1, a1, c1, rfl, by go_num, by omega, h16, HW2, HO2, HB2⟩
        case measure => simp [intOf]; omega
      · have h16' : 16 < (l1.length : Int) := by omega
        have hR : R = 9218868437227405312 := by
          refine HFar.out (i + 1) (by omega) ?_
          have := HW2.out.ge (by omega)
          exact Nat.le_trans (Nat.pow_le_pow_right (by decide) (by omega)) this
        have HRR := Hid.mk' hR
        clear hR
        go_wp2_with (go_at_call 64; refine (HI.out _).mono ?_; rintro e w2 ⟨rfl, hw2⟩; rw [hw2]; clear hw2 w2)
        go_ret
        exact ⟨by rw [HRR.out]; rfl, below_new.trans (HB2.out.mono (by omega))⟩
    · have hin : i = n := by omega
      subst hin
      have hil : ¬ (i : Int) < (i : Int) := by omega
      have HRd := Hid.mk' (rounded_any (w.heap.size + 1) (numN s b i) _ l wr HW.out hl HO.out)
      rw [HR.out] at HRd
      clear HW HO HB
      go_wp2_with fail
      refine HRd.out.mono ?_
      rintro e w1 ⟨rfl, n1, hw1⟩
      have bb : Below w.heap.size w w1 := by rw [hw1]; exact below_draws HBW.out n1
      clear hw1
      go_wp2
      go_ret
      exact ⟨rfl, bb⟩
end Go.Proofs.YtighenikjedojaaGreatDoor
