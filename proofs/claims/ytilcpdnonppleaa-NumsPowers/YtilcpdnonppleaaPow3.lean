/- nums.Pow: the cases that are no products. -/
import Derived.Test.YtilcpdnonppleaaPow2
namespace Go.Proofs.Ytilcpdnonppleaa
set_option linter.unusedVariables false
open Go.RowKit Fl

theorem sgn_sign (x g : Nat) (h : g < 9223372036854775808) : decide (9223372036854775808 ≤ sgn x g) = decide (9223372036854775808 ≤ x) := decide_eq_decide.2 (by unfold sgn; split <;> omega)
theorem half_no (b : Nat) (hb : b < 18446744073709551616) (hh : b ≠ 4602678819172646912) : (FloatKind.f64.format.order b 4602678819172646912 == some Ordering.eq) = false := by
  rw [eqf b 4602678819172646912 hb (by omega), decide_eq_false]
  intro h
  have k2 : key 4602678819172646912 = 4602678819172646912 := by unfold key; rw [if_neg (by omega)]; rfl
  have := h.2.2
  rw [k2] at this
  unfold key at this
  split at this <;> omega
theorem half_yes : (FloatKind.f64.format.order 4602678819172646912 4602678819172646912 == some Ordering.eq) = true := by decide

set_option maxHeartbeats 1000000 in
set_option maxRecDepth 100000 in
theorem pow_nanb (a b : Nat) (w : World) (ha : a < 18446744073709551616) (hb : b < 18446744073709551616) (nb : nan b) :
    Calls Try.prog 31 #[.float .f64 a, .float .f64 b] w fun e w' => e = .returned (.float .f64 9221120237041090561) ∧ w' = w := by
  have HNB := Hid.mk' (fun W => isNaN_any b W hb)
  have HNA := Hid.mk' (fun W => isNaN_any a W ha)
  have HI := Hid.mk' (fun W => isInf0_any b W hb)
  have h0 := eq0 b hb
  rw [decide_eq_true nb] at HNB
  go_enter Try.func31, Try.ntmps31
  go_wp2_with (first | (go_at_call 39; first | (refine (HNB.out _).mono ?_; rintro e w1 ⟨rfl, hw1⟩; rw [hw1]; clear hw1 w1) | (refine (HNA.out _).mono ?_; rintro e w1 ⟨rfl, hw1⟩; rw [hw1]; clear hw1 w1)) | (go_at_call 47; first | (refine (HI.out _).mono ?_; rintro e w1 ⟨rfl, hw1⟩; rw [hw1]; clear hw1 w1)) | (go_at_call 46; refine (nan_any _).mono ?_; rintro e w1 ⟨rfl, hw1⟩; rw [hw1]; clear hw1 w1))
  go_ret
  exact ⟨rfl, rfl⟩
set_option maxHeartbeats 1000000 in
set_option maxRecDepth 100000 in
theorem pow_b0 (a b : Nat) (w : World) (ha : a < 18446744073709551616) (hb : b < 18446744073709551616) (nb : ¬ nan b) (hz : b % 9223372036854775808 = 0) :
    Calls Try.prog 31 #[.float .f64 a, .float .f64 b] w fun e w' => e = .returned (.float .f64 4607182418800017408) ∧ w' = w := by
  have HNB := Hid.mk' (fun W => isNaN_any b W hb)
  have HNA := Hid.mk' (fun W => isNaN_any a W ha)
  have HI := Hid.mk' (fun W => isInf0_any b W hb)
  have h0 := eq0 b hb
  rw [decide_eq_false nb] at HNB
  rw [decide_eq_true hz] at h0
  go_enter Try.func31, Try.ntmps31
  go_wp2_with (first | (go_at_call 39; first | (refine (HNB.out _).mono ?_; rintro e w1 ⟨rfl, hw1⟩; rw [hw1]; clear hw1 w1) | (refine (HNA.out _).mono ?_; rintro e w1 ⟨rfl, hw1⟩; rw [hw1]; clear hw1 w1)) | (go_at_call 47; first | (refine (HI.out _).mono ?_; rintro e w1 ⟨rfl, hw1⟩; rw [hw1]; clear hw1 w1)) | (go_at_call 46; refine (nan_any _).mono ?_; rintro e w1 ⟨rfl, hw1⟩; rw [hw1]; clear hw1 w1))
  go_ret
  exact ⟨rfl, rfl⟩
set_option maxHeartbeats 1000000 in
set_option maxRecDepth 100000 in
theorem pow_nana (a b : Nat) (w : World) (ha : a < 18446744073709551616) (hb : b < 18446744073709551616) (nb : ¬ nan b) (hz : ¬ b % 9223372036854775808 = 0) (na : nan a) :
    Calls Try.prog 31 #[.float .f64 a, .float .f64 b] w fun e w' => e = .returned (.float .f64 9221120237041090561) ∧ w' = w := by
  have HNB := Hid.mk' (fun W => isNaN_any b W hb)
  have HNA := Hid.mk' (fun W => isNaN_any a W ha)
  have HI := Hid.mk' (fun W => isInf0_any b W hb)
  have h0 := eq0 b hb
  rw [decide_eq_false nb] at HNB
  rw [decide_eq_false hz] at h0
  rw [decide_eq_true na] at HNA
  go_enter Try.func31, Try.ntmps31
  go_wp2_with (first | (go_at_call 39; first | (refine (HNB.out _).mono ?_; rintro e w1 ⟨rfl, hw1⟩; rw [hw1]; clear hw1 w1) | (refine (HNA.out _).mono ?_; rintro e w1 ⟨rfl, hw1⟩; rw [hw1]; clear hw1 w1)) | (go_at_call 47; first | (refine (HI.out _).mono ?_; rintro e w1 ⟨rfl, hw1⟩; rw [hw1]; clear hw1 w1)) | (go_at_call 46; refine (nan_any _).mono ?_; rintro e w1 ⟨rfl, hw1⟩; rw [hw1]; clear hw1 w1))
  go_ret
  exact ⟨rfl, rfl⟩
set_option maxHeartbeats 1000000 in
set_option maxRecDepth 100000 in
theorem pow_part (a b : Nat) (w : World) (ha : a < 18446744073709551616) (hb : b < 18446744073709551616) (na : ¬ nan a) (hB : b % 9223372036854775808 < 9218868437227405312) (hz : ¬ b % 9223372036854775808 = 0) (hh : b ≠ 4602678819172646912) (hp : ¬ val (b % 9223372036854775808) = tr (b % 9223372036854775808) * 2 ^ 1074) :
    Calls Try.prog 31 #[.float .f64 a, .float .f64 b] w fun e w' => e = .returned (.float .f64 9221120237041090561) ∧ w' = w := by
  have nb : ¬ nan b := by unfold nan; omega
  have HNB := Hid.mk' (fun W => isNaN_any b W hb)
  have HNA := Hid.mk' (fun W => isNaN_any a W ha)
  have HI := Hid.mk' (fun W => isInf0_any b W hb)
  have h0 := eq0 b hb
  rw [decide_eq_false nb] at HNB
  rw [decide_eq_false hz] at h0
  rw [decide_eq_false na] at HNA
  rw [decide_eq_false (by omega)] at HI
  have h5 := half_no b hb hh
  obtain ⟨k, hk, hv⟩ := tr_rep (b % 9223372036854775808) hB
  have HT := Hid.mk' (fun W => trunc_fin b k W hb hB hk hv)
  have hkB : k ≠ b % 9223372036854775808 := fun e => hp (by rw [e] at hv; exact hv)
  have hne : (FloatKind.f64.format.order b (sgn b k) != some Ordering.eq) = true := by
    have := eqf b (sgn b k) hb (sgn_lt b k (by omega))
    rw [decide_eq_false (fun q => hkB (by
      have q2 := key_inj b (sgn b k) hb (sgn_lt b k (by omega)) (by first | exact (sgn_sign b k (by omega)).symm | exact sgn_sign b k (by omega)) q.2.2
      have q3 : sgn b k % 9223372036854775808 = k := sgn_mod b k (by omega)
      omega))] at this
    show (!_) = true
    rw [this]; rfl
  clear hv hp hh hkB
  go_enter Try.func31, Try.ntmps31
  go_wp2_with (first | (go_at_call 39; first | (refine (HNB.out _).mono ?_; rintro e w1 ⟨rfl, hw1⟩; rw [hw1]; clear hw1 w1) | (refine (HNA.out _).mono ?_; rintro e w1 ⟨rfl, hw1⟩; rw [hw1]; clear hw1 w1)) | (go_at_call 47; first | (refine (HI.out _).mono ?_; rintro e w1 ⟨rfl, hw1⟩; rw [hw1]; clear hw1 w1)) | (go_at_call 46; refine (nan_any _).mono ?_; rintro e w1 ⟨rfl, hw1⟩; rw [hw1]; clear hw1 w1) | (go_at_call 42; first | (refine (HT.out _).mono ?_; rintro e w1 ⟨rfl, hw1⟩; rw [hw1]; clear hw1 w1)))
  go_ret
  exact ⟨rfl, rfl⟩

set_option maxHeartbeats 1000000 in
set_option maxRecDepth 100000 in
theorem pow_inf (a b : Nat) (w : World) (ha : a < 18446744073709551616) (hb : b < 18446744073709551616) (na : ¬ nan a) (hB : b % 9223372036854775808 = 9218868437227405312) :
    Calls Try.prog 31 #[.float .f64 a, .float .f64 b] w fun e w' => e = .returned (.float .f64 (endless (a % 9223372036854775808) (decide (b < 9223372036854775808)))) ∧ w' = w := by
  have nb : ¬ nan b := by unfold nan; omega
  have HNB := Hid.mk' (fun W => isNaN_any b W hb)
  have HNA := Hid.mk' (fun W => isNaN_any a W ha)
  have HI := Hid.mk' (fun W => isInf0_any b W hb)
  have h0 := eq0 b hb
  rw [decide_eq_false nb] at HNB
  rw [decide_eq_false (by omega)] at h0
  rw [decide_eq_false na] at HNA
  rw [decide_eq_true hB] at HI
  have HE := Hid.mk' (fun W => powEndless_any a b W ha na hb nb (by omega))
  go_enter Try.func31, Try.ntmps31
  go_wp2_with (first | (go_at_call 39; first | (refine (HNB.out _).mono ?_; rintro e w1 ⟨rfl, hw1⟩; rw [hw1]; clear hw1 w1) | (refine (HNA.out _).mono ?_; rintro e w1 ⟨rfl, hw1⟩; rw [hw1]; clear hw1 w1)) | (go_at_call 47; first | (refine (HI.out _).mono ?_; rintro e w1 ⟨rfl, hw1⟩; rw [hw1]; clear hw1 w1)) | (go_at_call 48; first | (refine (HE.out _).mono ?_; rintro e w1 ⟨rfl, hw1⟩; rw [hw1]; clear hw1 w1)))
  go_ret
  exact ⟨rfl, rfl⟩

/- ---- roots ---- -/
theorem call_sqrt (x : Nat) (w : World) (r : Value) (w' : World) (h : (Extern.MathSqrt.sqrt #[.float .f64 x]).run Try.prog w = .ok r w') : (callFunc 64 #[.float .f64 x]).run Try.prog w = .ok (.value r) w' := by
  rw [run_callFunc_extern (e := Extern.MathSqrt.sqrt) Try.func64 (by kernel_rfl) (by kernel_rfl) (by kernel_rfl) (by kernel_rfl), h]
  rfl
theorem sqrt_ext_some (x r : Nat) (w : World) (h : Ieee.double.sqrt x = some r) : (Extern.MathSqrt.sqrt #[.float .f64 x]).run Try.prog w = .ok (.float .f64 r) w := by
  show (match FloatKind.f64.format.sqrt x with
    | some r => (pure (.float .f64 r) : Sem Value)
    | none => _).run Try.prog w = _
  rw [show FloatKind.f64.format.sqrt x = some r from h]
  rfl
theorem nan_cut (t : Nat) : (t % 2) * 2 ^ 63 + 0x7ff0000000000000 + 1 + (t / 2) % (2 ^ 52 - 1) < 18446744073709551616 ∧ nan ((t % 2) * 2 ^ 63 + 0x7ff0000000000000 + 1 + (t / 2) % (2 ^ 52 - 1)) := by
  unfold nan
  have e63 : (2 : Nat) ^ 63 = 9223372036854775808 := rfl
  have e52 : (2 : Nat) ^ 52 - 1 = 4503599627370495 := rfl
  rw [e63, e52]
  have hy : (t / 2) % 4503599627370495 < 4503599627370495 := Nat.mod_lt _ (by omega)
  generalize (t / 2) % 4503599627370495 = y at hy
  rcases Nat.mod_two_eq_zero_or_one t with h | h
  · rw [h]; omega
  · rw [h]; omega
theorem sqrt_ext_none (x : Nat) (w : World) (h : Ieee.double.sqrt x = none) : ∃ r n, (Extern.MathSqrt.sqrt #[.float .f64 x]).run Try.prog w = .ok (.float .f64 r) (w.drewN n) ∧ r < 18446744073709551616 ∧ nan r := by
  have hdef : Extern.MathSqrt.sqrt #[.float .f64 x] = (do pure (.float .f64 (← choose (.nanBits .f64 x x))) : Sem Value) := by
    show (match FloatKind.f64.format.sqrt x with
      | some r => (pure (.float .f64 r) : Sem Value)
      | none => _) = _
    rw [show FloatKind.f64.format.sqrt x = none from h]
  rw [hdef]
  simp only [Sem.run_bind, run_choose_drew]
  have hfo : (Question.nanBits .f64 x x).forced = false := rfl
  rw [hfo]
  have hc := nan_cut (w.tape w.drawn (Question.nanBits .f64 x x))
  exact ⟨_, 1, rfl, hc.1, hc.2⟩
theorem add_nan (r : Nat) (hr : r < 18446744073709551616) (hn : nan r) (W : World) : ∃ s n, (binOp .add 22 (.float .f64 r) (.float .f64 0)).run Try.prog W = .ok (.float .f64 s) (W.drewN n) ∧ s < 18446744073709551616 ∧ nan s := by
  have hadd : Ieee.double.add r 0 = none := by
    have e := read_nan (decide (9223372036854775808 ≤ r)) (r % 9223372036854775808) hn (by omega)
    rw [← word_parts r hr] at e
    unfold Ieee.Format.add
    rw [e]; rfl
  have hdef : binOp .add 22 (.float .f64 r) (.float .f64 0) = (do pure (.float .f64 (← choose (.nanBits .f64 r 0))) : Sem Value) := by
    have h2 : FloatKind.f64.format.add r 0 = none := hadd
    simp [binOp, Op.floatArith, h2]
  rw [hdef]
  simp only [Sem.run_bind, run_choose_drew]
  have hfo : (Question.nanBits .f64 r 0).forced = false := rfl
  rw [hfo]
  have hc := nan_cut (W.tape W.drawn (Question.nanBits .f64 r 0))
  exact ⟨_, 1, rfl, hc.1, hc.2⟩
theorem sqrt_pos (a : Nat) (h0 : 0 < a) (h : a ≤ 9218868437227405312) : ∃ r, Ieee.double.sqrt a = some r ∧ r ≤ 9218868437227405312 := by
  by_cases hi : a = 9218868437227405312
  · subst hi
    exact ⟨9218868437227405312, by decide, by omega⟩
  · have e := read_word false a (by omega)
    rw [word_eq, show (if false = true then 9223372036854775808 + a else a) = a from rfl] at e
    have hs : sig a ≠ 0 := fun q => by have := (sig_zero a).1 q; omega
    unfold Ieee.Format.sqrt
    rw [e]
    unfold Ieee.Datum.root
    dsimp only
    rw [if_neg hs, if_neg (by decide)]
    dsimp only [Option.map_some]
    refine ⟨_, rfl, ?_⟩
    unfold Ieee.Format.write
    dsimp only
    have key : ∀ m e, Ieee.double.nearest false m e ≤ 9218868437227405312 := fun m e => by
      obtain ⟨g, h1, h2⟩ := nearest_ok false m e
      rw [h1]; exact h2
    exact key _ _
theorem sqrt_neg (a : Nat) (h0 : 9223372036854775808 < a) (h : a % 9223372036854775808 < 9218868437227405312) (ha : a < 18446744073709551616) : Ieee.double.sqrt a = none := by
  have e := read_word true (a % 9223372036854775808) h
  rw [word_eq, show (if true = true then 9223372036854775808 + a % 9223372036854775808 else a % 9223372036854775808) = a by rw [if_pos rfl]; omega] at e
  have hs : sig (a % 9223372036854775808) ≠ 0 := fun q => by have := (sig_zero _).1 q; omega
  unfold Ieee.Format.sqrt
  rw [e]
  unfold Ieee.Datum.root
  dsimp only
  rw [if_neg hs, if_pos rfl]
  rfl
theorem add_zero_pos (g : Nat) (h : g ≤ 9218868437227405312) : Ieee.double.add g 0 = some g := by
  by_cases hi : g = 9218868437227405312
  · subst hi; decide
  · exact sum_exact false false false g 0 g (by omega) (by omega) (by omega) (by rw [show sv false 0 = 0 from by unfold sv; rw [(val_zero 0).2 rfl]; rfl]; omega) (fun _ => rfl)

/-- What a root is. -/
def RootIs (a r : Nat) : Prop := r < 18446744073709551616 ∧ ((a % 9223372036854775808 = 0 ∧ r = 0) ∨ (a % 9223372036854775808 = 9218868437227405312 ∧ r = 9218868437227405312) ∨ (a % 9223372036854775808 ≠ 0 ∧ a % 9223372036854775808 < 9218868437227405312 ∧ a < 9223372036854775808 ∧ Ieee.double.sqrt a = some r) ∨ (a % 9223372036854775808 ≠ 0 ∧ a % 9223372036854775808 < 9218868437227405312 ∧ 9223372036854775808 < a ∧ nan r))
theorem RootIs.same {a r s : Nat} (h : RootIs a r) (k : RootIs a s) : alike r s = true := by
  unfold alike
  refine decide_eq_true ?_
  obtain ⟨_, h⟩ := h
  obtain ⟨_, k⟩ := k
  rcases h with h | h | h | h
  · rcases k with k | k | k | k
    · exact .inl (h.2.trans k.2.symm)
    · omega
    · omega
    · omega
  · rcases k with k | k | k | k
    · omega
    · exact .inl (h.2.trans k.2.symm)
    · omega
    · omega
  · rcases k with k | k | k | k
    · omega
    · omega
    · exact .inl (Option.some.inj (h.2.2.2.symm.trans k.2.2.2))
    · omega
  · rcases k with k | k | k | k
    · omega
    · omega
    · omega
    · exact .inr ⟨h.2.2.2, k.2.2.2⟩

set_option maxHeartbeats 400000 in
theorem sqrt_some_any (a r : Nat) (w : World) (h : Ieee.double.sqrt a = some r) :
    Calls Try.prog 53 #[.float .f64 a] w fun e w' => e = .returned (.float .f64 r) ∧ w' = w := by
  have HC := Hid.mk' (call_sqrt a w _ _ (sqrt_ext_some a r w h))
  clear h
  go_enter Try.func53, Try.ntmps53
  go_wp2_with (rw [HC.out])
  go_ret
  exact ⟨rfl, rfl⟩
set_option maxHeartbeats 400000 in
theorem sqrt_none_any (a : Nat) (w : World) (h : Ieee.double.sqrt a = none) :
    Calls Try.prog 53 #[.float .f64 a] w fun e w' => ∃ r n, e = .returned (.float .f64 r) ∧ r < 18446744073709551616 ∧ nan r ∧ w' = w.drewN n := by
  obtain ⟨r, n, h1, h2, h3⟩ := sqrt_ext_none a w h
  have HC := Hid.mk' (call_sqrt a w _ _ h1)
  clear h h1
  go_enter Try.func53, Try.ntmps53
  go_wp2_with (rw [HC.out])
  go_ret
  exact ⟨r, n, rfl, h2, h3, rfl⟩
theorem neginf_eq (a : Nat) (ha : a < 18446744073709551616) (na : ¬ nan a) : (FloatKind.f64.format.order (Op.negFloat .f64 a) 9218868437227405311 == some Ordering.gt) = decide (a = 9223372036854775808 + 9218868437227405312) := by
  unfold nan at na
  by_cases h : 9223372036854775808 ≤ a
  · obtain ⟨g, rfl⟩ : ∃ g, a = 9223372036854775808 + g := ⟨a - 9223372036854775808, by omega⟩
    rw [neg_neg' g (by omega), gt_any g _ (by omega) (by unfold nan; omega) (by omega)]
    exact decide_eq_decide.2 (by omega)
  · rw [neg_pos a (by omega), gt_any (9223372036854775808 + a) _ (by omega) (by unfold nan; omega) (by omega)]
    exact decide_eq_decide.2 (by omega)
set_option maxHeartbeats 400000 in
theorem isInfNeg_any (a : Nat) (w : World) (ha : a < 18446744073709551616) (na : ¬ nan a) :
    Calls Try.prog 47 #[.float .f64 a, .int .i64 (-1)] w fun e w' => e = .returned (.bool (decide (a = 9223372036854775808 + 9218868437227405312))) ∧ w' = w := by
  have h := neginf_eq a ha na
  go_enter Try.func47, Try.ntmps47
  go_wp2
  go_ret
  exact ⟨by first | exact ret_bool h | rfl, rfl⟩

set_option maxHeartbeats 1000000 in
theorem root_any (a : Nat) (w : World) (ha : a < 18446744073709551616) (na : ¬ nan a) :
    Calls Try.prog 49 #[.float .f64 a] w fun e w' => ∃ r n, e = .returned (.float .f64 r) ∧ RootIs a r ∧ w' = w.drewN n := by
  have HI := Hid.mk' (fun W => isInfNeg_any a W ha na)
  have h0 := eq0 a ha
  unfold nan at na
  by_cases c1 : a = 9223372036854775808 + 9218868437227405312
  · rw [decide_eq_true c1] at HI
    have HR : Hid (RootIs a 9218868437227405312) := ⟨by omega, .inr (.inl ⟨by omega, rfl⟩)⟩
    clear c1
    go_enter Try.func49, Try.ntmps49
    go_wp2_with (first | (go_at_call 47; first | (refine (HI.out _).mono ?_; rintro e w1 ⟨rfl, hw1⟩; rw [hw1]; clear hw1 w1)) | (go_at_call 52; refine (inf_any _).mono ?_; rintro e w1 ⟨rfl, hw1⟩; rw [hw1]; clear hw1 w1))
    go_ret
    exact ⟨_, 0, rfl, HR.out, rfl⟩
  · rw [decide_eq_false c1] at HI
    by_cases c2 : a % 9223372036854775808 = 0
    · rw [decide_eq_true c2] at h0
      have HR : Hid (RootIs a 0) := ⟨by omega, .inl ⟨c2, rfl⟩⟩
      clear c1 c2
      go_enter Try.func49, Try.ntmps49
      go_wp2_with (first | (go_at_call 47; first | (refine (HI.out _).mono ?_; rintro e w1 ⟨rfl, hw1⟩; rw [hw1]; clear hw1 w1)))
      go_ret
      exact ⟨_, 0, rfl, HR.out, rfl⟩
    · rw [decide_eq_false c2] at h0
      by_cases c3 : a < 9223372036854775808
      · obtain ⟨r, r1, r2⟩ := sqrt_pos a (by omega) (by omega)
        have HR : Hid (RootIs a r) := by
          refine ⟨by omega, ?_⟩
          by_cases hi : a = 9218868437227405312
          · subst hi
            have : Ieee.double.sqrt 9218868437227405312 = some 9218868437227405312 := by decide
            rw [this] at r1
            exact .inr (.inl ⟨by omega, (Option.some.inj r1).symm⟩)
          · exact .inr (.inr (.inl ⟨c2, by omega, c3, r1⟩))
        have HS := Hid.mk' (fun W => sqrt_some_any a r W r1)
        clear c1 c2 r1
        go_enter Try.func49, Try.ntmps49
        go_wp2_with (first | (go_at_call 47; first | (refine (HI.out _).mono ?_; rintro e w1 ⟨rfl, hw1⟩; rw [hw1]; clear hw1 w1)) | (go_at_call 53; first | (refine (HS.out _).mono ?_; rintro e w1 ⟨rfl, hw1⟩; rw [hw1]; clear hw1 w1)))
        go_ret
        exact ⟨_, 0, rfl, HR.out, rfl⟩
      · have hsn := sqrt_neg a (by omega) (by omega) ha
        have HS := Hid.mk' (fun W => sqrt_none_any a W hsn)
        have HR : Hid (∀ r, r < 18446744073709551616 → nan r → RootIs a r) := fun r h1 h2 => ⟨h1, .inr (.inr (.inr ⟨c2, by omega, by omega, h2⟩))⟩
        clear c1 c2 c3
        go_enter Try.func49, Try.ntmps49
        go_wp2_with (first | (go_at_call 47; first | (refine (HI.out _).mono ?_; rintro e w1 ⟨rfl, hw1⟩; rw [hw1]; clear hw1 w1)))
        refine (HS.out _).mono ?_
        rintro e w1 ⟨r, n, rfl, hr, hrn, hw1⟩
        rw [hw1]
        clear hw1 w1
        go_wp2
        go_ret
        exact ⟨r, n, rfl, HR.out r hr hrn, rfl⟩

set_option maxHeartbeats 1000000 in
set_option maxRecDepth 100000 in
theorem pow_root (a : Nat) (w : World) (ha : a < 18446744073709551616) (na : ¬ nan a) :
    Calls Try.prog 31 #[.float .f64 a, .float .f64 4602678819172646912] w fun e w' => ∃ r n, e = .returned (.float .f64 r) ∧ RootIs a r ∧ w' = w.drewN n := by
  have HNB := Hid.mk' (fun W => isNaN_any 4602678819172646912 W (by omega))
  have HNA := Hid.mk' (fun W => isNaN_any a W ha)
  have HI := Hid.mk' (fun W => isInf0_any 4602678819172646912 W (by omega))
  have h0 := eq0 4602678819172646912 (by omega)
  rw [decide_eq_false (by unfold nan; omega)] at HNB
  rw [decide_eq_false (by omega)] at h0
  rw [decide_eq_false na] at HNA
  rw [decide_eq_false (by omega)] at HI
  have h5 := half_yes
  have HR := Hid.mk' (fun W => root_any a W ha na)
  go_enter Try.func31, Try.ntmps31
  go_wp2_with (first | (go_at_call 39; first | (refine (HNB.out _).mono ?_; rintro e w1 ⟨rfl, hw1⟩; rw [hw1]; clear hw1 w1) | (refine (HNA.out _).mono ?_; rintro e w1 ⟨rfl, hw1⟩; rw [hw1]; clear hw1 w1)) | (go_at_call 47; first | (refine (HI.out _).mono ?_; rintro e w1 ⟨rfl, hw1⟩; rw [hw1]; clear hw1 w1)))
  refine (HR.out _).mono ?_
  rintro e w1 ⟨r, n, rfl, hr, hw1⟩
  rw [hw1]
  clear hw1 w1
  go_wp2
  go_ret
  exact ⟨r, n, rfl, hr, rfl⟩
end Go.Proofs.Ytilcpdnonppleaa
