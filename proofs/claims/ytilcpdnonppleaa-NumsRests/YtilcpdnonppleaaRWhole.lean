/- Contracts of the document's answers: numbers cut off, shifts. -/
import Derived.Test.YtilcpdnonppleaaShift
namespace Go.Proofs.Ytilcpdnonppleaa
set_option linter.unusedVariables false
open Go.RowKit Fl

theorem call_trunc (x : Nat) (w : World) (r : Value) (w' : World) (h : (Extern.MathFloor.toIntegral "math.archTrunc" .zero #[.float .f64 x]).run Try.prog w = .ok r w') : (callFunc 60 #[.float .f64 x]).run Try.prog w = .ok (.value r) w' := by
  rw [run_callFunc_extern (e := Extern.MathFloor.toIntegral "math.archTrunc" .zero) Try.func60 (by kernel_rfl) (by kernel_rfl) (by kernel_rfl) (by kernel_rfl), h]
  rfl
theorem sgn_word (x k : Nat) : sgn x k = Ieee.double.word (decide (9223372036854775808 ≤ x)) k := by
  rw [word_eq]; unfold sgn; simp
theorem trunc_ext_fin (x k : Nat) (w : World) (hx : x < 18446744073709551616) (hf : x % 9223372036854775808 < 9218868437227405312) (hk : k < 9218868437227405312) (hv : val k = tr (x % 9223372036854775808) * 2 ^ 1074) :
    (Extern.MathFloor.toIntegral "math.archTrunc" .zero #[.float .f64 x]).run Try.prog w = .ok (.float .f64 (sgn x k)) w := by
  have e := read_word (decide (9223372036854775808 ≤ x)) (x % 9223372036854775808) hf
  have e2 := write_tr (decide (9223372036854775808 ≤ x)) (x % 9223372036854775808) k hf hk hv
  rw [← word_parts x hx] at e e2
  rw [← sgn_word] at e2
  rw [e] at e2
  show (match FloatKind.f64.decode x with
    | .nan s t => _
    | d => (pure (.float .f64 (FloatKind.f64.encode (d.integral .zero))) : Sem Value)).run Try.prog w = _
  rw [show FloatKind.f64.decode x = Ieee.double.read x from rfl, e]
  dsimp only
  rw [show FloatKind.f64.encode (Ieee.Datum.integral .zero (.number (decide (9223372036854775808 ≤ x)) (sig (x % 9223372036854775808)) (-1074 + (ex (x % 9223372036854775808) : Int)))) = sgn x k from e2]
  rfl
theorem trunc_ext_inf (x : Nat) (w : World) (hx : x < 18446744073709551616) (hf : x % 9223372036854775808 = 9218868437227405312) :
    (Extern.MathFloor.toIntegral "math.archTrunc" .zero #[.float .f64 x]).run Try.prog w = .ok (.float .f64 x) w := by
  have h : x = 9218868437227405312 ∨ x = 9223372036854775808 + 9218868437227405312 := by omega
  rcases h with rfl | rfl
  · rfl
  · rfl
theorem quiet_nan (s : Bool) (t : Nat) (h : t < 4503599627370496) : FloatKind.f64.encode (.nan s (FloatKind.f64.format.quiet t)) < 18446744073709551616 ∧ nan (FloatKind.f64.encode (.nan s (FloatKind.f64.format.quiet t))) := by
  have e : FloatKind.f64.encode (.nan s (FloatKind.f64.format.quiet t)) = Ieee.double.word s (9218868437227405312 + (t ||| 2251799813685248) % 4503599627370496) := rfl
  have h1 : t ||| 2251799813685248 < 2 ^ 52 := Nat.or_lt_two_pow h (by omega)
  have h2 : 2251799813685248 ≤ t ||| 2251799813685248 := Nat.right_le_or
  rw [pow52] at h1
  rw [e, word_eq, Nat.mod_eq_of_lt h1]
  unfold nan
  cases s <;> simp <;> omega
/-- Whatever is asked: one of two, both NaN. -/
theorem kept_any (q : Question) (A B : Nat) (w : World) (hA : A < 18446744073709551616 ∧ nan A) (hB : B < 18446744073709551616 ∧ nan B) :
    ∃ r n, (choose q >>= fun kept => pure (Value.float .f64 (if kept == 1 then A else B)) : Sem Value).run Try.prog w = .ok (.float .f64 r) (w.drewN n) ∧ r < 18446744073709551616 ∧ nan r := by
  have h : ∃ c k, (choose q).run Try.prog w = .ok c (w.drewN k) := by
    rw [run_choose_drew]
    split
    · exact ⟨_, 0, rfl⟩
    · exact ⟨_, 1, rfl⟩
  obtain ⟨c, k, hc⟩ := h
  rw [Sem.run_bind, hc]
  by_cases h1 : (c == 1) = true
  · refine ⟨A, k, ?_, hA.1, hA.2⟩
    simp [Result.andThen, h1]
  · refine ⟨B, k, ?_, hB.1, hB.2⟩
    simp [Result.andThen, h1]
theorem trunc_ext_nan (x : Nat) (w : World) (hx : x < 18446744073709551616) (hf : nan x) :
    ∃ r n, (Extern.MathFloor.toIntegral "math.archTrunc" .zero #[.float .f64 x]).run Try.prog w = .ok (.float .f64 r) (w.drewN n) ∧ r < 18446744073709551616 ∧ nan r := by
  have e := read_nan (decide (9223372036854775808 ≤ x)) (x % 9223372036854775808) hf (by omega)
  rw [← word_parts x hx] at e
  have ht : x % 9223372036854775808 - 9218868437227405312 < 4503599627370496 := by omega
  generalize x % 9223372036854775808 - 9218868437227405312 = t at e ht
  generalize decide (9223372036854775808 ≤ x) = s at e
  obtain ⟨q1, q2⟩ := quiet_nan s t ht
  obtain ⟨q, hdef⟩ : ∃ q : Question, ∀ d, FloatKind.f64.decode x = d → Extern.MathFloor.toIntegral "math.archTrunc" .zero #[.float .f64 x] = (match d with
      | .nan s t => (if FloatKind.f64.format.quiet t = t then pure (.float .f64 x) else
          choose q >>= fun kept => pure (.float .f64 (if kept == 1 then x else FloatKind.f64.encode (.nan s (FloatKind.f64.format.quiet t)))))
      | d => pure (.float .f64 (FloatKind.f64.encode (d.integral .zero)))) := by
    apply Exists.intro
    intro d hd
    subst hd
    rfl
  rw [hdef _ e]
  dsimp only
  by_cases hq : FloatKind.f64.format.quiet t = t
  · rw [if_pos hq]
    exact ⟨x, 0, rfl, hx, hf⟩
  · rw [if_neg hq]
    exact kept_any q x _ w ⟨hx, hf⟩ ⟨q1, q2⟩

set_option maxHeartbeats 400000 in
theorem trunc_fin (x k : Nat) (w : World) (hx : x < 18446744073709551616) (hf : x % 9223372036854775808 < 9218868437227405312) (hk : k < 9218868437227405312) (hv : val k = tr (x % 9223372036854775808) * 2 ^ 1074) :
    Calls Try.prog 42 #[.float .f64 x] w fun e w' => e = .returned (.float .f64 (sgn x k)) ∧ w' = w := by
  have HC := Hid.mk' (call_trunc x w _ _ (trunc_ext_fin x k w hx hf hk hv))
  clear hv
  go_enter Try.func42, Try.ntmps42
  go_wp2_with (rw [HC.out])
  go_ret
  exact ⟨rfl, rfl⟩
set_option maxHeartbeats 400000 in
theorem trunc_inf (x : Nat) (w : World) (hx : x < 18446744073709551616) (hf : x % 9223372036854775808 = 9218868437227405312) :
    Calls Try.prog 42 #[.float .f64 x] w fun e w' => e = .returned (.float .f64 x) ∧ w' = w := by
  have HC := Hid.mk' (call_trunc x w _ _ (trunc_ext_inf x w hx hf))
  clear hf
  go_enter Try.func42, Try.ntmps42
  go_wp2_with (rw [HC.out])
  go_ret
  exact ⟨rfl, rfl⟩
set_option maxHeartbeats 400000 in
theorem trunc_nan (x : Nat) (w : World) (hx : x < 18446744073709551616) (hf : nan x) :
    Calls Try.prog 42 #[.float .f64 x] w fun e w' => ∃ r n, e = .returned (.float .f64 r) ∧ r < 18446744073709551616 ∧ nan r ∧ w' = w.drewN n := by
  obtain ⟨r, n, h, h1, h2⟩ := trunc_ext_nan x w hx hf
  have HC := Hid.mk' (call_trunc x w _ _ h)
  clear h
  go_enter Try.func42, Try.ntmps42
  go_wp2_with (rw [HC.out])
  go_ret
  exact ⟨r, n, rfl, h1, h2, rfl⟩

/-- What is left of a finite number modulo P. -/
def left (x P : Nat) : Nat := if 9223372036854775808 ≤ x then (if tr (x % 9223372036854775808) % P = 0 then 0 else P - tr (x % 9223372036854775808) % P) else tr (x % 9223372036854775808) % P
theorem sgn_mod (x g : Nat) (h : g < 9223372036854775808) : sgn x g % 9223372036854775808 = g := by unfold sgn; split <;> omega
theorem sgn_lt (x g : Nat) (h : g < 9223372036854775808) : sgn x g < 18446744073709551616 := by unfold sgn; split <;> omega
theorem sgn_sgn (x k g : Nat) (h : k < 9223372036854775808) : sgn (sgn x k) g = sgn x g := by
  unfold sgn
  by_cases e : 9223372036854775808 ≤ x
  · rw [if_pos e, if_pos e, if_pos (by omega)]
  · rw [if_neg e, if_neg e, if_neg (by omega)]
theorem sgn_half (x g : Nat) (h : g < 9223372036854775808) : 9223372036854775808 < sgn x g ↔ 9223372036854775808 ≤ x ∧ g ≠ 0 := by unfold sgn; split <;> omega
theorem mod_worth {g k t P c : Nat} (hk : val k = t * 2 ^ 1074) (hc : val c = P * 2 ^ 1074) (hg : val g = val k % val c) : val g = t % P * 2 ^ 1074 := by
  rw [hg, hk, hc]; exact mul_mod_gen t P 1074

theorem zdiv_gen {v D : Nat} (h : v = 0) : v / 2 ^ D = 0 := by rw [h]; exact Nat.zero_div _
theorem zero_of_gen {v n D : Nat} (h : v = n * 2 ^ D) (e : n = 0) : v = 0 := by rw [h, e, Nat.zero_mul]
theorem comm_gen {v o a D : Nat} (h : v = 2 ^ a * 2 ^ D) (h1 : o = 2 ^ D) : v = o * 2 ^ a := by rw [h, h1, Nat.mul_comm]
theorem tr_zero : tr 0 = 0 := zdiv_gen (v := val 0) (D := 1074) ((val_zero 0).2 rfl)

set_option maxRecDepth 100000 in
set_option maxHeartbeats 1000000 in
theorem modulo_fin (x k P c : Nat) (w : World) (hx : x < 18446744073709551616) (hf : x % 9223372036854775808 < 9218868437227405312) (hk : k ≤ 32) (hP0 : 0 < P) (hP1 : P ≤ 4294967296) (hc0 : c ≠ 0) (hc : c < 9218868437227405312) (hvc : val c = P * 2 ^ 1074) (hvl : val c = val 4607182418800017408 * 2 ^ k) :
    Calls Try.prog 40 #[.float .f64 x, .int .i64 k] w fun e w' => e = .returned (.int .u64 (left x P : Nat)) ∧ w' = w := by
  have HX := Hid.mk' (fun W => bad_any x W hx)
  rw [decide_eq_false (show ¬ nan x by unfold nan; omega)] at HX
  have WX := Hid.mk' (fun W => wide_any x W hx)
  rw [decide_eq_false (by omega)] at WX
  have HL := Hid.mk' (fun W => ldexp_any 4607182418800017408 k c W (by omega) (by omega) hc hvl)
  obtain ⟨kt, hkt, hvt⟩ := tr_rep (x % 9223372036854775808) hf
  have HT := Hid.mk' (fun W => trunc_fin x kt W hx hf hkt hvt)
  have HM := Hid.mk' (fun W => Mod_is (sgn x kt) c W (sgn_lt x kt (by omega)) (by omega))
  have HVT := Hid.mk' hvt
  have HVC := Hid.mk' hvc
  clear hvt hvc hvl
  go_enter Try.func40, Try.ntmps40
  go_wp2_with (first | (go_at_call 43; refine (HX.out _).mono ?_; rintro e w1 ⟨rfl, hw1⟩; rw [hw1]; clear hw1 w1) | (go_at_call 44; refine (WX.out _).mono ?_; rintro e w1 ⟨rfl, hw1⟩; rw [hw1]; clear hw1 w1) | (go_at_call 59; refine (HL.out _).mono ?_; rintro e w1 ⟨rfl, hw1⟩; rw [hw1]; clear hw1 w1) | (go_at_call 42; refine (HT.out _).mono ?_; rintro e w1 ⟨rfl, hw1⟩; rw [hw1]; clear hw1 w1))
  refine (HM.out _).mono ?_
  rintro e w1 ⟨⟨r, rfl, hr⟩, hw1⟩
  rw [hw1]
  clear hw1 w1
  have hcm : c % 9223372036854775808 = c := by omega
  obtain ⟨g, hrg, hg1, hg2⟩ := hr.fin (sgn_lt x kt (by omega)) (by rw [sgn_mod x kt (by omega)]; exact hkt) (by omega) (by omega)
  rw [sgn_sgn x kt g (by omega)] at hrg
  rw [sgn_mod x kt (by omega), hcm] at hg2
  have hvg := mod_worth HVT.out HVC.out hg2
  have htg := tr_of g _ hvg
  have hlt := lt0 r (by rw [hrg]; exact sgn_lt x g (by omega)) (by unfold nan; rw [hrg, sgn_mod x g (by omega)]; omega)
  have hmlt : tr (x % 9223372036854775808) % P < P := Nat.mod_lt _ hP0
  have hg0 : g = 0 ↔ tr (x % 9223372036854775808) % P = 0 := by
    constructor
    · intro e
      rw [← htg, e]; exact tr_zero
    · intro e
      exact (val_zero g).1 (zero_of_gen (D := 1074) hvg e)
  have htz : tz r = if 9223372036854775808 ≤ x then -(tr g : Int) else (tr g : Int) := by rw [hrg]; exact tz_sgn x g (by omega)
  have hrl : r < 18446744073709551616 := by rw [hrg]; exact sgn_lt x g (by omega)
  have hrm : r % 9223372036854775808 = g := by rw [hrg]; exact sgn_mod x g (by omega)
  by_cases hneg : 9223372036854775808 ≤ x ∧ g ≠ 0
  · rw [decide_eq_true (by rw [hrg]; exact (sgn_half x g (by omega)).2 hneg)] at hlt
    have hgne : ¬ tr (x % 9223372036854775808) % P = 0 := fun e => hneg.2 (hg0.2 e)
    obtain ⟨k3, hk3, hv3⟩ := int_rep (P - tr (x % 9223372036854775808) % P) (by omega)
    have htk := tr_of k3 _ hv3
    have hres : left x P = P - tr (x % 9223372036854775808) % P := by unfold left; rw [if_pos hneg.1, if_neg hgne]
    have hr2 : r = 9223372036854775808 + g := by rw [hrg]; unfold sgn; rw [if_pos hneg.1]
    have hsum : val k3 + val g = val c := by
      rw [hv3, hvg, HVC.out]; exact sub_mul_gen _ _ _ 1074 (by omega)
    have HA := Hid.mk' (fun W => run_add 22 r c k3 W (by
      have := sum_exact true false false g c k3 hg1 hc hk3 (by unfold sv; simp; omega) (fun _ => rfl)
      rw [word_eq, word_eq, word_eq] at this
      rw [hr2]
      exact this))
    have hk3m : k3 % 9223372036854775808 = k3 := by omega
    have htz3 : tz k3 = ((left x P : Nat) : Int) := by
      unfold tz
      rw [if_neg (by omega), hk3m, htk, hres]
    have HC := Hid.mk' (fun W => run_ftoi 37 k3 .u64 W (by kernel_rfl) (by omega) (by omega) (by rw [htz3]; show (0 : Int) ≤ _; omega) (by rw [htz3, hres]; show _ ≤ (18446744073709551615 : Int); omega))
    rw [htz3] at HC
    clear htz3 hk3m hsum hres htk hv3 htz hg0 hvg htg hg2 hrg hr2 hr hrm hcm hmlt hgne
    go_wp2_with (first | rw [HA.out] | rw [HC.out])
    go_ret
    exact ⟨rfl, rfl⟩
  · rw [decide_eq_false (by rw [hrg]; exact fun q => hneg ((sgn_half x g (by omega)).1 q))] at hlt
    have hres : tz r = ((left x P : Nat) : Int) := by
      rw [htz]
      unfold left
      by_cases hh : 9223372036854775808 ≤ x
      · have hge : g = 0 := Classical.byContradiction fun q => hneg ⟨hh, q⟩
        rw [if_pos hh, if_pos hh, if_pos (hg0.1 hge), htg, hg0.1 hge]; rfl
      · rw [if_neg hh, if_neg hh, htg]
    have hll : left x P ≤ 4294967296 := by unfold left; split; (split <;> omega); omega
    have HC := Hid.mk' (fun W => run_ftoi 37 r .u64 W (by kernel_rfl) hrl (by omega) (by rw [hres]; show (0 : Int) ≤ _; omega) (by rw [hres]; show _ ≤ (18446744073709551615 : Int); omega))
    rw [hres] at HC
    clear hres htz hg0 hvg htg hg2 hrg hr hrm hcm hmlt hll
    go_wp2_with (first | rw [HC.out])
    go_ret
    exact ⟨rfl, rfl⟩
set_option maxHeartbeats 400000 in
theorem modulo_no (x k : Nat) (w : World) (hx : x < 18446744073709551616) (hf : ¬ x % 9223372036854775808 < 9218868437227405312) :
    Calls Try.prog 40 #[.float .f64 x, .int .i64 k] w fun e w' => e = .returned (.int .u64 0) ∧ w' = w := by
  have HX := Hid.mk' (fun W => bad_any x W hx)
  have WX := Hid.mk' (fun W => wide_any x W hx)
  by_cases h : nan x
  · rw [decide_eq_true h] at HX
    go_enter Try.func40, Try.ntmps40
    go_wp2_with (first | (go_at_call 43; refine (HX.out _).mono ?_; rintro e w1 ⟨rfl, hw1⟩; rw [hw1]; clear hw1 w1))
    go_ret
    exact ⟨rfl, rfl⟩
  · rw [decide_eq_false h] at HX
    rw [decide_eq_true (by unfold nan at h; omega)] at WX
    go_enter Try.func40, Try.ntmps40
    go_wp2_with (first | (go_at_call 43; refine (HX.out _).mono ?_; rintro e w1 ⟨rfl, hw1⟩; rw [hw1]; clear hw1 w1) | (go_at_call 44; refine (WX.out _).mono ?_; rintro e w1 ⟨rfl, hw1⟩; rw [hw1]; clear hw1 w1))
    go_ret
    exact ⟨rfl, rfl⟩
theorem val_one : val 4607182418800017408 = 2 ^ 1074 := by
  have v1 := val_pow' 1022 1074 rfl
  rw [show (1022 + 1) * 4503599627370496 = 4607182418800017408 from rfl] at v1
  exact v1
theorem left32 (x : Nat) (hf : x % 9223372036854775808 < 9218868437227405312) : ((left x 4294967296 : Nat) : Int) = u32 x := by
  unfold left u32 tz; rw [if_pos hf]
  by_cases h : 9223372036854775808 ≤ x
  · rw [if_pos h, if_pos h]
    split <;> omega
  · rw [if_neg h, if_neg h]
    omega
theorem left16 (x : Nat) (hf : x % 9223372036854775808 < 9218868437227405312) : ((left x 65536 : Nat) : Int) = u32 x % 65536 := by
  unfold left u32 tz; rw [if_pos hf]
  by_cases h : 9223372036854775808 ≤ x
  · rw [if_pos h, if_pos h]
    split <;> omega
  · rw [if_neg h, if_neg h]
    omega
theorem modulo32 (x : Nat) (w : World) (hx : x < 18446744073709551616) :
    Calls Try.prog 40 #[.float .f64 x, .int .i64 32] w fun e w' => e = .returned (.int .u64 (u32 x)) ∧ w' = w := by
  by_cases hf : x % 9223372036854775808 < 9218868437227405312
  · have v1 := val_pow' 1054 1106 rfl
    rw [show (1054 + 1) * 4503599627370496 = 4751297606875873280 from rfl] at v1
    have v2 := v1
    rw [← pow_split (show 32 + 1074 = 1106 from rfl)] at v1 v2
    rw [show (2 : Nat) ^ 32 = 4294967296 from rfl] at v1
    have v3 : val 4751297606875873280 = val 4607182418800017408 * 2 ^ 32 := comm_gen (D := 1074) v2 val_one
    have := modulo_fin x 32 4294967296 4751297606875873280 w hx hf (by omega) (by omega) (by omega) (by omega) (by omega) v1 v3
    rw [left32 x hf] at this
    exact this
  · have hu : u32 x = 0 := by unfold u32; rw [if_neg hf]
    rw [hu]
    exact modulo_no x 32 w hx hf
theorem modulo16 (x : Nat) (w : World) (hx : x < 18446744073709551616) :
    Calls Try.prog 40 #[.float .f64 x, .int .i64 16] w fun e w' => e = .returned (.int .u64 (u32 x % 65536)) ∧ w' = w := by
  by_cases hf : x % 9223372036854775808 < 9218868437227405312
  · have v1 := val_pow' 1038 1090 rfl
    rw [show (1038 + 1) * 4503599627370496 = 4679240012837945344 from rfl] at v1
    have v2 := v1
    rw [← pow_split (show 16 + 1074 = 1090 from rfl)] at v1 v2
    rw [show (2 : Nat) ^ 16 = 65536 from rfl] at v1
    have v3 : val 4679240012837945344 = val 4607182418800017408 * 2 ^ 16 := comm_gen (D := 1074) v2 val_one
    have := modulo_fin x 16 65536 4679240012837945344 w hx hf (by omega) (by omega) (by omega) (by omega) (by omega) v1 v3
    rw [left16 x hf] at this
    exact this
  · have hu : u32 x = 0 := by unfold u32; rw [if_neg hf]
    rw [hu]
    exact modulo_no x 16 w hx hf

set_option maxHeartbeats 400000 in
theorem ruint32_any (x : Nat) (w : World) (hx : x < 18446744073709551616) :
    Calls Try.prog 13 #[.float .f64 x] w fun e w' => e = .returned (.int .u32 (u32 x)) ∧ w' = w := by
  have H := Hid.mk' (fun W => modulo32 x W hx)
  have hr := u32_range x
  go_enter Try.func13, Try.ntmps13
  go_wp2_with (first | (go_at_call 40; refine (H.out _).mono ?_; rintro e w1 ⟨rfl, hw1⟩; rw [hw1]; clear hw1 w1))
  go_ret
  exact ⟨by first | rfl | (rw [show u32 x = u32 x % 4294967296 by omega]; rfl), rfl⟩
set_option maxHeartbeats 400000 in
theorem ruint16_any (x : Nat) (w : World) (hx : x < 18446744073709551616) :
    Calls Try.prog 15 #[.float .f64 x] w fun e w' => e = .returned (.int .u16 (u32 x % 65536)) ∧ w' = w := by
  have H := Hid.mk' (fun W => modulo16 x W hx)
  have hr := u32_range x
  have hr2 : 0 ≤ u32 x % 65536 ∧ u32 x % 65536 < 65536 := by omega
  go_enter Try.func15, Try.ntmps15
  go_wp2_with (first | (go_at_call 40; refine (H.out _).mono ?_; rintro e w1 ⟨rfl, hw1⟩; rw [hw1]; clear hw1 w1))
  go_ret
  exact ⟨by first | rfl | (rw [show u32 x % 65536 = u32 x % 65536 % 65536 by omega]; rfl), rfl⟩
set_option maxHeartbeats 400000 in
theorem rint32_any (x : Nat) (w : World) (hx : x < 18446744073709551616) :
    Calls Try.prog 11 #[.float .f64 x] w fun e w' => e = .returned (.int .i32 (wrap32 (u32 x))) ∧ w' = w := by
  have H := Hid.mk' (fun W => ruint32_any x W hx)
  have hr := u32_range x
  go_enter Try.func11, Try.ntmps11
  go_wp2_with (first | (go_at_call 13; refine (H.out _).mono ?_; rintro e w1 ⟨rfl, hw1⟩; rw [hw1]; clear hw1 w1))
  go_ret
  exact ⟨rfl, rfl⟩
set_option maxHeartbeats 400000 in
theorem rleft_any (x y : Nat) (w : World) (hx : x < 18446744073709551616) (hy : y < 18446744073709551616) :
    Calls Try.prog 22 #[.float .f64 x, .float .f64 y] w fun e w' => e = .returned (.float .f64 (floatOfInt .f64 (wrap32 (wrap32 (u32 x) * 2 ^ (u32 y % 32).toNat)))) ∧ w' = w := by
  have H := Hid.mk' (fun W => rint32_any x W hx)
  have HU := Hid.mk' (fun W => ruint32_any x W hx)
  have HV := Hid.mk' (fun W => ruint32_any y W hy)
  have HJ := Hid.mk' (fun W => rint32_any y W hy)
  have hr := u32_range x
  have hs := u32_range y
  have hp : 0 ≤ u32 y % 32 ∧ u32 y % 32 < 32 := by omega
  go_enter Try.func22, Try.ntmps22
  go_wp2_with (first | (go_at_call 11; first | (refine (H.out _).mono ?_; rintro e w1 ⟨rfl, hw1⟩; rw [hw1]; clear hw1 w1) | (refine (HJ.out _).mono ?_; rintro e w1 ⟨rfl, hw1⟩; rw [hw1]; clear hw1 w1)) | (go_at_call 13; first | (refine (HU.out _).mono ?_; rintro e w1 ⟨rfl, hw1⟩; rw [hw1]; clear hw1 w1) | (refine (HV.out _).mono ?_; rintro e w1 ⟨rfl, hw1⟩; rw [hw1]; clear hw1 w1)))
  go_ret
  exact ⟨rfl, rfl⟩
set_option maxHeartbeats 400000 in
theorem rright_any (x y : Nat) (w : World) (hx : x < 18446744073709551616) (hy : y < 18446744073709551616) :
    Calls Try.prog 24 #[.float .f64 x, .float .f64 y] w fun e w' => e = .returned (.float .f64 (floatOfInt .f64 (wrap32 (u32 x) / 2 ^ (u32 y % 32).toNat))) ∧ w' = w := by
  have H := Hid.mk' (fun W => rint32_any x W hx)
  have HU := Hid.mk' (fun W => ruint32_any x W hx)
  have HV := Hid.mk' (fun W => ruint32_any y W hy)
  have HJ := Hid.mk' (fun W => rint32_any y W hy)
  have hr := u32_range x
  have hs := u32_range y
  have hp : 0 ≤ u32 y % 32 ∧ u32 y % 32 < 32 := by omega
  go_enter Try.func24, Try.ntmps24
  go_wp2_with (first | (go_at_call 11; first | (refine (H.out _).mono ?_; rintro e w1 ⟨rfl, hw1⟩; rw [hw1]; clear hw1 w1) | (refine (HJ.out _).mono ?_; rintro e w1 ⟨rfl, hw1⟩; rw [hw1]; clear hw1 w1)) | (go_at_call 13; first | (refine (HU.out _).mono ?_; rintro e w1 ⟨rfl, hw1⟩; rw [hw1]; clear hw1 w1) | (refine (HV.out _).mono ?_; rintro e w1 ⟨rfl, hw1⟩; rw [hw1]; clear hw1 w1)))
  go_ret
  exact ⟨rfl, rfl⟩
set_option maxHeartbeats 400000 in
theorem rover_any (x y : Nat) (w : World) (hx : x < 18446744073709551616) (hy : y < 18446744073709551616) :
    Calls Try.prog 26 #[.float .f64 x, .float .f64 y] w fun e w' => e = .returned (.float .f64 (floatOfInt .f64 (u32 x / 2 ^ (u32 y % 32).toNat))) ∧ w' = w := by
  have H := Hid.mk' (fun W => rint32_any x W hx)
  have HU := Hid.mk' (fun W => ruint32_any x W hx)
  have HV := Hid.mk' (fun W => ruint32_any y W hy)
  have HJ := Hid.mk' (fun W => rint32_any y W hy)
  have hr := u32_range x
  have hs := u32_range y
  have hp : 0 ≤ u32 y % 32 ∧ u32 y % 32 < 32 := by omega
  go_enter Try.func26, Try.ntmps26
  go_wp2_with (first | (go_at_call 11; first | (refine (H.out _).mono ?_; rintro e w1 ⟨rfl, hw1⟩; rw [hw1]; clear hw1 w1) | (refine (HJ.out _).mono ?_; rintro e w1 ⟨rfl, hw1⟩; rw [hw1]; clear hw1 w1)) | (go_at_call 13; first | (refine (HU.out _).mono ?_; rintro e w1 ⟨rfl, hw1⟩; rw [hw1]; clear hw1 w1) | (refine (HV.out _).mono ?_; rintro e w1 ⟨rfl, hw1⟩; rw [hw1]; clear hw1 w1)))
  go_ret
  exact ⟨rfl, rfl⟩
set_option maxHeartbeats 400000 in
theorem rmul32_any (x y : Nat) (w : World) (hx : x < 18446744073709551616) (hy : y < 18446744073709551616) :
    Calls Try.prog 28 #[.float .f64 x, .float .f64 y] w fun e w' => e = .returned (.float .f64 (floatOfInt .f64 (wrap32 (wrap32 (u32 x) * wrap32 (u32 y))))) ∧ w' = w := by
  have H := Hid.mk' (fun W => rint32_any x W hx)
  have HU := Hid.mk' (fun W => ruint32_any x W hx)
  have HV := Hid.mk' (fun W => ruint32_any y W hy)
  have HJ := Hid.mk' (fun W => rint32_any y W hy)
  have hr := u32_range x
  have hs := u32_range y
  have hp : 0 ≤ u32 y % 32 ∧ u32 y % 32 < 32 := by omega
  go_enter Try.func28, Try.ntmps28
  go_wp2_with (first | (go_at_call 11; first | (refine (H.out _).mono ?_; rintro e w1 ⟨rfl, hw1⟩; rw [hw1]; clear hw1 w1) | (refine (HJ.out _).mono ?_; rintro e w1 ⟨rfl, hw1⟩; rw [hw1]; clear hw1 w1)) | (go_at_call 13; first | (refine (HU.out _).mono ?_; rintro e w1 ⟨rfl, hw1⟩; rw [hw1]; clear hw1 w1) | (refine (HV.out _).mono ?_; rintro e w1 ⟨rfl, hw1⟩; rw [hw1]; clear hw1 w1)))
  go_ret
  exact ⟨rfl, rfl⟩
end Go.Proofs.Ytilcpdnonppleaa
