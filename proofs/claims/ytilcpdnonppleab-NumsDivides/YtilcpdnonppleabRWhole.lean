/- Contracts of the document's answers: numbers cut off, shifts. -/
import Derived.Test.YtilcpdnonppleabShift
namespace Go.Proofs.Ytilcpdnonppleab
set_option linter.unusedVariables false
open Go.RowKit Fl

theorem call_trunc (x : Nat) (w : World) (r : Value) (w' : World) (h : (Extern.MathFloor.toIntegral "math.archTrunc" .zero #[.float .f64 x]).run Try.prog w = .ok r w') : (callFunc 31 #[.float .f64 x]).run Try.prog w = .ok (.value r) w' := by
  rw [run_callFunc_extern (e := Extern.MathFloor.toIntegral "math.archTrunc" .zero) Try.func31 (by kernel_rfl) (by kernel_rfl) (by kernel_rfl) (by kernel_rfl), h]
  rfl
theorem sgn_word (x k : Nat) : sgn x k = Ieee.double.word (decide (9223372036854775808 ≤ x)) k := by
  rw [word_eq]; unfold sgn; simp
theorem trunc_ext_fin (x k : Nat) (w : World) (hx : x < 18446744073709551616) (hf : x % 9223372036854775808 < 9218868437227405312) (hk : k < 9218868437227405312) (hv : val k = tr (x % 9223372036854775808) * 2 ^ 1074) :
    (Extern.MathFloor.toIntegral "math.archTrunc" .zero #[.float .f64 x]).run Try.prog w = .ok (.float .f64 (sgn x k)) w := by
  have e := read_word (decide (9223372036854775808 ≤ x)) (x % 9223372036854775808) hf
  have e2 := write_tr (decide (9223372036854775808 ≤ x)) (x % 9223372036854775808) k hf hk hv
  rw [← word_parts x hx] at e e2
  rw [← sgn_word] at e2
  rw [e] at e2
  show (match FloatKind.f64.decode x with
    | .nan s t => _
    | d => (pure (.float .f64 (FloatKind.f64.encode (d.integral .zero))) : Sem Value)).run Try.prog w = _
  rw [show FloatKind.f64.decode x = Ieee.double.read x from rfl, e]
  dsimp only
  rw [show FloatKind.f64.encode (Ieee.Datum.integral .zero (.number (decide (9223372036854775808 ≤ x)) (sig (x % 9223372036854775808)) (-1074 + (ex (x % 9223372036854775808) : Int)))) = sgn x k from e2]
  rfl
theorem trunc_ext_inf (x : Nat) (w : World) (hx : x < 18446744073709551616) (hf : x % 9223372036854775808 = 9218868437227405312) :
    (Extern.MathFloor.toIntegral "math.archTrunc" .zero #[.float .f64 x]).run Try.prog w = .ok (.float .f64 x) w := by
  have h : x = 9218868437227405312 ∨ x = 9223372036854775808 + 9218868437227405312 := by omega
  rcases h with rfl | rfl
  · rfl
  · rfl
theorem quiet_nan (s : Bool) (t : Nat) (h : t < 4503599627370496) : FloatKind.f64.encode (.nan s (FloatKind.f64.format.quiet t)) < 18446744073709551616 ∧ nan (FloatKind.f64.encode (.nan s (FloatKind.f64.format.quiet t))) := by
  have e : FloatKind.f64.encode (.nan s (FloatKind.f64.format.quiet t)) = Ieee.double.word s (9218868437227405312 + (t ||| 2251799813685248) % 4503599627370496) := rfl
  have h1 : t ||| 2251799813685248 < 2 ^ 52 := Nat.or_lt_two_pow h (by omega)
  have h2 : 2251799813685248 ≤ t ||| 2251799813685248 := Nat.right_le_or
  rw [pow52] at h1
  rw [e, word_eq, Nat.mod_eq_of_lt h1]
  unfold nan
  cases s <;> simp <;> omega
/-- Whatever is asked: one of two, both NaN. -/
theorem kept_any (q : Question) (A B : Nat) (w : World) (hA : A < 18446744073709551616 ∧ nan A) (hB : B < 18446744073709551616 ∧ nan B) :
    ∃ r n, (choose q >>= fun kept => pure (Value.float .f64 (if kept == 1 then A else B)) : Sem Value).run Try.prog w = .ok (.float .f64 r) (w.drewN n) ∧ r < 18446744073709551616 ∧ nan r := by
  have h : ∃ c k, (choose q).run Try.prog w = .ok c (w.drewN k) := by
    rw [run_choose_drew]
    split
    · exact ⟨_, 0, rfl⟩
    · exact ⟨_, 1, rfl⟩
  obtain ⟨c, k, hc⟩ := h
  rw [Sem.run_bind, hc]
  by_cases h1 : (c == 1) = true
  · refine ⟨A, k, ?_, hA.1, hA.2⟩
    simp [Result.andThen, h1]
  · refine ⟨B, k, ?_, hB.1, hB.2⟩
    simp [Result.andThen, h1]
theorem trunc_ext_nan (x : Nat) (w : World) (hx : x < 18446744073709551616) (hf : nan x) :
    ∃ r n, (Extern.MathFloor.toIntegral "math.archTrunc" .zero #[.float .f64 x]).run Try.prog w = .ok (.float .f64 r) (w.drewN n) ∧ r < 18446744073709551616 ∧ nan r := by
  have e := read_nan (decide (9223372036854775808 ≤ x)) (x % 9223372036854775808) hf (by omega)
  rw [← word_parts x hx] at e
  have ht : x % 9223372036854775808 - 9218868437227405312 < 4503599627370496 := by omega
  generalize x % 9223372036854775808 - 9218868437227405312 = t at e ht
  generalize decide (9223372036854775808 ≤ x) = s at e
  obtain ⟨q1, q2⟩ := quiet_nan s t ht
  obtain ⟨q, hdef⟩ : ∃ q : Question, ∀ d, FloatKind.f64.decode x = d → Extern.MathFloor.toIntegral "math.archTrunc" .zero #[.float .f64 x] = (match d with
      | .nan s t => (if FloatKind.f64.format.quiet t = t then pure (.float .f64 x) else
          choose q >>= fun kept => pure (.float .f64 (if kept == 1 then x else FloatKind.f64.encode (.nan s (FloatKind.f64.format.quiet t)))))
      | d => pure (.float .f64 (FloatKind.f64.encode (d.integral .zero)))) := by
    apply Exists.intro
    intro d hd
    subst hd
    rfl
  rw [hdef _ e]
  dsimp only
  by_cases hq : FloatKind.f64.format.quiet t = t
  · rw [if_pos hq]
    exact ⟨x, 0, rfl, hx, hf⟩
  · rw [if_neg hq]
    exact kept_any q x _ w ⟨hx, hf⟩ ⟨q1, q2⟩

set_option maxHeartbeats 400000 in
theorem trunc_fin (x k : Nat) (w : World) (hx : x < 18446744073709551616) (hf : x % 9223372036854775808 < 9218868437227405312) (hk : k < 9218868437227405312) (hv : val k = tr (x % 9223372036854775808) * 2 ^ 1074) :
    Calls Try.prog 23 #[.float .f64 x] w fun e w' => e = .returned (.float .f64 (sgn x k)) ∧ w' = w := by
  have HC := Hid.mk' (call_trunc x w _ _ (trunc_ext_fin x k w hx hf hk hv))
  clear hv
  go_enter Try.func23, Try.ntmps23
  go_wp2_with (rw [HC.out])
  go_ret
  exact ⟨rfl, rfl⟩
set_option maxHeartbeats 400000 in
theorem trunc_inf (x : Nat) (w : World) (hx : x < 18446744073709551616) (hf : x % 9223372036854775808 = 9218868437227405312) :
    Calls Try.prog 23 #[.float .f64 x] w fun e w' => e = .returned (.float .f64 x) ∧ w' = w := by
  have HC := Hid.mk' (call_trunc x w _ _ (trunc_ext_inf x w hx hf))
  clear hf
  go_enter Try.func23, Try.ntmps23
  go_wp2_with (rw [HC.out])
  go_ret
  exact ⟨rfl, rfl⟩
set_option maxHeartbeats 400000 in
theorem trunc_nan (x : Nat) (w : World) (hx : x < 18446744073709551616) (hf : nan x) :
    Calls Try.prog 23 #[.float .f64 x] w fun e w' => ∃ r n, e = .returned (.float .f64 r) ∧ r < 18446744073709551616 ∧ nan r ∧ w' = w.drewN n := by
  obtain ⟨r, n, h, h1, h2⟩ := trunc_ext_nan x w hx hf
  have HC := Hid.mk' (call_trunc x w _ _ h)
  clear h
  go_enter Try.func23, Try.ntmps23
  go_wp2_with (rw [HC.out])
  go_ret
  exact ⟨r, n, rfl, h1, h2, rfl⟩

/-- What is left of a finite number modulo P. -/
def left (x P : Nat) : Nat := if 9223372036854775808 ≤ x then (if tr (x % 9223372036854775808) % P = 0 then 0 else P - tr (x % 9223372036854775808) % P) else tr (x % 9223372036854775808) % P
theorem sgn_mod (x g : Nat) (h : g < 9223372036854775808) : sgn x g % 9223372036854775808 = g := by unfold sgn; split <;> omega
theorem sgn_lt (x g : Nat) (h : g < 9223372036854775808) : sgn x g < 18446744073709551616 := by unfold sgn; split <;> omega
theorem sgn_sgn (x k g : Nat) (h : k < 9223372036854775808) : sgn (sgn x k) g = sgn x g := by
  unfold sgn
  by_cases e : 9223372036854775808 ≤ x
  · rw [if_pos e, if_pos e, if_pos (by omega)]
  · rw [if_neg e, if_neg e, if_neg (by omega)]
theorem sgn_half (x g : Nat) (h : g < 9223372036854775808) : 9223372036854775808 < sgn x g ↔ 9223372036854775808 ≤ x ∧ g ≠ 0 := by unfold sgn; split <;> omega
theorem mod_worth {g k t P c : Nat} (hk : val k = t * 2 ^ 1074) (hc : val c = P * 2 ^ 1074) (hg : val g = val k % val c) : val g = t % P * 2 ^ 1074 := by
  rw [hg, hk, hc]; exact mul_mod_gen t P 1074

theorem zdiv_gen {v D : Nat} (h : v = 0) : v / 2 ^ D = 0 := by rw [h]; exact Nat.zero_div _
theorem zero_of_gen {v n D : Nat} (h : v = n * 2 ^ D) (e : n = 0) : v = 0 := by rw [h, e, Nat.zero_mul]
theorem comm_gen {v o a D : Nat} (h : v = 2 ^ a * 2 ^ D) (h1 : o = 2 ^ D) : v = o * 2 ^ a := by rw [h, h1, Nat.mul_comm]
theorem tr_zero : tr 0 = 0 := zdiv_gen (v := val 0) (D := 1074) ((val_zero 0).2 rfl)

theorem val_one : val 4607182418800017408 = 2 ^ 1074 := by
  have v1 := val_pow' 1022 1074 rfl
  rw [show (1022 + 1) * 4503599627370496 = 4607182418800017408 from rfl] at v1
  exact v1
theorem left32 (x : Nat) (hf : x % 9223372036854775808 < 9218868437227405312) : ((left x 4294967296 : Nat) : Int) = u32 x := by
  unfold left u32 tz; rw [if_pos hf]
  by_cases h : 9223372036854775808 ≤ x
  · rw [if_pos h, if_pos h]
    split <;> omega
  · rw [if_neg h, if_neg h]
    omega
theorem left16 (x : Nat) (hf : x % 9223372036854775808 < 9218868437227405312) : ((left x 65536 : Nat) : Int) = u32 x % 65536 := by
  unfold left u32 tz; rw [if_pos hf]
  by_cases h : 9223372036854775808 ≤ x
  · rw [if_pos h, if_pos h]
    split <;> omega
  · rw [if_neg h, if_neg h]
    omega
end Go.Proofs.Ytilcpdnonppleab
