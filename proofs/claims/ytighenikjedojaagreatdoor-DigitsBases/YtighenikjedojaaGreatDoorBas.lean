/- digits.Base and the document's Base: whole numbers to any base. -/
import Derived.Test.YtighenikjedojaaGreatDoorMod
import Derived.Test.YtighenikjedojaaGreatDoorRShowA
import Derived.Test.YtighenikjedojaaGreatDoorFb3
namespace Go.Proofs.YtighenikjedojaaGreatDoor
set_option linter.unusedVariables false
open Go.RowKit Fl

def tz (x : Nat) : Int := if 9223372036854775808 ≤ x then -(tr (x % 9223372036854775808) : Int) else (tr (x % 9223372036854775808) : Int)
theorem ftoi (x : Nat) (k : IntKind) (hx : x < 18446744073709551616) (hf : x % 9223372036854775808 < 9218868437227405312) (h1 : k.min ≤ tz x) (h2 : tz x ≤ k.max) : floatToIntVal .f64 x k = some (tz x) := by
  unfold floatToIntVal
  have e : (FloatKind.f64.decode x).toInt .zero = some (tz x) := by
    show (Ieee.double.read x).toInt .zero = _
    rw [word_parts x hx, toInt_fin _ _ hf]
    rw [← word_parts x hx]
    unfold tz
    simp
  rw [e]
  dsimp only
  rw [if_pos ⟨h1, h2⟩]
theorem run_ftoi (t : TypeId) (x : Nat) (k : IntKind) (W : World) (hd : Tryz.prog.underlying t = some (.int k)) (hx : x < 18446744073709551616) (hf : x % 9223372036854775808 < 9218868437227405312) (h1 : k.min ≤ tz x) (h2 : tz x ≤ k.max) :
    (convert 22 t (.float .f64 x)).run Tryz.prog W = .ok (.int k (tz x)) W :=
  run_convert_float_int W 22 t .f64 k x (tz x) (by kernel_rfl) hd (ftoi x k hx hf h1 h2)
theorem call_trunc (x : Nat) (w : World) (r : Value) (w' : World) (h : (Extern.MathFloor.toIntegral "math.archTrunc" .zero #[.float .f64 x]).run Tryz.prog w = .ok r w') : (callFunc 49 #[.float .f64 x]).run Tryz.prog w = .ok (.value r) w' := by
  rw [run_callFunc_extern (e := Extern.MathFloor.toIntegral "math.archTrunc" .zero) Tryz.func49 (by kernel_rfl) (by kernel_rfl) (by kernel_rfl) (by kernel_rfl), h]
  rfl
theorem sgn_word (x k : Nat) : sgn x k = Ieee.double.word (decide (9223372036854775808 ≤ x)) k := by
  rw [word_eq]; unfold sgn; simp
theorem trunc_ext_fin (x k : Nat) (w : World) (hx : x < 18446744073709551616) (hf : x % 9223372036854775808 < 9218868437227405312) (hk : k < 9218868437227405312) (hv : val k = tr (x % 9223372036854775808) * 2 ^ 1074) :
    (Extern.MathFloor.toIntegral "math.archTrunc" .zero #[.float .f64 x]).run Tryz.prog w = .ok (.float .f64 (sgn x k)) w := by
  have e := read_word (decide (9223372036854775808 ≤ x)) (x % 9223372036854775808) hf
  have e2 := write_tr (decide (9223372036854775808 ≤ x)) (x % 9223372036854775808) k hf hk hv
  rw [← word_parts x hx] at e e2
  rw [← sgn_word] at e2
  rw [e] at e2
  show (match FloatKind.f64.decode x with
    | .nan s t => _
    | d => (pure (.float .f64 (FloatKind.f64.encode (d.integral .zero))) : Sem Value)).run Tryz.prog w = _
  rw [show FloatKind.f64.decode x = Ieee.double.read x from rfl, e]
  dsimp only
  rw [show FloatKind.f64.encode (Ieee.Datum.integral .zero (.number (decide (9223372036854775808 ≤ x)) (sig (x % 9223372036854775808)) (-1074 + (ex (x % 9223372036854775808) : Int)))) = sgn x k from e2]
  rfl
set_option maxHeartbeats 400000 in
set_option maxRecDepth 100000 in
theorem trunc_fin (x k : Nat) (w : World) (hx : x < 18446744073709551616) (hf : x % 9223372036854775808 < 9218868437227405312) (hk : k < 9218868437227405312) (hv : val k = tr (x % 9223372036854775808) * 2 ^ 1074) :
    Calls Tryz.prog 17 #[.float .f64 x] w fun e w' => e = .returned (.float .f64 (sgn x k)) ∧ w' = w := by
  have HC := Hid.mk' (call_trunc x w _ _ (trunc_ext_fin x k w hx hf hk hv))
  obtain ⟨t, ht⟩ : ∃ t, sgn x k = t := ⟨_, rfl⟩
  rw [ht] at HC ⊢
  clear hv hf hk hx ht
  go_enter Tryz.func17, Tryz.ntmps17
  have hc := HC.out
  go_wp2
  go_ret
  exact ⟨rfl, rfl⟩
theorem ord_sgn (x k : Nat) (hx : x < 18446744073709551616) (hf : x % 9223372036854775808 < 9218868437227405312) (hk : k < 9218868437227405312) : ∃ a b, FloatKind.f64.format.order x (sgn x k) = some a ∧ FloatKind.f64.format.order (sgn x k) x = some b ∧ (a = Ordering.eq ↔ x % 9223372036854775808 = k) ∧ (b = Ordering.eq ↔ x % 9223372036854775808 = k) := by
  have s1 : sgn x k < 18446744073709551616 := by unfold sgn; split <;> omega
  have s2 : (sgn x k) % 9223372036854775808 = k := by unfold sgn; split <;> omega
  have s3 : (9223372036854775808 ≤ sgn x k) ↔ (9223372036854775808 ≤ x) := by unfold sgn; split <;> omega
  have kk : key x = key (sgn x k) ↔ x % 9223372036854775808 = k := by
    unfold key
    rw [s2]
    by_cases q : 9223372036854775808 ≤ x
    · rw [if_pos q, if_pos (s3.2 q)]; omega
    · rw [if_neg q, if_neg (fun z => q (s3.1 z))]; omega
  refine ⟨compare (key x) (key (sgn x k)), compare (key (sgn x k)) (key x), ?_, ?_, ?_, ?_⟩
  · rw [f64, order_key _ _ hx s1 (by unfold nan; omega) (by unfold nan; omega)]
  · rw [f64, order_key _ _ s1 hx (by unfold nan; omega) (by unfold nan; omega)]
  · exact Int.compare_eq_eq.trans kk
  · exact Int.compare_eq_eq.trans ⟨fun q => kk.1 q.symm, fun q => (kk.2 q).symm⟩
theorem ord_self (x : Nat) (hx : x < 18446744073709551616) (hn : ¬ nan x) : FloatKind.f64.format.order x x = some Ordering.eq := by
  rw [f64, order_key _ _ hx hx hn hn, Int.compare_eq_eq.2 rfl]
theorem ord_53 (g : Nat) (hg : g < 9218868437227405312) : ∃ c, FloatKind.f64.format.order g 4845873199050653696 = some c ∧ (c = Ordering.lt ↔ g < 4845873199050653696) := by
  refine ⟨compare (key g) (key 4845873199050653696), ?_, ?_⟩
  · rw [f64, order_key _ _ (by omega) (by omega) (by unfold nan; omega) (by unfold nan; omega)]
  · have k1 : key g = (g : Int) := by unfold key; rw [if_neg (by omega)]; omega
    have k2 : key 4845873199050653696 = 4845873199050653696 := by unfold key; rw [if_neg (by omega)]; rfl
    rw [k1, k2, Int.compare_eq_lt]
    omega
theorem fdsF_len : ∀ (f b u : Nat) (acc : List Nat), (fdsF f b u acc).length ≤ f + acc.length
  | 0, _, _, acc => by simp [fdsF]
  | f + 1, b, u, acc => by
    unfold fdsF
    split
    · rw [List.length_cons]; omega
    · have := fdsF_len f b (u / b) (dgc (u % b) :: acc)
      rw [List.length_cons] at this
      omega
theorem fmtT_len (B : Nat) (v : Int) : (fmtT B v).length ≤ 100 := by
  have := fdsF_len 64 B v.natAbs []
  unfold fmtT fds
  split
  · rw [List.length_cons]; simp at this; omega
  · simp at this; omega
set_option maxHeartbeats 4000000 in
set_option maxRecDepth 100000 in
theorem base_1 (x : Nat) (base : Int) (w : World) (hx : x < 18446744073709551616) (hl : Hid (Laid w)) (htz : Hid (TZ w)) (hb : base < 2) :
    Calls Tryz.prog 5 #[.float .f64 x, .int .i64 base] w fun e w' => e = .returned (.tuple #[.string ⟨#[]⟩, .int .i64 1]) ∧ Below w.heap.size w w' := by
  have HN := Hid.mk' (fun W => isNaN_any x W hx)
  have HI := Hid.mk' (fun W => isInf0_any x W hx)
  clear hx
  go_enter Tryz.func5, Tryz.ntmps5
  go_wp2_with (first | (go_at_call 15; refine (HN.out _).mono ?_; rintro e w1 ⟨rfl, hw1⟩; rw [hw1]; clear hw1 w1) | (go_at_call 16; refine (HI.out _).mono ?_; rintro e w1 ⟨rfl, hw1⟩; rw [hw1]; clear hw1 w1))
  go_ret2
  exact ⟨rfl, Below.refl _ _⟩
set_option maxHeartbeats 4000000 in
set_option maxRecDepth 100000 in
theorem base_8 (x : Nat) (base : Int) (w : World) (hx : x < 18446744073709551616) (hl : Hid (Laid w)) (htz : Hid (TZ w)) (hb : 36 < base) :
    Calls Tryz.prog 5 #[.float .f64 x, .int .i64 base] w fun e w' => e = .returned (.tuple #[.string ⟨#[]⟩, .int .i64 1]) ∧ Below w.heap.size w w' := by
  have HN := Hid.mk' (fun W => isNaN_any x W hx)
  have HI := Hid.mk' (fun W => isInf0_any x W hx)
  clear hx
  go_enter Tryz.func5, Tryz.ntmps5
  go_wp2_with (first | (go_at_call 15; refine (HN.out _).mono ?_; rintro e w1 ⟨rfl, hw1⟩; rw [hw1]; clear hw1 w1) | (go_at_call 16; refine (HI.out _).mono ?_; rintro e w1 ⟨rfl, hw1⟩; rw [hw1]; clear hw1 w1))
  go_ret2
  exact ⟨rfl, Below.refl _ _⟩
set_option maxHeartbeats 4000000 in
set_option maxRecDepth 100000 in
theorem base_2 (x : Nat) (base : Int) (w : World) (hx : x < 18446744073709551616) (hl : Hid (Laid w)) (htz : Hid (TZ w)) (hb : base = 10) :
    Calls Tryz.prog 5 #[.float .f64 x, .int .i64 base] w fun e w' => e = .returned (.tuple #[.string (ofFst (ofS (Sb (showB x)))), .int .i64 0]) ∧ Below w.heap.size w w' := by
  have HN := Hid.mk' (fun W => isNaN_any x W hx)
  have HI := Hid.mk' (fun W => isInf0_any x W hx)
  have HSh := Hid.mk' (fun W (hW : Hid (Laid W)) => show_any x W hx hW)
  generalize ofFst (ofS (Sb (showB x))) = TT at *
  clear hx
  subst hb
  go_enter Tryz.func5, Tryz.ntmps5
  go_wp2_with (first | (go_at_call 15; refine (HN.out _).mono ?_; rintro e w1 ⟨rfl, hw1⟩; rw [hw1]; clear hw1 w1) | (go_at_call 16; refine (HI.out _).mono ?_; rintro e w1 ⟨rfl, hw1⟩; rw [hw1]; clear hw1 w1))
  refine (HSh.out _ hl).mono ?_
  rintro e w2 ⟨rfl, b2⟩
  go_wp2
  go_ret2
  exact ⟨rfl, b2⟩
set_option maxHeartbeats 4000000 in
set_option maxRecDepth 100000 in
theorem base_3 (x : Nat) (base : Int) (w : World) (hx : x < 18446744073709551616) (hl : Hid (Laid w)) (htz : Hid (TZ w)) (hb : 2 ≤ base ∧ base ≤ 36) (h10 : base ≠ 10) (hf : nan x) :
    Calls Tryz.prog 5 #[.float .f64 x, .int .i64 base] w fun e w' => e = .returned (.tuple #[.string (ofFst (ofS (Sb (showB x)))), .int .i64 0]) ∧ Below w.heap.size w w' := by
  have HN := Hid.mk' (fun W => isNaN_any x W hx)
  have HI := Hid.mk' (fun W => isInf0_any x W hx)
  have q10 : (base == 10) = false := by rw [beq_eq_false_iff_ne]; exact h10
  obtain ⟨hb1, hb2⟩ := hb
  rw [decide_eq_true hf] at HN
  have hnn := order_nan x x hx hx (.inl hf)
  rw [← f64] at hnn
  have HSh := Hid.mk' (fun W (hW : Hid (Laid W)) => show_any x W hx hW)
  generalize ofFst (ofS (Sb (showB x))) = TT at *
  clear hx hf
  clear h10
  go_enter Tryz.func5, Tryz.ntmps5
  go_wp2_with (first | (go_at_call 15; refine (HN.out _).mono ?_; rintro e w1 ⟨rfl, hw1⟩; rw [hw1]; clear hw1 w1) | (go_at_call 16; refine (HI.out _).mono ?_; rintro e w1 ⟨rfl, hw1⟩; rw [hw1]; clear hw1 w1))
  refine (HSh.out _ hl).mono ?_
  rintro e w2 ⟨rfl, b2⟩
  go_wp2
  go_ret2
  exact ⟨rfl, b2⟩
set_option maxHeartbeats 4000000 in
set_option maxRecDepth 100000 in
theorem base_4 (x : Nat) (base : Int) (w : World) (hx : x < 18446744073709551616) (hl : Hid (Laid w)) (htz : Hid (TZ w)) (hb : 2 ≤ base ∧ base ≤ 36) (h10 : base ≠ 10) (hf : x % 9223372036854775808 = 9218868437227405312) :
    Calls Tryz.prog 5 #[.float .f64 x, .int .i64 base] w fun e w' => e = .returned (.tuple #[.string (ofFst (ofS (Sb (showB x)))), .int .i64 0]) ∧ Below w.heap.size w w' := by
  have HN := Hid.mk' (fun W => isNaN_any x W hx)
  have HI := Hid.mk' (fun W => isInf0_any x W hx)
  have q10 : (base == 10) = false := by rw [beq_eq_false_iff_ne]; exact h10
  obtain ⟨hb1, hb2⟩ := hb
  have hn : ¬ nan x := by unfold nan; omega
  rw [decide_eq_false hn] at HN
  rw [decide_eq_true hf] at HI
  have hxx := ord_self x hx hn
  have HSh := Hid.mk' (fun W (hW : Hid (Laid W)) => show_any x W hx hW)
  generalize ofFst (ofS (Sb (showB x))) = TT at *
  clear hx hf hn
  clear h10
  go_enter Tryz.func5, Tryz.ntmps5
  go_wp2_with (first | (go_at_call 15; refine (HN.out _).mono ?_; rintro e w1 ⟨rfl, hw1⟩; rw [hw1]; clear hw1 w1) | (go_at_call 16; refine (HI.out _).mono ?_; rintro e w1 ⟨rfl, hw1⟩; rw [hw1]; clear hw1 w1))
  refine (HSh.out _ hl).mono ?_
  rintro e w2 ⟨rfl, b2⟩
  go_wp2
  go_ret2
  exact ⟨rfl, b2⟩
set_option maxHeartbeats 4000000 in
set_option maxRecDepth 100000 in
theorem base_5 (x : Nat) (base : Int) (w : World) (hx : x < 18446744073709551616) (hl : Hid (Laid w)) (htz : Hid (TZ w)) (hb : 2 ≤ base ∧ base ≤ 36) (h10 : base ≠ 10) (hf : x % 9223372036854775808 < 9218868437227405312) (t : Nat) (ht : Hid (∀ W, Calls Tryz.prog 17 #[.float .f64 x] W fun e w' => e = .returned (.float .f64 t) ∧ w' = W)) (a b : Ordering) (ho1 : FloatKind.f64.format.order x t = some a) (ho2 : FloatKind.f64.format.order t x = some b) (hna : a ≠ Ordering.eq) (hnb : b ≠ Ordering.eq) :
    Calls Tryz.prog 5 #[.float .f64 x, .int .i64 base] w fun e w' => e = .returned (.tuple #[.string ⟨#[]⟩, .int .i64 1]) ∧ Below w.heap.size w w' := by
  have HN := Hid.mk' (fun W => isNaN_any x W hx)
  have HI := Hid.mk' (fun W => isInf0_any x W hx)
  have q10 : (base == 10) = false := by rw [beq_eq_false_iff_ne]; exact h10
  obtain ⟨hb1, hb2⟩ := hb
  have hn : ¬ nan x := by unfold nan; omega
  rw [decide_eq_false hn] at HN
  rw [decide_eq_false (show ¬ x % 9223372036854775808 = 9218868437227405312 by omega)] at HI
  have hxx := ord_self x hx hn
  have HAb := Hid.mk' (fun W => abs_any x W hx)
  obtain ⟨g, hg⟩ : ∃ g, x % 9223372036854775808 = g := ⟨_, rfl⟩
  rw [hg] at HAb
  clear hn hf hg
  clear hx
  clear h10
  cases a <;> cases b
  all_goals first | (exact absurd rfl hna) | (exact absurd rfl hnb) | (go_enter Tryz.func5, Tryz.ntmps5; go_wp2_with (first | (go_at_call 15; refine (HN.out _).mono ?_; rintro e w1 ⟨rfl, hw1⟩; rw [hw1]; clear hw1 w1) | (go_at_call 16; refine (HI.out _).mono ?_; rintro e w1 ⟨rfl, hw1⟩; rw [hw1]; clear hw1 w1) | (go_at_call 17; refine (ht.out _).mono ?_; rintro e w1 ⟨rfl, hw1⟩; rw [hw1]; clear hw1 w1) | (go_at_call 18; refine (HAb.out _).mono ?_; rintro e w1 ⟨rfl, hw1⟩; rw [hw1]; clear hw1 w1)); go_ret2; exact ⟨rfl, Below.refl _ _⟩)
set_option maxHeartbeats 4000000 in
set_option maxRecDepth 100000 in
theorem base_6 (x : Nat) (base : Int) (w : World) (hx : x < 18446744073709551616) (hl : Hid (Laid w)) (htz : Hid (TZ w)) (hb : 2 ≤ base ∧ base ≤ 36) (h10 : base ≠ 10) (hf : x % 9223372036854775808 < 9218868437227405312) (t : Nat) (ht : Hid (∀ W, Calls Tryz.prog 17 #[.float .f64 x] W fun e w' => e = .returned (.float .f64 t) ∧ w' = W)) (ho1 : FloatKind.f64.format.order x t = some Ordering.eq) (ho2 : FloatKind.f64.format.order t x = some Ordering.eq) (c : Ordering) (hg1 : FloatKind.f64.format.order (x % 9223372036854775808) 4845873199050653696 = some c) (hc : c ≠ Ordering.lt) :
    Calls Tryz.prog 5 #[.float .f64 x, .int .i64 base] w fun e w' => e = .returned (.tuple #[.string ⟨#[]⟩, .int .i64 1]) ∧ Below w.heap.size w w' := by
  have HN := Hid.mk' (fun W => isNaN_any x W hx)
  have HI := Hid.mk' (fun W => isInf0_any x W hx)
  have q10 : (base == 10) = false := by rw [beq_eq_false_iff_ne]; exact h10
  obtain ⟨hb1, hb2⟩ := hb
  have hn : ¬ nan x := by unfold nan; omega
  rw [decide_eq_false hn] at HN
  rw [decide_eq_false (show ¬ x % 9223372036854775808 = 9218868437227405312 by omega)] at HI
  have hxx := ord_self x hx hn
  have HAb := Hid.mk' (fun W => abs_any x W hx)
  obtain ⟨g, hg⟩ : ∃ g, x % 9223372036854775808 = g := ⟨_, rfl⟩
  rw [hg] at HAb hg1
  clear hn hf hg
  clear hx
  clear h10
  cases c
  all_goals first | (exact absurd rfl hc) | (go_enter Tryz.func5, Tryz.ntmps5; go_wp2_with (first | (go_at_call 15; refine (HN.out _).mono ?_; rintro e w1 ⟨rfl, hw1⟩; rw [hw1]; clear hw1 w1) | (go_at_call 16; refine (HI.out _).mono ?_; rintro e w1 ⟨rfl, hw1⟩; rw [hw1]; clear hw1 w1) | (go_at_call 17; refine (ht.out _).mono ?_; rintro e w1 ⟨rfl, hw1⟩; rw [hw1]; clear hw1 w1) | (go_at_call 18; refine (HAb.out _).mono ?_; rintro e w1 ⟨rfl, hw1⟩; rw [hw1]; clear hw1 w1)); go_ret2; exact ⟨rfl, Below.refl _ _⟩)
set_option maxHeartbeats 4000000 in
set_option maxRecDepth 100000 in
theorem base_7 (x : Nat) (base : Int) (w : World) (hx : x < 18446744073709551616) (hl : Hid (Laid w)) (htz : Hid (TZ w)) (hb : 2 ≤ base ∧ base ≤ 36) (h10 : base ≠ 10) (hf : x % 9223372036854775808 < 9218868437227405312) (t : Nat) (ht : Hid (∀ W, Calls Tryz.prog 17 #[.float .f64 x] W fun e w' => e = .returned (.float .f64 t) ∧ w' = W)) (ho1 : FloatKind.f64.format.order x t = some Ordering.eq) (ho2 : FloatKind.f64.format.order t x = some Ordering.eq) (hg1 : FloatKind.f64.format.order (x % 9223372036854775808) 4845873199050653696 = some Ordering.lt) (v : Int) (hv : ∀ W, (convert 22 2 (.float .f64 x)).run Tryz.prog W = .ok (.int .i64 v) W) (hv2 : -9223372036854775808 ≤ v ∧ v < 9223372036854775808) (B : Nat) (hB : base = (B : Nat)) :
    Calls Tryz.prog 5 #[.float .f64 x, .int .i64 base] w fun e w' => e = .returned (.tuple #[.string (ofFst (ofS (Sb (nb (fmtT B v))))), .int .i64 0]) ∧ Below w.heap.size w w' := by
  have HN := Hid.mk' (fun W => isNaN_any x W hx)
  have HI := Hid.mk' (fun W => isInf0_any x W hx)
  have q10 : (base == 10) = false := by rw [beq_eq_false_iff_ne]; exact h10
  obtain ⟨hb1, hb2⟩ := hb
  have hn : ¬ nan x := by unfold nan; omega
  rw [decide_eq_false hn] at HN
  rw [decide_eq_false (show ¬ x % 9223372036854775808 = 9218868437227405312 by omega)] at HI
  have hxx := ord_self x hx hn
  have HAb := Hid.mk' (fun W => abs_any x W hx)
  obtain ⟨g, hg⟩ : ∃ g, x % 9223372036854775808 = g := ⟨_, rfl⟩
  rw [hg] at HAb hg1
  clear hn hf hg
  have HF := Hid.mk' (fun W hW => fmtInt_any v B W hv2 (by omega) (by omega) hW)
  have hfl := fmtT_len B v
  have HTx := Hid.mk' (fun W => text_any (Sb (nb (fmtT B v))) W (by rw [Sb_size, nb_length]; omega))
  generalize ofFst (ofS (Sb (nb (fmtT B v)))) = TT at *
  generalize Sb (nb (fmtT B v)) = FT at *
  subst hB
  clear hx
  clear h10
  go_enter Tryz.func5, Tryz.ntmps5
  go_wp2_with (first | (go_at_call 15; refine (HN.out _).mono ?_; rintro e w1 ⟨rfl, hw1⟩; rw [hw1]; clear hw1 w1) | (go_at_call 16; refine (HI.out _).mono ?_; rintro e w1 ⟨rfl, hw1⟩; rw [hw1]; clear hw1 w1) | (go_at_call 17; refine (ht.out _).mono ?_; rintro e w1 ⟨rfl, hw1⟩; rw [hw1]; clear hw1 w1) | (go_at_call 18; refine (HAb.out _).mono ?_; rintro e w1 ⟨rfl, hw1⟩; rw [hw1]; clear hw1 w1))
  refine (HF.out _ htz.out).mono ?_
  rintro e w2 ⟨rfl, b2⟩
  go_wp2_with fail
  refine (HTx.out _).mono ?_
  rintro e w3 ⟨rfl, b3⟩
  go_wp2
  go_ret2
  exact ⟨rfl, b2.trans (b3.mono b2.size)⟩
set_option maxHeartbeats 4000000 in
set_option maxRecDepth 100000 in
theorem rbase_1 (x : Nat) (base : Int) (w : World) (hx : x < 18446744073709551616) (hl : Hid (Laid w)) (htz : Hid (TZ w)) (hb : base < 2) :
    Calls Tryz.prog 6 #[.float .f64 x, .int .i64 base] w fun e w' => e = .returned (.tuple #[.string ⟨#[]⟩, .int .i64 1]) ∧ Below w.heap.size w w' := by
  have HN := Hid.mk' (fun W => isNaN_any x W hx)
  have HI := Hid.mk' (fun W => isInf0_any x W hx)
  clear hx
  go_enter Tryz.func6, Tryz.ntmps6
  go_wp2_with (first | (go_at_call 16; refine (HI.out _).mono ?_; rintro e w1 ⟨rfl, hw1⟩; rw [hw1]; clear hw1 w1))
  go_ret2
  exact ⟨rfl, Below.refl _ _⟩
set_option maxHeartbeats 4000000 in
set_option maxRecDepth 100000 in
theorem rbase_8 (x : Nat) (base : Int) (w : World) (hx : x < 18446744073709551616) (hl : Hid (Laid w)) (htz : Hid (TZ w)) (hb : 36 < base) :
    Calls Tryz.prog 6 #[.float .f64 x, .int .i64 base] w fun e w' => e = .returned (.tuple #[.string ⟨#[]⟩, .int .i64 1]) ∧ Below w.heap.size w w' := by
  have HN := Hid.mk' (fun W => isNaN_any x W hx)
  have HI := Hid.mk' (fun W => isInf0_any x W hx)
  clear hx
  go_enter Tryz.func6, Tryz.ntmps6
  go_wp2_with (first | (go_at_call 16; refine (HI.out _).mono ?_; rintro e w1 ⟨rfl, hw1⟩; rw [hw1]; clear hw1 w1))
  go_ret2
  exact ⟨rfl, Below.refl _ _⟩
set_option maxHeartbeats 4000000 in
set_option maxRecDepth 100000 in
theorem rbase_2 (x : Nat) (base : Int) (w : World) (hx : x < 18446744073709551616) (hl : Hid (Laid w)) (htz : Hid (TZ w)) (hb : base = 10) :
    Calls Tryz.prog 6 #[.float .f64 x, .int .i64 base] w fun e w' => e = .returned (.tuple #[.string (ofFst (ofS (Sb (showB x)))), .int .i64 0]) ∧ Below w.heap.size w w' := by
  have HN := Hid.mk' (fun W => isNaN_any x W hx)
  have HI := Hid.mk' (fun W => isInf0_any x W hx)
  have HSh := Hid.mk' (fun W (hW : Hid (Laid W)) => rshow_any x W hx (Hid.mk' hW.out.f))
  generalize ofFst (ofS (Sb (showB x))) = TT at *
  clear hx
  subst hb
  go_enter Tryz.func6, Tryz.ntmps6
  go_wp2_with (first | (go_at_call 16; refine (HI.out _).mono ?_; rintro e w1 ⟨rfl, hw1⟩; rw [hw1]; clear hw1 w1))
  refine (HSh.out _ hl).mono ?_
  rintro e w2 ⟨rfl, b2⟩
  go_wp2
  go_ret2
  exact ⟨rfl, b2⟩
set_option maxHeartbeats 4000000 in
set_option maxRecDepth 100000 in
theorem rbase_3 (x : Nat) (base : Int) (w : World) (hx : x < 18446744073709551616) (hl : Hid (Laid w)) (htz : Hid (TZ w)) (hb : 2 ≤ base ∧ base ≤ 36) (h10 : base ≠ 10) (hf : nan x) :
    Calls Tryz.prog 6 #[.float .f64 x, .int .i64 base] w fun e w' => e = .returned (.tuple #[.string (ofFst (ofS (Sb (showB x)))), .int .i64 0]) ∧ Below w.heap.size w w' := by
  have HN := Hid.mk' (fun W => isNaN_any x W hx)
  have HI := Hid.mk' (fun W => isInf0_any x W hx)
  have q10 : (base == 10) = false := by rw [beq_eq_false_iff_ne]; exact h10
  obtain ⟨hb1, hb2⟩ := hb
  rw [decide_eq_true hf] at HN
  have hnn := order_nan x x hx hx (.inl hf)
  rw [← f64] at hnn
  have HSh := Hid.mk' (fun W (hW : Hid (Laid W)) => rshow_any x W hx (Hid.mk' hW.out.f))
  generalize ofFst (ofS (Sb (showB x))) = TT at *
  clear hx hf
  clear h10
  go_enter Tryz.func6, Tryz.ntmps6
  go_wp2_with (first | (go_at_call 16; refine (HI.out _).mono ?_; rintro e w1 ⟨rfl, hw1⟩; rw [hw1]; clear hw1 w1))
  refine (HSh.out _ hl).mono ?_
  rintro e w2 ⟨rfl, b2⟩
  go_wp2
  go_ret2
  exact ⟨rfl, b2⟩
set_option maxHeartbeats 4000000 in
set_option maxRecDepth 100000 in
theorem rbase_4 (x : Nat) (base : Int) (w : World) (hx : x < 18446744073709551616) (hl : Hid (Laid w)) (htz : Hid (TZ w)) (hb : 2 ≤ base ∧ base ≤ 36) (h10 : base ≠ 10) (hf : x % 9223372036854775808 = 9218868437227405312) :
    Calls Tryz.prog 6 #[.float .f64 x, .int .i64 base] w fun e w' => e = .returned (.tuple #[.string (ofFst (ofS (Sb (showB x)))), .int .i64 0]) ∧ Below w.heap.size w w' := by
  have HN := Hid.mk' (fun W => isNaN_any x W hx)
  have HI := Hid.mk' (fun W => isInf0_any x W hx)
  have q10 : (base == 10) = false := by rw [beq_eq_false_iff_ne]; exact h10
  obtain ⟨hb1, hb2⟩ := hb
  have hn : ¬ nan x := by unfold nan; omega
  rw [decide_eq_false hn] at HN
  rw [decide_eq_true hf] at HI
  have hxx := ord_self x hx hn
  have HSh := Hid.mk' (fun W (hW : Hid (Laid W)) => rshow_any x W hx (Hid.mk' hW.out.f))
  generalize ofFst (ofS (Sb (showB x))) = TT at *
  clear hx hf hn
  clear h10
  go_enter Tryz.func6, Tryz.ntmps6
  go_wp2_with (first | (go_at_call 16; refine (HI.out _).mono ?_; rintro e w1 ⟨rfl, hw1⟩; rw [hw1]; clear hw1 w1))
  refine (HSh.out _ hl).mono ?_
  rintro e w2 ⟨rfl, b2⟩
  go_wp2
  go_ret2
  exact ⟨rfl, b2⟩
set_option maxHeartbeats 4000000 in
set_option maxRecDepth 100000 in
theorem rbase_5 (x : Nat) (base : Int) (w : World) (hx : x < 18446744073709551616) (hl : Hid (Laid w)) (htz : Hid (TZ w)) (hb : 2 ≤ base ∧ base ≤ 36) (h10 : base ≠ 10) (hf : x % 9223372036854775808 < 9218868437227405312) (t : Nat) (ht : Hid (∀ W, Calls Tryz.prog 17 #[.float .f64 x] W fun e w' => e = .returned (.float .f64 t) ∧ w' = W)) (a b : Ordering) (ho1 : FloatKind.f64.format.order x t = some a) (ho2 : FloatKind.f64.format.order t x = some b) (hna : a ≠ Ordering.eq) (hnb : b ≠ Ordering.eq) :
    Calls Tryz.prog 6 #[.float .f64 x, .int .i64 base] w fun e w' => e = .returned (.tuple #[.string ⟨#[]⟩, .int .i64 1]) ∧ Below w.heap.size w w' := by
  have HN := Hid.mk' (fun W => isNaN_any x W hx)
  have HI := Hid.mk' (fun W => isInf0_any x W hx)
  have q10 : (base == 10) = false := by rw [beq_eq_false_iff_ne]; exact h10
  obtain ⟨hb1, hb2⟩ := hb
  have hn : ¬ nan x := by unfold nan; omega
  rw [decide_eq_false hn] at HN
  rw [decide_eq_false (show ¬ x % 9223372036854775808 = 9218868437227405312 by omega)] at HI
  have hxx := ord_self x hx hn
  have HAb := Hid.mk' (fun W => abs_any x W hx)
  obtain ⟨g, hg⟩ : ∃ g, x % 9223372036854775808 = g := ⟨_, rfl⟩
  rw [hg] at HAb
  clear hn hf hg
  clear hx
  clear h10
  cases a <;> cases b
  all_goals first | (exact absurd rfl hna) | (exact absurd rfl hnb) | (go_enter Tryz.func6, Tryz.ntmps6; go_wp2_with (first | (go_at_call 16; refine (HI.out _).mono ?_; rintro e w1 ⟨rfl, hw1⟩; rw [hw1]; clear hw1 w1) | (go_at_call 17; refine (ht.out _).mono ?_; rintro e w1 ⟨rfl, hw1⟩; rw [hw1]; clear hw1 w1) | (go_at_call 18; refine (HAb.out _).mono ?_; rintro e w1 ⟨rfl, hw1⟩; rw [hw1]; clear hw1 w1)); go_ret2; exact ⟨rfl, Below.refl _ _⟩)
set_option maxHeartbeats 4000000 in
set_option maxRecDepth 100000 in
theorem rbase_6 (x : Nat) (base : Int) (w : World) (hx : x < 18446744073709551616) (hl : Hid (Laid w)) (htz : Hid (TZ w)) (hb : 2 ≤ base ∧ base ≤ 36) (h10 : base ≠ 10) (hf : x % 9223372036854775808 < 9218868437227405312) (t : Nat) (ht : Hid (∀ W, Calls Tryz.prog 17 #[.float .f64 x] W fun e w' => e = .returned (.float .f64 t) ∧ w' = W)) (ho1 : FloatKind.f64.format.order x t = some Ordering.eq) (ho2 : FloatKind.f64.format.order t x = some Ordering.eq) (c : Ordering) (hg1 : FloatKind.f64.format.order (x % 9223372036854775808) 4845873199050653696 = some c) (hc : c ≠ Ordering.lt) :
    Calls Tryz.prog 6 #[.float .f64 x, .int .i64 base] w fun e w' => e = .returned (.tuple #[.string ⟨#[]⟩, .int .i64 1]) ∧ Below w.heap.size w w' := by
  have HN := Hid.mk' (fun W => isNaN_any x W hx)
  have HI := Hid.mk' (fun W => isInf0_any x W hx)
  have q10 : (base == 10) = false := by rw [beq_eq_false_iff_ne]; exact h10
  obtain ⟨hb1, hb2⟩ := hb
  have hn : ¬ nan x := by unfold nan; omega
  rw [decide_eq_false hn] at HN
  rw [decide_eq_false (show ¬ x % 9223372036854775808 = 9218868437227405312 by omega)] at HI
  have hxx := ord_self x hx hn
  have HAb := Hid.mk' (fun W => abs_any x W hx)
  obtain ⟨g, hg⟩ : ∃ g, x % 9223372036854775808 = g := ⟨_, rfl⟩
  rw [hg] at HAb hg1
  clear hn hf hg
  clear hx
  clear h10
  cases c
  all_goals first | (exact absurd rfl hc) | (go_enter Tryz.func6, Tryz.ntmps6; go_wp2_with (first | (go_at_call 16; refine (HI.out _).mono ?_; rintro e w1 ⟨rfl, hw1⟩; rw [hw1]; clear hw1 w1) | (go_at_call 17; refine (ht.out _).mono ?_; rintro e w1 ⟨rfl, hw1⟩; rw [hw1]; clear hw1 w1) | (go_at_call 18; refine (HAb.out _).mono ?_; rintro e w1 ⟨rfl, hw1⟩; rw [hw1]; clear hw1 w1)); go_ret2; exact ⟨rfl, Below.refl _ _⟩)
set_option maxHeartbeats 4000000 in
set_option maxRecDepth 100000 in
theorem rbase_7 (x : Nat) (base : Int) (w : World) (hx : x < 18446744073709551616) (hl : Hid (Laid w)) (htz : Hid (TZ w)) (hb : 2 ≤ base ∧ base ≤ 36) (h10 : base ≠ 10) (hf : x % 9223372036854775808 < 9218868437227405312) (t : Nat) (ht : Hid (∀ W, Calls Tryz.prog 17 #[.float .f64 x] W fun e w' => e = .returned (.float .f64 t) ∧ w' = W)) (ho1 : FloatKind.f64.format.order x t = some Ordering.eq) (ho2 : FloatKind.f64.format.order t x = some Ordering.eq) (hg1 : FloatKind.f64.format.order (x % 9223372036854775808) 4845873199050653696 = some Ordering.lt) (v : Int) (hv : ∀ W, (convert 22 2 (.float .f64 x)).run Tryz.prog W = .ok (.int .i64 v) W) (hv2 : -9223372036854775808 ≤ v ∧ v < 9223372036854775808) (B : Nat) (hB : base = (B : Nat)) :
    Calls Tryz.prog 6 #[.float .f64 x, .int .i64 base] w fun e w' => e = .returned (.tuple #[.string (ofFst (ofS (Sb (nb (fmtT B v))))), .int .i64 0]) ∧ Below w.heap.size w w' := by
  have HN := Hid.mk' (fun W => isNaN_any x W hx)
  have HI := Hid.mk' (fun W => isInf0_any x W hx)
  have q10 : (base == 10) = false := by rw [beq_eq_false_iff_ne]; exact h10
  obtain ⟨hb1, hb2⟩ := hb
  have hn : ¬ nan x := by unfold nan; omega
  rw [decide_eq_false hn] at HN
  rw [decide_eq_false (show ¬ x % 9223372036854775808 = 9218868437227405312 by omega)] at HI
  have hxx := ord_self x hx hn
  have HAb := Hid.mk' (fun W => abs_any x W hx)
  obtain ⟨g, hg⟩ : ∃ g, x % 9223372036854775808 = g := ⟨_, rfl⟩
  rw [hg] at HAb hg1
  clear hn hf hg
  have HF := Hid.mk' (fun W hW => fmtInt_any v B W hv2 (by omega) (by omega) hW)
  have hfl := fmtT_len B v
  have HTx := Hid.mk' (fun W => rascii_any (Sb (nb (fmtT B v))) W (by rw [Sb_size, nb_length]; omega))
  generalize ofFst (ofS (Sb (nb (fmtT B v)))) = TT at *
  generalize Sb (nb (fmtT B v)) = FT at *
  subst hB
  clear hx
  clear h10
  go_enter Tryz.func6, Tryz.ntmps6
  go_wp2_with (first | (go_at_call 16; refine (HI.out _).mono ?_; rintro e w1 ⟨rfl, hw1⟩; rw [hw1]; clear hw1 w1) | (go_at_call 17; refine (ht.out _).mono ?_; rintro e w1 ⟨rfl, hw1⟩; rw [hw1]; clear hw1 w1) | (go_at_call 18; refine (HAb.out _).mono ?_; rintro e w1 ⟨rfl, hw1⟩; rw [hw1]; clear hw1 w1))
  refine (HF.out _ htz.out).mono ?_
  rintro e w2 ⟨rfl, b2⟩
  go_wp2_with fail
  refine (HTx.out _).mono ?_
  rintro e w3 ⟨rfl, b3⟩
  go_wp2
  go_ret2
  exact ⟨rfl, b2.trans (b3.mono b2.size)⟩
/-- Both Bases answer the same. -/
theorem base_both (x : Nat) (base : Int) (hx : x < 18446744073709551616) : ∃ (S : ByteArray) (E : Int), (∀ w, Hid (Laid w) → Hid (TZ w) → Calls Tryz.prog 5 #[.float .f64 x, .int .i64 base] w fun e w' => e = .returned (.tuple #[.string S, .int .i64 E]) ∧ Below w.heap.size w w') ∧ (∀ w, Hid (Laid w) → Hid (TZ w) → Calls Tryz.prog 6 #[.float .f64 x, .int .i64 base] w fun e w' => e = .returned (.tuple #[.string S, .int .i64 E]) ∧ Below w.heap.size w w') := by
  by_cases h1 : base < 2
  · exact ⟨_, _, fun w a b => base_1 x base w hx a b h1, fun w a b => rbase_1 x base w hx a b h1⟩
  by_cases h2 : 36 < base
  · exact ⟨_, _, fun w a b => base_8 x base w hx a b h2, fun w a b => rbase_8 x base w hx a b h2⟩
  have hb : 2 ≤ base ∧ base ≤ 36 := by omega
  by_cases h3 : base = 10
  · exact ⟨_, _, fun w a b => base_2 x base w hx a b h3, fun w a b => rbase_2 x base w hx a b h3⟩
  by_cases h4 : nan x
  · exact ⟨_, _, fun w a b => base_3 x base w hx a b hb h3 h4, fun w a b => rbase_3 x base w hx a b hb h3 h4⟩
  by_cases h5 : x % 9223372036854775808 = 9218868437227405312
  · exact ⟨_, _, fun w a b => base_4 x base w hx a b hb h3 h5, fun w a b => rbase_4 x base w hx a b hb h3 h5⟩
  have hf : x % 9223372036854775808 < 9218868437227405312 := by unfold nan at h4; omega
  obtain ⟨k, hk, hv⟩ := tr_rep (x % 9223372036854775808) hf
  have HT : Hid (∀ W, Calls Tryz.prog 17 #[.float .f64 x] W fun e w' => e = .returned (.float .f64 (sgn x k)) ∧ w' = W) := fun W => trunc_fin x k W hx hf hk hv
  obtain ⟨oa, ob, o1, o2, oa1, ob1⟩ := ord_sgn x k hx hf hk
  by_cases h6 : x % 9223372036854775808 = k
  · rw [oa1.2 h6] at o1
    rw [ob1.2 h6] at o2
    obtain ⟨c, hge, hc1⟩ := ord_53 (x % 9223372036854775808) hf
    by_cases h7 : 4845873199050653696 ≤ x % 9223372036854775808
    · exact ⟨_, _, fun w a b => base_6 x base w hx a b hb h3 hf _ HT o1 o2 c hge (fun q => by have := hc1.1 q; omega), fun w a b => rbase_6 x base w hx a b hb h3 hf _ HT o1 o2 c hge (fun q => by have := hc1.1 q; omega)⟩
    · rw [hc1.2 (by omega)] at hge
      have htr : tr (x % 9223372036854775808) < 9007199254740992 := tr_lt (x % 9223372036854775808) 1075 53 (by omega) (by omega)
      have hz : -9007199254740992 < tz x ∧ tz x < 9007199254740992 := by unfold tz; split <;> omega
      have hmin : IntKind.i64.min = -9223372036854775808 := by decide
      have hmax : IntKind.i64.max = 9223372036854775807 := by decide
      have hcv : ∀ W, (convert 22 2 (.float .f64 x)).run Tryz.prog W = .ok (.int .i64 (tz x)) W := fun W => run_ftoi 2 x .i64 W (by kernel_rfl) hx hf (by omega) (by omega)
      exact ⟨_, _, fun w a b => base_7 x base w hx a b hb h3 hf _ HT o1 o2 hge (tz x) hcv (by omega) base.toNat (by omega), fun w a b => rbase_7 x base w hx a b hb h3 hf _ HT o1 o2 hge (tz x) hcv (by omega) base.toNat (by omega)⟩
  · exact ⟨_, _, fun w a b => base_5 x base w hx a b hb h3 hf _ HT oa ob o1 o2 (fun q => h6 (oa1.1 q)) (fun q => h6 (ob1.1 q)), fun w a b => rbase_5 x base w hx a b hb h3 hf _ HT oa ob o1 o2 (fun q => h6 (oa1.1 q)) (fun q => h6 (ob1.1 q))⟩
end Go.Proofs.YtighenikjedojaaGreatDoor
