/- internal/strconv.atofHex. strconv.ParseFloat at hex digits: the float nearest to their number. -/
import Derived.Test.YtighenikjedojaaGreatDoorNst
import Derived.Test.YtighenikjedojaaGreatDoorLaidN
import Derived.Test.YtighenikjedojaaGreatDoorWnr
import Derived.Test.YtighenikjedojaaGreatDoorFb3
import Derived.LaidEqlPtr
import Derived.WalkMore
import Derived.Handy
import Derived.Test.YtighenikjedojaaGreatDoorHrd
import Derived.Test.YtighenikjedojaaGreatDoorShelf
namespace Go.Proofs.YtighenikjedojaaGreatDoor
set_option linter.unusedVariables false
open Go.RowKit Fl

theorem call_sfrombits (x : Nat) (hx : x < 18446744073709551616) (w : World) : (callFunc 191 #[.int .u64 (x : Nat)]).run Tryz.prog w = .ok (.value (.float .f64 x)) w := by
  rw [run_callFunc_extern (e := Extern.MathFloatBits.float64frombits) Tryz.func191 (by kernel_rfl) (by kernel_rfl) (by kernel_rfl) (by kernel_rfl)]
  rfl
theorem and_2047 (q : Nat) (h : q < 2047) : bits .and .i64 (q : Int) 2047 = (q : Int) := by
  have := i64_expo (q * 4503599627370496) (by omega)
  rw [show ((q * 4503599627370496 : Nat) : Int) / 4503599627370496 = (q : Int) by omega, show q * 4503599627370496 / 4503599627370496 = q by omega] at this
  exact this
theorem and_52 (f : Nat) (h : f < 4503599627370496) : bits .and .u64 ((4503599627370496 + f : Nat) : Int) 4503599627370495 = (f : Int) := by
  have := u64_and_nat (4503599627370496 + f) 4503599627370495 (by omega) (by omega)
  rw [show (4503599627370495 : Nat) = 2 ^ 52 - 1 from rfl, Nat.and_two_pow_sub_one_eq_mod, show (4503599627370496 + f) % 2 ^ 52 = f by omega] at this
  exact this
theorem or_bits (f q : Nat) (h : f < 4503599627370496) (hq : q < 2047) : bits .or .u64 (f : Int) ((q * 4503599627370496 : Nat) : Int) = ((q * 4503599627370496 + f : Nat) : Int) := by
  rw [u64_or_nat f (q * 4503599627370496) (by omega) (by omega), Nat.or_comm]
  have := Nat.two_pow_add_eq_or_of_lt (show f < 2 ^ 52 from h) q
  rw [show q * 4503599627370496 = 2 ^ 52 * q by omega, ← this]
/-- What lies of that which reading hex digits wants besides: the table of noughts at the end, the formats' blocks, an error. -/
structure LaidB (w : World) : Prop where
  tz : TZ w
  i64 : ∃ ca ta, w.heap[9]? = some (.cells ca ta (0, 0))
  i32 : ∃ ca ta, w.heap[8]? = some (.cells ca ta (0, 0))
  rng : ∃ ev, w.cell? ⟨4, 0, none⟩ = some ev ∧ (ev = .nilIface ∨ ∃ te pe, ev = .iface te pe)
theorem LaidB.below {w w' : World} (h : LaidB w) (hb : Below w.heap.size w w') : LaidB w' := by
  refine ⟨h.tz.below hb, ?_, ?_, ?_⟩
  · obtain ⟨ca, ta, e⟩ := h.i64
    exact ⟨ca, ta, (hb.block _ (Array.getElem?_eq_some_iff.1 e).1).trans e⟩
  · obtain ⟨ca, ta, e⟩ := h.i32
    exact ⟨ca, ta, (hb.block _ (Array.getElem?_eq_some_iff.1 e).1).trans e⟩
  · obtain ⟨ev, e, q⟩ := h.rng
    exact ⟨ev, (hb.cell (World.block_lt_of_cell? w _ e)).trans e, q⟩
theorem infoFI : (Tryz.prog.info? 204).map (fun i => i.size) = some 3 := by kernel_rfl
theorem ptr_ne (w : World) (h : LaidB w) (n : Nat) : (binOp .eql 202 (.pointer (some ⟨9, 0, none⟩)) (.pointer (some ⟨8, 0, none⟩))).run Tryz.prog (w.drewN n) = .ok (.bool false) (w.drewN n) := by
  obtain ⟨ca, ta, ea⟩ := h.i64
  obtain ⟨cb, tb, eb⟩ := h.i32
  obtain ⟨j, hj, hjs⟩ : ∃ j, Tryz.prog.info? 204 = some j ∧ j.size = 3 := by
    have := infoFI
    cases e : Tryz.prog.info? 204 with
    | none => rw [e] at this; cases this
    | some j => rw [e] at this; exact ⟨j, rfl, Option.some.inj this⟩
  refine run_eql_ptr_other (w.drewN n) (tp := 202) (te := 204) (j := j) (ca := ca) (cb := cb) (ta := ta) (tb := tb) (by kernel_rfl) hj (by omega) (by decide) ?_ ?_
  · rw [World.heap_drewN]; exact ea
  · rw [World.heap_drewN]; exact eb
theorem b1 : bits .and .u64 4503599627370496 4503599627370495 = 0 := by decide
theorem b2 : bits .and .i64 2047 2047 = 2047 := by decide
theorem b3 : IntKind.u64.wrap 2047 = 2047 := by decide
theorem b4 : IntKind.u64.wrap 9218868437227405312 = 9218868437227405312 := by decide
theorem b5 : bits .or .u64 0 9218868437227405312 = 9218868437227405312 := by decide
theorem inf_end (L K R : Nat) (h : 1023 < L) (hK : 4503599627370496 ≤ K) (hR : R = min ((L + 1022) * 4503599627370496 + K) 9218868437227405312) : R = 9218868437227405312 := by omega
theorem inf_carry (L K R : Nat) (hK : K = 9007199254740992) (h : 1022 < L) (hR : R = min ((L + 1022) * 4503599627370496 + K) 9218868437227405312) : R = 9218868437227405312 := by omega
theorem fin_end (L K f q R : Nat) (Li : Int) (h : ¬ 1023 < L) (hL : (L : Int) = Li) (hK : K = 4503599627370496 + f) (hf : f < 4503599627370496) (hq : (q : Int) = Li + 1023) (hR : R = min ((L + 1022) * 4503599627370496 + K) 9218868437227405312) : q * 4503599627370496 + f = R ∧ q < 2047 := by omega
theorem fin_carry (L K f q R : Nat) (Li : Int) (hK : K = 9007199254740992) (h : ¬ 1022 < L) (hL : (L : Int) = Li) (hf : f = 0) (hq : (q : Int) = Li + 1 + 1023) (hR : R = min ((L + 1022) * 4503599627370496 + K) 9218868437227405312) : q * 4503599627370496 + f = R ∧ q < 2047 := by omega
theorem q_shl (q : Nat) (h : q < 2047) : IntKind.u64.wrap ((q : Int) * 4503599627370496) = ((q * 4503599627370496 : Nat) : Int) := by rw [IntKind.wrap_u64]; omega
theorem q_wrap (q : Nat) (h : q < 2047) : IntKind.u64.wrap (q : Int) = (q : Int) := by rw [IntKind.wrap_u64]; omega
set_option maxHeartbeats 4000000 in
set_option maxRecDepth 100000 in
theorem atofHex_any (s : ByteArray) (V nd m M : Nat) (tr : Bool) (h : RF V nd m M tr) (hV : V ≠ 0) (w : World) (hl : LaidN w) (hlb : LaidB w) (hnd : nd ≤ 1000000) :
    Calls Tryz.prog 183 #[.string s, .pointer (some ⟨9, 0, none⟩), .int .u64 (M : Nat), .int .i64 ((4 * (nd - m) : Nat) : Int), .bool false, .bool tr] w fun e w' => ∃ err, e = .returned (.tuple #[.float .f64 (NF V), err]) ∧ (err = .nilIface ∨ err = .iface 139 (.int .i64 1)) ∧ ∃ n, w' = w.drewN n := by
  obtain ⟨i0, i1, i2⟩ := hl.info
  have hM := h.mlt
  obtain ⟨e0, he0⟩ : ∃ e0, 4 * (nd - m) = e0 := ⟨_, rfl⟩
  have he4 : (e0 : Int) ≤ 4000000 := by omega
  have hM0 := (h.log hV).1
  have HHigh := Hid.mk' (h.high hV)
  have HLow := Hid.mk' (h.lowLP hV)
  have HGr := Hid.mk' h.great
  have HLg := Hid.mk' (h.log hV).2
  rw [he0] at HHigh HLow HLg ⊢
  have hmlt : M.log2 < 64 := (Nat.log2_lt hM0).2 hM
  obtain ⟨R, hR⟩ : ∃ R, NF V = R := ⟨_, rfl⟩
  have HR := Hid.mk' hR
  rw [hR]
  have hL4 : (V.log2 : Int) ≤ 4000064 := by have := HLg.out; omega
  have HPN : Hid ((binOp .eql 202 (.pointer (some ⟨9, 0, none⟩)) (.pointer (some ⟨8, 0, none⟩))).run Tryz.prog w.drew.drew = .ok (.bool false) w.drew.drew) := ptr_ne w hlb 2
  clear hR hl hlb h he0
  go_enter Tryz.func183, Tryz.ntmps183
  go_wp2_with fail
  go_region
  go_wp2
  go_loop [2, 3] (fun mv ev => ∃ a X : Nat, mv = .int .u64 (X : Nat) ∧ ev = .int .i64 ((e0 : Int) + 52 - (a : Int)) ∧ X ≠ 0 ∧ X < 18446744073709551616 ∧ a ≤ 54 ∧ Hid (X = M * 2 ^ a ∧ (a + M.log2 ≤ 54 ∨ a = 0))) (fun _ ev => (intOf ev - (e0 : Int) + 10).toNat)
  case atStart => exact ⟨0, M, rfl, by rw [show (e0 : Int) + 52 - ((0 : Nat) : Int) = (e0 : Int) + 52 by omega], hM0, hM, by omega, Hid.mk' ⟨by rw [Nat.pow_zero, Nat.mul_one], .inr rfl⟩⟩
  case round =>
    obtain ⟨a, X, rfl, rfl, hX0, hX64, ha, HX⟩ := hrel
    have qX : ((X : Int) != 0) = true := by rw [bne_iff_ne]; omega
    have hXl : X.log2 = M.log2 + a := by rw [HX.out.1, log2_mul_pow _ _ hM0]
    by_cases hlt : X < 18014398509481984
    · have hd : (X : Int) / 18014398509481984 = 0 := by omega
      have hl54 : X.log2 < 54 := (Nat.log2_lt hX0).2 hlt
      have hw : IntKind.u64.wrap ((X : Int) * 2) = ((X * 2 : Nat) : Int) := by rw [IntKind.wrap_u64]; omega
      have HX2 : Hid (X * 2 = M * 2 ^ (a + 1) ∧ (a + 1 + M.log2 ≤ 54 ∨ a + 1 = 0)) := ⟨by rw [HX.out.1, Nat.pow_succ, Nat.mul_assoc], .inl (by omega)⟩
      obtain ⟨X2, hX2⟩ : ∃ X2, X * 2 = X2 := ⟨_, rfl⟩
      rw [hX2] at hw HX2
      have ha1 : a + 1 ≤ 54 := by omega
      clear HX hXl
      go_wp2
      go_round
      case rel => exact ⟨a + 1, X2, rfl, by rw [show (e0 : Int) + 52 - ((a + 1 : Nat) : Int) = (e0 : Int) + 52 - (a : Int) - 1 by omega], by omega, by omega, ha1, HX2⟩
      case measure => simp [intOf]; omega
    · have hd : ((X : Int) / 18014398509481984 == 0) = false := by rw [beq_eq_false_iff_ne]; omega
      have hl54 : 54 ≤ X.log2 := (Nat.le_log2 hX0).2 (by omega)
      obtain ⟨Y, hY⟩ : ∃ Y, (X ||| (if tr then 1 else 0)) = Y := ⟨_, rfl⟩
      obtain ⟨E1, hE1⟩ : ∃ E1 : Int, (e0 : Int) + 52 - (a : Int) = E1 := ⟨_, rfl⟩
      have hLP : LP V e0 Y E1 := by
        by_cases q : M.log2 ≤ 54
        · have ht : tr = false := by
            cases qq : tr
            · rfl
            · have := HGr.out qq; omega
          have h1 := HLow.out q
          have ha' : 54 - M.log2 = a := by have := HX.out.2; omega
          rw [ha', ← HX.out.1] at h1
          rw [← hY, ← hE1, ht]
          simp only [Bool.false_eq_true, if_false, Nat.or_zero]
          exact h1
        · have ha' : a = 0 := by have := HX.out.2; omega
          have h1 := HHigh.out q
          have h2 := HX.out.1
          rw [ha', Nat.pow_zero, Nat.mul_one] at h2
          rw [← h2, hY] at h1
          rw [← hE1, ha', show (e0 : Int) + 52 - ((0 : Nat) : Int) = (e0 : Int) + 52 by omega]
          exact h1
      have HLP := Hid.mk' hLP
      have hor : bits .or .u64 (X : Int) 1 = ((X ||| 1 : Nat) : Int) := u64_or_nat X 1 hX64 (by omega)
      have hE1b : -10 ≤ E1 ∧ E1 ≤ 4000052 := by omega
      rw [hE1]
      clear hLP HX hXl HHigh HLow HGr hE1
      cases tr
      · simp only [Bool.false_eq_true, if_false, Nat.or_zero] at hY
        subst hY
        go_wp2
        go_loop [2, 3] (fun mv ev => ∃ (Z : Nat) (E : Int), mv = .int .u64 (Z : Nat) ∧ ev = .int .i64 E ∧ -10 ≤ E ∧ E ≤ 4000100 ∧ Z < 18446744073709551616 ∧ Hid (LP V e0 Z E)) (fun _ ev => ((V.log2 : Int) - intOf ev).toNat)
        case atStart => exact ⟨X, E1, rfl, rfl, by omega, by omega, HLP.out.1, HLP⟩
        case round =>
          obtain ⟨Z, E, rfl, rfl, hE0, hE9, hZ64, HLP2⟩ := hrel
          clear HLP
          by_cases hZ : Z < 36028797018963968
          · obtain ⟨hZh, hEh⟩ := HLP2.out.done hV hZ
            obtain ⟨n1, n2, n3⟩ := NF_end V 0 Z V.log2 hV hZh rfl
            have hd2 : (Z : Int) / 36028797018963968 = 0 := by omega
            obtain ⟨K, hK⟩ : ∃ K, Z / 4 = K := ⟨_, rfl⟩
            obtain ⟨r, hr⟩ : ∃ r, Z % 4 = r := ⟨_, rfl⟩
            obtain ⟨o, ho⟩ : ∃ o, K % 2 = o := ⟨_, rfl⟩
            obtain ⟨t, ht⟩ : ∃ t, (r ||| o) = t := ⟨_, rfl⟩
            rw [hK, hr, ho, ht] at n3
            rw [hK] at n1 n2
            have hr4 : r < 4 := by omega
            have ho2 : o < 2 := by omega
            have k1 : bits .and .u64 (Z : Int) 3 = (r : Int) := by
              rw [← hr]
              have := u64_and_nat Z 3 hZ64 (by omega)
              rw [show (3 : Nat) = 2 ^ 2 - 1 from rfl, Nat.and_two_pow_sub_one_eq_mod] at this
              exact this
            have k2 : (Z : Int) / 4 = (K : Int) := by omega
            have k3 : bits .and .u64 (K : Int) 1 = (o : Int) := by
              rw [← ho]
              have := u64_and_nat K 1 (by omega) (by omega)
              rw [Nat.and_one_is_mod] at this
              exact this
            have k4 : bits .or .u64 (r : Int) (o : Int) = (t : Int) := by
              rw [← ht]; exact u64_or_nat r o (by omega) (by omega)
            have hEx : E + 2 = (V.log2 : Int) := by omega
            have NV := Hid.mk' (NF_val V hV)
            rw [HR.out, n3] at NV
            have hm1 : ¬ E < -1024 := by omega
            have hKd : (K : Int) / 4503599627370496 = 1 := by omega
            clear hZh hEh HLP2 n3 hK hr ho ht
            obtain ⟨L, hL⟩ : ∃ L, V.log2 = L := ⟨_, rfl⟩
            rw [hL] at hEx NV
            obtain ⟨Li, hLi⟩ : ∃ Li : Int, (L : Int) = Li := ⟨_, rfl⟩
            rw [hLi] at hEx
            clear hL
            by_cases ht3 : t = 3
            · have q3 : ((t : Int) == 3) = true := by rw [beq_iff_eq]; omega
              rw [if_pos ht3] at NV
              by_cases hKc : K = 9007199254740991
              · obtain ⟨K1, hK1⟩ : ∃ K1, K + 1 = K1 := ⟨_, rfl⟩
                have hwK : IntKind.u64.wrap ((K : Int) + 1) = (K1 : Int) := by rw [IntKind.wrap_u64]; omega
                have hKe : K1 = 9007199254740992 := by omega
                have qK : ((K1 : Int) == 9007199254740992) = true := by rw [beq_iff_eq]; omega
                have hK1d : (K1 : Int) / 2 = 4503599627370496 := by omega
                rw [hK1] at NV
                by_cases hLL : 1022 < L
                · skip
                  have hov : 1023 < (Li + 1) := by omega
                  have hRI : R = 9218868437227405312 := inf_carry L K1 R hKe hLL NV.out
                  have HRI := Hid.mk' hRI
                  have c1 := b1
                  have c2 := b2
                  have c3 := b3
                  have c4 := b4
                  have c5 := b5
                  have hpn := HPN.out
                  have hfb : ∀ w : World, (callFunc 191 #[.int .u64 9218868437227405312]).run Tryz.prog w = .ok (.value (.float .f64 9218868437227405312)) w := call_sfrombits 9218868437227405312 (by decide)
                  clear hRI NV HR hLL hLi hKe hKc hK1
                  go_wp2
                  go_rounds 1
                  go_wp2_with fail
                  go_region
                  go_wp2
                  skip
                  go_ret2
                  exact ⟨_, by rw [HRI.out]; rfl, .inr rfl, 2, rfl⟩
                · skip
                  have hov : ¬ 1023 < (Li + 1) := by omega
                  obtain ⟨f, hf⟩ : ∃ f : Nat, f = 0 := ⟨0, rfl⟩
                  obtain ⟨q, hq⟩ : ∃ q : Nat, (q : Int) = (Li + 1) + 1023 := ⟨L + 1024, by omega⟩
                  have hflt : f < 4503599627370496 := by omega
                  obtain ⟨hRR, hq47⟩ : q * 4503599627370496 + f = R ∧ q < 2047 := fin_carry L K1 f q R Li hKe hLL hLi hf hq NV.out
                  have hq1 : bits .and .i64 ((Li + 1) + 1023) 2047 = (q : Int) := by rw [← hq]; exact and_2047 q hq47
                  have hq2 := q_wrap q hq47
                  have hq3 := q_shl q hq47
                  have hor := or_bits f q hflt hq47
                  rw [hRR] at hor
                  obtain ⟨G, hG⟩ : ∃ G, q * 4503599627370496 = G := ⟨_, rfl⟩
                  rw [hG] at hq3 hor
                  have hRlt : R < 18446744073709551616 := by have := NF_lt V; rw [HR.out] at this; exact Nat.lt_of_le_of_lt this (by decide)
                  have hfb := call_sfrombits R hRlt
                  have hpn := HPN.out
                  have hor : bits .or .u64 0 (G : Int) = (R : Int) := by rw [hf] at hor; exact hor
                  clear hRR hG NV HR hq hf hLL hLi hKe hKc hK1
                  go_wp2
                  go_rounds 1
                  have c1 := b1
                  go_wp2_with fail
                  go_region
                  go_wp2
                  skip
                  go_ret2
                  exact ⟨_, rfl, .inl rfl, 2, rfl⟩
              · obtain ⟨K1, hK1⟩ : ∃ K1, K + 1 = K1 := ⟨_, rfl⟩
                have hwK : IntKind.u64.wrap ((K : Int) + 1) = (K1 : Int) := by rw [IntKind.wrap_u64]; omega
                have qK : ((K1 : Int) == 9007199254740992) = false := by rw [beq_eq_false_iff_ne]; omega
                have hK1d : (K1 : Int) / 4503599627370496 = 1 := by omega
                rw [hK1] at NV
                by_cases hLL : 1023 < L
                · skip
                  have hov : 1023 < Li := by omega
                  have hRI : R = 9218868437227405312 := inf_end L K1 R hLL (by omega) NV.out
                  have HRI := Hid.mk' hRI
                  have c1 := b1
                  have c2 := b2
                  have c3 := b3
                  have c4 := b4
                  have c5 := b5
                  have hpn := HPN.out
                  have hfb : ∀ w : World, (callFunc 191 #[.int .u64 9218868437227405312]).run Tryz.prog w = .ok (.value (.float .f64 9218868437227405312)) w := call_sfrombits 9218868437227405312 (by decide)
                  clear hRI NV HR hLL hLi
                  go_wp2
                  go_rounds 1
                  go_wp2_with fail
                  go_region
                  go_wp2
                  skip
                  go_ret2
                  exact ⟨_, by rw [HRI.out]; rfl, .inr rfl, 2, rfl⟩
                · skip
                  have hov : ¬ 1023 < Li := by omega
                  obtain ⟨f, hf⟩ : ∃ f, K1 = 4503599627370496 + f := ⟨K1 - 4503599627370496, by omega⟩
                  have hkf : bits .and .u64 (K1 : Int) 4503599627370495 = (f : Int) := by rw [hf]; exact and_52 f (by omega)
                  obtain ⟨q, hq⟩ : ∃ q : Nat, (q : Int) = Li + 1023 := ⟨L + 1023, by omega⟩
                  have hflt : f < 4503599627370496 := by omega
                  obtain ⟨hRR, hq47⟩ : q * 4503599627370496 + f = R ∧ q < 2047 := fin_end L K1 f q R Li hLL hLi hf hflt hq NV.out
                  have hq1 : bits .and .i64 (Li + 1023) 2047 = (q : Int) := by rw [← hq]; exact and_2047 q hq47
                  have hq2 := q_wrap q hq47
                  have hq3 := q_shl q hq47
                  have hor := or_bits f q hflt hq47
                  rw [hRR] at hor
                  obtain ⟨G, hG⟩ : ∃ G, q * 4503599627370496 = G := ⟨_, rfl⟩
                  rw [hG] at hq3 hor
                  have hRlt : R < 18446744073709551616 := by have := NF_lt V; rw [HR.out] at this; exact Nat.lt_of_le_of_lt this (by decide)
                  have hfb := call_sfrombits R hRlt
                  have hpn := HPN.out
                  clear hRR hG NV HR hq hf hLL hLi
                  go_wp2
                  go_rounds 1
                  go_wp2_with fail
                  go_region
                  go_wp2
                  skip
                  go_ret2
                  exact ⟨_, rfl, .inl rfl, 2, rfl⟩
            · have q3 : ((t : Int) == 3) = false := by rw [beq_eq_false_iff_ne]; omega
              rw [if_neg ht3] at NV
              by_cases hLL : 1023 < L
              · skip
                have hov : 1023 < Li := by omega
                have hRI : R = 9218868437227405312 := inf_end L K R hLL n1 (by have := NV.out; rw [Nat.add_zero] at this; exact this)
                have HRI := Hid.mk' hRI
                have c1 := b1
                have c2 := b2
                have c3 := b3
                have c4 := b4
                have c5 := b5
                have hpn := HPN.out
                have hfb : ∀ w : World, (callFunc 191 #[.int .u64 9218868437227405312]).run Tryz.prog w = .ok (.value (.float .f64 9218868437227405312)) w := call_sfrombits 9218868437227405312 (by decide)
                clear hRI NV HR hLL hLi
                go_wp2
                go_rounds 1
                go_wp2_with fail
                go_region
                go_wp2
                skip
                go_ret2
                exact ⟨_, by rw [HRI.out]; rfl, .inr rfl, 2, rfl⟩
              · skip
                have hov : ¬ 1023 < Li := by omega
                obtain ⟨f, hf⟩ : ∃ f, K = 4503599627370496 + f := ⟨K - 4503599627370496, by omega⟩
                have hkf : bits .and .u64 (K : Int) 4503599627370495 = (f : Int) := by rw [hf]; exact and_52 f (by omega)
                obtain ⟨q, hq⟩ : ∃ q : Nat, (q : Int) = Li + 1023 := ⟨L + 1023, by omega⟩
                have hflt : f < 4503599627370496 := by omega
                obtain ⟨hRR, hq47⟩ : q * 4503599627370496 + f = R ∧ q < 2047 := fin_end L K f q R Li hLL hLi hf hflt hq (by have := NV.out; rw [Nat.add_zero] at this; exact this)
                have hq1 : bits .and .i64 (Li + 1023) 2047 = (q : Int) := by rw [← hq]; exact and_2047 q hq47
                have hq2 := q_wrap q hq47
                have hq3 := q_shl q hq47
                have hor := or_bits f q hflt hq47
                rw [hRR] at hor
                obtain ⟨G, hG⟩ : ∃ G, q * 4503599627370496 = G := ⟨_, rfl⟩
                rw [hG] at hq3 hor
                have hRlt : R < 18446744073709551616 := by have := NF_lt V; rw [HR.out] at this; exact Nat.lt_of_le_of_lt this (by decide)
                have hfb := call_sfrombits R hRlt
                have hpn := HPN.out
                clear hRR hG NV HR hq hf hLL hLi
                go_wp2
                go_rounds 1
                go_wp2_with fail
                go_region
                go_wp2
                skip
                go_ret2
                exact ⟨_, rfl, .inl rfl, 2, rfl⟩
          · obtain ⟨hm, hm2⟩ := HLP2.out.more hV hZ
            have hd2 : ((Z : Int) / 36028797018963968 != 0) = true := by rw [bne_iff_ne]; omega
            obtain ⟨H, hH⟩ : ∃ H, Z / 2 = H := ⟨_, rfl⟩
            obtain ⟨o, ho⟩ : ∃ o, Z % 2 = o := ⟨_, rfl⟩
            obtain ⟨Z2, hZ2⟩ : ∃ Z2, (H ||| o) = Z2 := ⟨_, rfl⟩
            rw [hH, ho, hZ2] at hm
            have k1 : bits .and .u64 (Z : Int) 1 = (o : Int) := by
              rw [← ho]
              have := u64_and_nat Z 1 hZ64 (by omega)
              rw [Nat.and_one_is_mod] at this
              exact this
            have k2 : (Z : Int) / 2 = (H : Int) := by omega
            have k3 : bits .or .u64 (H : Int) (o : Int) = (Z2 : Int) := by
              rw [← hZ2]; exact u64_or_nat H o (by omega) (by omega)
            have HM := Hid.mk' hm
            clear hm HLP2 hH ho hZ2
            go_wp2
            go_round
            case rel => exact ⟨Z2, E + 1, rfl, rfl, by omega, by omega, HM.out.1, HM⟩
            case measure => simp [intOf]; omega
      · simp only [if_true] at hY
        rw [hY] at hor
        clear hY
        go_wp2
        go_loop [2, 3] (fun mv ev => ∃ (Z : Nat) (E : Int), mv = .int .u64 (Z : Nat) ∧ ev = .int .i64 E ∧ -10 ≤ E ∧ E ≤ 4000100 ∧ Z < 18446744073709551616 ∧ Hid (LP V e0 Z E)) (fun _ ev => ((V.log2 : Int) - intOf ev).toNat)
        case atStart => exact ⟨Y, E1, rfl, rfl, by omega, by omega, HLP.out.1, HLP⟩
        case round =>
          obtain ⟨Z, E, rfl, rfl, hE0, hE9, hZ64, HLP2⟩ := hrel
          clear HLP
          by_cases hZ : Z < 36028797018963968
          · obtain ⟨hZh, hEh⟩ := HLP2.out.done hV hZ
            obtain ⟨n1, n2, n3⟩ := NF_end V 0 Z V.log2 hV hZh rfl
            have hd2 : (Z : Int) / 36028797018963968 = 0 := by omega
            obtain ⟨K, hK⟩ : ∃ K, Z / 4 = K := ⟨_, rfl⟩
            obtain ⟨r, hr⟩ : ∃ r, Z % 4 = r := ⟨_, rfl⟩
            obtain ⟨o, ho⟩ : ∃ o, K % 2 = o := ⟨_, rfl⟩
            obtain ⟨t, ht⟩ : ∃ t, (r ||| o) = t := ⟨_, rfl⟩
            rw [hK, hr, ho, ht] at n3
            rw [hK] at n1 n2
            have hr4 : r < 4 := by omega
            have ho2 : o < 2 := by omega
            have k1 : bits .and .u64 (Z : Int) 3 = (r : Int) := by
              rw [← hr]
              have := u64_and_nat Z 3 hZ64 (by omega)
              rw [show (3 : Nat) = 2 ^ 2 - 1 from rfl, Nat.and_two_pow_sub_one_eq_mod] at this
              exact this
            have k2 : (Z : Int) / 4 = (K : Int) := by omega
            have k3 : bits .and .u64 (K : Int) 1 = (o : Int) := by
              rw [← ho]
              have := u64_and_nat K 1 (by omega) (by omega)
              rw [Nat.and_one_is_mod] at this
              exact this
            have k4 : bits .or .u64 (r : Int) (o : Int) = (t : Int) := by
              rw [← ht]; exact u64_or_nat r o (by omega) (by omega)
            have hEx : E + 2 = (V.log2 : Int) := by omega
            have NV := Hid.mk' (NF_val V hV)
            rw [HR.out, n3] at NV
            have hm1 : ¬ E < -1024 := by omega
            have hKd : (K : Int) / 4503599627370496 = 1 := by omega
            clear hZh hEh HLP2 n3 hK hr ho ht
            obtain ⟨L, hL⟩ : ∃ L, V.log2 = L := ⟨_, rfl⟩
            rw [hL] at hEx NV
            obtain ⟨Li, hLi⟩ : ∃ Li : Int, (L : Int) = Li := ⟨_, rfl⟩
            rw [hLi] at hEx
            clear hL
            by_cases ht3 : t = 3
            · have q3 : ((t : Int) == 3) = true := by rw [beq_iff_eq]; omega
              rw [if_pos ht3] at NV
              by_cases hKc : K = 9007199254740991
              · obtain ⟨K1, hK1⟩ : ∃ K1, K + 1 = K1 := ⟨_, rfl⟩
                have hwK : IntKind.u64.wrap ((K : Int) + 1) = (K1 : Int) := by rw [IntKind.wrap_u64]; omega
                have hKe : K1 = 9007199254740992 := by omega
                have qK : ((K1 : Int) == 9007199254740992) = true := by rw [beq_iff_eq]; omega
                have hK1d : (K1 : Int) / 2 = 4503599627370496 := by omega
                rw [hK1] at NV
                by_cases hLL : 1022 < L
                · skip
                  have hov : 1023 < (Li + 1) := by omega
                  have hRI : R = 9218868437227405312 := inf_carry L K1 R hKe hLL NV.out
                  have HRI := Hid.mk' hRI
                  have c1 := b1
                  have c2 := b2
                  have c3 := b3
                  have c4 := b4
                  have c5 := b5
                  have hpn := HPN.out
                  have hfb : ∀ w : World, (callFunc 191 #[.int .u64 9218868437227405312]).run Tryz.prog w = .ok (.value (.float .f64 9218868437227405312)) w := call_sfrombits 9218868437227405312 (by decide)
                  clear hRI NV HR hLL hLi hKe hKc hK1
                  go_wp2
                  go_rounds 1
                  go_wp2_with fail
                  go_region
                  go_wp2
                  skip
                  go_ret2
                  exact ⟨_, by rw [HRI.out]; rfl, .inr rfl, 2, rfl⟩
                · skip
                  have hov : ¬ 1023 < (Li + 1) := by omega
                  obtain ⟨f, hf⟩ : ∃ f : Nat, f = 0 := ⟨0, rfl⟩
                  obtain ⟨q, hq⟩ : ∃ q : Nat, (q : Int) = (Li + 1) + 1023 := ⟨L + 1024, by omega⟩
                  have hflt : f < 4503599627370496 := by omega
                  obtain ⟨hRR, hq47⟩ : q * 4503599627370496 + f = R ∧ q < 2047 := fin_carry L K1 f q R Li hKe hLL hLi hf hq NV.out
                  have hq1 : bits .and .i64 ((Li + 1) + 1023) 2047 = (q : Int) := by rw [← hq]; exact and_2047 q hq47
                  have hq2 := q_wrap q hq47
                  have hq3 := q_shl q hq47
                  have hor := or_bits f q hflt hq47
                  rw [hRR] at hor
                  obtain ⟨G, hG⟩ : ∃ G, q * 4503599627370496 = G := ⟨_, rfl⟩
                  rw [hG] at hq3 hor
                  have hRlt : R < 18446744073709551616 := by have := NF_lt V; rw [HR.out] at this; exact Nat.lt_of_le_of_lt this (by decide)
                  have hfb := call_sfrombits R hRlt
                  have hpn := HPN.out
                  have hor : bits .or .u64 0 (G : Int) = (R : Int) := by rw [hf] at hor; exact hor
                  clear hRR hG NV HR hq hf hLL hLi hKe hKc hK1
                  go_wp2
                  go_rounds 1
                  have c1 := b1
                  go_wp2_with fail
                  go_region
                  go_wp2
                  skip
                  go_ret2
                  exact ⟨_, rfl, .inl rfl, 2, rfl⟩
              · obtain ⟨K1, hK1⟩ : ∃ K1, K + 1 = K1 := ⟨_, rfl⟩
                have hwK : IntKind.u64.wrap ((K : Int) + 1) = (K1 : Int) := by rw [IntKind.wrap_u64]; omega
                have qK : ((K1 : Int) == 9007199254740992) = false := by rw [beq_eq_false_iff_ne]; omega
                have hK1d : (K1 : Int) / 4503599627370496 = 1 := by omega
                rw [hK1] at NV
                by_cases hLL : 1023 < L
                · skip
                  have hov : 1023 < Li := by omega
                  have hRI : R = 9218868437227405312 := inf_end L K1 R hLL (by omega) NV.out
                  have HRI := Hid.mk' hRI
                  have c1 := b1
                  have c2 := b2
                  have c3 := b3
                  have c4 := b4
                  have c5 := b5
                  have hpn := HPN.out
                  have hfb : ∀ w : World, (callFunc 191 #[.int .u64 9218868437227405312]).run Tryz.prog w = .ok (.value (.float .f64 9218868437227405312)) w := call_sfrombits 9218868437227405312 (by decide)
                  clear hRI NV HR hLL hLi
                  go_wp2
                  go_rounds 1
                  go_wp2_with fail
                  go_region
                  go_wp2
                  skip
                  go_ret2
                  exact ⟨_, by rw [HRI.out]; rfl, .inr rfl, 2, rfl⟩
                · skip
                  have hov : ¬ 1023 < Li := by omega
                  obtain ⟨f, hf⟩ : ∃ f, K1 = 4503599627370496 + f := ⟨K1 - 4503599627370496, by omega⟩
                  have hkf : bits .and .u64 (K1 : Int) 4503599627370495 = (f : Int) := by rw [hf]; exact and_52 f (by omega)
                  obtain ⟨q, hq⟩ : ∃ q : Nat, (q : Int) = Li + 1023 := ⟨L + 1023, by omega⟩
                  have hflt : f < 4503599627370496 := by omega
                  obtain ⟨hRR, hq47⟩ : q * 4503599627370496 + f = R ∧ q < 2047 := fin_end L K1 f q R Li hLL hLi hf hflt hq NV.out
                  have hq1 : bits .and .i64 (Li + 1023) 2047 = (q : Int) := by rw [← hq]; exact and_2047 q hq47
                  have hq2 := q_wrap q hq47
                  have hq3 := q_shl q hq47
                  have hor := or_bits f q hflt hq47
                  rw [hRR] at hor
                  obtain ⟨G, hG⟩ : ∃ G, q * 4503599627370496 = G := ⟨_, rfl⟩
                  rw [hG] at hq3 hor
                  have hRlt : R < 18446744073709551616 := by have := NF_lt V; rw [HR.out] at this; exact Nat.lt_of_le_of_lt this (by decide)
                  have hfb := call_sfrombits R hRlt
                  have hpn := HPN.out
                  clear hRR hG NV HR hq hf hLL hLi
                  go_wp2
                  go_rounds 1
                  go_wp2_with fail
                  go_region
                  go_wp2
                  skip
                  go_ret2
                  exact ⟨_, rfl, .inl rfl, 2, rfl⟩
            · have q3 : ((t : Int) == 3) = false := by rw [beq_eq_false_iff_ne]; omega
              rw [if_neg ht3] at NV
              by_cases hLL : 1023 < L
              · skip
                have hov : 1023 < Li := by omega
                have hRI : R = 9218868437227405312 := inf_end L K R hLL n1 (by have := NV.out; rw [Nat.add_zero] at this; exact this)
                have HRI := Hid.mk' hRI
                have c1 := b1
                have c2 := b2
                have c3 := b3
                have c4 := b4
                have c5 := b5
                have hpn := HPN.out
                have hfb : ∀ w : World, (callFunc 191 #[.int .u64 9218868437227405312]).run Tryz.prog w = .ok (.value (.float .f64 9218868437227405312)) w := call_sfrombits 9218868437227405312 (by decide)
                clear hRI NV HR hLL hLi
                go_wp2
                go_rounds 1
                go_wp2_with fail
                go_region
                go_wp2
                skip
                go_ret2
                exact ⟨_, by rw [HRI.out]; rfl, .inr rfl, 2, rfl⟩
              · skip
                have hov : ¬ 1023 < Li := by omega
                obtain ⟨f, hf⟩ : ∃ f, K = 4503599627370496 + f := ⟨K - 4503599627370496, by omega⟩
                have hkf : bits .and .u64 (K : Int) 4503599627370495 = (f : Int) := by rw [hf]; exact and_52 f (by omega)
                obtain ⟨q, hq⟩ : ∃ q : Nat, (q : Int) = Li + 1023 := ⟨L + 1023, by omega⟩
                have hflt : f < 4503599627370496 := by omega
                obtain ⟨hRR, hq47⟩ : q * 4503599627370496 + f = R ∧ q < 2047 := fin_end L K f q R Li hLL hLi hf hflt hq (by have := NV.out; rw [Nat.add_zero] at this; exact this)
                have hq1 : bits .and .i64 (Li + 1023) 2047 = (q : Int) := by rw [← hq]; exact and_2047 q hq47
                have hq2 := q_wrap q hq47
                have hq3 := q_shl q hq47
                have hor := or_bits f q hflt hq47
                rw [hRR] at hor
                obtain ⟨G, hG⟩ : ∃ G, q * 4503599627370496 = G := ⟨_, rfl⟩
                rw [hG] at hq3 hor
                have hRlt : R < 18446744073709551616 := by have := NF_lt V; rw [HR.out] at this; exact Nat.lt_of_le_of_lt this (by decide)
                have hfb := call_sfrombits R hRlt
                have hpn := HPN.out
                clear hRR hG NV HR hq hf hLL hLi
                go_wp2
                go_rounds 1
                go_wp2_with fail
                go_region
                go_wp2
                skip
                go_ret2
                exact ⟨_, rfl, .inl rfl, 2, rfl⟩
          · obtain ⟨hm, hm2⟩ := HLP2.out.more hV hZ
            have hd2 : ((Z : Int) / 36028797018963968 != 0) = true := by rw [bne_iff_ne]; omega
            obtain ⟨H, hH⟩ : ∃ H, Z / 2 = H := ⟨_, rfl⟩
            obtain ⟨o, ho⟩ : ∃ o, Z % 2 = o := ⟨_, rfl⟩
            obtain ⟨Z2, hZ2⟩ : ∃ Z2, (H ||| o) = Z2 := ⟨_, rfl⟩
            rw [hH, ho, hZ2] at hm
            have k1 : bits .and .u64 (Z : Int) 1 = (o : Int) := by
              rw [← ho]
              have := u64_and_nat Z 1 hZ64 (by omega)
              rw [Nat.and_one_is_mod] at this
              exact this
            have k2 : (Z : Int) / 2 = (H : Int) := by omega
            have k3 : bits .or .u64 (H : Int) (o : Int) = (Z2 : Int) := by
              rw [← hZ2]; exact u64_or_nat H o (by omega) (by omega)
            have HM := Hid.mk' hm
            clear hm HLP2 hH ho hZ2
            go_wp2
            go_round
            case rel => exact ⟨Z2, E + 1, rfl, rfl, by omega, by omega, HM.out.1, HM⟩
            case measure => simp [intOf]; omega
end Go.Proofs.YtighenikjedojaaGreatDoor

namespace Go.Proofs.YtighenikjedojaaGreatDoor
set_option linter.unusedVariables false
open Go.RowKit Fl

set_option maxHeartbeats 4000000 in
set_option maxRecDepth 100000 in
theorem atofHex_zero (s : ByteArray) (w : World) (hl : LaidN w) (hlb : LaidB w) :
    Calls Tryz.prog 183 #[.string s, .pointer (some ⟨9, 0, none⟩), .int .u64 0, .int .i64 0, .bool false, .bool false] w fun e w' => ∃ err, e = .returned (.tuple #[.float .f64 0, err]) ∧ (err = .nilIface ∨ err = .iface 139 (.int .i64 1)) ∧ ∃ n, w' = w.drewN n := by
  obtain ⟨i0, i1, i2⟩ := hl.info
  have HPN : Hid ((binOp .eql 202 (.pointer (some ⟨9, 0, none⟩)) (.pointer (some ⟨8, 0, none⟩))).run Tryz.prog w.drew.drew = .ok (.bool false) w.drew.drew) := ptr_ne w hlb 2
  have c1 : bits .and .u64 0 3 = 0 := by decide
  have c2 : bits .and .u64 0 1 = 0 := by decide
  have c3 : bits .or .u64 0 0 = 0 := by decide
  have c4 : bits .and .u64 0 4503599627370495 = 0 := by decide
  have c5 : bits .and .i64 0 2047 = 0 := by decide
  have c6 : IntKind.u64.wrap 0 = 0 := by decide
  have hfb : ∀ w : World, (callFunc 191 #[.int .u64 0]).run Tryz.prog w = .ok (.value (.float .f64 0)) w := call_sfrombits 0 (by decide)
  clear hl hlb
  go_enter Tryz.func183, Tryz.ntmps183
  go_wp2_with fail
  go_region
  go_wp2
  go_rounds 1
  go_rounds 1
  go_rounds 1
  have hpn := HPN.out
  go_wp2_with fail
  go_region
  go_wp2
  go_ret2
  exact ⟨_, rfl, .inl rfl, 2, rfl⟩
theorem atofHex_all (s : ByteArray) (V nd m M : Nat) (tr : Bool) (h : RF V nd m M tr) (w : World) (hl : LaidN w) (hlb : LaidB w) (hnd : nd ≤ 1000000) :
    Calls Tryz.prog 183 #[.string s, .pointer (some ⟨9, 0, none⟩), .int .u64 (M : Nat), .int .i64 ((4 * (nd - m) : Nat) : Int), .bool false, .bool tr] w fun e w' => ∃ err, e = .returned (.tuple #[.float .f64 (NF V), err]) ∧ (err = .nilIface ∨ err = .iface 139 (.int .i64 1)) ∧ ∃ n, w' = w.drewN n := by
  by_cases hV : V = 0
  · have hn0 : nd = 0 := by
      rcases Nat.eq_zero_or_pos nd with q | q
      · exact q
      · have := h.pos q; omega
    obtain ⟨_, h2, h3, h4⟩ := h.zero hn0
    rw [hV, h3, h2, hn0, h4]
    exact atofHex_zero s w hl hlb
  · exact atofHex_any s V nd m M tr h hV w hl hlb hnd
set_option maxHeartbeats 1000000 in
set_option maxRecDepth 100000 in
theorem special_h (s : ByteArray) (hs : 1 ≤ (s.size : Int)) (hs2 : (s.size : Int) ≤ 2000000) (z0 : PlainAid.bt s 0 = 48) (w : World) : Calls Tryz.prog 181 #[.string s] w fun e w' => e = .returned (.tuple #[.float .f64 0, .int .i64 0, .bool false]) ∧ w' = w := by
  have hbt := PlainAid.get_bt s
  go_enter Tryz.func181, Tryz.ntmps181
  go_wp2
  go_returns
  exact ⟨rfl, rfl⟩
set_option maxHeartbeats 1000000 in
set_option maxRecDepth 100000 in
theorem atof_h (s : ByteArray) (n N : Nat) (h : HX s n N) (hn : n ≤ 1000000) (w : World) (hl : LaidN w) (hlb : LaidB w) : Calls Tryz.prog 154 #[.string s] w fun e w' => ∃ err, e = .returned (.tuple #[.float .f64 (NF N), .int .i64 ((n + 4 : Nat) : Int), err]) ∧ (err = .nilIface ∨ err = .iface 139 (.int .i64 1)) ∧ ∃ n, w' = w.drewN n := by
  have HS := Hid.mk' (fun W => special_h s (by have := h.sz; omega) (by have := h.sz; omega) h.z0 W)
  have HR := Hid.mk' (fun W => readHex s n N h hn W)
  have HA := Hid.mk' (fun nd m M tr (q : RF N nd m M tr) hnd => atofHex_all (s.extract 0 (n + 4)) N nd m M tr q w hl hlb hnd)
  have hsz := h.sz
  have hlen : (s.size : Int) = (n : Int) + 4 := by omega
  have HND : Hid (∀ nd m M tr, RF N nd m M tr → nd ≤ 1000000) := fun nd m M tr q => by
    rcases Nat.lt_or_ge 1000000 nd with c | c
    · have h1 := q.ge (by omega)
      have h2 := Nat.lt_of_le_of_lt h1 h.lt
      have h3 : nd - 1 < n := by
        rcases Nat.lt_or_ge (nd - 1) n with z | z
        · exact z
        · exact absurd h2 (Nat.not_lt.2 (Nat.pow_le_pow_right (by omega) z))
      omega
    · exact c
  clear h hl hlb
  go_enter Tryz.func154, Tryz.ntmps154
  go_wp2_with (go_at_call 181; refine (HS.out _).mono ?_; rintro e w1 ⟨rfl, hw1⟩; rw [hw1]; clear hw1 w1)
  refine (HR.out _).mono ?_
  rintro e w1 ⟨nd, m, M, tr, hrf, rfl, hw1⟩
  rw [hw1]; clear hw1 w1
  have HB := Hid.mk' (HA.out nd m M tr hrf (HND.out nd m M tr hrf))
  obtain ⟨X, hX⟩ : ∃ X : Int, ((4 * (nd - m) : Nat) : Int) = X := ⟨_, rfl⟩
  rw [hX] at HB ⊢
  clear HA HND hrf hX
  go_wp2_with fail
  refine HB.out.mono ?_
  rintro e w1 ⟨err, rfl, he, n1, hw1⟩
  rw [hw1]; clear hw1 w1
  go_wp2
  go_ret3
  exact ⟨_, rfl, he, _, rfl⟩
set_option maxHeartbeats 1000000 in
theorem pfix_h (s : ByteArray) (n N : Nat) (h : HX s n N) (hn : n ≤ 1000000) (w : World) (hl : LaidN w) (hlb : LaidB w) : Calls Tryz.prog 126 #[.string s, .int .i64 64] w fun e w' => ∃ err, e = .returned (.tuple #[.float .f64 (NF N), .int .i64 ((n + 4 : Nat) : Int), err]) ∧ (err = .nilIface ∨ err = .iface 139 (.int .i64 1)) ∧ ∃ n, w' = w.drewN n := by
  have HE := Hid.mk' (atof_h s n N h hn w hl hlb)
  clear h hl hlb
  go_enter Tryz.func126, Tryz.ntmps126
  go_wp2_with fail
  refine HE.out.mono ?_
  rintro e w1 ⟨err, rfl, he, n1, hw1⟩
  rw [hw1]; clear hw1 w1
  go_wp2
  go_ret3
  exact ⟨_, rfl, he, _, rfl⟩
set_option maxHeartbeats 1000000 in
theorem pfin_h (s : ByteArray) (n N : Nat) (h : HX s n N) (hn : n ≤ 1000000) (w : World) (hl : LaidN w) (hlb : LaidB w) : Calls Tryz.prog 102 #[.string s, .int .i64 64] w fun e w' => ∃ err, e = .returned (.tuple #[.float .f64 (NF N), err]) ∧ (err = .nilIface ∨ err = .iface 139 (.int .i64 1)) ∧ ∃ n, w' = w.drewN n := by
  have HE := Hid.mk' (pfix_h s n N h hn w hl hlb)
  have hlen : (s.size : Int) = ((n + 4 : Nat) : Int) := by rw [h.sz]
  clear h hl hlb
  go_enter Tryz.func102, Tryz.ntmps102
  go_wp2_with fail
  refine HE.out.mono ?_
  rintro e w1 ⟨err, rfl, he, n1, hw1⟩
  rw [hw1]; clear hw1 w1
  go_wp2
  go_ret2
  exact ⟨_, rfl, he, _, rfl⟩
set_option maxHeartbeats 1000000 in
set_option maxRecDepth 100000 in
theorem pf_h (s : ByteArray) (n N : Nat) (h : HX s n N) (hn : n ≤ 1000000) (w : World) (hl : LaidN w) (hlb : LaidB w) : Calls Tryz.prog 69 #[.string s, .int .i64 64] w fun e w' => ∃ err, e = .returned (.tuple #[.float .f64 (NF N), err]) ∧ Below w.heap.size w w' := by
  have HE := Hid.mk' (pfin_h s n N h hn w hl hlb)
  have hlim : s.size ≤ 281474976710656 := by have := h.sz; omega
  have HB := Hid.mk' hlb
  clear h hl hlb
  go_enter Tryz.func69, Tryz.ntmps69
  go_wp2_with fail
  refine HE.out.mono ?_
  rintro e w1 ⟨err, rfl, he, n1, hw1⟩
  rw [hw1]; clear hw1 w1
  rcases he with rfl | rfl
  · go_wp2
    go_ret2
    exact ⟨_, rfl, below_draws (Below.refl _ _) n1⟩
  · obtain ⟨ev, hev, hok⟩ := (HB.out.below (below_draws (Below.refl _ w) n1)).rng
    have HT := Hid.mk' (Tryz.strconv_toError_range ⟨#[80, 97, 114, 115, 101, 70, 108, 111, 97, 116]⟩ s 0 64 ev (w.drewN n1) hlim hev hok)
    clear hev hok
    go_wp2_with fail
    refine HT.out.mono ?_
    rintro e w2 ⟨N2, rfl, _, _, b2⟩
    go_wp2
    go_ret2
    exact ⟨_, rfl, (below_draws (Below.refl w.heap.size w) n1).trans (b2.mono (below_draws (Below.refl w.heap.size w) n1).size)⟩
end Go.Proofs.YtighenikjedojaaGreatDoor
