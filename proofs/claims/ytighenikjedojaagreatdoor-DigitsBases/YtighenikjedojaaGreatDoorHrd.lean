/- internal/strconv.readFloat at hex digits. -/
import Derived.Test.YtighenikjedojaaGreatDoorNst
import Derived.Test.YtighenikjedojaaGreatDoorDecP
import Derived.WalkMore
import Derived.Handy
namespace Go.Proofs.YtighenikjedojaaGreatDoor
set_option linter.unusedVariables false
open Go.RowKit Fl

/-- The text 0x, n hex digits of N, p0. -/
structure HX (s : ByteArray) (n N : Nat) : Prop where
  sz : s.size = n + 4
  z0 : PlainAid.bt s 0 = 48
  z1 : PlainAid.bt s 1 = 120
  dig : ∀ j, j < n → PlainAid.bt s (j + 2) = (dgc (N / 16 ^ (n - 1 - j) % 16) : Nat)
  zp : PlainAid.bt s (n + 2) = 112
  zz : PlainAid.bt s (n + 3) = 48
  n1 : 1 ≤ n
  lt : N < 16 ^ n
set_option maxHeartbeats 400000 in
theorem lower_c (c r : Int) (w : World) (h : bits .or .u8 c 32 = r) : Calls Tryz.prog 200 #[.int .u8 c] w fun e w' => e = .returned (.int .u8 r) ∧ w' = w := by
  go_enter Tryz.func200, Tryz.ntmps200
  go_wp2
  go_ret
  exact ⟨rfl, rfl⟩
theorem hex_next (N n j : Nat) (h : j < n) : N / 16 ^ (n - (j + 1)) = N / 16 ^ (n - j) * 16 + N / 16 ^ (n - 1 - j) % 16 := by
  have e : n - j = n - 1 - j + 1 := by omega
  rw [e, show n - (j + 1) = n - 1 - j by omega, Nat.pow_succ, ← Nat.div_div_eq_div_mul]
  omega
set_option maxHeartbeats 4000000 in
set_option maxRecDepth 100000 in
theorem readHex (s : ByteArray) (n N : Nat) (h : HX s n N) (hn : n ≤ 1000000) (w : World) : Calls Tryz.prog 182 #[.string s] w fun e w' => ∃ nd m M tr, RF N nd m M tr ∧ e = .returned (.tuple #[.int .u64 (M : Nat), .int .i64 ((4 * (nd - m) : Nat) : Int), .bool false, .bool tr, .bool true, .int .i64 ((n + 4 : Nat) : Int), .bool true]) ∧ w' = w := by
  have hbt := PlainAid.get_bt s
  have l1 : bits .or .u8 120 32 = 120 := by decide
  have z0 := h.z0
  have z1 := h.z1
  have hsz : (s.size : Int) = (n : Int) + 4 := by rw [h.sz]; rfl
  have hn1 : (1 : Int) ≤ n := by have := h.n1; omega
  have hn2 : (n : Int) ≤ 1000000 := by omega
  have HH := Hid.mk' h
  clear h
  go_enter Tryz.func182, Tryz.ntmps182
  go_wp2_with (go_at_call 200; refine (lower_c _ _ _ l1).mono ?_; rintro e w1 ⟨rfl, hw1⟩; rw [hw1]; clear hw1 w1)
  go_step3
  go_wp2_with (go_at_call 200; refine (lower_c _ _ _ l1).mono ?_; rintro e w1 ⟨rfl, hw1⟩; rw [hw1]; clear hw1 w1)
  go_step3
  go_wp2_with (go_at_call 200; refine (lower_c _ _ _ l1).mono ?_; rintro e w1 ⟨rfl, hw1⟩; rw [hw1]; clear hw1 w1)
  go_loop [2, 5, 7, 9, 13, 14, 15, 16, 17] (fun mv tv iv us sd sv ndv mmv dpv => ∃ (j nd m M : Nat) (tr : Bool) (dp : Int), us = .bool false ∧ sd = .bool false ∧ mv = .int .u64 (M : Nat) ∧ tv = .bool tr ∧ iv = .int .i64 ((j : Nat) + 2) ∧ j ≤ n ∧ sv = .bool (decide (0 < (j : Int))) ∧ ndv = .int .i64 (nd : Nat) ∧ mmv = .int .i64 (m : Nat) ∧ dpv = .int .i64 dp ∧ dp ≤ 0 ∧ 0 ≤ dp + (j : Int) ∧ nd ≤ j ∧ m ≤ 16 ∧ Hid (RF (N / 16 ^ (n - j)) nd m M tr)) (fun _ _ iv _ _ _ _ _ _ => n + 2 - (intOf iv).toNat)
  case atStart => exact ⟨0, 0, 0, 0, false, 0, rfl, rfl, rfl, rfl, rfl, by omega, rfl, rfl, rfl, rfl, by omega, by omega, by omega, by omega, by rw [Nat.sub_zero, Nat.div_eq_of_lt HH.out.lt]; exact RF.start⟩
  case round =>
    obtain ⟨j, nd, m, M, tr, dp, rfl, rfl, rfl, rfl, rfl, hj, rfl, rfl, rfl, rfl, hdp1, hdp2, hnd, hm16, HR⟩ := hrel
    by_cases hlt : j < n
    · obtain ⟨d, hd⟩ : ∃ d, N / 16 ^ (n - 1 - j) % 16 = d := ⟨_, rfl⟩
      have hd16 : d < 16 := by rw [← hd]; exact Nat.mod_lt _ (by omega)
      have hc := HH.out.dig j hlt
      have hnx := hex_next N n j hlt
      rw [hd] at hc hnx
      have hil : (j : Int) + 2 < (n : Int) + 4 := by omega
      have hjn : (j : Int) < (n : Int) := by omega
      by_cases hd10 : d < 10
      · have hz : PlainAid.bt s (j + 2) = 48 + (d : Int) := by rw [hc]; unfold dgc; rw [if_pos hd10]; omega
        have hw8 : IntKind.u8.wrap (48 + (d : Int) - 48) = (d : Int) := by rw [show (48 + (d : Int) - 48) = (d : Int) by omega, IntKind.wrap_u8]; omega
        have hw64 : IntKind.u64.wrap (d : Int) = (d : Int) := by rw [IntKind.wrap_u64]; omega
        clear hc
        obtain ⟨z, hzz⟩ : ∃ z : Int, 48 + (d : Int) = z := ⟨_, rfl⟩
        rw [hzz] at hz hw8
        have z1' : 48 ≤ z := by omega
        have z2' : z ≤ 57 := by omega
        have q95 : (z == 95) = false := by rw [beq_eq_false_iff_ne]; omega
        have q46 : (z == 46) = false := by rw [beq_eq_false_iff_ne]; omega
        by_cases hz0 : d = 0 ∧ nd = 0
        · have q48 : (z == 48) = true := by rw [beq_iff_eq]; omega
          have qnd : ((nd : Int) == 0) = true := by rw [beq_iff_eq]; omega
          have hr0 := HR.out.zero hz0.2
          have HR2 : Hid (RF (N / 16 ^ (n - (j + 1))) nd m M tr) := by
            show RF _ _ _ _ _
            rw [hnx, hr0.1, hz0.1]
            have := HR.out
            rw [hr0.1] at this
            exact this
          clear hnx hd HR hzz hr0
          go_wp2
          exact ⟨⟨j + 1, nd, m, M, tr, dp - 1, rfl, rfl, rfl, rfl, by go_num, by omega, by rw [decide_eq_true (show 0 < ((j + 1 : Nat) : Int) by omega)], by go_num, by go_num, rfl, by omega, by omega, by omega, by omega, HR2⟩, by simp [intOf]; omega⟩
        · have HZ : Hid (0 < nd ∨ 0 < d) := by show _ ∨ _; omega
          have qq : ((z == 48) && ((nd : Int) == 0)) = false := by
            rw [Bool.and_eq_false_iff, beq_eq_false_iff_ne, beq_eq_false_iff_ne]; omega
          by_cases hm : m < 16
          · by_cases e48 : z = 48
            · have q48 : (z == 48) = true := by rw [beq_iff_eq]; exact e48
              have qnd : ((nd : Int) == 0) = false := by rw [beq_eq_false_iff_ne]; omega
              have hfew := HR.out.few hd16 HZ.out hm
              obtain ⟨P, hP⟩ : ∃ P, M * 16 = P := ⟨_, rfl⟩
              obtain ⟨Q, hQ⟩ : ∃ Q, P + d = Q := ⟨_, rfl⟩
              have hM1 : IntKind.u64.wrap ((M : Int) * 16) = (P : Int) := by
                rw [show (M : Int) * 16 = ((P : Nat) : Int) by omega, IntKind.wrap_u64]; omega
              have hM2 : IntKind.u64.wrap ((P : Int) + (d : Int)) = (Q : Int) := by
                rw [show (P : Int) + (d : Int) = ((Q : Nat) : Int) by omega, IntKind.wrap_u64]; omega
              have hM3 : IntKind.u64.wrap (P : Int) = (Q : Int) := by rw [IntKind.wrap_u64]; omega
              rw [hP, hQ, ← hnx] at hfew
              have HR2 := Hid.mk' hfew.1
              have hmi : (m : Int) < 16 := by omega
              clear hfew hnx hd HR hzz hP hQ
              go_wp2
              exact ⟨⟨j + 1, nd + 1, m + 1, Q, tr, dp, rfl, rfl, rfl, rfl, by go_num, by omega, by rw [decide_eq_true (show 0 < ((j + 1 : Nat) : Int) by omega)], by go_num, by go_num, rfl, by omega, by omega, by omega, by omega, HR2⟩, by simp [intOf]; omega⟩
            · have q48 : (z == 48) = false := by rw [beq_eq_false_iff_ne]; exact e48
              have hfew := HR.out.few hd16 HZ.out hm
              obtain ⟨P, hP⟩ : ∃ P, M * 16 = P := ⟨_, rfl⟩
              obtain ⟨Q, hQ⟩ : ∃ Q, P + d = Q := ⟨_, rfl⟩
              have hM1 : IntKind.u64.wrap ((M : Int) * 16) = (P : Int) := by
                rw [show (M : Int) * 16 = ((P : Nat) : Int) by omega, IntKind.wrap_u64]; omega
              have hM2 : IntKind.u64.wrap ((P : Int) + (d : Int)) = (Q : Int) := by
                rw [show (P : Int) + (d : Int) = ((Q : Nat) : Int) by omega, IntKind.wrap_u64]; omega
              rw [hP, hQ, ← hnx] at hfew
              have HR2 := Hid.mk' hfew.1
              have hmi : (m : Int) < 16 := by omega
              clear hfew hnx hd HR hzz hP hQ
              go_wp2
              exact ⟨⟨j + 1, nd + 1, m + 1, Q, tr, dp, rfl, rfl, rfl, rfl, by go_num, by omega, by rw [decide_eq_true (show 0 < ((j + 1 : Nat) : Int) by omega)], by go_num, by go_num, rfl, by omega, by omega, by omega, by omega, HR2⟩, by simp [intOf]; omega⟩
          · by_cases e48 : z = 48
            · have q48 : (z == 48) = true := by rw [beq_iff_eq]; exact e48
              have qnd : ((nd : Int) == 0) = false := by rw [beq_eq_false_iff_ne]; have := HR.out.m16; omega
              have hmany := HR.out.many hd16 hm
              rw [← hnx, show decide (d ≠ 0) = false by rw [decide_eq_false]; omega, Bool.or_false] at hmany
              have HR2 := Hid.mk' hmany
              have hmi : ¬ (m : Int) < 16 := by omega
              clear hmany hnx hd HR hzz
              go_wp2
              exact ⟨⟨j + 1, nd + 1, m, M, tr, dp, rfl, rfl, rfl, rfl, by go_num, by omega, by rw [decide_eq_true (show 0 < ((j + 1 : Nat) : Int) by omega)], by go_num, by go_num, rfl, by omega, by omega, by omega, by omega, HR2⟩, by simp [intOf]; omega⟩
            · have q48 : (z == 48) = false := by rw [beq_eq_false_iff_ne]; exact e48
              have hmany := HR.out.many hd16 hm
              rw [← hnx, show decide (d ≠ 0) = true by rw [decide_eq_true]; omega, Bool.or_true] at hmany
              have HR2 := Hid.mk' hmany
              have hmi : ¬ (m : Int) < 16 := by omega
              clear hmany hnx hd HR hzz
              go_wp2
              exact ⟨⟨j + 1, nd + 1, m, M, true, dp, rfl, rfl, rfl, rfl, by go_num, by omega, by rw [decide_eq_true (show 0 < ((j + 1 : Nat) : Int) by omega)], by go_num, by go_num, rfl, by omega, by omega, by omega, by omega, HR2⟩, by simp [intOf]; omega⟩
      · have hz : PlainAid.bt s (j + 2) = 87 + (d : Int) := by rw [hc]; unfold dgc; rw [if_neg hd10]; omega
        have HZ : Hid (0 < nd ∨ 0 < d) := by show _ ∨ _; omega
        have hw8 : IntKind.u8.wrap (87 + (d : Int) - 97) = (d : Int) - 10 := by rw [IntKind.wrap_u8]; omega
        have hw8b : IntKind.u8.wrap ((d : Int) - 10 + 10) = (d : Int) := by rw [IntKind.wrap_u8]; omega
        have hw64 : IntKind.u64.wrap (d : Int) = (d : Int) := by rw [IntKind.wrap_u64]; omega
        have hlow : bits .or .u8 (87 + (d : Int)) 32 = 87 + (d : Int) := by
          have : ∀ x : Fin 16, 10 ≤ x.val → bits .or .u8 (87 + (x.val : Int)) 32 = 87 + (x.val : Int) := by decide
          exact this ⟨d, hd16⟩ (by show 10 ≤ d; omega)
        clear hc
        obtain ⟨z, hzz⟩ : ∃ z : Int, 87 + (d : Int) = z := ⟨_, rfl⟩
        rw [hzz] at hz hw8 hlow
        have z1' : 97 ≤ z := by omega
        have z2' : z ≤ 102 := by omega
        have q95 : (z == 95) = false := by rw [beq_eq_false_iff_ne]; omega
        have q46 : (z == 46) = false := by rw [beq_eq_false_iff_ne]; omega
        by_cases hm : m < 16
        · skip
          have hfew := HR.out.few hd16 HZ.out hm
          obtain ⟨P, hP⟩ : ∃ P, M * 16 = P := ⟨_, rfl⟩
          obtain ⟨Q, hQ⟩ : ∃ Q, P + d = Q := ⟨_, rfl⟩
          have hM1 : IntKind.u64.wrap ((M : Int) * 16) = (P : Int) := by
            rw [show (M : Int) * 16 = ((P : Nat) : Int) by omega, IntKind.wrap_u64]; omega
          have hM2 : IntKind.u64.wrap ((P : Int) + (d : Int)) = (Q : Int) := by
            rw [show (P : Int) + (d : Int) = ((Q : Nat) : Int) by omega, IntKind.wrap_u64]; omega
          rw [hP, hQ, ← hnx] at hfew
          have HR2 := Hid.mk' hfew.1
          have hmi : (m : Int) < 16 := by omega
          clear hfew hnx hd HR hzz hP hQ
          go_wp2_with (go_at_call 200; refine (lower_c _ _ _ hlow).mono ?_; rintro e w1 ⟨rfl, hw1⟩; rw [hw1]; clear hw1 w1)
          go_round
          case rel => exact ⟨j + 1, nd + 1, m + 1, Q, tr, dp, rfl, rfl, rfl, rfl, by go_num, by omega, by rw [decide_eq_true (show 0 < ((j + 1 : Nat) : Int) by omega)], by go_num, by go_num, rfl, by omega, by omega, by omega, by omega, HR2⟩
          case measure => simp [intOf]; omega
        · skip
          have hmany := HR.out.many hd16 hm
          rw [← hnx, show decide (d ≠ 0) = true by rw [decide_eq_true]; omega, Bool.or_true] at hmany
          have HR2 := Hid.mk' hmany
          have hmi : ¬ (m : Int) < 16 := by omega
          clear hmany hnx hd HR hzz
          go_wp2_with (go_at_call 200; refine (lower_c _ _ _ hlow).mono ?_; rintro e w1 ⟨rfl, hw1⟩; rw [hw1]; clear hw1 w1)
          go_round
          case rel => exact ⟨j + 1, nd + 1, m, M, true, dp, rfl, rfl, rfl, rfl, by go_num, by omega, by rw [decide_eq_true (show 0 < ((j + 1 : Nat) : Int) by omega)], by go_num, by go_num, rfl, by omega, by omega, by omega, by omega, HR2⟩
          case measure => simp [intOf]; omega
    · have hjn : j = n := by omega
      subst hjn
      have hR := HR.out
      rw [Nat.sub_self, Nat.pow_zero, Nat.div_one] at hR
      have HR2 := Hid.mk' hR
      have zp := HH.out.zp
      have zz := HH.out.zz
      have l2 : bits .or .u8 112 32 = 112 := by decide
      have hsaw : decide (0 < (j : Int)) = true := decide_eq_true (by omega)
      have hmn : m ≤ nd := by have := hR.m16; omega
      have hM0 : M = 0 → nd = 0 := fun e => by
        rcases Nat.eq_zero_or_pos nd with q | q
        · exact q
        · have := hR.pos q
          have := (hR.log (by omega)).1
          omega
      rw [hsaw]
      clear HR hR hsaw
      by_cases hM : M = 0
      · have hn0 := hM0 hM
        subst hM hn0
        have hm0 : m = 0 := by omega
        subst hm0
        go_wp2_with (go_at_call 200; refine (lower_c _ _ _ l2).mono ?_; rintro e w1 ⟨rfl, hw1⟩; rw [hw1]; clear hw1 w1)
        go_rounds 3
        exact bodyPost_ret (v := .tuple #[.int .u64 0, .int .i64 0, .bool false, .bool tr, .bool true, .int .i64 ((j : Int) + 2 + 1 + 1), .bool true]) (by simp [results, Tryz.results182, go_sem]) rfl ⟨0, 0, 0, tr, HR2.out, by rw [show ((j + 4 : Nat) : Int) = (j : Int) + 2 + 1 + 1 by omega]; rfl, rfl⟩
      · have hMz : ((M : Int) == 0) = false := by rw [beq_eq_false_iff_ne]; omega
        have hmn' : (m : Int) ≤ nd := by omega
        have hnd' : (nd : Int) ≤ 1000000 := by omega
        go_wp2_with (go_at_call 200; refine (lower_c _ _ _ l2).mono ?_; rintro e w1 ⟨rfl, hw1⟩; rw [hw1]; clear hw1 w1)
        go_rounds 3
        exact bodyPost_ret (v := .tuple #[.int .u64 (M : Nat), .int .i64 ((nd : Int) * 4 - (m : Int) * 4), .bool false, .bool tr, .bool true, .int .i64 ((j : Int) + 2 + 1 + 1), .bool true]) (by simp [results, Tryz.results182, go_sem]) rfl ⟨nd, m, M, tr, HR2.out, by rw [show ((j + 4 : Nat) : Int) = (j : Int) + 2 + 1 + 1 by omega, show ((4 * (nd - m) : Nat) : Int) = (nd : Int) * 4 - (m : Int) * 4 by omega], rfl⟩
end Go.Proofs.YtighenikjedojaaGreatDoor
