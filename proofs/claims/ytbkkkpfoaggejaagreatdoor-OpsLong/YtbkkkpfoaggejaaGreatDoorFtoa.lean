/- internal/strconv.ftoa64, FormatFloat in the form 'e' with the fewest digits. -/
import Derived.Test.YtbkkkpfoaggejaaGreatDoorFmtAny
import Derived.Test.YtbkkkpfoaggejaaGreatDoorOwn
namespace Go.Proofs.YtbkkkpfoaggejaaGreatDoor
set_option linter.unusedVariables false
open Go.RowKit Fl

@[go_sem] theorem call_sbits (x : Nat) (w : World) : (callFunc 241 #[.float .f64 x]).run Tryz.prog w = .ok (.value (.int .u64 x)) w := by
  rw [run_callFunc_extern (e := Extern.MathFloatBits.float64bits) Tryz.func241 (by kernel_rfl) (by kernel_rfl) (by kernel_rfl) (by kernel_rfl)]
  rfl
theorem and_mask52 (b : Nat) (h : b < 18446744073709551616) : bits .and .u64 (b : Int) 4503599627370495 = ((b % 4503599627370496 : Nat) : Int) := by
  have e := u64_and_nat b 4503599627370495 h (by omega)
  have e2 := Nat.and_two_pow_sub_one_eq_mod b 52
  rw [show 2 ^ 52 - 1 = 4503599627370495 from rfl, show (2 : Nat) ^ 52 = 4503599627370496 from rfl] at e2
  rw [e2] at e
  exact e

set_option maxHeartbeats 2000000 in
set_option maxRecDepth 100000 in
theorem ftoa_den (b B : Nat) (v0 : Value) (w : World) (h0 : 0 < b) (hd : b < 4503599627370496) (o0 : w.ownsRow B 5 1 v0 0 []) (hBw : B ≤ w.heap.size) (HT : Hid (TabP w)) (htab : Hid (Lib.TabIs Tryz.prog w "internal/strconv.uint64pow10" .u64 Lib.pow10Tab)) :
    Calls Tryz.prog 217 #[v0, .float .f64 b, .int .u8 101, .int .i64 (-1)] w fun e w' => ∃ v', e = .returned v' ∧ w'.ownsRow B 5 1 v' (ffT b).length (u8c (ffT b)) ∧ Below B w w' := by
  have f1 : ((b : Int) / 9223372036854775808 != 0) = false := by
    rw [bne_eq_false_iff_eq]; omega
  have f2 : (b : Int) / 4503599627370496 = 0 := by omega
  have f3 : bits .and .i64 0 2047 = 0 := by decide
  have f4 : bits .and .u64 (b : Int) 4503599627370495 = (b : Int) := by
    rw [and_mask52 b (by omega)]
    omega
  have f5 : ((b : Int) == 0) = false := by rw [beq_eq_false_iff_ne]; omega
  obtain ⟨s, hs⟩ : ∃ s, 64 - Lib.bitLen b = s := ⟨_, rfl⟩
  obtain ⟨hM, s1, s2, q1, q3, hdiv, p63⟩ := ffM_low b s h0 hd hs
  have hE : ffE b = -1074 - (s : Int) := by unfold ffE; rw [if_pos hd, hs]
  obtain ⟨a1, a2, a3, a4⟩ := len_bounds b h0 hd
  have HL : Hid ((64 : Int) - (Lib.bitLen b : Nat) = (s : Int)) := by show _ = _; omega
  have hm : IntKind.u64.wrap ((b : Int) * 2 ^ s) = (ffM b : Int) := by
    have e1 : (b : Int) * 2 ^ s = (ffM b : Int) := by rw [hM]; push_cast; rfl
    have e2 : 0 < 2 ^ s := Nat.two_pow_pos _
    rw [e1, IntKind.wrap_u64]
    omega
  have he : -1022 - (s : Int) - 52 = ffE b := by omega
  obtain ⟨⟨r1, r2⟩, r3, r4⟩ := ffS_range b h0 (by omega)
  have HS := Hid.mk' (fun W hW => short_b b W h0 (by omega) hW)
  obtain ⟨d, hdd⟩ : ∃ d : Nat, (ffS b).1 = (d : Int) := ⟨(ffS b).1.toNat, by omega⟩
  obtain ⟨q, hq⟩ : ∃ q : Int, (ffS b).2 = q := ⟨_, rfl⟩
  have HF : Hid (ffT b = fmtN (digL d) ((ndN d : Int) + q - 1)) := by
    show _ = _
    unfold ffT
    rw [hq, hdd]
    rfl
  have hd64 : d < 18446744073709551616 := by omega
  rw [hdd, hq] at HS
  rw [hq] at r3 r4
  obtain ⟨n20, npow⟩ := ndN_lt d hd64
  have NP := Hid.mk' npow
  generalize ffM b = m at *
  generalize ffE b = e at *
  clear hM hE q1 q3 hdiv p63 a1 a2 a3 a4 hs hdd hq r1 r2 npow
  go_enter Tryz.func217, Tryz.ntmps217
  go_wp2_with fail
  go_region
  go_wp2_with fail
  refine (Tryz.bits_Len64 _ _ (by omega) (by omega)).mono ?_
  rintro e1 w1 ⟨rfl, hw1⟩
  rw [hw1, show ((b : Int)).toNat = b by omega]; clear hw1 w1
  have hL := HL.out
  go_wp2_with fail
  clear hL HL
  refine (HS.out _ ?_).mono ?_
  · intro i hi
    exact ⟨(below_new (w := w)).cell (World.block_lt_of_cell? w _ (HT.out i hi).1) |>.trans (HT.out i hi).1, (below_new (w := w)).cell (World.block_lt_of_cell? w _ (HT.out i hi).2) |>.trans (HT.out i hi).2⟩
  rintro e1 w1 ⟨rfl, hb1⟩
  have hbw : Below w.heap.size w w1 := (below_draws below_new 1).trans (hb1.mono (by simp))
  have hz1 : w1.heap[w.heap.size]? = some (.cells zeros32 228 (0, 0)) := (hb1.block w.heap.size (by simp)).trans Array.getElem?_push_size
  have HZ := Hid.mk' hz1
  have HB := Hid.mk' hbw
  clear hb1 hz1 hbw
  go_wp2_with fail
  go_region_with (first | (go_at_call 233; refine (numDigits_any d hd64 _ (Lib.tabBelow_of_tabIs htab.out _ (below_draws HB.out 1))).mono ?_; rintro e1 w2 ⟨rfl, hw2⟩; rw [hw2]; clear hw2 w2) | (go_at_call 246; refine (setDigits_any d (ndN d) w.heap.size q (w1.drewN 1) HZ.out n20 NP.out hd64 ⟨by omega, by omega⟩).mono ?_; rintro e1 w3 ⟨rfl, b3, c3, t3⟩))
  go_wp2_with fail
  have hb3 : Below w.heap.size w w3 := (below_draws HB.out 1).trans b3
  have hl := trimTo_le d (ndN d) (ndN d)
  have hlen := digL_length d
  rw [show max (wrap64 ((trimTo d (ndN d) (ndN d) : Int) - 1)) 0 = ((trimTo d (ndN d) (ndN d) - 1 : Nat) : Int) by unfold wrap64; omega, ← hlen]
  refine (fmtE_any B w.heap.size v0 ((ndN d : Int) + q) w3 (own_below o0 hb3) (Nat.le_trans hBw hb3.size) (digL d) (by omega) (fun c hc => by have := digL_digit d c hc; omega) (fun j hj => ?_) t3 ⟨by omega, by omega⟩).mono ?_
  · rw [c3 j (by omega)]
    simp [digL]
  rintro e1 w4 ⟨v', rfl, o4, k4⟩
  clear hlen hl
  go_wp2
  go_ret
  refine ⟨_, rfl, ?_, (hb3.mono hBw).trans k4.1⟩
  rw [HF.out]
  exact o4
section
open Go.RowKit Fl

theorem or52 (F : Nat) (h : F < 4503599627370496) : F ||| 4503599627370496 = F + 4503599627370496 := by
  have e2 := Nat.two_pow_add_eq_or_of_lt (i := 52) (b := F) h 1
  rw [Nat.or_comm]
  simp only [Nat.mul_one] at e2
  exact e2.symm.trans (Nat.add_comm _ _)

set_option maxHeartbeats 2000000 in
set_option maxRecDepth 100000 in
theorem ftoa_nor (b B : Nat) (v0 : Value) (w : World) (h0 : 0 < b) (hd : ¬ b < 4503599627370496) (h1 : b < 9218868437227405312) (o0 : w.ownsRow B 5 1 v0 0 []) (hBw : B ≤ w.heap.size) (HT : Hid (TabP w)) (htab : Hid (Lib.TabIs Tryz.prog w "internal/strconv.uint64pow10" .u64 Lib.pow10Tab)) :
    Calls Tryz.prog 217 #[v0, .float .f64 b, .int .u8 101, .int .i64 (-1)] w fun e w' => ∃ v', e = .returned v' ∧ w'.ownsRow B 5 1 v' (ffT b).length (u8c (ffT b)) ∧ Below B w w' := by
  obtain ⟨E, hE0⟩ : ∃ E, b / 4503599627370496 = E := ⟨_, rfl⟩
  obtain ⟨F, hF0⟩ : ∃ F, b % 4503599627370496 = F := ⟨_, rfl⟩
  obtain ⟨M, hM0⟩ : ∃ M, F + 4503599627370496 = M := ⟨_, rfl⟩
  have hE1 : 1 ≤ E ∧ E ≤ 2046 := by omega
  have f1 : ((b : Int) / 9223372036854775808 != 0) = false := by
    rw [bne_eq_false_iff_eq]; omega
  have f2 : (b : Int) / 4503599627370496 = (E : Int) := by omega
  have f3 : bits .and .i64 (E : Int) 2047 = (E : Int) := by
    show IntKind.i64.wrap ((BitVec.ofInt 64 (E : Int) &&& BitVec.ofInt 64 ((2047 : Nat) : Int)).toNat : Int) = _
    have e2 := Nat.and_two_pow_sub_one_eq_mod E 11
    rw [show 2 ^ 11 - 1 = 2047 from rfl] at e2
    rw [BitVec.toNat_and, ofInt_u64 _ (by omega), ofInt_u64 _ (by omega), IntKind.wrap_i64, e2]
    omega
  have f4 : bits .and .u64 (b : Int) 4503599627370495 = (F : Int) := by
    rw [and_mask52 b (by omega)]
    omega
  have f6 : bits .or .u64 (F : Int) 4503599627370496 = (M : Int) := by
    have e := u64_or_nat F 4503599627370496 (by omega) (by omega)
    rw [or52 F (by omega), hM0] at e
    exact e
  have f7 : ((E : Int) == 2047) = false := by rw [beq_eq_false_iff_ne]; omega
  have f8 : ((E : Int) == 0) = false := by rw [beq_eq_false_iff_ne]; omega
  have f5 : ((M : Int) == 0) = false := by rw [beq_eq_false_iff_ne]; omega
  have hM : ffM b = M * 2048 := by unfold ffM; rw [if_neg hd, hF0, hM0]
  have hE : ffE b = (E : Int) - 1086 := by unfold ffE; rw [if_neg hd, hE0]
  have hlen : Lib.bitLen M = 53 := by
    obtain ⟨a1, a2, a3⟩ := Lib.bitLenAux_bounds 64 M (by omega) (by omega)
    have a4 := Lib.bitLen_le M 53 (by omega) (by omega)
    have a5 : ¬ Lib.bitLen M ≤ 52 := fun h => by
      have := Nat.pow_le_pow_right (n := 2) (by omega) h
      have a6 : M < 2 ^ Lib.bitLen M := a3
      omega
    omega
  have HL : Hid (Lib.bitLen M = 53) := hlen
  have hm : IntKind.u64.wrap ((M : Int) * 2048) = (ffM b : Int) := by
    rw [IntKind.wrap_u64, hM]
    omega
  have he : (E : Int) - 1086 = ffE b := by omega
  clear hlen
  obtain ⟨⟨r1, r2⟩, r3, r4⟩ := ffS_range b h0 h1
  have HS := Hid.mk' (fun W hW => short_b b W h0 h1 hW)
  obtain ⟨d, hdd⟩ : ∃ d : Nat, (ffS b).1 = (d : Int) := ⟨(ffS b).1.toNat, by omega⟩
  obtain ⟨q, hq⟩ : ∃ q : Int, (ffS b).2 = q := ⟨_, rfl⟩
  have HF : Hid (ffT b = fmtN (digL d) ((ndN d : Int) + q - 1)) := by
    show _ = _
    unfold ffT
    rw [hq, hdd]
    rfl
  have hd64 : d < 18446744073709551616 := by omega
  rw [hdd, hq] at HS
  rw [hq] at r3 r4
  obtain ⟨n20, npow⟩ := ndN_lt d hd64
  have NP := Hid.mk' npow
  generalize ffM b = m at *
  generalize ffE b = e at *
  have hMb : 4503599627370496 ≤ M ∧ M < 9007199254740992 := by omega
  clear hM hE hdd hq r1 r2 npow hE0 hF0 hM0 hd h1 h0
  go_enter Tryz.func217, Tryz.ntmps217
  go_wp2_with fail
  go_region
  go_wp2_with fail
  refine (Tryz.bits_Len64 _ _ (by omega) (by omega)).mono ?_
  rintro e1 w1 ⟨rfl, hw1⟩
  rw [hw1, show ((M : Int)).toNat = M by omega, HL.out]; clear hw1 w1
  go_wp2_with fail
  rw [show (E : Int) + -1023 - 11 - 52 = e by omega]
  refine (HS.out _ ?_).mono ?_
  · intro i hi
    exact ⟨(below_new (w := w)).cell (World.block_lt_of_cell? w _ (HT.out i hi).1) |>.trans (HT.out i hi).1, (below_new (w := w)).cell (World.block_lt_of_cell? w _ (HT.out i hi).2) |>.trans (HT.out i hi).2⟩
  rintro e1 w1 ⟨rfl, hb1⟩
  have hbw : Below w.heap.size w w1 := (below_draws below_new 1).trans (hb1.mono (by simp))
  have hz1 : w1.heap[w.heap.size]? = some (.cells zeros32 228 (0, 0)) := (hb1.block w.heap.size (by simp)).trans Array.getElem?_push_size
  have HZ := Hid.mk' hz1
  have HB := Hid.mk' hbw
  clear hb1 hz1 hbw
  go_wp2_with fail
  go_region_with (first | (go_at_call 233; refine (numDigits_any d hd64 _ (Lib.tabBelow_of_tabIs htab.out _ (below_draws HB.out 1))).mono ?_; rintro e1 w2 ⟨rfl, hw2⟩; rw [hw2]; clear hw2 w2) | (go_at_call 246; refine (setDigits_any d (ndN d) w.heap.size q (w1.drewN 1) HZ.out n20 NP.out hd64 ⟨by omega, by omega⟩).mono ?_; rintro e1 w3 ⟨rfl, b3, c3, t3⟩))
  go_wp2_with fail
  have hb3 : Below w.heap.size w w3 := (below_draws HB.out 1).trans b3
  have hl := trimTo_le d (ndN d) (ndN d)
  have hlen := digL_length d
  rw [show max (wrap64 ((trimTo d (ndN d) (ndN d) : Int) - 1)) 0 = ((trimTo d (ndN d) (ndN d) - 1 : Nat) : Int) by unfold wrap64; omega, ← hlen]
  refine (fmtE_any B w.heap.size v0 ((ndN d : Int) + q) w3 (own_below o0 hb3) (Nat.le_trans hBw hb3.size) (digL d) (by omega) (fun c hc => by have := digL_digit d c hc; omega) (fun j hj => ?_) t3 ⟨by omega, by omega⟩).mono ?_
  · rw [c3 j (by omega)]
    simp [digL]
  rintro e1 w4 ⟨v', rfl, o4, k4⟩
  clear hlen hl
  go_wp2
  go_ret
  refine ⟨_, rfl, ?_, (hb3.mono hBw).trans k4.1⟩
  rw [HF.out]
  exact o4

theorem ftoa_any (b B : Nat) (v0 : Value) (w : World) (h0 : 0 < b) (h1 : b < 9218868437227405312) (o0 : w.ownsRow B 5 1 v0 0 []) (hBw : B ≤ w.heap.size) (hT : TabP w) (htab : Lib.TabIs Tryz.prog w "internal/strconv.uint64pow10" .u64 Lib.pow10Tab) :
    Calls Tryz.prog 217 #[v0, .float .f64 b, .int .u8 101, .int .i64 (-1)] w fun e w' => ∃ v', e = .returned v' ∧ w'.ownsRow B 5 1 v' (ffT b).length (u8c (ffT b)) ∧ Below B w w' := by
  by_cases hd : b < 4503599627370496
  · exact ftoa_den b B v0 w h0 hd o0 hBw hT htab
  · exact ftoa_nor b B v0 w h0 hd h1 o0 hBw hT htab
/-- Bytes as a text. -/
def strN (l : List Nat) : ByteArray := ⟨(l.map Nat.toUInt8).toArray⟩
theorem u8c_bytes (l : List Nat) (h : ∀ c ∈ l, c < 256) : u8c l = Lib.byteCells (l.map Nat.toUInt8) := by
  unfold u8c Lib.byteCells
  rw [List.map_map]
  refine List.map_congr_left fun c hc => ?_
  have := h c hc
  simp
  omega
theorem expN_byte (x : Nat) (h : x < 1000) : ∀ c ∈ expN x, 48 ≤ c ∧ c ≤ 57 := by
  intro c hc
  unfold expN at hc
  split at hc
  · simp at hc; omega
  · split at hc
    · simp at hc; omega
    · simp at hc; omega
theorem expS_byte (X : Int) (h : -1000 < X ∧ X < 1000) : ∃ sg ∈ [43, 45], ∃ x, x < 1000 ∧ expS X = sg :: expN x := by
  unfold expS
  split
  · exact ⟨45, by simp, _, by omega, rfl⟩
  · exact ⟨43, by simp, _, by omega, rfl⟩
theorem expS_lt (X : Int) (h : -1000 < X ∧ X < 1000) : ∀ c ∈ expS X, c < 256 := by
  obtain ⟨sg, hs, x, hx, e⟩ := expS_byte X h
  rw [e]
  intro c hc
  simp at hc hs
  rcases hc with rfl | hc
  · omega
  · have := expN_byte x hx c hc; omega
theorem fmtN_lt (ds : List Nat) (X : Int) (h : -1000 < X ∧ X < 1000) (hd : ∀ c ∈ ds, c < 256) : ∀ c ∈ fmtN ds X, c < 256 := by
  intro c hc
  have h0 := expS_lt 0 (by omega)
  have h1 := expS_lt X h
  unfold fmtN at hc
  split at hc
  · simp at hc
    rcases hc with rfl | rfl | hc
    · omega
    · omega
    · exact h0 c hc
  · simp at hc
    rcases hc with rfl | rfl | hc
    · exact hd _ (by simp)
    · omega
    · exact h1 c hc
  · simp at hc
    rcases hc with rfl | rfl | hc | rfl | hc
    · exact hd _ (by simp)
    · omega
    · exact hd _ (by simp [hc])
    · omega
    · exact h1 c hc
theorem ffT_lt (b : Nat) (h0 : 0 < b) (h1 : b < 9218868437227405312) : ∀ c ∈ ffT b, c < 256 := by
  obtain ⟨⟨r1, r2⟩, r3, r4⟩ := ffS_range b h0 h1
  have := ndN_lt (ffS b).1.toNat (by omega)
  exact fmtN_lt _ _ ⟨by omega, by omega⟩ (fun c hc => by have := digL_digit _ c hc; omega)
end
end Go.Proofs.YtbkkkpfoaggejaaGreatDoor
