/- internal/strconv.formatBits: digits to a base. Written by tools/mkfbt.py. internal/strconv.formatBits: the walk. strconv.FormatInt to any base but 10, strconv.FormatUint to the base 16. -/
import Derived.Test.YtighenikjedojaaGreatDoorNst
import Derived.Test.YtighenikjedojaaGreatDoorFrexp
import Derived.Test.YtighenikjedojaaGreatDoorSb
import Derived.Test.YtighenikjedojaaGreatDoorLaidN
namespace Go.Proofs.YtighenikjedojaaGreatDoor
set_option linter.unusedVariables false
open Go.RowKit Fl

/-- Bytes of numbers. -/
def nb (l : List Nat) : List UInt8 := l.map UInt8.ofNat
theorem nb_length (l : List Nat) : (nb l).length = l.length := by simp [nb]
abbrev H36 : ByteArray := ⟨#[48, 49, 50, 51, 52, 53, 54, 55, 56, 57, 97, 98, 99, 100, 101, 102, 103, 104, 105, 106, 107, 108, 109, 110, 111, 112, 113, 114, 115, 116, 117, 118, 119, 120, 121, 122]⟩
theorem h36_get : ∀ m : Fin 36, H36.data.toList[m.val]? = some (UInt8.ofNat (dgc m.val)) := by decide
theorem dgfact (m : Nat) (hm : m < 36) : ∃ (d : Int) (x : UInt8), (m : Int) = d ∧ 0 ≤ d ∧ d < 36 ∧ UInt8.ofNat (dgc m) = x ∧ (∀ h : d.toNat < H36.size, H36[d.toNat]'h = x) := by
  refine ⟨m, UInt8.ofNat (dgc m), rfl, by omega, by omega, rfl, fun h => ?_⟩
  have h1 := h36_get ⟨m, hm⟩
  have h2 : m < H36.data.toList.length := hm
  simp only [Int.toNat_natCast]
  rw [List.getElem?_eq_getElem h2] at h1
  exact Option.some.inj h1
/-- The buffer, filled from its end. -/
structure FB (w0 wr : World) (acc : List UInt8) : Prop where
  b : Below w0.heap.size w0 wr
  u : wr.heap[w0.heap.size]? = some (.cells (List.replicate (65 - acc.length) (Value.int .u8 0) ++ Lib.byteCells acc).toArray 132 (0, 0))
  le : acc.length ≤ 65
theorem zero65 : Tryz.zeroCells132 = (List.replicate 65 (Value.int .u8 0)).toArray := by kernel_rfl
theorem FB.new (w : World) : FB w (w.alloc (.cells Tryz.zeroCells132 132)) [] :=
  ⟨below_new, by rw [heap_alloc_new, zero65]; simp [Lib.byteCells], by simp⟩
theorem FB.size {w0 wr : World} {acc : List UInt8} (h : FB w0 wr acc) : w0.heap.size < wr.heap.size := (Array.getElem?_eq_some_iff.1 h.u).1
theorem FB.frozen {w0 wr : World} {acc : List UInt8} (h : FB w0 wr acc) (n : Nat) : wr.frozen? ⟨w0.heap.size, n, none⟩ = false := by
  simp [World.frozen?, h.u]
theorem FB.there {w0 wr : World} {acc : List UInt8} (h : FB w0 wr acc) (n : Nat) (hn : n < 65) : ∃ v, wr.cell? ⟨w0.heap.size, n, none⟩ = some v := by
  have hlen : n < (List.replicate (65 - acc.length) (Value.int .u8 0) ++ Lib.byteCells acc).length := by
    rw [List.length_append, List.length_replicate, Lib.byteCells_length]; have := h.le; omega
  exact ⟨_, by rw [cell_of_row _ _ _ _ _ _ h.u, List.getElem?_toArray, List.getElem?_eq_getElem hlen]⟩
theorem FB.put {w0 wr : World} {acc : List UInt8} (h : FB w0 wr acc) (z : Nat) (hz : z + 1 + acc.length = 65) (x : UInt8) : FB w0 (wr.setCell ⟨w0.heap.size, z, none⟩ (.int .u8 (x.toNat : Int))) (x :: acc) := by
  refine ⟨h.b.setCell (p := ⟨w0.heap.size, z, none⟩) (Nat.le_refl _) _, ?_, by rw [List.length_cons]; omega⟩
  have e1 : 65 - acc.length = z + 1 := by omega
  have e2 : 65 - (x :: acc).length = z := by rw [List.length_cons]; omega
  have hu := h.u
  rw [e1] at hu
  rw [e2]
  simp only [World.setCell, Array.getElem?_modify, hu, if_pos]
  simp only [Option.map_some, Option.some.injEq, Obj.cells.injEq, and_true]
  refine Array.ext' ?_
  rw [if_neg (by simp), Array.toList_setIfInBounds]
  simp only [List.replicate_succ', List.append_assoc, List.singleton_append]
  rw [List.set_append_right _ _ (by simp), List.length_replicate, Nat.sub_self, List.set_cons_zero]
  simp [Lib.byteCells]
theorem FB.cell {w0 wr : World} {acc : List UInt8} (h : FB w0 wr acc) (z : Nat) (hz : z + acc.length = 65) (j : Nat) (hj : j < acc.length) : wr.cell? ⟨w0.heap.size, z + j, none⟩ = some (.int .u8 (acc[j].toNat : Int)) := by
  have e1 : 65 - acc.length = z := by omega
  rw [cell_of_row _ _ _ _ _ _ h.u, e1, List.getElem?_toArray, List.getElem?_append_right (by simp), List.length_replicate, Nat.add_sub_cancel_left]
  simp [Lib.byteCells, hj]
theorem FB.conv {w0 wr : World} {acc : List UInt8} (h : FB w0 wr acc) (z : Nat) (hz : z + acc.length = 65) (cap : Nat) : (convert 71 9 (.slice (some ⟨w0.heap.size, z, none⟩) acc.length cap)).run Tryz.prog wr = .ok (.string (Sb acc)) wr :=
  run_convert_bytes_back (P := Tryz.prog) wr 71 9 5 ⟨w0.heap.size, z, none⟩ cap acc Tryz.underlying71 Tryz.underlying5 Tryz.underlying9 (fun j hj => by
    rw [show (({ block := w0.heap.size, off := z } : Addr).add j) = ⟨w0.heap.size, z + j, none⟩ by simp [Addr.add]]
    exact h.cell z hz j hj)
theorem al65 : Tryz.prog.arrayLen 132 = 65 := by kernel_rfl
theorem el65 : Tryz.prog.elem 132 = 5 := by kernel_rfl
theorem slice65 (g z : Nat) (hz : z < 65) (W : World) : (Instr.sliceAt 132 (.pointer (some ⟨g, 0, none⟩)) (some (.int .i64 (z : Nat))) none none).run Tryz.prog W = .ok (.slice (some ⟨g, z, none⟩) (65 - z) (65 - z)) W := by
  rw [run_sliceAt_array_l W 132 ⟨g, 0, none⟩ (by kernel_rfl) .i64 (z : Nat) (by omega) (by rw [al65]; omega), al65, el65]
  go_simp
  intro h; omega
theorem div_lt_pow (u b k : Nat) (hb : 2 ≤ b) (h : u < 2 ^ (k + 1)) : u / b < 2 ^ k := by
  rw [Nat.div_lt_iff_lt_mul (by omega)]
  have := Nat.mul_le_mul_left (2 ^ k) hb
  rw [Nat.pow_succ] at h
  omega
/-- A state of the loop: what is left, what is written. -/
structure FDg (b u : Nat) (acc D : List Nat) : Prop where
  k : acc.length ≤ 63
  lt : u < 2 ^ (64 - acc.length)
  eq : fdsF (64 - acc.length) b u acc = D
theorem FDg.start (b u : Nat) (hu : u < 18446744073709551616) : FDg b u [] (fds b u) := ⟨by simp, by simpa using hu, rfl⟩
theorem FDg.step {b u : Nat} {acc D : List Nat} (h : FDg b u acc D) (hb : 2 ≤ b) (hu : ¬ u < b) : acc.length ≤ 62 ∧ FDg b (u / b) (dgc (u % b) :: acc) D := by
  have h1 := h.lt
  have hk : acc.length ≤ 62 := by
    rcases Nat.lt_or_ge 62 acc.length with q | q
    · rw [show 64 - acc.length = 1 by have := h.k; omega] at h1
      omega
    · exact q
  obtain ⟨f, hf⟩ : ∃ f, 64 - acc.length = f + 1 := ⟨63 - acc.length, by omega⟩
  have h3 := h.eq
  rw [hf] at h1 h3
  refine ⟨hk, ⟨by rw [List.length_cons]; omega, ?_, ?_⟩⟩
  · rw [List.length_cons, show 64 - (acc.length + 1) = f by omega]; exact div_lt_pow u b f hb h1
  · rw [List.length_cons, show 64 - (acc.length + 1) = f by omega, ← h3, fdsF, if_neg hu]
theorem FDg.last {b u : Nat} {acc D : List Nat} (h : FDg b u acc D) (hu : u < b) : dgc u :: acc = D := by
  have h3 := h.eq
  obtain ⟨f, hf⟩ : ∃ f, 64 - acc.length = f + 1 := ⟨63 - acc.length, by have := h.k; omega⟩
  rw [hf, fdsF, if_pos hu] at h3
  exact h3
theorem FDg.u64 {b u : Nat} {acc D : List Nat} (h : FDg b u acc D) : u < 18446744073709551616 := Nat.lt_of_lt_of_le h.lt (show 2 ^ (64 - acc.length) ≤ 2 ^ 64 from Nat.pow_le_pow_right (by omega) (by omega))
/-- The table by which noughts at the end are counted, where it is read. -/
def TZ (w : World) : Prop := ∀ k : Nat, 1 ≤ k → k ≤ 5 → w.cell? ⟨6, 2 ^ k - 1, none⟩ = some (.int .u8 (k : Nat))
theorem TZ.below {w w' : World} (h : TZ w) (hb : Below w.heap.size w w') : TZ w' := fun k h1 h2 => by
  have hv := h k h1 h2
  exact (hb.cell (World.block_lt_of_cell? w _ hv)).trans hv
set_option maxHeartbeats 1000000 in
set_option maxRecDepth 100000 in
theorem tz1 (w : World) (h : TZ w) : Calls Tryz.prog 117 #[.int .u64 2] w fun e w' => e = .returned (.int .i64 1) ∧ w' = w := by
  have hc := h 1 (by omega) (by omega)
  rw [show 2 ^ 1 - 1 = 1 from rfl] at hc
  have e1 : bits .and .u64 2 (IntKind.u64.wrap (-2)) = 2 := by decide
  have HT : Hid (∀ W, W = w → Calls Tryz.prog 148 #[.int .u64 2] W fun e w' => e = .returned (.int .i64 1) ∧ w' = W) := by
    rintro W rfl
    go_enter Tryz.func148, Tryz.ntmps148
    go_wp2
    go_ret
    exact ⟨rfl, rfl⟩
  clear hc h
  go_enter Tryz.func117, Tryz.ntmps117
  go_wp2_with (go_at_call 148; refine (HT.out _ rfl).mono ?_; rintro e w1 ⟨rfl, hw1⟩; rw [hw1]; clear hw1 w1)
  go_ret
  exact ⟨rfl, rfl⟩
set_option maxHeartbeats 1000000 in
set_option maxRecDepth 100000 in
theorem tz2 (w : World) (h : TZ w) : Calls Tryz.prog 117 #[.int .u64 4] w fun e w' => e = .returned (.int .i64 2) ∧ w' = w := by
  have hc := h 2 (by omega) (by omega)
  rw [show 2 ^ 2 - 1 = 3 from rfl] at hc
  have e1 : bits .and .u64 4 (IntKind.u64.wrap (-4)) = 4 := by decide
  have HT : Hid (∀ W, W = w → Calls Tryz.prog 148 #[.int .u64 4] W fun e w' => e = .returned (.int .i64 2) ∧ w' = W) := by
    rintro W rfl
    go_enter Tryz.func148, Tryz.ntmps148
    go_wp2
    go_ret
    exact ⟨rfl, rfl⟩
  clear hc h
  go_enter Tryz.func117, Tryz.ntmps117
  go_wp2_with (go_at_call 148; refine (HT.out _ rfl).mono ?_; rintro e w1 ⟨rfl, hw1⟩; rw [hw1]; clear hw1 w1)
  go_ret
  exact ⟨rfl, rfl⟩
set_option maxHeartbeats 1000000 in
set_option maxRecDepth 100000 in
theorem tz3 (w : World) (h : TZ w) : Calls Tryz.prog 117 #[.int .u64 8] w fun e w' => e = .returned (.int .i64 3) ∧ w' = w := by
  have hc := h 3 (by omega) (by omega)
  rw [show 2 ^ 3 - 1 = 7 from rfl] at hc
  have e1 : bits .and .u64 8 (IntKind.u64.wrap (-8)) = 8 := by decide
  have HT : Hid (∀ W, W = w → Calls Tryz.prog 148 #[.int .u64 8] W fun e w' => e = .returned (.int .i64 3) ∧ w' = W) := by
    rintro W rfl
    go_enter Tryz.func148, Tryz.ntmps148
    go_wp2
    go_ret
    exact ⟨rfl, rfl⟩
  clear hc h
  go_enter Tryz.func117, Tryz.ntmps117
  go_wp2_with (go_at_call 148; refine (HT.out _ rfl).mono ?_; rintro e w1 ⟨rfl, hw1⟩; rw [hw1]; clear hw1 w1)
  go_ret
  exact ⟨rfl, rfl⟩
set_option maxHeartbeats 1000000 in
set_option maxRecDepth 100000 in
theorem tz4 (w : World) (h : TZ w) : Calls Tryz.prog 117 #[.int .u64 16] w fun e w' => e = .returned (.int .i64 4) ∧ w' = w := by
  have hc := h 4 (by omega) (by omega)
  rw [show 2 ^ 4 - 1 = 15 from rfl] at hc
  have e1 : bits .and .u64 16 (IntKind.u64.wrap (-16)) = 16 := by decide
  have HT : Hid (∀ W, W = w → Calls Tryz.prog 148 #[.int .u64 16] W fun e w' => e = .returned (.int .i64 4) ∧ w' = W) := by
    rintro W rfl
    go_enter Tryz.func148, Tryz.ntmps148
    go_wp2
    go_ret
    exact ⟨rfl, rfl⟩
  clear hc h
  go_enter Tryz.func117, Tryz.ntmps117
  go_wp2_with (go_at_call 148; refine (HT.out _ rfl).mono ?_; rintro e w1 ⟨rfl, hw1⟩; rw [hw1]; clear hw1 w1)
  go_ret
  exact ⟨rfl, rfl⟩
set_option maxHeartbeats 1000000 in
set_option maxRecDepth 100000 in
theorem tz5 (w : World) (h : TZ w) : Calls Tryz.prog 117 #[.int .u64 32] w fun e w' => e = .returned (.int .i64 5) ∧ w' = w := by
  have hc := h 5 (by omega) (by omega)
  rw [show 2 ^ 5 - 1 = 31 from rfl] at hc
  have e1 : bits .and .u64 32 (IntKind.u64.wrap (-32)) = 32 := by decide
  have HT : Hid (∀ W, W = w → Calls Tryz.prog 148 #[.int .u64 32] W fun e w' => e = .returned (.int .i64 5) ∧ w' = W) := by
    rintro W rfl
    go_enter Tryz.func148, Tryz.ntmps148
    go_wp2
    go_ret
    exact ⟨rfl, rfl⟩
  clear hc h
  go_enter Tryz.func117, Tryz.ntmps117
  go_wp2_with (go_at_call 148; refine (HT.out _ rfl).mono ?_; rintro e w1 ⟨rfl, hw1⟩; rw [hw1]; clear hw1 w1)
  go_ret
  exact ⟨rfl, rfl⟩
end Go.Proofs.YtighenikjedojaaGreatDoor

namespace Go.Proofs.YtighenikjedojaaGreatDoor
set_option linter.unusedVariables false
open Go.RowKit Fl

set_option maxHeartbeats 4000000 in
set_option maxRecDepth 100000 in
theorem fbits_gen (u b : Nat) (w : World) (hu : u < 18446744073709551616) (hb : 2 ≤ b ∧ b ≤ 36) (h10 : b ≠ 10)
    (HP : Hid (∀ W, Calls Tryz.prog 116 #[.int .i64 b] W fun e w' => e = .returned (.bool false) ∧ w' = W)) :
    Calls Tryz.prog 83 #[.slice none 0 0, .int .u64 u, .int .i64 b, .bool false, .bool false] w fun e w' => e = .returned (.tuple #[.slice none 0 0, .string (Sb (nb (fds b u)))]) ∧ Below w.heap.size w w' := by
  obtain ⟨D, hD⟩ : ∃ D, fds b u = D := ⟨_, rfl⟩
  have HS := Hid.mk' (FDg.start b u hu)
  rw [hD] at HS ⊢
  have HF := Hid.mk' (FB.new w)
  have hb1 : (2 : Int) ≤ b := by omega
  have hb2 : (b : Int) ≤ 36 := by omega
  have hb3 : ((b : Int) == 10) = false := by rw [beq_eq_false_iff_ne]; omega
  have hwb : IntKind.u64.wrap (b : Int) = (b : Int) := by rw [IntKind.wrap_u64]; omega
  have hal := al65
  clear hD h10
  go_enter Tryz.func83, Tryz.ntmps83
  go_wp2_with (go_at_call 116; refine (HP.out _).mono ?_; rintro e w1 ⟨rfl, hw1⟩; rw [hw1]; clear hw1 w1)
  go_loopw [1, 13] (fun uv iv wr => ∃ (x z : Nat) (acc : List Nat), uv = .int .u64 (x : Nat) ∧ iv = .int .i64 (z : Nat) ∧ z + acc.length = 65 ∧ Hid (FDg b x acc D) ∧ Hid (FB w wr (nb acc))) (fun uv _ _ => (intOf uv).toNat)
  case atStart => exact ⟨u, 65, [], rfl, rfl, rfl, HS, HF⟩
  case round =>
    obtain ⟨x, z, acc, rfl, rfl, hz, HS1, HF1⟩ := hrel
    have hx64 := HS1.out.u64
    by_cases hlt : x < b
    · obtain ⟨z, rfl⟩ : ∃ y, z = y + 1 := ⟨z - 1, by have := HS1.out.k; omega⟩
      have hzlt : z < 65 := by omega
      have hlast := HS1.out.last hlt
      obtain ⟨d, y, hd, hd0, hd1, hy, hH⟩ := dgfact x (by omega)
      have hlt' : d < (b : Int) := by omega
      have hfr := HF1.out.frozen z
      obtain ⟨v0, hth⟩ := HF1.out.there z hzlt
      have HF2 := Hid.mk' (HF1.out.put z (by rw [nb_length]; omega) y)
      rw [← hy, show UInt8.ofNat (dgc x) :: nb acc = nb D by rw [← hlast]; rfl] at HF2
      rw [hy] at HF2
      have hcv := HF2.out.conv z (by rw [nb_length, ← hlast, List.length_cons]; omega) (65 - z)
      have hsl := slice65 w.heap.size z hzlt
      rw [show (nb D).length = 65 - z by rw [nb_length, ← hlast, List.length_cons]; omega] at hcv
      rw [hd]
      clear hlast hd hy
      go_wp2
      go_ret2
      exact ⟨rfl, HF2.out.b⟩
    · obtain ⟨hk, hst⟩ := HS1.out.step hb.1 hlt
      obtain ⟨z, rfl⟩ : ∃ y, z = y + 1 := ⟨z - 1, by omega⟩
      have hzlt : z < 65 := by omega
      have hmod : x % b < b := Nat.mod_lt _ (by omega)
      obtain ⟨d, y, hd, hd0, hd1, hy, hH⟩ := dgfact (x % b) (by omega)
      have hdm := Nat.div_add_mod x b
      obtain ⟨q, hq⟩ : ∃ q, x / b = q := ⟨_, rfl⟩
      have hqx : q < x := by rw [← hq]; exact Nat.div_lt_self (by omega) (by omega)
      rw [hq] at hst hdm
      obtain ⟨P, hP⟩ : ∃ P, b * q = P := ⟨_, rfl⟩
      rw [hP] at hdm
      have hlt' : ¬ (x : Int) < (b : Int) := by omega
      have hq1 : (x : Int) / (b : Int) = (q : Int) := by rw [← hq]; rfl
      have hm1 : IntKind.u64.wrap ((q : Int) * (b : Int)) = (P : Int) := by
        rw [show (q : Int) * (b : Int) = ((P : Nat) : Int) by rw [← hP, Int.natCast_mul, Int.mul_comm], IntKind.wrap_u64]; omega
      have hm2 : IntKind.u64.wrap ((x : Int) - (P : Int)) = d := by rw [IntKind.wrap_u64]; omega
      have hfr := HF1.out.frozen z
      obtain ⟨v0, hth⟩ := HF1.out.there z hzlt
      have HF2 := Hid.mk' (HF1.out.put z (by rw [nb_length]; omega) y)
      have HN : Hid (nb (dgc (x % b) :: acc) = y :: nb acc) := by show _ = _; rw [← hy]; rfl
      rw [← HN.out] at HF2
      have HS2 := Hid.mk' hst
      have hlen : z + (dgc (x % b) :: acc).length = 65 := by rw [List.length_cons]; omega
      generalize dgc (x % b) :: acc = acc2 at *
      clear hst hdm hP hq hd hy hmod
      go_wp2
      go_roundw
      case rel => exact ⟨q, z, acc2, rfl, by go_num, hlen, HS2, HF2⟩
      case measure => simp [intOf]; omega
set_option maxHeartbeats 4000000 in
set_option maxRecDepth 100000 in
theorem fbits_gen_neg (U : Int) (u b : Nat) (w : World) (hU : IntKind.u64.wrap (-U) = (u : Int)) (hu : u < 18446744073709551616) (hb : 2 ≤ b ∧ b ≤ 36) (h10 : b ≠ 10)
    (HP : Hid (∀ W, Calls Tryz.prog 116 #[.int .i64 b] W fun e w' => e = .returned (.bool false) ∧ w' = W)) :
    Calls Tryz.prog 83 #[.slice none 0 0, .int .u64 U, .int .i64 b, .bool true, .bool false] w fun e w' => e = .returned (.tuple #[.slice none 0 0, .string (Sb (nb (45 :: fds b u)))]) ∧ Below w.heap.size w w' := by
  obtain ⟨D, hD⟩ : ∃ D, fds b u = D := ⟨_, rfl⟩
  have HS := Hid.mk' (FDg.start b u hu)
  rw [hD] at HS ⊢
  have HF := Hid.mk' (FB.new w)
  have hb1 : (2 : Int) ≤ b := by omega
  have hb2 : (b : Int) ≤ 36 := by omega
  have hb3 : ((b : Int) == 10) = false := by rw [beq_eq_false_iff_ne]; omega
  have hwb : IntKind.u64.wrap (b : Int) = (b : Int) := by rw [IntKind.wrap_u64]; omega
  have hal := al65
  clear hD h10
  go_enter Tryz.func83, Tryz.ntmps83
  go_wp2_with (go_at_call 116; refine (HP.out _).mono ?_; rintro e w1 ⟨rfl, hw1⟩; rw [hw1]; clear hw1 w1)
  go_loopw [1, 13] (fun uv iv wr => ∃ (x z : Nat) (acc : List Nat), uv = .int .u64 (x : Nat) ∧ iv = .int .i64 (z : Nat) ∧ z + acc.length = 65 ∧ Hid (FDg b x acc D) ∧ Hid (FB w wr (nb acc))) (fun uv _ _ => (intOf uv).toNat)
  case atStart => exact ⟨u, 65, [], rfl, rfl, rfl, HS, HF⟩
  case round =>
    obtain ⟨x, z, acc, rfl, rfl, hz, HS1, HF1⟩ := hrel
    have hx64 := HS1.out.u64
    by_cases hlt : x < b
    · obtain ⟨z, rfl⟩ : ∃ y, z = y + 2 := ⟨z - 2, by have := HS1.out.k; omega⟩
      have hzlt : z < 65 := by omega
      have hlast := HS1.out.last hlt
      obtain ⟨d, y, hd, hd0, hd1, hy, hH⟩ := dgfact x (by omega)
      have hlt' : d < (b : Int) := by omega
      have hfr := HF1.out.frozen (z + 1)
      obtain ⟨v0, hth⟩ := HF1.out.there (z + 1) (by omega)
      have HF2 := Hid.mk' (HF1.out.put (z + 1) (by rw [nb_length]; omega) y)
      rw [← hy, show UInt8.ofNat (dgc x) :: nb acc = nb D by rw [← hlast]; rfl] at HF2
      rw [hy] at HF2
      have hlD : D.length + z + 1 = 65 := by rw [← hlast, List.length_cons]; omega
      have hfr2 := HF2.out.frozen z
      obtain ⟨v1, hth2⟩ := HF2.out.there z (by omega)
      have HF2 : Hid (FB w ((wr.setCell ⟨w.heap.size, z + 1, none⟩ (.int .u8 (y.toNat : Int))).setCell ⟨w.heap.size, z, none⟩ (.int .u8 45)) (45 :: nb D)) := HF2.out.put z (by rw [nb_length]; omega) 45
      rw [show 45 :: nb D = nb (45 :: D) from rfl] at HF2
      have hcv := HF2.out.conv z (by rw [nb_length, List.length_cons]; omega) (65 - z)
      have hsl : ∀ W, (Instr.sliceAt 132 (.pointer (some ⟨w.heap.size, 0, none⟩)) (some (.int .i64 ((z : Int) + 2 - 1 - 1))) none none).run Tryz.prog W = .ok (.slice (some ⟨w.heap.size, z, none⟩) (65 - z) (65 - z)) W := fun W => by
        rw [show (z : Int) + 2 - 1 - 1 = ((z : Nat) : Int) by omega]
        exact slice65 w.heap.size z hzlt W
      rw [show (nb (45 :: D)).length = 65 - z by rw [nb_length, List.length_cons]; omega] at hcv
      rw [hd]
      clear hlast hd hy
      go_wp2
      go_ret2
      exact ⟨rfl, HF2.out.b⟩
    · obtain ⟨hk, hst⟩ := HS1.out.step hb.1 hlt
      obtain ⟨z, rfl⟩ : ∃ y, z = y + 1 := ⟨z - 1, by omega⟩
      have hzlt : z < 65 := by omega
      have hmod : x % b < b := Nat.mod_lt _ (by omega)
      obtain ⟨d, y, hd, hd0, hd1, hy, hH⟩ := dgfact (x % b) (by omega)
      have hdm := Nat.div_add_mod x b
      obtain ⟨q, hq⟩ : ∃ q, x / b = q := ⟨_, rfl⟩
      have hqx : q < x := by rw [← hq]; exact Nat.div_lt_self (by omega) (by omega)
      rw [hq] at hst hdm
      obtain ⟨P, hP⟩ : ∃ P, b * q = P := ⟨_, rfl⟩
      rw [hP] at hdm
      have hlt' : ¬ (x : Int) < (b : Int) := by omega
      have hq1 : (x : Int) / (b : Int) = (q : Int) := by rw [← hq]; rfl
      have hm1 : IntKind.u64.wrap ((q : Int) * (b : Int)) = (P : Int) := by
        rw [show (q : Int) * (b : Int) = ((P : Nat) : Int) by rw [← hP, Int.natCast_mul, Int.mul_comm], IntKind.wrap_u64]; omega
      have hm2 : IntKind.u64.wrap ((x : Int) - (P : Int)) = d := by rw [IntKind.wrap_u64]; omega
      have hfr := HF1.out.frozen z
      obtain ⟨v0, hth⟩ := HF1.out.there z hzlt
      have HF2 := Hid.mk' (HF1.out.put z (by rw [nb_length]; omega) y)
      have HN : Hid (nb (dgc (x % b) :: acc) = y :: nb acc) := by show _ = _; rw [← hy]; rfl
      rw [← HN.out] at HF2
      have HS2 := Hid.mk' hst
      have hlen : z + (dgc (x % b) :: acc).length = 65 := by rw [List.length_cons]; omega
      generalize dgc (x % b) :: acc = acc2 at *
      clear hst hdm hP hq hd hy hmod
      go_wp2
      go_roundw
      case rel => exact ⟨q, z, acc2, rfl, by go_num, hlen, HS2, HF2⟩
      case measure => simp [intOf]; omega
set_option maxHeartbeats 4000000 in
set_option maxRecDepth 100000 in
theorem fbits_pow (u b k : Nat) (w : World) (hu : u < 18446744073709551616) (hb : 2 ≤ b ∧ b ≤ 36) (h10 : b ≠ 10)
    (hbk : b = 2 ^ k) (htz : TZ w) (HT : Hid (∀ W, TZ W → Calls Tryz.prog 117 #[.int .u64 b] W fun e w' => e = .returned (.int .i64 (k : Nat)) ∧ w' = W)) (HP : Hid (∀ W, Calls Tryz.prog 116 #[.int .i64 b] W fun e w' => e = .returned (.bool true) ∧ w' = W)) :
    Calls Tryz.prog 83 #[.slice none 0 0, .int .u64 u, .int .i64 b, .bool false, .bool false] w fun e w' => e = .returned (.tuple #[.slice none 0 0, .string (Sb (nb (fds b u)))]) ∧ Below w.heap.size w w' := by
  obtain ⟨D, hD⟩ : ∃ D, fds b u = D := ⟨_, rfl⟩
  have HS := Hid.mk' (FDg.start b u hu)
  rw [hD] at HS ⊢
  have HF := Hid.mk' (FB.new w)
  have hb1 : (2 : Int) ≤ b := by omega
  have hb2 : (b : Int) ≤ 36 := by omega
  have hb3 : ((b : Int) == 10) = false := by rw [beq_eq_false_iff_ne]; omega
  have hwb : IntKind.u64.wrap (b : Int) = (b : Int) := by rw [IntKind.wrap_u64]; omega
  have hal := al65
  have HT2 := Hid.mk' (HT.out _ (htz.below (below_new (o := .cells Tryz.zeroCells132 132))))
  have hk5 : k ≤ 5 := by
    rcases Nat.lt_or_ge 5 k with q | q
    · have := Nat.pow_le_pow_right (show 0 < 2 by omega) (show 6 ≤ k by omega)
      omega
    · exact q
  have hwk : IntKind.u64.wrap (k : Int) = (k : Int) := by rw [IntKind.wrap_u64]; omega
  have hwm : IntKind.u64.wrap ((b : Int) - 1) = ((b - 1 : Nat) : Int) := by rw [IntKind.wrap_u64]; omega
  obtain ⟨bm, hbm⟩ : ∃ bm, b - 1 = bm := ⟨_, rfl⟩
  rw [hbm] at hwm
  have HBM := Hid.mk' hbm
  have HBK := Hid.mk' hbk
  clear hbm hbk htz
  clear hD h10
  go_enter Tryz.func83, Tryz.ntmps83
  go_wp2_with (first | (go_at_call 116; refine (HP.out _).mono ?_; rintro e w1 ⟨rfl, hw1⟩; rw [hw1]; clear hw1 w1) | (go_at_call 117; refine HT2.out.mono ?_; rintro e w1 ⟨rfl, hw1⟩; rw [hw1]; clear hw1 w1))
  go_loopw [1, 13] (fun uv iv wr => ∃ (x z : Nat) (acc : List Nat), uv = .int .u64 (x : Nat) ∧ iv = .int .i64 (z : Nat) ∧ z + acc.length = 65 ∧ Hid (FDg b x acc D) ∧ Hid (FB w wr (nb acc))) (fun uv _ _ => (intOf uv).toNat)
  case atStart => exact ⟨u, 65, [], rfl, rfl, rfl, HS, HF⟩
  case round =>
    obtain ⟨x, z, acc, rfl, rfl, hz, HS1, HF1⟩ := hrel
    have hx64 := HS1.out.u64
    by_cases hlt : x < b
    · obtain ⟨z, rfl⟩ : ∃ y, z = y + 1 := ⟨z - 1, by have := HS1.out.k; omega⟩
      have hzlt : z < 65 := by omega
      have hlast := HS1.out.last hlt
      obtain ⟨d, y, hd, hd0, hd1, hy, hH⟩ := dgfact x (by omega)
      have hlt' : d < (b : Int) := by omega
      have hfr := HF1.out.frozen z
      obtain ⟨v0, hth⟩ := HF1.out.there z hzlt
      have HF2 := Hid.mk' (HF1.out.put z (by rw [nb_length]; omega) y)
      rw [← hy, show UInt8.ofNat (dgc x) :: nb acc = nb D by rw [← hlast]; rfl] at HF2
      rw [hy] at HF2
      have hcv := HF2.out.conv z (by rw [nb_length, ← hlast, List.length_cons]; omega) (65 - z)
      have hsl := slice65 w.heap.size z hzlt
      rw [show (nb D).length = 65 - z by rw [nb_length, ← hlast, List.length_cons]; omega] at hcv
      rw [hd]
      clear hlast hd hy
      go_wp2
      go_ret2
      exact ⟨rfl, HF2.out.b⟩
    · obtain ⟨hk, hst⟩ := HS1.out.step hb.1 hlt
      obtain ⟨z, rfl⟩ : ∃ y, z = y + 1 := ⟨z - 1, by omega⟩
      have hzlt : z < 65 := by omega
      have hmod : x % b < b := Nat.mod_lt _ (by omega)
      obtain ⟨d, y, hd, hd0, hd1, hy, hH⟩ := dgfact (x % b) (by omega)
      have hdm := Nat.div_add_mod x b
      obtain ⟨q, hq⟩ : ∃ q, x / b = q := ⟨_, rfl⟩
      have hqx : q < x := by rw [← hq]; exact Nat.div_lt_self (by omega) (by omega)
      rw [hq] at hst hdm
      have hlt' : ¬ (x : Int) < (b : Int) := by omega
      have hq1 : (x : Int) / 2 ^ k = (q : Int) := by rw [← hq, HBK.out, Int.natCast_ediv, Int.natCast_pow]; rfl
      have hm2 : bits .and .u64 (x : Int) (bm : Int) = d := by
        rw [u64_and_nat x bm hx64 (by have := HBM.out; omega), ← hd, ← HBM.out, HBK.out, Nat.and_two_pow_sub_one_eq_mod]
      have hdm2 := hdm
      have hfr := HF1.out.frozen z
      obtain ⟨v0, hth⟩ := HF1.out.there z hzlt
      have HF2 := Hid.mk' (HF1.out.put z (by rw [nb_length]; omega) y)
      have HN : Hid (nb (dgc (x % b) :: acc) = y :: nb acc) := by show _ = _; rw [← hy]; rfl
      rw [← HN.out] at HF2
      have HS2 := Hid.mk' hst
      have hlen : z + (dgc (x % b) :: acc).length = 65 := by rw [List.length_cons]; omega
      generalize dgc (x % b) :: acc = acc2 at *
      clear hst hdm hdm2 hq hd hy hmod
      go_wp2
      go_roundw
      case rel => exact ⟨q, z, acc2, rfl, by go_num, hlen, HS2, HF2⟩
      case measure => simp [intOf]; omega
set_option maxHeartbeats 4000000 in
set_option maxRecDepth 100000 in
theorem fbits_pow_neg (U : Int) (u b k : Nat) (w : World) (hU : IntKind.u64.wrap (-U) = (u : Int)) (hu : u < 18446744073709551616) (hb : 2 ≤ b ∧ b ≤ 36) (h10 : b ≠ 10)
    (hbk : b = 2 ^ k) (htz : TZ w) (HT : Hid (∀ W, TZ W → Calls Tryz.prog 117 #[.int .u64 b] W fun e w' => e = .returned (.int .i64 (k : Nat)) ∧ w' = W)) (HP : Hid (∀ W, Calls Tryz.prog 116 #[.int .i64 b] W fun e w' => e = .returned (.bool true) ∧ w' = W)) :
    Calls Tryz.prog 83 #[.slice none 0 0, .int .u64 U, .int .i64 b, .bool true, .bool false] w fun e w' => e = .returned (.tuple #[.slice none 0 0, .string (Sb (nb (45 :: fds b u)))]) ∧ Below w.heap.size w w' := by
  obtain ⟨D, hD⟩ : ∃ D, fds b u = D := ⟨_, rfl⟩
  have HS := Hid.mk' (FDg.start b u hu)
  rw [hD] at HS ⊢
  have HF := Hid.mk' (FB.new w)
  have hb1 : (2 : Int) ≤ b := by omega
  have hb2 : (b : Int) ≤ 36 := by omega
  have hb3 : ((b : Int) == 10) = false := by rw [beq_eq_false_iff_ne]; omega
  have hwb : IntKind.u64.wrap (b : Int) = (b : Int) := by rw [IntKind.wrap_u64]; omega
  have hal := al65
  have HT2 := Hid.mk' (HT.out _ (htz.below (below_new (o := .cells Tryz.zeroCells132 132))))
  have hk5 : k ≤ 5 := by
    rcases Nat.lt_or_ge 5 k with q | q
    · have := Nat.pow_le_pow_right (show 0 < 2 by omega) (show 6 ≤ k by omega)
      omega
    · exact q
  have hwk : IntKind.u64.wrap (k : Int) = (k : Int) := by rw [IntKind.wrap_u64]; omega
  have hwm : IntKind.u64.wrap ((b : Int) - 1) = ((b - 1 : Nat) : Int) := by rw [IntKind.wrap_u64]; omega
  obtain ⟨bm, hbm⟩ : ∃ bm, b - 1 = bm := ⟨_, rfl⟩
  rw [hbm] at hwm
  have HBM := Hid.mk' hbm
  have HBK := Hid.mk' hbk
  clear hbm hbk htz
  clear hD h10
  go_enter Tryz.func83, Tryz.ntmps83
  go_wp2_with (first | (go_at_call 116; refine (HP.out _).mono ?_; rintro e w1 ⟨rfl, hw1⟩; rw [hw1]; clear hw1 w1) | (go_at_call 117; refine HT2.out.mono ?_; rintro e w1 ⟨rfl, hw1⟩; rw [hw1]; clear hw1 w1))
  go_loopw [1, 13] (fun uv iv wr => ∃ (x z : Nat) (acc : List Nat), uv = .int .u64 (x : Nat) ∧ iv = .int .i64 (z : Nat) ∧ z + acc.length = 65 ∧ Hid (FDg b x acc D) ∧ Hid (FB w wr (nb acc))) (fun uv _ _ => (intOf uv).toNat)
  case atStart => exact ⟨u, 65, [], rfl, rfl, rfl, HS, HF⟩
  case round =>
    obtain ⟨x, z, acc, rfl, rfl, hz, HS1, HF1⟩ := hrel
    have hx64 := HS1.out.u64
    by_cases hlt : x < b
    · obtain ⟨z, rfl⟩ : ∃ y, z = y + 2 := ⟨z - 2, by have := HS1.out.k; omega⟩
      have hzlt : z < 65 := by omega
      have hlast := HS1.out.last hlt
      obtain ⟨d, y, hd, hd0, hd1, hy, hH⟩ := dgfact x (by omega)
      have hlt' : d < (b : Int) := by omega
      have hfr := HF1.out.frozen (z + 1)
      obtain ⟨v0, hth⟩ := HF1.out.there (z + 1) (by omega)
      have HF2 := Hid.mk' (HF1.out.put (z + 1) (by rw [nb_length]; omega) y)
      rw [← hy, show UInt8.ofNat (dgc x) :: nb acc = nb D by rw [← hlast]; rfl] at HF2
      rw [hy] at HF2
      have hlD : D.length + z + 1 = 65 := by rw [← hlast, List.length_cons]; omega
      have hfr2 := HF2.out.frozen z
      obtain ⟨v1, hth2⟩ := HF2.out.there z (by omega)
      have HF2 : Hid (FB w ((wr.setCell ⟨w.heap.size, z + 1, none⟩ (.int .u8 (y.toNat : Int))).setCell ⟨w.heap.size, z, none⟩ (.int .u8 45)) (45 :: nb D)) := HF2.out.put z (by rw [nb_length]; omega) 45
      rw [show 45 :: nb D = nb (45 :: D) from rfl] at HF2
      have hcv := HF2.out.conv z (by rw [nb_length, List.length_cons]; omega) (65 - z)
      have hsl : ∀ W, (Instr.sliceAt 132 (.pointer (some ⟨w.heap.size, 0, none⟩)) (some (.int .i64 ((z : Int) + 2 - 1 - 1))) none none).run Tryz.prog W = .ok (.slice (some ⟨w.heap.size, z, none⟩) (65 - z) (65 - z)) W := fun W => by
        rw [show (z : Int) + 2 - 1 - 1 = ((z : Nat) : Int) by omega]
        exact slice65 w.heap.size z hzlt W
      rw [show (nb (45 :: D)).length = 65 - z by rw [nb_length, List.length_cons]; omega] at hcv
      rw [hd]
      clear hlast hd hy
      go_wp2
      go_ret2
      exact ⟨rfl, HF2.out.b⟩
    · obtain ⟨hk, hst⟩ := HS1.out.step hb.1 hlt
      obtain ⟨z, rfl⟩ : ∃ y, z = y + 1 := ⟨z - 1, by omega⟩
      have hzlt : z < 65 := by omega
      have hmod : x % b < b := Nat.mod_lt _ (by omega)
      obtain ⟨d, y, hd, hd0, hd1, hy, hH⟩ := dgfact (x % b) (by omega)
      have hdm := Nat.div_add_mod x b
      obtain ⟨q, hq⟩ : ∃ q, x / b = q := ⟨_, rfl⟩
      have hqx : q < x := by rw [← hq]; exact Nat.div_lt_self (by omega) (by omega)
      rw [hq] at hst hdm
      have hlt' : ¬ (x : Int) < (b : Int) := by omega
      have hq1 : (x : Int) / 2 ^ k = (q : Int) := by rw [← hq, HBK.out, Int.natCast_ediv, Int.natCast_pow]; rfl
      have hm2 : bits .and .u64 (x : Int) (bm : Int) = d := by
        rw [u64_and_nat x bm hx64 (by have := HBM.out; omega), ← hd, ← HBM.out, HBK.out, Nat.and_two_pow_sub_one_eq_mod]
      have hdm2 := hdm
      have hfr := HF1.out.frozen z
      obtain ⟨v0, hth⟩ := HF1.out.there z hzlt
      have HF2 := Hid.mk' (HF1.out.put z (by rw [nb_length]; omega) y)
      have HN : Hid (nb (dgc (x % b) :: acc) = y :: nb acc) := by show _ = _; rw [← hy]; rfl
      rw [← HN.out] at HF2
      have HS2 := Hid.mk' hst
      have hlen : z + (dgc (x % b) :: acc).length = 65 := by rw [List.length_cons]; omega
      generalize dgc (x % b) :: acc = acc2 at *
      clear hst hdm hdm2 hq hd hy hmod
      go_wp2
      go_roundw
      case rel => exact ⟨q, z, acc2, rfl, by go_num, hlen, HS2, HF2⟩
      case measure => simp [intOf]; omega
end Go.Proofs.YtighenikjedojaaGreatDoor

namespace Go.Proofs.YtighenikjedojaaGreatDoor
set_option linter.unusedVariables false
open Go.RowKit Fl

/-- Whether a base is a power of two. -/
def pw (b : Nat) : Bool := b == 2 || b == 4 || b == 8 || b == 16 || b == 32
theorem pw_bits : ∀ m : Fin 37, 2 ≤ m.val → (bits .and .i64 ((m.val : Nat) : Int) ((m.val : Nat) - 1) == 0) = pw m.val := by decide
set_option maxHeartbeats 400000 in
theorem isPow_any (b : Nat) (w : World) (hb : 2 ≤ b ∧ b ≤ 36) : Calls Tryz.prog 116 #[.int .i64 b] w fun e w' => e = .returned (.bool (pw b)) ∧ w' = w := by
  have hp : (bits .and .i64 (b : Int) ((b : Int) - 1) == 0) = pw b := pw_bits ⟨b, by omega⟩ hb.1
  go_enter Tryz.func116, Tryz.ntmps116
  go_wp2
  go_ret
  exact ⟨rfl, rfl⟩
theorem pw_cases (b : Nat) (h : pw b = true) : ∃ k, b = 2 ^ k ∧ ∀ W, TZ W → Calls Tryz.prog 117 #[.int .u64 b] W fun e w' => e = .returned (.int .i64 (k : Nat)) ∧ w' = W := by
  unfold pw at h
  simp only [Bool.or_eq_true, beq_iff_eq] at h
  rcases h with (((rfl | rfl) | rfl) | rfl) | rfl
  · exact ⟨1, rfl, fun W h => tz1 W h⟩
  · exact ⟨2, rfl, fun W h => tz2 W h⟩
  · exact ⟨3, rfl, fun W h => tz3 W h⟩
  · exact ⟨4, rfl, fun W h => tz4 W h⟩
  · exact ⟨5, rfl, fun W h => tz5 W h⟩
theorem fbits_any (u b : Nat) (w : World) (hu : u < 18446744073709551616) (hb : 2 ≤ b ∧ b ≤ 36) (h10 : b ≠ 10) (htz : TZ w) :
    Calls Tryz.prog 83 #[.slice none 0 0, .int .u64 u, .int .i64 b, .bool false, .bool false] w fun e w' => e = .returned (.tuple #[.slice none 0 0, .string (Sb (nb (fds b u)))]) ∧ Below w.heap.size w w' := by
  cases q : pw b
  · exact fbits_gen u b w hu hb h10 (fun W => by have := isPow_any b W hb; rw [q] at this; exact this)
  · obtain ⟨k, hk, hT⟩ := pw_cases b q
    exact fbits_pow u b k w hu hb h10 hk htz hT (fun W => by have := isPow_any b W hb; rw [q] at this; exact this)
theorem fbits_any_neg (U : Int) (u b : Nat) (w : World) (hU : IntKind.u64.wrap (-U) = (u : Int)) (hu : u < 18446744073709551616) (hb : 2 ≤ b ∧ b ≤ 36) (h10 : b ≠ 10) (htz : TZ w) :
    Calls Tryz.prog 83 #[.slice none 0 0, .int .u64 U, .int .i64 b, .bool true, .bool false] w fun e w' => e = .returned (.tuple #[.slice none 0 0, .string (Sb (nb (45 :: fds b u)))]) ∧ Below w.heap.size w w' := by
  cases q : pw b
  · exact fbits_gen_neg U u b w hU hu hb h10 (fun W => by have := isPow_any b W hb; rw [q] at this; exact this)
  · obtain ⟨k, hk, hT⟩ := pw_cases b q
    exact fbits_pow_neg U u b k w hU hu hb h10 hk htz hT (fun W => by have := isPow_any b W hb; rw [q] at this; exact this)
/-- A whole number to a base. -/
def fmtT (b : Nat) (v : Int) : List Nat := if v < 0 then 45 :: fds b v.natAbs else fds b v.natAbs
set_option maxHeartbeats 1000000 in
set_option maxRecDepth 100000 in
theorem fmtInt_in (v : Int) (b : Nat) (w : World) (hv : -9223372036854775808 ≤ v ∧ v < 9223372036854775808) (hb : 2 ≤ b ∧ b ≤ 36) (h10 : b ≠ 10) (htz : TZ w) :
    Calls Tryz.prog 54 #[.int .i64 v, .int .i64 b] w fun e w' => e = .returned (.string (Sb (nb (fmtT b v)))) ∧ Below w.heap.size w w' := by
  have hq : ((b : Int) == 10) = false := by rw [beq_eq_false_iff_ne]; omega
  by_cases h : v < 0
  · have ht : fmtT b v = 45 :: fds b v.natAbs := if_pos h
    have hw : IntKind.u64.wrap v = v + 18446744073709551616 := by rw [IntKind.wrap_u64]; omega
    have HF := Hid.mk' (fbits_any_neg (v + 18446744073709551616) v.natAbs b w (by rw [IntKind.wrap_u64]; omega) (by omega) hb h10 htz)
    rw [ht]
    clear ht
    go_enter Tryz.func54, Tryz.ntmps54
    go_wp2_with fail
    refine HF.out.mono ?_
    rintro e w1 ⟨rfl, b1⟩
    go_wp2
    go_ret
    exact ⟨rfl, b1⟩
  · have ht : fmtT b v = fds b v.natAbs := if_neg h
    have HF := Hid.mk' (fbits_any v.natAbs b w (by omega) hb h10 htz)
    rw [show ((v.natAbs : Nat) : Int) = v by omega] at HF
    have hw : IntKind.u64.wrap v = v := by rw [IntKind.wrap_u64]; omega
    rw [ht]
    clear ht
    go_enter Tryz.func54, Tryz.ntmps54
    go_wp2_with fail
    refine HF.out.mono ?_
    rintro e w1 ⟨rfl, b1⟩
    go_wp2
    go_ret
    exact ⟨rfl, b1⟩
set_option maxHeartbeats 400000 in
theorem fmtInt_any (v : Int) (b : Nat) (w : World) (hv : -9223372036854775808 ≤ v ∧ v < 9223372036854775808) (hb : 2 ≤ b ∧ b ≤ 36) (h10 : b ≠ 10) (htz : TZ w) :
    Calls Tryz.prog 20 #[.int .i64 v, .int .i64 b] w fun e w' => e = .returned (.string (Sb (nb (fmtT b v)))) ∧ Below w.heap.size w w' := by
  go_enter Tryz.func20, Tryz.ntmps20
  go_wp2_with (go_at_call 54; refine (fmtInt_in v b _ hv hb h10 htz).mono ?_; rintro e w1 ⟨rfl, b1⟩)
  go_ret
  exact ⟨rfl, b1⟩
set_option maxHeartbeats 1000000 in
theorem fmtHex_in (u : Nat) (w : World) (hu : u < 18446744073709551616) (htz : TZ w) :
    Calls Tryz.prog 101 #[.int .u64 u, .int .i64 16] w fun e w' => e = .returned (.string (Sb (nb (fds 16 u)))) ∧ Below w.heap.size w w' := by
  have HF := Hid.mk' (fbits_any u 16 w hu (by omega) (by omega) htz)
  go_enter Tryz.func101, Tryz.ntmps101
  go_wp2_with fail
  refine HF.out.mono ?_
  rintro e w1 ⟨rfl, b1⟩
  go_wp2
  go_ret
  exact ⟨rfl, b1⟩
set_option maxHeartbeats 400000 in
theorem fmtHex_any (u : Nat) (w : World) (hu : u < 18446744073709551616) (htz : TZ w) :
    Calls Tryz.prog 68 #[.int .u64 u, .int .i64 16] w fun e w' => e = .returned (.string (Sb (nb (fds 16 u)))) ∧ Below w.heap.size w w' := by
  go_enter Tryz.func68, Tryz.ntmps68
  go_wp2_with (go_at_call 101; refine (fmtHex_in u _ hu htz).mono ?_; rintro e w1 ⟨rfl, b1⟩)
  go_ret
  exact ⟨rfl, b1⟩
end Go.Proofs.YtighenikjedojaaGreatDoor
