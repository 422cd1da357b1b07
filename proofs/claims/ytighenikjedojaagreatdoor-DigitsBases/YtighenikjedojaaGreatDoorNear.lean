/- digits.timesPlus, rounded, nearest at numbers of one word. -/
import Derived.Test.YtighenikjedojaaGreatDoorLdx
import Derived.Test.YtighenikjedojaaGreatDoorDecP
import Derived.Test.YtighenikjedojaaGreatDoorShelf
import Derived.Shelf.Spec.BitsCarry
namespace Go.Proofs.YtighenikjedojaaGreatDoor
set_option linter.unusedVariables false
open Go.RowKit Fl

theorem info64 : (Tryz.prog.info? 66).map (fun i => (i.zero, i.size, i.bytes)) = some (some (.int .u64 0), 1, 8) := by kernel_rfl
theorem call_add64 (x y : Nat) (w : World) (h : x + y < 18446744073709551616) : (callFunc 97 #[.int .u64 (x : Nat), .int .u64 (y : Nat), .int .u64 0]).run Tryz.prog w = .ok (.value (.tuple #[.int .u64 ((x + y : Nat) : Int), .int .u64 0])) w := by
  rw [run_callFunc_extern Tryz.func97 (by kernel_rfl) (by kernel_rfl) (by kernel_rfl) (e := add64Entry) (by kernel_rfl), run_add64 (x : Int) (y : Int) 0 (by omega) (by omega) (by omega) (by omega)]
  have e1 : ((x : Int) + (y : Int) + 0) % 18446744073709551616 = ((x + y : Nat) : Int) := by omega
  have e2 : ((x : Int) + (y : Int) + 0) / 18446744073709551616 = 0 := by omega
  rw [e1, e2]
  rfl
set_option maxHeartbeats 1000000 in
set_option maxRecDepth 100000 in
theorem tp_nil (by' more : Nat) (w : World) (h0 : 0 < more) (h1 : more < 18446744073709551616) (h2 : by' < 18446744073709551616) :
    Calls Tryz.prog 63 #[.slice none 0 0, .int .u64 by', .int .u64 more] w fun e w' => ∃ v, e = .returned v ∧ w'.ownsRow w.heap.size 66 1 v 1 [.int .u64 more] ∧ Below w.heap.size w w' := by
  obtain ⟨i0, hi, hz0, hz1, hz2⟩ := info_parts info64
  have q : ((more : Int) == 0) = false := by rw [beq_eq_false_iff_ne]; omega
  go_enter Tryz.func63, Tryz.ntmps63
  go_wp2
  go_loop [15, 2] (fun v m => v = .int .i64 0 ∧ m = .int .u64 more) (fun _ _ => 0)
  case atStart => exact ⟨rfl, rfl⟩
  case round =>
    obtain ⟨rfl, rfl⟩ := hrel
    go_wp2_with (at_builtin; refine wpList_append_own _ rfl _ _ 83 rfl w.heap.size 66 i0 (.int .u64 0) 1 8 Tryz.underlying83 hi hz0 hz1 hz2 rfl (by decide) _ _ _ rfl (World.ownsRow_nil _ _ _ _) ⟨w.heap.size, 0, none⟩ 1 1 [.int .u64 more] rfl rfl (cells_new _ _ _) (by intro u hu; simp at hu; subst hu; rfl) (by unfold maxLen; omega) (by omega) (by simp) ?_)
    intro v1 w1 o1 g1 _
    go_wp2
    go_ret
    exact ⟨_, rfl, o1, (kept_append (v := .slice none 0 0) (World.ownsRow_nil w w.heap.size 66 1) (grown_of_alloc g1) (Nat.le_refl _)).1⟩

set_option maxHeartbeats 1000000 in
set_option maxRecDepth 100000 in
theorem tp_one (x b more g c : Nat) (w : World) (hx : x < 18446744073709551616) (hb : b < 18446744073709551616) (hs : x * b + more < 18446744073709551616) (hc : w.cell? ⟨g, 0, none⟩ = some (.int .u64 (x : Nat))) (hf : w.frozen? ⟨g, 0, none⟩ = false) :
    Calls Tryz.prog 63 #[.slice (some ⟨g, 0, none⟩) 1 c, .int .u64 b, .int .u64 more] w fun e w' => e = .returned (.slice (some ⟨g, 0, none⟩) 1 c) ∧ w' = w.setCell ⟨g, 0, none⟩ (.int .u64 ((x * b + more : Nat) : Int)) := by
  have HM := Hid.mk' (fun W => Tryz.bits_Mul64 x b hx hb W)
  rw [Nat.div_eq_of_lt (show x * b < 18446744073709551616 by omega), Nat.mod_eq_of_lt (show x * b < 18446744073709551616 by omega)] at HM
  generalize x * b = y at *
  have hadd := fun W => call_add64 y more W hs
  obtain ⟨s, hsum⟩ : ∃ s, y + more = s := ⟨_, rfl⟩
  rw [hsum] at hadd ⊢
  go_enter Tryz.func63, Tryz.ntmps63
  go_wp2
  go_loopw [15, 2] (fun v m wr => (v = .int .i64 0 ∧ m = .int .u64 more ∧ wr = w) ∨ (v = .int .i64 1 ∧ m = .int .u64 0 ∧ wr = w.setCell ⟨g, 0, none⟩ (.int .u64 (s : Nat)))) (fun v _ _ => 1 - (intOf v).toNat)
  case atStart => exact .inl ⟨rfl, rfl, rfl⟩
  case round =>
    rcases hrel with ⟨rfl, rfl, rfl⟩ | ⟨rfl, rfl, rfl⟩
    · clear hsum
      go_wp2_with (go_at_call 96; refine (HM.out _).mono ?_; rintro e w1 ⟨rfl, hw1⟩; rw [hw1]; clear hw1 w1)
      go_roundw
      case rel => exact .inr ⟨rfl, rfl, trivial⟩
      case measure => simp [intOf]
    · go_wp2
      go_ret
      exact ⟨rfl, rfl⟩
/-- A word's float, by its bits (of the numbers below 2^53 the very number). -/
structure OneW (v s T q : Nat) : Prop where
  v0 : 0 < v
  v1 : v < 18446744073709551616
  sh : 64 - Lib.bitLen v = s
  s63 : s ≤ 63
  wrp : IntKind.u64.wrap ((v : Int) * 2 ^ s) = ((v * 2 ^ s : Nat) : Int)
  flt : floatOfInt .f64 ((v * 2 ^ s : Nat) : Int) = T
  t1 : 4503599627370496 ≤ T
  t2 : T < 9218868437227405312
  ex : T / 4503599627370496 = 1086 ∨ T / 4503599627370496 = 1087
  res : (q : Int) = ((T / 4503599627370496 : Nat) - (s : Int)) * 4503599627370496 + (T % 4503599627370496 : Nat)
set_option maxHeartbeats 1000000 in
set_option maxRecDepth 100000 in
theorem rounded_one (v s T q g c : Nat) (w : World) (h : OneW v s T q) (hc : w.cell? ⟨g, 0, none⟩ = some (.int .u64 (v : Nat))) :
    Calls Tryz.prog 65 #[.slice (some ⟨g, 0, none⟩) 1 c] w fun e w' => e = .returned (.float .f64 q) ∧ ∃ n, w' = w.drewN n := by
  have HZ := Hid.mk' (fun W => Tryz.bits_LeadingZeros64 (v : Int) W (by omega) (by have := h.v1; omega))
  have hsz : (64 : Int) - (Lib.bitLen ((v : Int)).toNat : Int) = (s : Int) := by
    have := h.sh
    have h2 := Lib.bitLen_le v 64 (by omega) h.v1
    rw [Int.toNat_natCast]
    omega
  rw [hsz] at HZ
  have HL := Hid.mk' (fun W => ldexp_norm T q (-(s : Int)) W h.t1 h.t2 _ rfl (by have := h.ex; have := h.s63; omega) (by have := h.res; omega))
  have hw := h.wrp
  have hfl := h.flt
  have hs63 := h.s63
  generalize hV : v * 2 ^ s = V at *
  have hmx : max (-1 : Int) 0 = 0 := by decide
  clear hsz hV h
  go_enter Tryz.func65, Tryz.ntmps65
  go_wp2_with (first | (go_at_call 98; refine (HZ.out _).mono ?_; rintro e w1 ⟨rfl, hw1⟩; rw [hw1]; clear hw1 w1))
  go_loop [5, 53] (fun u v => u = .int .u64 (V : Nat) ∧ v = .int .i64 0) (fun _ _ => 0)
  case atStart => exact ⟨rfl, rfl⟩
  case round =>
    obtain ⟨rfl, rfl⟩ := hrel
    go_wp2_with fail
    refine (HL.out _).mono ?_
    rintro e w1 ⟨rfl, hw1⟩
    rw [hw1]; clear hw1 w1
    go_wp2
    go_ret
    exact ⟨rfl, 0, rfl⟩
theorem one31 : OneW 31 59 4895131319975018496 4629418941960159232 := ⟨by omega, by omega, by decide, by omega, by decide, by decide, by omega, by omega, by omega, by omega⟩
theorem one12 : OneW 12 60 4893160995138043904 4622945017495814144 := ⟨by omega, by omega, by decide, by omega, by decide, by decide, by omega, by omega, by omega, by omega⟩
set_option maxHeartbeats 2000000 in
set_option maxRecDepth 100000 in
/-- Two digits as a number. -/
theorem nearest_two (s : ByteArray) (b : Nat) (d1 d2 sh T q : Nat) (w : World) (hs : s.size = 2) (hb : 2 ≤ b ∧ b ≤ 36) (h1 : worthI (by' s 0) (b : Nat) = (d1 : Int)) (h2 : worthI (by' s 1) (b : Nat) = (d2 : Int)) (hd : 0 < d1 ∧ d1 < 36 ∧ d2 < 36) (h : OneW (d1 * b + d2) sh T q) :
    Calls Tryz.prog 32 #[.string s, .int .i64 b] w fun e w' => e = .returned (.float .f64 q) ∧ Below w.heap.size w w' := by
  have hbt := PlainAid.get_bt s
  have hsz : (s.size : Int) = 2 := by omega
  have hz0 := bt_by s 0
  have hz1 := bt_by s 1
  have l0 : by' s 0 < 256 := by unfold by'; exact UInt8.toNat_lt _
  have l1 : by' s 1 < 256 := by unfold by'; exact UInt8.toNat_lt _
  have HW0 := Hid.mk' (fun W hc => worth1_any (by' s 0) w.heap.size (b : Nat) W l0 ⟨by omega, by omega⟩ hc)
  have HW1 := Hid.mk' (fun W hc => worth1_any (by' s 1) w.heap.size (b : Nat) W l1 ⟨by omega, by omega⟩ hc)
  rw [h1] at HW0
  rw [h2] at HW1
  have hlt : d1 * b + d2 < 2000 := by
    have := Nat.mul_le_mul (show d1 ≤ 35 by omega) hb.2
    omega
  have HR := Hid.mk' h
  clear h h1 h2 hs
  generalize by' s 0 = c0 at *
  generalize by' s 1 = c1 at *
  go_enter Tryz.func32, Tryz.ntmps32
  go_wp2_with (go_at_call 62; refine (worthTo_any _ _).mono ?_; rintro e w3 ⟨rfl, hw3⟩; rw [hw3]; clear hw3 w3)
  go_loopw [6, 12] (fun v i wr => (i = .int .i64 0 ∧ v = .slice none 0 0 ∧ wr = w.alloc (.cells #[.int .i64 (b : Nat)] 3)) ∨ (∃ g c : Nat, i = .int .i64 1 ∧ v = .slice (some ⟨g, 0, none⟩) 1 c ∧ wr.cell? ⟨g, 0, none⟩ = some (.int .u64 (d1 : Nat)) ∧ wr.frozen? ⟨g, 0, none⟩ = false ∧ wr.cell? ⟨w.heap.size, 0, none⟩ = some (.int .i64 (b : Nat)) ∧ w.heap.size < g ∧ Below w.heap.size w wr) ∨ (∃ g c : Nat, i = .int .i64 2 ∧ v = .slice (some ⟨g, 0, none⟩) 1 c ∧ wr.cell? ⟨g, 0, none⟩ = some (.int .u64 ((d1 * b + d2 : Nat) : Int)) ∧ Below w.heap.size w wr)) (fun _ i _ => 2 - (intOf i).toNat)
  case atStart => exact .inl ⟨rfl, rfl, rfl⟩
  case round =>
    rcases hrel with ⟨rfl, rfl, rfl⟩ | ⟨g, c, rfl, rfl, r1, r2, r3, r4, r5⟩ | ⟨g, c, rfl, rfl, r1, r5⟩
    · have hcb : (w.alloc (.cells #[.int .i64 (b : Nat)] 3)).cell? ⟨w.heap.size, 0, none⟩ = some (.int .i64 (b : Nat)) := by simp
      have HC := Hid.mk' hcb
      clear hcb
      go_wp2_with (go_at_call 95; refine (HW0.out _ HC.out).mono ?_; rintro e w1 ⟨rfl, hw1⟩; rw [hw1]; clear hw1 w1)
      refine (tp_nil b d1 _ (by omega) (by omega) (by omega)).mono ?_
      rintro e w1 ⟨v, rfl, o1, b1⟩
      obtain ⟨g, cap, rfl⟩ : ∃ g cap, v = .slice (some ⟨g, 0, none⟩) 1 cap := by
        obtain ⟨a, cc, e, hh⟩ := own_slice' o1
        rcases hh with ⟨_, h0, _⟩ | ⟨g', hh, hB⟩
        · omega
        · exact ⟨g', cc, by rw [e, hh]⟩
      have c1 : w1.cell? ⟨g, 0, none⟩ = some (.int .u64 (d1 : Nat)) := own_cell o1 rfl
      have f1 := o1.frozenAt 0
      have hgB : w.heap.size < g := by
        obtain ⟨a, cc, e, hh⟩ := own_slice' o1
        cases e
        rcases hh with ⟨hh, _⟩ | ⟨g', hh, hB⟩
        · cases hh
        · cases hh
          simp at hB
          omega
      have cb : w1.cell? ⟨w.heap.size, 0, none⟩ = some (.int .i64 (b : Nat)) := (b1.cell (p := ⟨w.heap.size, 0, none⟩) (by simp)).trans HC.out
      have bb : Below w.heap.size w w1 := below_new.trans (b1.mono (by simp))
      clear o1
      go_wp2
      go_roundw
      case rel => exact .inr (.inl ⟨g, cap, rfl, rfl, c1, f1, cb, hgB, bb⟩)
      case measure => simp [intOf]
    · have HC := Hid.mk' r3
      have HB := Hid.mk' r5
      have HT := Hid.mk' (tp_one d1 b d2 g c wr (by omega) (by omega) (by omega) r1 r2)
      have HK := Hid.mk' r1
      clear r1 r2 r3 r5
      go_wp2_with (go_at_call 95; refine (HW1.out _ HC.out).mono ?_; rintro e w1 ⟨rfl, hw1⟩; rw [hw1]; clear hw1 w1)
      refine HT.out.mono ?_
      rintro e w1 ⟨rfl, hw1⟩
      have c1 : w1.cell? ⟨g, 0, none⟩ = some (.int .u64 ((d1 * b + d2 : Nat) : Int)) := by rw [hw1]; exact World.cell?_setCell_same _ _ _ HK.out
      have bb : Below w.heap.size w w1 := by rw [hw1]; exact HB.out.setCell (by show w.heap.size ≤ g; omega) _
      clear hw1
      go_wp2
      go_roundw
      case rel => exact .inr (.inr ⟨g, c, rfl, rfl, c1, bb⟩)
      case measure => simp [intOf]
    · have HO := Hid.mk' (rounded_one (d1 * b + d2) sh T q g c wr HR.out r1)
      have HB := Hid.mk' r5
      clear r1 r5
      go_wp2_with fail
      refine HO.out.mono ?_
      rintro e w1 ⟨rfl, n1, hw1⟩
      have bb : Below w.heap.size w w1 := by rw [hw1]; exact below_draws HB.out n1
      clear hw1
      go_wp2
      go_ret
      exact ⟨rfl, bb⟩
end Go.Proofs.YtighenikjedojaaGreatDoor
