/- Numbers alike, rests, numbers cut off to whole ones (beside CvN). Written by tools/mkopn.py out of Num and Whole. Package ops: what its operators are made of: hold, primitive, numeric, numbers, sums, comparisons, integers, by contracts of conv.Number. Written by tools/mkop.py. Package ops: sums, differences, comparisons, integers. Written by tools/mkopb.py. -/
import Derived.Test.YtbkkkpfoaggejaaGreatDoorCvN
import Derived.Test.YtbkkkpfoaggejaaGreatDoorMod
import Derived.Test.YtbkkkpfoaggejaaGreatDoorCvA
import Derived.Test.YtbkkkpfoaggejaaGreatDoorFFloat
import Derived.Deep.RegionHeld3
namespace Go.Proofs.YtbkkkpfoaggejaaGreatDoor
set_option linter.unusedVariables false
set_option maxRecDepth 100000
open Go.RowKit Fl

set_option maxRecDepth 100000 in
set_option maxHeartbeats 400000 in
theorem rsame2_any (x y : Nat) (w : World) (hx : x < 18446744073709551616) (hy : y < 18446744073709551616) :
    Calls Tryz.prog 22 #[.float .f64 x, .float .f64 y, .int .i64 2] w fun e w' => e = .returned (.bool (alike x y)) ∧ w' = w := by
  have he := eqf x y hx hy
  have HA := Hid.mk' (alike_eq x y hx hy)
  have HX := Hid.mk' (fun W => bad_any x W hx)
  have HY := Hid.mk' (fun W => bad_any y W hy)
  have SX := Hid.mk' (fun W => signbit_any x W hx)
  have SY := Hid.mk' (fun W => signbit_any y W hy)
  rw [← HA.out]
  revert HX HY SX SY he
  clear HA
  generalize decide (nan x) = nx
  generalize decide (nan y) = ny
  generalize decide (9223372036854775808 ≤ x) = sx
  generalize decide (9223372036854775808 ≤ y) = sy
  generalize decide (¬ nan x ∧ ¬ nan y ∧ key x = key y) = q
  intro he HX HY SX SY
  cases nx <;> cases ny <;> cases q
  all_goals
    go_enter Tryz.func22, Tryz.ntmps22
    go_wp2_with (first | (go_at_call 46; first | (refine (HX.out _).mono ?_; rintro e w1 ⟨rfl, hw1⟩; rw [hw1]; clear hw1 w1) | (refine (HY.out _).mono ?_; rintro e w1 ⟨rfl, hw1⟩; rw [hw1]; clear hw1 w1)) | (go_at_call 47; first | (refine (SX.out _).mono ?_; rintro e w1 ⟨rfl, hw1⟩; rw [hw1]; clear hw1 w1) | (refine (SY.out _).mono ?_; rintro e w1 ⟨rfl, hw1⟩; rw [hw1]; clear hw1 w1)))
    go_ret
    exact ⟨by first | rfl | simp, rfl⟩


set_option maxHeartbeats 400000 in
theorem alike_any (x y : Nat) (w : World) (hx : x < 18446744073709551616) (hy : y < 18446744073709551616) :
    Calls Tryz.prog 12 #[.float .f64 x, .float .f64 y] w fun e w' => e = .returned (.bool (alike x y)) ∧ w' = w := by
  have H := Hid.mk' (fun W => rsame2_any x y W hx hy)
  go_enter Tryz.func12, Tryz.ntmps12
  go_wp2_with (go_at_call 22; refine (H.out _).mono ?_; rintro e w1 ⟨rfl, hw1⟩; rw [hw1]; clear hw1 w1)
  go_ret
  exact ⟨rfl, rfl⟩
/- ---- rests ---- -/
/-- What a rest is. -/
def RestIs (x y r : Nat) : Prop := ((y % 9223372036854775808 = 0 ∨ x % 9223372036854775808 = 9218868437227405312 ∨ nan x ∨ nan y) ∧ r = 9221120237041090561) ∨
  (¬ (y % 9223372036854775808 = 0 ∨ x % 9223372036854775808 = 9218868437227405312 ∨ nan x ∨ nan y) ∧ ∃ g, r = sgn x g ∧ g < 9218868437227405312 ∧ val g = val (x % 9223372036854775808) % val (y % 9223372036854775808))
theorem RestIs.inj {x y r s : Nat} (h : RestIs x y r) (k : RestIs x y s) : r = s := by
  rcases h with ⟨h1, rfl⟩ | ⟨h1, g, rfl, g1, g2⟩
  · rcases k with ⟨k1, rfl⟩ | ⟨k1, _⟩
    · rfl
    · exact absurd h1 k1
  · rcases k with ⟨k1, _⟩ | ⟨k1, j, rfl, j1, j2⟩
    · exact absurd k1 h1
    · rw [val_inj (g2.trans j2.symm)]
theorem RestIs.lt {x y r : Nat} (h : RestIs x y r) : r < 18446744073709551616 := by
  rcases h with ⟨h1, rfl⟩ | ⟨h1, g, rfl, g1, g2⟩
  · omega
  · unfold sgn; split <;> omega
theorem Mod_is (x y : Nat) (w : World) (hx : x < 18446744073709551616) (hy : y < 18446744073709551616) :
    Calls Tryz.prog 83 #[.float .f64 x, .float .f64 y] w fun e w' => (∃ r, e = .returned (.float .f64 r) ∧ RestIs x y r) ∧ w' = w := by
  by_cases h : y % 9223372036854775808 = 0 ∨ x % 9223372036854775808 = 9218868437227405312 ∨ nan x ∨ nan y
  · refine (Mod_nan x y w hx hy h).mono ?_
    rintro e w' ⟨rfl, hw⟩
    exact ⟨⟨_, rfl, .inl ⟨h, rfl⟩⟩, hw⟩
  · have h' := h
    unfold nan at h'
    refine (Mod_any x y w hx hy (by omega) (by omega) (by omega)).mono ?_
    rintro e w' ⟨⟨g, rfl, g1, g2⟩, hw⟩
    exact ⟨⟨_, rfl, .inr ⟨h, g, rfl, g1, g2⟩⟩, hw⟩
set_option maxHeartbeats 400000 in
theorem rem_is (x y : Nat) (w : World) (hx : x < 18446744073709551616) (hy : y < 18446744073709551616) :
    Calls Tryz.prog 59 #[.float .f64 x, .float .f64 y] w fun e w' => (∃ r, e = .returned (.float .f64 r) ∧ RestIs x y r) ∧ w' = w := by
  have H := Hid.mk' (fun W => Mod_is x y W hx hy)
  go_enter Tryz.func59, Tryz.ntmps59
  go_wp2_with (go_at_call 83; refine (H.out _).mono ?_; rintro e w1 ⟨⟨r, rfl, hr⟩, hw1⟩; rw [hw1]; clear hw1 w1)
  go_ret
  exact ⟨⟨r, rfl, hr⟩, rfl⟩
theorem RestIs.small {x y : Nat} (hx : x < 18446744073709551616) (h : ¬ (y % 9223372036854775808 = 0 ∨ x % 9223372036854775808 = 9218868437227405312 ∨ nan x ∨ nan y)) (hs : x % 9223372036854775808 < y % 9223372036854775808) : RestIs x y x := by
  refine .inr ⟨h, x % 9223372036854775808, (sgn_self x hx).symm, ?_, (Nat.mod_eq_of_lt (val_mono hs)).symm⟩
  unfold nan at h
  omega

/-- A finite number cut off. -/
def tz (x : Nat) : Int := if 9223372036854775808 ≤ x then -(tr (x % 9223372036854775808) : Int) else (tr (x % 9223372036854775808) : Int)
theorem ftoi (x : Nat) (k : IntKind) (hx : x < 18446744073709551616) (hf : x % 9223372036854775808 < 9218868437227405312) (h1 : k.min ≤ tz x) (h2 : tz x ≤ k.max) : floatToIntVal .f64 x k = some (tz x) := by
  unfold floatToIntVal
  have e : (FloatKind.f64.decode x).toInt .zero = some (tz x) := by
    show (Ieee.double.read x).toInt .zero = _
    rw [word_parts x hx, toInt_fin _ _ hf]
    rw [← word_parts x hx]
    unfold tz
    simp
  rw [e]
  dsimp only
  rw [if_pos ⟨h1, h2⟩]
theorem run_ftoi (t : TypeId) (x : Nat) (k : IntKind) (W : World) (hd : Tryz.prog.underlying t = some (.int k)) (hx : x < 18446744073709551616) (hf : x % 9223372036854775808 < 9218868437227405312) (h1 : k.min ≤ tz x) (h2 : tz x ≤ k.max) :
    (convert 24 t (.float .f64 x)).run Tryz.prog W = .ok (.int k (tz x)) W :=
  run_convert_float_int W 24 t .f64 k x (tz x) (by kernel_rfl) hd (ftoi x k hx hf h1 h2)

theorem tz_sgn (x g : Nat) (hg : g < 9223372036854775808) : tz (sgn x g) = if 9223372036854775808 ≤ x then -(tr g : Int) else (tr g : Int) := by
  unfold tz sgn
  by_cases h : 9223372036854775808 ≤ x
  · rw [if_pos h, if_pos h, if_pos (by omega), show (9223372036854775808 + g) % 9223372036854775808 = g by omega]
  · rw [if_neg h, if_neg h, if_neg (by omega), show g % 9223372036854775808 = g by omega]
theorem RestIs.fin {x y r : Nat} (h : RestIs x y r) (hx : x < 18446744073709551616) (hf : x % 9223372036854775808 < 9218868437227405312) (hy : y % 9223372036854775808 ≠ 0) (hy1 : y % 9223372036854775808 ≤ 9218868437227405312) : ∃ g, r = sgn x g ∧ g < 9218868437227405312 ∧ val g = val (x % 9223372036854775808) % val (y % 9223372036854775808) := by
  rcases h with ⟨h, _⟩ | ⟨_, h⟩
  · unfold nan at h; omega
  · exact h
theorem RestIs.bad {x y r : Nat} (h : RestIs x y r) (hb : y % 9223372036854775808 = 0 ∨ x % 9223372036854775808 = 9218868437227405312 ∨ nan x ∨ nan y) : r = 9221120237041090561 := by
  rcases h with ⟨_, h⟩ | ⟨h, _⟩
  · exact h
  · exact absurd hb h

/-- Of a finite number what is left modulo 2^32; else 0. -/
def u32 (x : Nat) : Int := if x % 9223372036854775808 < 9218868437227405312 then tz x % 4294967296 else 0

set_option maxHeartbeats 400000 in
theorem uint32_any (x : Nat) (w : World) (hx : x < 18446744073709551616) :
    Calls Tryz.prog 98 #[.float .f64 x] w fun e w' => e = .returned (.int .u32 (u32 x)) ∧ w' = w := by
  have hc := lt_c (x % 9223372036854775808) 4890909195324358656 (by omega) (by omega)
  by_cases hs : x % 9223372036854775808 < 4890909195324358656
  · rw [decide_eq_true hs] at hc
    have ht := tr_lt (x % 9223372036854775808) 1085 63 hs rfl
    have ht' : tr (x % 9223372036854775808) < 9223372036854775808 := ht
    clear ht
    have hz1 : -9223372036854775808 < tz x := by unfold tz; split <;> omega
    have hz2 : tz x < 9223372036854775808 := by unfold tz; split <;> omega
    have HC := Hid.mk' (fun W => run_ftoi 2 x .i64 W (by kernel_rfl) hx (by omega) (by show (-9223372036854775808 : Int) ≤ _; omega) (by show _ ≤ (9223372036854775807 : Int); omega))
    have hu : u32 x = tz x % 4294967296 := by unfold u32; rw [if_pos (by omega)]
    go_enter Tryz.func98, Tryz.ntmps98
    go_wp2_with (first | (go_at_call 108; refine (abs_any _ _ hx).mono ?_; rintro e w1 ⟨rfl, hw1⟩; rw [hw1]; clear hw1 w1) | rw [HC.out])
    go_ret
    exact ⟨by rw [hu]; rfl, rfl⟩
  · rw [decide_eq_false hs] at hc
    have HM := Hid.mk' (fun W => Mod_is x 4751297606875873280 W hx (by omega))
    by_cases hf : x % 9223372036854775808 < 9218868437227405312
    · go_enter Tryz.func98, Tryz.ntmps98
      go_wp2_with (first | (go_at_call 108; refine (abs_any _ _ hx).mono ?_; rintro e w1 ⟨rfl, hw1⟩; rw [hw1]; clear hw1 w1))
      refine (HM.out _).mono ?_
      rintro e w1 ⟨⟨r, rfl, hr⟩, hw1⟩
      rw [hw1]
      clear hw1 w1
      obtain ⟨g, hrg, hg1, hg2⟩ := hr.fin hx hf (by omega) (by omega)
      have hrl : r < 18446744073709551616 := hr.lt
      have htr : tr g = tr (x % 9223372036854775808) % 4294967296 := by
        have v1 := val_pow' 1054 1106 rfl
        rw [show (1054 + 1) * 4503599627370496 = 4751297606875873280 from rfl, ← pow_split (show 32 + 1074 = 1106 from rfl), show (2 : Nat) ^ 32 = 4294967296 from rfl] at v1
        rw [show (4751297606875873280 : Nat) % 9223372036854775808 = 4751297606875873280 from rfl, v1] at hg2
        exact tr_mod g (x % 9223372036854775808) 4294967296 hg2
      have hrm : r % 9223372036854775808 = g := by rw [hrg]; unfold sgn; split <;> omega
      have htz : tz r = if 9223372036854775808 ≤ x then -(tr g : Int) else (tr g : Int) := by rw [hrg]; exact tz_sgn x g (by omega)
      have hz1 : -4294967296 < tz r := by rw [htz]; split <;> omega
      have hz2 : tz r < 4294967296 := by rw [htz]; split <;> omega
      have HN := Hid.mk' (fun W => isNaN_any r W hrl)
      rw [decide_eq_false (show ¬ nan r by unfold nan; omega)] at HN
      have HC := Hid.mk' (fun W => run_ftoi 2 r .i64 W (by kernel_rfl) hrl (by omega) (by show (-9223372036854775808 : Int) ≤ _; omega) (by show _ ≤ (9223372036854775807 : Int); omega))
      have hu : tz r % 4294967296 = u32 x := by
        unfold u32
        rw [if_pos hf, htz]
        unfold tz
        rw [htr]
        split <;> omega
      have HU := Hid.mk' hu
      clear hu htz hrg hr hrm htr hg2
      go_wp2_with (first | (go_at_call 84; refine (HN.out _).mono ?_; rintro e w1 ⟨rfl, hw1⟩; rw [hw1]; clear hw1 w1) | rw [HC.out])
      go_ret
      exact ⟨by rw [← HU.out]; rfl, rfl⟩
    · go_enter Tryz.func98, Tryz.ntmps98
      go_wp2_with (first | (go_at_call 108; refine (abs_any _ _ hx).mono ?_; rintro e w1 ⟨rfl, hw1⟩; rw [hw1]; clear hw1 w1))
      refine (HM.out _).mono ?_
      rintro e w1 ⟨⟨r, rfl, hr⟩, hw1⟩
      rw [hw1]
      clear hw1 w1
      obtain rfl := hr.bad (by unfold nan; omega)
      have HN := Hid.mk' (fun W => isNaN_any 9221120237041090561 W (by omega))
      rw [decide_eq_true (show nan 9221120237041090561 by unfold nan; omega)] at HN
      have hu : u32 x = 0 := by unfold u32; rw [if_neg hf]
      go_wp2_with (first | (go_at_call 84; refine (HN.out _).mono ?_; rintro e w1 ⟨rfl, hw1⟩; rw [hw1]; clear hw1 w1))
      go_ret
      exact ⟨by rw [hu]; rfl, rfl⟩

theorem u32_range (x : Nat) : 0 ≤ u32 x ∧ u32 x < 4294967296 := by unfold u32; split <;> omega

set_option maxHeartbeats 400000 in
theorem int32_any (x : Nat) (w : World) (hx : x < 18446744073709551616) :
    Calls Tryz.prog 75 #[.float .f64 x] w fun e w' => e = .returned (.int .i32 (wrap32 (u32 x))) ∧ w' = w := by
  have H := Hid.mk' (fun W => uint32_any x W hx)
  have hr := u32_range x
  go_enter Tryz.func75, Tryz.ntmps75
  go_wp2_with (first | (go_at_call 98; refine (H.out _).mono ?_; rintro e w1 ⟨rfl, hw1⟩; rw [hw1]; clear hw1 w1))
  go_ret
  exact ⟨rfl, rfl⟩
end Go.Proofs.YtbkkkpfoaggejaaGreatDoor

namespace Go.Proofs.YtbkkkpfoaggejaaGreatDoor
set_option linter.unusedVariables false
set_option linter.unusedSimpArgs false
open Go.RowKit Go.Sort Fl

/-- A pair of values that lies in a block of its own. -/
structure CellP (w : World) (b : Nat) (ka : Int) (xa : Nat) (sa : ByteArray) (ra : Int) (kb : Int) (xb : Nat) (sb : ByteArray) (rb : Int) : Prop where
  lt : b < w.heap.size
  c0 : w.cell? ⟨b, 0, none⟩ = some (.int .i64 ka)
  c1 : w.cell? ⟨b, 1, none⟩ = some (.float .f64 xa)
  c2 : w.cell? ⟨b, 2, none⟩ = some (.string sa)
  c3 : w.cell? ⟨b, 3, none⟩ = some (.int .i64 ra)
  c4 : w.cell? ⟨b, 4, none⟩ = some (.int .i64 kb)
  c5 : w.cell? ⟨b, 5, none⟩ = some (.float .f64 xb)
  c6 : w.cell? ⟨b, 6, none⟩ = some (.string sb)
  c7 : w.cell? ⟨b, 7, none⟩ = some (.int .i64 rb)
theorem CellP.below {w : World} {b : Nat} {ka : Int} {xa : Nat} {sa : ByteArray} {ra : Int} {kb : Int} {xb : Nat} {sb : ByteArray} {rb : Int} {w' : World} (h : CellP w b ka xa sa ra kb xb sb rb) (hb : Below w.heap.size w w') : CellP w' b ka xa sa ra kb xb sb rb :=
  ⟨Nat.lt_of_lt_of_le h.lt hb.size, (hb.cell (p := ⟨b, 0, none⟩) h.lt).trans h.c0, (hb.cell (p := ⟨b, 1, none⟩) h.lt).trans h.c1, (hb.cell (p := ⟨b, 2, none⟩) h.lt).trans h.c2, (hb.cell (p := ⟨b, 3, none⟩) h.lt).trans h.c3, (hb.cell (p := ⟨b, 4, none⟩) h.lt).trans h.c4, (hb.cell (p := ⟨b, 5, none⟩) h.lt).trans h.c5, (hb.cell (p := ⟨b, 6, none⟩) h.lt).trans h.c6, (hb.cell (p := ⟨b, 7, none⟩) h.lt).trans h.c7⟩
theorem CellP.drew {w : World} {b : Nat} {ka : Int} {xa : Nat} {sa : ByteArray} {ra : Int} {kb : Int} {xb : Nat} {sb : ByteArray} {rb : Int} (h : CellP w b ka xa sa ra kb xb sb rb) : CellP w.drew b ka xa sa ra kb xb sb rb := ⟨h.lt, h.c0, h.c1, h.c2, h.c3, h.c4, h.c5, h.c6, h.c7⟩
theorem CellP.new (w : World) (ka : Int) (xa : Nat) (sa : ByteArray) (ra : Int) (kb : Int) (xb : Nat) (sb : ByteArray) (rb : Int) : CellP (w.alloc (.cells #[.int .i64 ka, .float .f64 xa, .string sa, .int .i64 ra, .int .i64 kb, .float .f64 xb, .string sb, .int .i64 rb] 40)) w.heap.size ka xa sa ra kb xb sb rb := by constructor <;> first | (simp; done) | (simp; omega)
theorem CellP.alloc {w : World} {b : Nat} {ka : Int} {xa : Nat} {sa : ByteArray} {ra : Int} {kb : Int} {xb : Nat} {sb : ByteArray} {rb : Int} (h : CellP w b ka xa sa ra kb xb sb rb) (o : Obj) : CellP (w.alloc o) b ka xa sa ra kb xb sb rb := h.below ((Below.refl _ _).alloc (Nat.le_refl _) _)
/-- A value's Number is f. -/
def NumIs (ka : Int) (xa : Nat) (sa : ByteArray) (ra : Int) (f : Nat) : Prop := ∀ w, Hid (Laid w) → Calls Tryz.prog 104 #[.agg #[.int .i64 ka, .float .f64 xa, .string sa, .int .i64 ra]] w fun e w' => e = .returned (.tuple #[.float .f64 f, .bool true]) ∧ Below w.heap.size w w'
set_option maxHeartbeats 1000000 in
set_option maxRecDepth 100000 in
theorem hold_yes (z : Int) (w : World) : Calls Tryz.prog 63 #[.bool true, .int .i64 z] w fun e w' => e = .returned (.tuple #[]) ∧ w' = w := by
  go_enter Tryz.func63, Tryz.ntmps63
  go_wp2
  refine bodyPost_end (v := .tuple #[]) (results_none rfl _ _ _) rfl ⟨rfl, rfl⟩
set_option maxHeartbeats 1000000 in
set_option maxRecDepth 100000 in
theorem hold_no (z : Int) (w : World) : Calls Tryz.prog 63 #[.bool false, .int .i64 z] w fun e w' => e = .panicked [{ v := .iface 27 (.int .i64 z), recovered := false }] ∧ w' = w := by
  go_enter Tryz.func63, Tryz.ntmps63
  go_wp2
  exact ⟨rfl, rfl, rfl⟩
set_option maxHeartbeats 1000000 in
set_option maxRecDepth 100000 in
theorem prim_ok (ka : Int) (xa : Nat) (sa : ByteArray) (ra : Int) (hk : ka ≠ 6) (w : World) : Calls Tryz.prog 79 #[.agg #[.int .i64 ka, .float .f64 xa, .string sa, .int .i64 ra]] w fun e w' => e = .returned (.tuple #[]) ∧ Below w.heap.size w w' := by
  have HY := Hid.mk' (fun z W => hold_yes z W)
  have k1 : (ka == 6) = false := by simpa using hk
  have k2 : (ka != 6) = true := by simpa using hk
  go_enter Tryz.func79, Tryz.ntmps79
  go_wp2_with fail
  refine (HY.out _ _).mono ?_
  rintro e w1 ⟨rfl, hw1⟩
  rw [hw1]; clear hw1 w1
  go_wp2
  refine bodyPost_end (v := .tuple #[]) (results_none rfl _ _ _) rfl ⟨rfl, by (repeat' (first | (with_reducible exact Below.refl _ _) | (with_reducible assumption) | (with_reducible refine Below.drew ?_) | (with_reducible refine below_drewN ?_ _) | (with_reducible refine Below.alloc ?_ ?_ _) | (with_reducible refine Below.setCell ?_ ?_ _) | exact Below.size (show Below w.heap.size w _ by assumption) | (simp; done) | (simp; omega)))⟩
set_option maxHeartbeats 1000000 in
set_option maxRecDepth 100000 in
theorem number_n (xa : Nat) (sa : ByteArray) (ra : Int) : NumIs 3 xa sa ra xa := by
  intro w hl
  have HK := Hid.mk' (fun W => kindOf_any 3 xa sa ra W)
  rw [show kd 3 = 3 from rfl] at HK
  go_enter Tryz.func104, Tryz.ntmps104
  go_wp2_with fail
  refine (HK.out _).mono ?_
  rintro e w1 ⟨rfl, b1⟩
  have c1 : Below w.heap.size w w1 := bl_chain (by (repeat' (first | (with_reducible exact Below.refl _ _) | (with_reducible assumption) | (with_reducible refine Below.drew ?_) | (with_reducible refine below_drewN ?_ _) | (with_reducible refine Below.alloc ?_ ?_ _) | (with_reducible refine Below.setCell ?_ ?_ _) | exact Below.size (show Below w.heap.size w _ by assumption) | (simp; done) | (simp; omega)))) b1
  have V1 : CellV w1 w.heap.size 3 xa sa ra := CellV.below (by first | (with_reducible assumption) | (with_reducible refine CellV.drew ?_; assumption) | (constructor <;> first | (simp; done) | (simp; omega))) b1
  obtain ⟨-, z10, z11, z12, z13⟩ := id V1
  clear b1
  go_wp2
  go_ret2
  exact ⟨rfl, by (repeat' (first | (with_reducible exact Below.refl _ _) | (with_reducible assumption) | (with_reducible refine Below.drew ?_) | (with_reducible refine below_drewN ?_ _) | (with_reducible refine Below.alloc ?_ ?_ _) | (with_reducible refine Below.setCell ?_ ?_ _) | exact Below.size (show Below w.heap.size w _ by assumption) | (simp; done) | (simp; omega)))⟩
set_option maxHeartbeats 1000000 in
set_option maxRecDepth 100000 in
theorem numeric_h (ka : Int) (xa : Nat) (sa : ByteArray) (ra : Int) (f : Nat) (HN : Hid (NumIs ka xa sa ra f)) (w : World) (hl : Hid (Laid w)) : Calls Tryz.prog 82 #[.agg #[.int .i64 ka, .float .f64 xa, .string sa, .int .i64 ra]] w fun e w' => e = .returned (.float .f64 f) ∧ Below w.heap.size w w' := by
  have HY := Hid.mk' (fun z W => hold_yes z W)
  go_enter Tryz.func82, Tryz.ntmps82
  go_wp2_with fail
  refine (HN.out _ (Hid.mk' (hl.out.below (by (repeat' (first | (with_reducible exact Below.refl _ _) | (with_reducible assumption) | (with_reducible refine Below.drew ?_) | (with_reducible refine below_drewN ?_ _) | (with_reducible refine Below.alloc ?_ ?_ _) | (with_reducible refine Below.setCell ?_ ?_ _) | exact Below.size (show Below w.heap.size w _ by assumption) | (simp; done) | (simp; omega))))))).mono ?_
  rintro e w1 ⟨rfl, b1⟩
  have c1 : Below w.heap.size w w1 := bl_chain (by (repeat' (first | (with_reducible exact Below.refl _ _) | (with_reducible assumption) | (with_reducible refine Below.drew ?_) | (with_reducible refine below_drewN ?_ _) | (with_reducible refine Below.alloc ?_ ?_ _) | (with_reducible refine Below.setCell ?_ ?_ _) | exact Below.size (show Below w.heap.size w _ by assumption) | (simp; done) | (simp; omega)))) b1
  clear b1
  go_wp2_with fail
  refine (HY.out _ _).mono ?_
  rintro e w2 ⟨rfl, hw2⟩
  rw [hw2]; clear hw2 w2
  go_wp2
  go_ret
  exact ⟨rfl, by (repeat' (first | (with_reducible exact Below.refl _ _) | (with_reducible assumption) | (with_reducible refine Below.drew ?_) | (with_reducible refine below_drewN ?_ _) | (with_reducible refine Below.alloc ?_ ?_ _) | (with_reducible refine Below.setCell ?_ ?_ _) | exact Below.size (show Below w.heap.size w _ by assumption) | (simp; done) | (simp; omega)))⟩
set_option maxHeartbeats 1000000 in
set_option maxRecDepth 100000 in
theorem prims_ok (ka : Int) (xa : Nat) (sa : ByteArray) (ra : Int) (kb : Int) (xb : Nat) (sb : ByteArray) (rb : Int) (ha : ka ≠ 6) (hb : kb ≠ 6) (w : World) : Calls Tryz.prog 55 #[.agg #[.int .i64 ka, .float .f64 xa, .string sa, .int .i64 ra, .int .i64 kb, .float .f64 xb, .string sb, .int .i64 rb]] w fun e w' => e = .returned (.tuple #[]) ∧ Below w.heap.size w w' := by
  have HA := Hid.mk' (fun W => prim_ok ka xa sa ra ha W)
  have HB := Hid.mk' (fun W => prim_ok kb xb sb rb hb W)
  clear ha hb
  go_enter Tryz.func55, Tryz.ntmps55
  go_wp2_with fail
  with_reducible refine (HA.out _).mono ?_; rintro e w1 ⟨rfl, b1⟩; have c1 : Below w.heap.size w w1 := bl_chain (by (repeat' (first | (with_reducible exact Below.refl _ _) | (with_reducible assumption) | (with_reducible refine Below.drew ?_) | (with_reducible refine below_drewN ?_ _) | (with_reducible refine Below.alloc ?_ ?_ _) | (with_reducible refine Below.setCell ?_ ?_ _) | exact Below.size (show Below w.heap.size w _ by assumption) | (simp; done) | (simp; omega)))) b1; have P1 : CellP w1 (w.heap.size) ka xa sa ra kb xb sb rb := CellP.below (by first | (with_reducible assumption) | (with_reducible refine CellP.drew ?_; assumption) | (with_reducible exact CellP.new _ _ _ _ _ _ _ _ _) | (with_reducible refine CellP.drew (CellP.new _ _ _ _ _ _ _ _ _)) | (constructor <;> first | (simp; done) | (simp; omega))) b1; obtain ⟨-, p10, p11, p12, p13, p14, p15, p16, p17⟩ := id P1; clear b1
  go_wp2_with fail
  with_reducible refine (HB.out _).mono ?_; rintro e w2 ⟨rfl, b2⟩; have c2 : Below w.heap.size w w2 := bl_chain (by (repeat' (first | (with_reducible exact Below.refl _ _) | (with_reducible assumption) | (with_reducible refine Below.drew ?_) | (with_reducible refine below_drewN ?_ _) | (with_reducible refine Below.alloc ?_ ?_ _) | (with_reducible refine Below.setCell ?_ ?_ _) | exact Below.size (show Below w.heap.size w _ by assumption) | (simp; done) | (simp; omega)))) b2; have P2 : CellP w2 (w.heap.size) ka xa sa ra kb xb sb rb := CellP.below (by first | (with_reducible assumption) | (with_reducible refine CellP.drew ?_; assumption) | (with_reducible exact CellP.new _ _ _ _ _ _ _ _ _) | (with_reducible refine CellP.drew (CellP.new _ _ _ _ _ _ _ _ _)) | (constructor <;> first | (simp; done) | (simp; omega))) b2; obtain ⟨-, p20, p21, p22, p23, p24, p25, p26, p27⟩ := id P2; clear b2
  go_wp2
  refine bodyPost_end (v := .tuple #[]) (results_none rfl _ _ _) rfl ⟨rfl, by (repeat' (first | (with_reducible exact Below.refl _ _) | (with_reducible assumption) | (with_reducible refine Below.drew ?_) | (with_reducible refine below_drewN ?_ _) | (with_reducible refine Below.alloc ?_ ?_ _) | (with_reducible refine Below.setCell ?_ ?_ _) | exact Below.size (show Below w.heap.size w _ by assumption) | (simp; done) | (simp; omega)))⟩
set_option maxHeartbeats 1000000 in
set_option maxRecDepth 100000 in
theorem numbers_h (ka : Int) (xa : Nat) (sa : ByteArray) (ra : Int) (kb : Int) (xb : Nat) (sb : ByteArray) (rb : Int) (fa fb : Nat) (ha : ka ≠ 6) (hb : kb ≠ 6) (HA : Hid (NumIs ka xa sa ra fa)) (HB : Hid (NumIs kb xb sb rb fb)) (w : World) (hl : Hid (Laid w)) : Calls Tryz.prog 58 #[.agg #[.int .i64 ka, .float .f64 xa, .string sa, .int .i64 ra, .int .i64 kb, .float .f64 xb, .string sb, .int .i64 rb]] w fun e w' => e = .returned (.tuple #[.float .f64 fa, .float .f64 fb]) ∧ Below w.heap.size w w' := by
  have HP := Hid.mk' (fun W => prims_ok ka xa sa ra kb xb sb rb ha hb W)
  have HNA := Hid.mk' (fun W (hW : Hid (Laid W)) => numeric_h ka xa sa ra fa HA W hW)
  have HNB := Hid.mk' (fun W (hW : Hid (Laid W)) => numeric_h kb xb sb rb fb HB W hW)
  clear ha hb HA HB
  go_enter Tryz.func58, Tryz.ntmps58
  go_wp2_with fail
  with_reducible refine (HP.out _).mono ?_; rintro e w1 ⟨rfl, b1⟩; have c1 : Below w.heap.size w w1 := bl_chain (by (repeat' (first | (with_reducible exact Below.refl _ _) | (with_reducible assumption) | (with_reducible refine Below.drew ?_) | (with_reducible refine below_drewN ?_ _) | (with_reducible refine Below.alloc ?_ ?_ _) | (with_reducible refine Below.setCell ?_ ?_ _) | exact Below.size (show Below w.heap.size w _ by assumption) | (simp; done) | (simp; omega)))) b1; have P1 : CellP w1 (w.heap.size) ka xa sa ra kb xb sb rb := CellP.below (by first | (with_reducible assumption) | (with_reducible refine CellP.drew ?_; assumption) | (with_reducible exact CellP.new _ _ _ _ _ _ _ _ _) | (with_reducible refine CellP.drew (CellP.new _ _ _ _ _ _ _ _ _)) | (constructor <;> first | (simp; done) | (simp; omega))) b1; obtain ⟨-, p10, p11, p12, p13, p14, p15, p16, p17⟩ := id P1; have hl1 : Hid (Laid w1) := Hid.mk' (hl.out.below c1); clear b1
  go_wp2_with fail
  go_region_held3 (fun w' => w'.cell? ⟨w.heap.size, 0, none⟩ = some (.int .i64 ka) ∧ w'.cell? ⟨w.heap.size, 1, none⟩ = some (.float .f64 xa) ∧ w'.cell? ⟨w.heap.size, 2, none⟩ = some (.string sa) ∧ w'.cell? ⟨w.heap.size, 3, none⟩ = some (.int .i64 ra) ∧ w'.cell? ⟨w.heap.size, 4, none⟩ = some (.int .i64 kb) ∧ w'.cell? ⟨w.heap.size, 5, none⟩ = some (.float .f64 xb) ∧ w'.cell? ⟨w.heap.size, 6, none⟩ = some (.string sb) ∧ w'.cell? ⟨w.heap.size, 7, none⟩ = some (.int .i64 rb)) (go_keep) (first | (go_at_call 82; first | (with_reducible refine (HNA.out _ (Hid.mk' (hl.out.below (by (repeat' (first | (with_reducible exact Below.refl _ _) | (with_reducible assumption) | (with_reducible refine Below.drew ?_) | (with_reducible refine below_drewN ?_ _) | (with_reducible refine Below.alloc ?_ ?_ _) | (with_reducible refine Below.setCell ?_ ?_ _) | exact Below.size (show Below w.heap.size w _ by assumption) | (simp; done) | (simp; omega))))))).mono ?_; rintro e w2 ⟨rfl, b2⟩; have c2 : Below w.heap.size w w2 := bl_chain (by (repeat' (first | (with_reducible exact Below.refl _ _) | (with_reducible assumption) | (with_reducible refine Below.drew ?_) | (with_reducible refine below_drewN ?_ _) | (with_reducible refine Below.alloc ?_ ?_ _) | (with_reducible refine Below.setCell ?_ ?_ _) | exact Below.size (show Below w.heap.size w _ by assumption) | (simp; done) | (simp; omega)))) b2; have P2 : CellP w2 (w.heap.size) ka xa sa ra kb xb sb rb := CellP.below (by first | (with_reducible assumption) | (with_reducible refine CellP.drew ?_; assumption) | (with_reducible exact CellP.new _ _ _ _ _ _ _ _ _) | (with_reducible refine CellP.drew (CellP.new _ _ _ _ _ _ _ _ _)) | (constructor <;> first | (simp; done) | (simp; omega))) b2; obtain ⟨-, p20, p21, p22, p23, p24, p25, p26, p27⟩ := id P2; clear b2) | (with_reducible refine (HNB.out _ (Hid.mk' (hl.out.below (by (repeat' (first | (with_reducible exact Below.refl _ _) | (with_reducible assumption) | (with_reducible refine Below.drew ?_) | (with_reducible refine below_drewN ?_ _) | (with_reducible refine Below.alloc ?_ ?_ _) | (with_reducible refine Below.setCell ?_ ?_ _) | exact Below.size (show Below w.heap.size w _ by assumption) | (simp; done) | (simp; omega))))))).mono ?_; rintro e w2 ⟨rfl, b2⟩; have c2 : Below w.heap.size w w2 := bl_chain (by (repeat' (first | (with_reducible exact Below.refl _ _) | (with_reducible assumption) | (with_reducible refine Below.drew ?_) | (with_reducible refine below_drewN ?_ _) | (with_reducible refine Below.alloc ?_ ?_ _) | (with_reducible refine Below.setCell ?_ ?_ _) | exact Below.size (show Below w.heap.size w _ by assumption) | (simp; done) | (simp; omega)))) b2; have P2 : CellP w2 (w.heap.size) ka xa sa ra kb xb sb rb := CellP.below (by first | (with_reducible assumption) | (with_reducible refine CellP.drew ?_; assumption) | (with_reducible exact CellP.new _ _ _ _ _ _ _ _ _) | (with_reducible refine CellP.drew (CellP.new _ _ _ _ _ _ _ _ _)) | (constructor <;> first | (simp; done) | (simp; omega))) b2; obtain ⟨-, p20, p21, p22, p23, p24, p25, p26, p27⟩ := id P2; clear b2)))
  all_goals go_wp2
  all_goals go_ret2
  all_goals exact ⟨rfl, by (repeat' (first | (with_reducible exact Below.refl _ _) | (with_reducible assumption) | (with_reducible refine Below.drew ?_) | (with_reducible refine below_drewN ?_ _) | (with_reducible refine Below.alloc ?_ ?_ _) | (with_reducible refine Below.setCell ?_ ?_ _) | exact Below.size (show Below w.heap.size w _ by assumption) | (simp; done) | (simp; omega)))⟩
set_option maxHeartbeats 1000000 in
set_option maxRecDepth 100000 in
theorem op_number (f : Nat) (w : World) : Calls Tryz.prog 20 #[.float .f64 f] w fun e w' => e = .returned (.agg #[.int .i64 3, .float .f64 (f), .string ⟨#[]⟩, .int .i64 0]) ∧ Below w.heap.size w w' := by
  go_enter Tryz.func20, Tryz.ntmps20
  go_wp2
  (try simp only [Exit.inBlock, Exit.then])
  refine bodyPost_ret (v := .agg #[.int .i64 3, .float .f64 (f), .string ⟨#[]⟩, .int .i64 0]) ?_ rfl ⟨rfl, by (repeat' (first | (with_reducible exact Below.refl _ _) | (with_reducible assumption) | (with_reducible refine Below.drew ?_) | (with_reducible refine below_drewN ?_ _) | (with_reducible refine Below.alloc ?_ ?_ _) | (with_reducible refine Below.setCell ?_ ?_ _) | exact Below.size (show Below w.heap.size w _ by assumption) | (simp; done) | (simp; omega)))⟩
  rw [cv_results_cell rfl]
  go_simp
set_option maxHeartbeats 1000000 in
set_option maxRecDepth 100000 in
theorem op_text (s : ByteArray) (w : World) : Calls Tryz.prog 56 #[.string s] w fun e w' => e = .returned (.agg #[.int .i64 4, .float .f64 0, .string s, .int .i64 0]) ∧ Below w.heap.size w w' := by
  go_enter Tryz.func56, Tryz.ntmps56
  go_wp2
  (try simp only [Exit.inBlock, Exit.then])
  refine bodyPost_ret (v := .agg #[.int .i64 4, .float .f64 0, .string s, .int .i64 0]) ?_ rfl ⟨rfl, by (repeat' (first | (with_reducible exact Below.refl _ _) | (with_reducible assumption) | (with_reducible refine Below.drew ?_) | (with_reducible refine below_drewN ?_ _) | (with_reducible refine Below.alloc ?_ ?_ _) | (with_reducible refine Below.setCell ?_ ?_ _) | exact Below.size (show Below w.heap.size w _ by assumption) | (simp; done) | (simp; omega)))⟩
  rw [cv_results_cell rfl]
  go_simp
def truthN (b : Bool) : Nat := if b then 4607182418800017408 else 0
set_option maxHeartbeats 1000000 in
set_option maxRecDepth 100000 in
theorem op_truth (t : Bool) (w : World) : Calls Tryz.prog 18 #[.bool t] w fun e w' => e = .returned (.agg #[.int .i64 2, .float .f64 (truthN t), .string ⟨#[]⟩, .int .i64 0]) ∧ Below w.heap.size w w' := by
  cases t
  all_goals
    go_enter Tryz.func18, Tryz.ntmps18
    go_wp2
    (try simp only [Exit.inBlock, Exit.then])
    refine bodyPost_ret (v := .agg #[.int .i64 2, .float .f64 (truthN _), .string ⟨#[]⟩, .int .i64 0]) ?_ rfl ⟨rfl, by (repeat' (first | (with_reducible exact Below.refl _ _) | (with_reducible assumption) | (with_reducible refine Below.drew ?_) | (with_reducible refine below_drewN ?_ _) | (with_reducible refine Below.alloc ?_ ?_ _) | (with_reducible refine Below.setCell ?_ ?_ _) | exact Below.size (show Below w.heap.size w _ by assumption) | (simp; done) | (simp; omega)))⟩
    rw [cv_results_cell rfl]
    go_simp
    try rfl
end Go.Proofs.YtbkkkpfoaggejaaGreatDoor

namespace Go.Proofs.YtbkkkpfoaggejaaGreatDoor
set_option linter.unusedVariables false
set_option linter.unusedSimpArgs false
open Go.RowKit Go.Sort Fl

set_option maxHeartbeats 1000000 in
set_option maxRecDepth 100000 in
theorem op_nless (x y : Nat) (w : World) (hx : x < 18446744073709551616) (hy : y < 18446744073709551616) :
    Calls Tryz.prog 96 #[.float .f64 x, .float .f64 y] w fun e w' => e = .returned (.tuple #[.bool (FloatKind.f64.format.order x y == some Ordering.lt), .bool (!decide (nan x) && !decide (nan y))]) ∧ w' = w := by
  have HX := Hid.mk' (fun W => isNaN_any x W hx)
  have HY := Hid.mk' (fun W => isNaN_any y W hy)
  revert HX HY
  generalize decide (nan x) = nx
  generalize decide (nan y) = ny
  intro HX HY
  cases nx
  all_goals
    go_enter Tryz.func96, Tryz.ntmps96
    go_wp2_with (go_at_call 84; first | (refine (HX.out _).mono ?_; rintro e w1 ⟨rfl, hw1⟩; rw [hw1]; clear hw1 w1) | (refine (HY.out _).mono ?_; rintro e w1 ⟨rfl, hw1⟩; rw [hw1]; clear hw1 w1))
    go_ret2
    exact ⟨by first | rfl | simp, rfl⟩
set_option maxHeartbeats 1000000 in
set_option maxRecDepth 100000 in
theorem turned_any (ka : Int) (xa : Nat) (sa : ByteArray) (ra : Int) (kb : Int) (xb : Nat) (sb : ByteArray) (rb : Int) (w : World) : Calls Tryz.prog 65 #[.agg #[.int .i64 ka, .float .f64 xa, .string sa, .int .i64 ra, .int .i64 kb, .float .f64 xb, .string sb, .int .i64 rb]] w fun e w' => e = .returned (.agg #[.int .i64 kb, .float .f64 xb, .string sb, .int .i64 rb, .int .i64 ka, .float .f64 xa, .string sa, .int .i64 ra]) ∧ Below w.heap.size w w' := by
  go_enter Tryz.func65, Tryz.ntmps65
  go_wp2
  (try simp only [Exit.inBlock, Exit.then])
  refine bodyPost_ret (v := .agg #[.int .i64 kb, .float .f64 xb, .string sb, .int .i64 rb, .int .i64 ka, .float .f64 xa, .string sa, .int .i64 ra]) ?_ rfl ⟨rfl, by (repeat' (first | (with_reducible exact Below.refl _ _) | (with_reducible assumption) | (with_reducible refine Below.drew ?_) | (with_reducible refine below_drewN ?_ _) | (with_reducible refine Below.alloc ?_ ?_ _) | (with_reducible refine Below.setCell ?_ ?_ _) | exact Below.size (show Below w.heap.size w _ by assumption) | (simp; done) | (simp; omega)))⟩
  rw [cv_results_cell rfl]
  go_simp
/-- What less says of a pair. -/
def LessIs (ka : Int) (xa : Nat) (sa : ByteArray) (ra : Int) (kb : Int) (xb : Nat) (sb : ByteArray) (rb : Int) (L O : Bool) : Prop := ∀ w, Hid (Laid w) → Calls Tryz.prog 64 #[.agg #[.int .i64 ka, .float .f64 xa, .string sa, .int .i64 ra, .int .i64 kb, .float .f64 xb, .string sb, .int .i64 rb]] w fun e w' => e = .returned (.tuple #[.bool L, .bool O]) ∧ Below w.heap.size w w'
set_option maxHeartbeats 1000000 in
set_option maxRecDepth 100000 in
theorem less_t (xa : Nat) (sa : ByteArray) (ra : Int) (xb : Nat) (sb : ByteArray) (rb : Int) (za : (sa.size : Int) ≤ 140737488351232) (zb : (sb.size : Int) ≤ 140737488351232) : LessIs 4 xa sa ra 4 xb sb rb (decide (cmpK sa sb 0 < 0)) true := by
  intro w hl
  have HC := Hid.mk' (fun W => compare_wide sa sb W za zb)
  clear za zb hl
  go_enter Tryz.func64, Tryz.ntmps64
  go_wp2_with fail
  refine (HC.out _).mono ?_
  rintro e w1 ⟨rfl, hw1⟩
  rw [hw1]; clear hw1 w1
  go_wp2
  go_ret2
  exact ⟨rfl, by (repeat' (first | (with_reducible exact Below.refl _ _) | (with_reducible assumption) | (with_reducible refine Below.drew ?_) | (with_reducible refine below_drewN ?_ _) | (with_reducible refine Below.alloc ?_ ?_ _) | (with_reducible refine Below.setCell ?_ ?_ _) | exact Below.size (show Below w.heap.size w _ by assumption) | (simp; done) | (simp; omega)))⟩
set_option maxHeartbeats 1000000 in
set_option maxRecDepth 100000 in
theorem less_n (ka : Int) (xa : Nat) (sa : ByteArray) (ra : Int) (kb : Int) (xb : Nat) (sb : ByteArray) (rb : Int) (fa fb : Nat) (ha : ka ≠ 6) (hb : kb ≠ 6) (h4 : ¬ (ka = 4 ∧ kb = 4)) (hfa : fa < 18446744073709551616) (hfb : fb < 18446744073709551616) (HA : Hid (NumIs ka xa sa ra fa)) (HB : Hid (NumIs kb xb sb rb fb)) : LessIs ka xa sa ra kb xb sb rb (FloatKind.f64.format.order fa fb == some Ordering.lt) (!decide (nan fa) && !decide (nan fb)) := by
  intro w hl
  have HN := Hid.mk' (fun W (hW : Hid (Laid W)) => numbers_h ka xa sa ra kb xb sb rb fa fb ha hb HA HB W hW)
  have HL := Hid.mk' (fun W => op_nless fa fb W hfa hfb)
  revert HL
  generalize (FloatKind.f64.format.order fa fb == some Ordering.lt) = L
  generalize (!decide (nan fa) && !decide (nan fb)) = O
  intro HL
  clear ha hb HA HB hfa hfb
  by_cases h : ka = 4
  · have hb4 : kb ≠ 4 := fun h' => h4 ⟨h, h'⟩
    have k1 : (kb == 4) = false := by simpa using hb4
    have k0 : (ka == 4) = true := by simpa using h
    clear h4 hb4 h
    go_enter Tryz.func64, Tryz.ntmps64
    go_wp2_with fail
    with_reducible refine (HN.out _ (Hid.mk' (hl.out.below (by (repeat' (first | (with_reducible exact Below.refl _ _) | (with_reducible assumption) | (with_reducible refine Below.drew ?_) | (with_reducible refine below_drewN ?_ _) | (with_reducible refine Below.alloc ?_ ?_ _) | (with_reducible refine Below.setCell ?_ ?_ _) | exact Below.size (show Below w.heap.size w _ by assumption) | (simp; done) | (simp; omega))))))).mono ?_; rintro e w1 ⟨rfl, b1⟩; have c1 : Below w.heap.size w w1 := bl_chain (by (repeat' (first | (with_reducible exact Below.refl _ _) | (with_reducible assumption) | (with_reducible refine Below.drew ?_) | (with_reducible refine below_drewN ?_ _) | (with_reducible refine Below.alloc ?_ ?_ _) | (with_reducible refine Below.setCell ?_ ?_ _) | exact Below.size (show Below w.heap.size w _ by assumption) | (simp; done) | (simp; omega)))) b1; have P1 : CellP w1 (w.heap.size) ka xa sa ra kb xb sb rb := CellP.below (by first | (with_reducible assumption) | (with_reducible refine CellP.drew ?_; assumption) | (with_reducible exact CellP.new _ _ _ _ _ _ _ _ _) | (with_reducible refine CellP.drew (CellP.new _ _ _ _ _ _ _ _ _)) | (constructor <;> first | (simp; done) | (simp; omega))) b1; obtain ⟨-, p10, p11, p12, p13, p14, p15, p16, p17⟩ := id P1; clear b1
    go_wp2_with fail
    refine (HL.out _).mono ?_
    rintro e w2 ⟨rfl, hw2⟩
    rw [hw2]; clear hw2 w2
    go_wp2
    go_ret2
    exact ⟨rfl, by (repeat' (first | (with_reducible exact Below.refl _ _) | (with_reducible assumption) | (with_reducible refine Below.drew ?_) | (with_reducible refine below_drewN ?_ _) | (with_reducible refine Below.alloc ?_ ?_ _) | (with_reducible refine Below.setCell ?_ ?_ _) | exact Below.size (show Below w.heap.size w _ by assumption) | (simp; done) | (simp; omega)))⟩
  · have k1 : (ka == 4) = false := by simpa using h
    clear h4
    go_enter Tryz.func64, Tryz.ntmps64
    go_wp2_with fail
    with_reducible refine (HN.out _ (Hid.mk' (hl.out.below (by (repeat' (first | (with_reducible exact Below.refl _ _) | (with_reducible assumption) | (with_reducible refine Below.drew ?_) | (with_reducible refine below_drewN ?_ _) | (with_reducible refine Below.alloc ?_ ?_ _) | (with_reducible refine Below.setCell ?_ ?_ _) | exact Below.size (show Below w.heap.size w _ by assumption) | (simp; done) | (simp; omega))))))).mono ?_; rintro e w1 ⟨rfl, b1⟩; have c1 : Below w.heap.size w w1 := bl_chain (by (repeat' (first | (with_reducible exact Below.refl _ _) | (with_reducible assumption) | (with_reducible refine Below.drew ?_) | (with_reducible refine below_drewN ?_ _) | (with_reducible refine Below.alloc ?_ ?_ _) | (with_reducible refine Below.setCell ?_ ?_ _) | exact Below.size (show Below w.heap.size w _ by assumption) | (simp; done) | (simp; omega)))) b1; have P1 : CellP w1 (w.heap.size) ka xa sa ra kb xb sb rb := CellP.below (by first | (with_reducible assumption) | (with_reducible refine CellP.drew ?_; assumption) | (with_reducible exact CellP.new _ _ _ _ _ _ _ _ _) | (with_reducible refine CellP.drew (CellP.new _ _ _ _ _ _ _ _ _)) | (constructor <;> first | (simp; done) | (simp; omega))) b1; obtain ⟨-, p10, p11, p12, p13, p14, p15, p16, p17⟩ := id P1; clear b1
    go_wp2_with fail
    refine (HL.out _).mono ?_
    rintro e w2 ⟨rfl, hw2⟩
    rw [hw2]; clear hw2 w2
    go_wp2
    go_ret2
    exact ⟨rfl, by (repeat' (first | (with_reducible exact Below.refl _ _) | (with_reducible assumption) | (with_reducible refine Below.drew ?_) | (with_reducible refine below_drewN ?_ _) | (with_reducible refine Below.alloc ?_ ?_ _) | (with_reducible refine Below.setCell ?_ ?_ _) | exact Below.size (show Below w.heap.size w _ by assumption) | (simp; done) | (simp; omega)))⟩
set_option maxHeartbeats 1000000 in
set_option maxRecDepth 100000 in
theorem below_h (ka : Int) (xa : Nat) (sa : ByteArray) (ra : Int) (kb : Int) (xb : Nat) (sb : ByteArray) (rb : Int) (L O : Bool) (HL : Hid (LessIs ka xa sa ra kb xb sb rb L O)) (w : World) (hl : Hid (Laid w)) : Calls Tryz.prog 36 #[.agg #[.int .i64 ka, .float .f64 xa, .string sa, .int .i64 ra, .int .i64 kb, .float .f64 xb, .string sb, .int .i64 rb]] w fun e w' => e = .returned (.bool L) ∧ Below w.heap.size w w' := by
  have HL := Hid.mk' (fun W (hW : Hid (Laid W)) => HL.out W hW)
  go_enter Tryz.func36, Tryz.ntmps36
  go_wp2_with fail
  with_reducible refine (HL.out _ (Hid.mk' (hl.out.below (by (repeat' (first | (with_reducible exact Below.refl _ _) | (with_reducible assumption) | (with_reducible refine Below.drew ?_) | (with_reducible refine below_drewN ?_ _) | (with_reducible refine Below.alloc ?_ ?_ _) | (with_reducible refine Below.setCell ?_ ?_ _) | exact Below.size (show Below w.heap.size w _ by assumption) | (simp; done) | (simp; omega))))))).mono ?_; rintro e w1 ⟨rfl, b1⟩; have c1 : Below w.heap.size w w1 := bl_chain (by (repeat' (first | (with_reducible exact Below.refl _ _) | (with_reducible assumption) | (with_reducible refine Below.drew ?_) | (with_reducible refine below_drewN ?_ _) | (with_reducible refine Below.alloc ?_ ?_ _) | (with_reducible refine Below.setCell ?_ ?_ _) | exact Below.size (show Below w.heap.size w _ by assumption) | (simp; done) | (simp; omega)))) b1; have P1 : CellP w1 (w.heap.size) ka xa sa ra kb xb sb rb := CellP.below (by first | (with_reducible assumption) | (with_reducible refine CellP.drew ?_; assumption) | (with_reducible exact CellP.new _ _ _ _ _ _ _ _ _) | (with_reducible refine CellP.drew (CellP.new _ _ _ _ _ _ _ _ _)) | (constructor <;> first | (simp; done) | (simp; omega))) b1; obtain ⟨-, p10, p11, p12, p13, p14, p15, p16, p17⟩ := id P1; clear b1
  go_wp2
  go_ret
  exact ⟨rfl, by (repeat' (first | (with_reducible exact Below.refl _ _) | (with_reducible assumption) | (with_reducible refine Below.drew ?_) | (with_reducible refine below_drewN ?_ _) | (with_reducible refine Below.alloc ?_ ?_ _) | (with_reducible refine Below.setCell ?_ ?_ _) | exact Below.size (show Below w.heap.size w _ by assumption) | (simp; done) | (simp; omega)))⟩
set_option maxHeartbeats 1000000 in
set_option maxRecDepth 100000 in
theorem above_h (ka : Int) (xa : Nat) (sa : ByteArray) (ra : Int) (kb : Int) (xb : Nat) (sb : ByteArray) (rb : Int) (L O : Bool) (HL : Hid (LessIs kb xb sb rb ka xa sa ra L O)) (w : World) (hl : Hid (Laid w)) : Calls Tryz.prog 37 #[.agg #[.int .i64 ka, .float .f64 xa, .string sa, .int .i64 ra, .int .i64 kb, .float .f64 xb, .string sb, .int .i64 rb]] w fun e w' => e = .returned (.bool L) ∧ Below w.heap.size w w' := by
  have HT := Hid.mk' (fun W => turned_any ka xa sa ra kb xb sb rb W)
  have HB := Hid.mk' (fun W (hW : Hid (Laid W)) => below_h kb xb sb rb ka xa sa ra L O HL W hW)
  go_enter Tryz.func37, Tryz.ntmps37
  go_wp2_with fail
  with_reducible refine (HT.out _).mono ?_; rintro e w1 ⟨rfl, b1⟩; have c1 : Below w.heap.size w w1 := bl_chain (by (repeat' (first | (with_reducible exact Below.refl _ _) | (with_reducible assumption) | (with_reducible refine Below.drew ?_) | (with_reducible refine below_drewN ?_ _) | (with_reducible refine Below.alloc ?_ ?_ _) | (with_reducible refine Below.setCell ?_ ?_ _) | exact Below.size (show Below w.heap.size w _ by assumption) | (simp; done) | (simp; omega)))) b1; have P1 : CellP w1 (w.heap.size) ka xa sa ra kb xb sb rb := CellP.below (by first | (with_reducible assumption) | (with_reducible refine CellP.drew ?_; assumption) | (with_reducible exact CellP.new _ _ _ _ _ _ _ _ _) | (with_reducible refine CellP.drew (CellP.new _ _ _ _ _ _ _ _ _)) | (constructor <;> first | (simp; done) | (simp; omega))) b1; obtain ⟨-, p10, p11, p12, p13, p14, p15, p16, p17⟩ := id P1; clear b1
  go_wp2_with fail
  with_reducible refine (HB.out _ (Hid.mk' (hl.out.below (by (repeat' (first | (with_reducible exact Below.refl _ _) | (with_reducible assumption) | (with_reducible refine Below.drew ?_) | (with_reducible refine below_drewN ?_ _) | (with_reducible refine Below.alloc ?_ ?_ _) | (with_reducible refine Below.setCell ?_ ?_ _) | exact Below.size (show Below w.heap.size w _ by assumption) | (simp; done) | (simp; omega))))))).mono ?_; rintro e w2 ⟨rfl, b2⟩; have c2 : Below w.heap.size w w2 := bl_chain (by (repeat' (first | (with_reducible exact Below.refl _ _) | (with_reducible assumption) | (with_reducible refine Below.drew ?_) | (with_reducible refine below_drewN ?_ _) | (with_reducible refine Below.alloc ?_ ?_ _) | (with_reducible refine Below.setCell ?_ ?_ _) | exact Below.size (show Below w.heap.size w _ by assumption) | (simp; done) | (simp; omega)))) b2; have P2 : CellP w2 (w.heap.size) ka xa sa ra kb xb sb rb := CellP.below (by first | (with_reducible assumption) | (with_reducible refine CellP.drew ?_; assumption) | (with_reducible exact CellP.new _ _ _ _ _ _ _ _ _) | (with_reducible refine CellP.drew (CellP.new _ _ _ _ _ _ _ _ _)) | (constructor <;> first | (simp; done) | (simp; omega))) b2; obtain ⟨-, p20, p21, p22, p23, p24, p25, p26, p27⟩ := id P2; clear b2
  go_wp2
  go_ret
  exact ⟨rfl, by (repeat' (first | (with_reducible exact Below.refl _ _) | (with_reducible assumption) | (with_reducible refine Below.drew ?_) | (with_reducible refine below_drewN ?_ _) | (with_reducible refine Below.alloc ?_ ?_ _) | (with_reducible refine Below.setCell ?_ ?_ _) | exact Below.size (show Below w.heap.size w _ by assumption) | (simp; done) | (simp; omega)))⟩
set_option maxHeartbeats 1000000 in
set_option maxRecDepth 100000 in
theorem same_h (ka : Int) (xa : Nat) (sa : ByteArray) (ra : Int) (kb : Int) (xb : Nat) (sb : ByteArray) (rb : Int) (xla : xa < 18446744073709551616) (xlb : xb < 18446744073709551616) (za : (sa.size : Int) ≤ 140737488351232) (zb : (sb.size : Int) ≤ 140737488351232) (w : World) (hl : Hid (Laid w)) : Calls Tryz.prog 32 #[.agg #[.int .i64 ka, .float .f64 xa, .string sa, .int .i64 ra, .int .i64 kb, .float .f64 xb, .string sb, .int .i64 rb]] w fun e w' => e = .returned (.bool (sameV ka xa sa ra kb xb sb rb 0)) ∧ Below w.heap.size w w' := by
  have HS := Hid.mk' (fun W => vsame ka xa sa ra kb xb sb rb 0 W xla xlb za zb)
  clear xla xlb za zb
  revert HS
  generalize sameV ka xa sa ra kb xb sb rb 0 = L
  intro HS
  go_enter Tryz.func32, Tryz.ntmps32
  go_wp2_with fail
  with_reducible refine (HS.out _).mono ?_; rintro e w1 ⟨rfl, b1⟩; have c1 : Below w.heap.size w w1 := bl_chain (by (repeat' (first | (with_reducible exact Below.refl _ _) | (with_reducible assumption) | (with_reducible refine Below.drew ?_) | (with_reducible refine below_drewN ?_ _) | (with_reducible refine Below.alloc ?_ ?_ _) | (with_reducible refine Below.setCell ?_ ?_ _) | exact Below.size (show Below w.heap.size w _ by assumption) | (simp; done) | (simp; omega)))) b1; have P1 : CellP w1 (w.heap.size) ka xa sa ra kb xb sb rb := CellP.below (by first | (with_reducible assumption) | (with_reducible refine CellP.drew ?_; assumption) | (with_reducible exact CellP.new _ _ _ _ _ _ _ _ _) | (with_reducible refine CellP.drew (CellP.new _ _ _ _ _ _ _ _ _)) | (constructor <;> first | (simp; done) | (simp; omega))) b1; obtain ⟨-, p10, p11, p12, p13, p14, p15, p16, p17⟩ := id P1; clear b1
  go_wp2
  go_ret
  exact ⟨rfl, by (repeat' (first | (with_reducible exact Below.refl _ _) | (with_reducible assumption) | (with_reducible refine Below.drew ?_) | (with_reducible refine below_drewN ?_ _) | (with_reducible refine Below.alloc ?_ ?_ _) | (with_reducible refine Below.setCell ?_ ?_ _) | exact Below.size (show Below w.heap.size w _ by assumption) | (simp; done) | (simp; omega)))⟩
end Go.Proofs.YtbkkkpfoaggejaaGreatDoor
