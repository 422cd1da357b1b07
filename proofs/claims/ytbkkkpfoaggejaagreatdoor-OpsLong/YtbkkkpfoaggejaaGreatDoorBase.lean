/- Contracts of the small functions of package units: lengths, single units, code points at a place, units and code points put behind a row of bytes. -/
import Derived.Test.YtbkkkpfoaggejaaGreatDoorProg
import Derived.Test.YtbkkkpfoaggejaaGreatDoorPlain
import Derived.WalkKit
import Derived.WalkSpells
import Derived.WalkLawsBesides
import Derived.Deep.QuietTactic
import Derived.BigQuiet
import Derived.Maps.AppendAt
import Derived.Lib.OthersKept
namespace Go.Proofs.YtbkkkpfoaggejaaGreatDoor
set_option linter.unusedVariables false
open Go.RowKit

theorem info8 : (Tryz.prog.info? 5).map (fun i => (i.zero, i.size, i.bytes)) = some (some (.int .u8 0), 1, 1) := by kernel_rfl

set_option maxHeartbeats 400000 in
set_option maxRecDepth 100000 in
theorem len_any (s : ByteArray) (w : World) (hs : s.size ≤ maxLen) :
    Calls Tryz.prog 99 #[.string s] w fun e w' => e = .returned (.int .i64 (s.size / 2 : Nat)) ∧ w' = w := by
  unfold maxLen at hs
  go_enter Tryz.func99, Tryz.ntmps99
  go_wp2
  go_ret
  exact ⟨rfl, rfl⟩

theorem Hid.mk' {p : Prop} (h : p) : Hid p := h

theorem ret_int {k : IntKind} {a b : Int} (h : a = b) : Ending.returned (.int k a) = .returned (.int k b) := by rw [h]
theorem ret_bool {a b : Bool} (h : a = b) : Ending.returned (.bool a) = .returned (.bool b) := by rw [h]

set_option maxHeartbeats 400000 in
set_option maxRecDepth 100000 in
theorem unit_any (s : ByteArray) (i : Nat) (w : World) (hs : s.size ≤ maxLen) (hi : i < s.size / 2) :
    Calls Tryz.prog 194 #[.string s, .int .i64 i] w fun e w' => e = .returned (.int .u16 (un s i)) ∧ ∃ n, w' = w.drewN n := by
  unfold maxLen at hs
  have i1 : (0 : Int) ≤ 2 * (i : Int) := by omega
  have i2 : 2 * (i : Int) < (s.size : Int) := by omega
  have i3 : (0 : Int) ≤ 2 * (i : Int) + 1 := by omega
  have i4 : 2 * (i : Int) + 1 < (s.size : Int) := by omega
  go_enter Tryz.func194, Tryz.ntmps194
  go_wp2
  go_quiet (fail)
  go_wp2
  go_ret
  refine ⟨ret_int ?_, nq, rfl⟩
  rw [show un s i = s[2 * i].toNat * 256 + s[2 * i + 1].toNat from by unfold un; rw [by_get s (2 * i) (by omega), by_get s (2 * i + 1) (by omega)]]
  exact or_unit _ _ (UInt8.toNat_lt _) (UInt8.toNat_lt _)

set_option maxHeartbeats 400000 in
set_option maxRecDepth 100000 in
theorem isHigh_any (u : Nat) (w : World) :
    Calls Tryz.prog 195 #[.int .u16 u] w fun e w' => e = .returned (.bool (isHi u)) ∧ w' = w := by
  go_enter Tryz.func195, Tryz.ntmps195
  go_wp2
  all_goals go_ret
  all_goals refine ⟨ret_bool ?_, rfl⟩
  all_goals simp only [isHi]
  · by_cases h : (u : Int) < 56320
    · simp only [h, decide_true]; symm; simp only [decide_eq_true_eq]; omega
    · simp only [h, decide_false]; symm; simp only [decide_eq_false_iff_not]; omega
  · symm; simp only [decide_eq_false_iff_not]; omega

set_option maxHeartbeats 400000 in
set_option maxRecDepth 100000 in
theorem isLow_any (u : Nat) (w : World) :
    Calls Tryz.prog 196 #[.int .u16 u] w fun e w' => e = .returned (.bool (isLo u)) ∧ w' = w := by
  go_enter Tryz.func196, Tryz.ntmps196
  go_wp2
  all_goals go_ret
  all_goals refine ⟨ret_bool ?_, rfl⟩
  all_goals simp only [isLo]
  · by_cases h : (u : Int) < 57344
    · simp only [h, decide_true]; symm; simp only [decide_eq_true_eq]; omega
    · simp only [h, decide_false]; symm; simp only [decide_eq_false_iff_not]; omega
  · symm; simp only [decide_eq_false_iff_not]; omega

set_option maxHeartbeats 400000 in
set_option maxRecDepth 100000 in
theorem at_in (s : ByteArray) (i : Nat) (w : World) (hs : s.size ≤ maxLen) (hi : i < s.size / 2) :
    Calls Tryz.prog 169 #[.string s, .int .i64 i] w fun e w' => e = .returned (.tuple #[.int .u16 (un s i), .bool true]) ∧ ∃ n, w' = w.drewN n := by
  have i2 : (i : Int) < ((s.size / 2 : Nat) : Int) := by omega
  go_enter Tryz.func169, Tryz.ntmps169
  go_wp2_with (first | (go_at_call 99; refine (len_any _ _ hs).mono ?_; rintro e w' ⟨rfl, rfl⟩) | (go_at_call 194; refine (unit_any _ _ _ hs hi).mono ?_; rintro e w' ⟨rfl, nq, rfl⟩))
  go_ret2
  exact ⟨rfl, _, rfl⟩

set_option maxHeartbeats 400000 in
set_option maxRecDepth 100000 in
theorem at_out (s : ByteArray) (i : Int) (w : World) (hs : s.size ≤ maxLen) (hi : i < 0 ∨ (s.size / 2 : Nat) ≤ i) :
    Calls Tryz.prog 169 #[.string s, .int .i64 i] w fun e w' => e = .returned (.tuple #[.int .u16 0, .bool false]) ∧ ∃ n, w' = w.drewN n := by
  rcases hi with h | h
  · go_enter Tryz.func169, Tryz.ntmps169
    go_wp2_with fail
    go_ret2
    exact ⟨rfl, 0, rfl⟩
  · have h0 : ¬ i < 0 := by omega
    go_enter Tryz.func169, Tryz.ntmps169
    go_wp2_with (first | (go_at_call 99; refine (len_any _ _ hs).mono ?_; rintro e w' ⟨rfl, rfl⟩))
    go_ret2
    exact ⟨rfl, 0, rfl⟩

theorem cells_new (w : World) (l : List Value) (t : TypeId) : ∀ j u, l[j]? = some u → (w.alloc (.cells l.toArray t)).cell? ((⟨w.heap.size, 0, none⟩ : Addr).add j) = some u := by
  intro j u h
  have hadd : (⟨w.heap.size, 0, none⟩ : Addr).add j = ⟨w.heap.size, j, none⟩ := by unfold Addr.add; split <;> simp_all
  rw [hadd, cell_of_row _ w.heap.size j l.toArray t (0, 0) (heap_alloc_new w _)]
  simpa using h

theorem grown_of_alloc {w w' : World} {o : Obj} {row : Option Nat} (h : (w.alloc o).grownBy w' row) : w.grownBy w' row := (World.grownBy_alloc w o row).trans h

/-- What lay below B stands, and so does every block that is no row of e's. -/
def Kept (B : Nat) (e : TypeId) (w w' : World) : Prop := Below B w w' ∧ Lib.OthersKept e none w w'
theorem Kept.refl (B : Nat) (e : TypeId) (w : World) : Kept B e w w := ⟨Below.refl _ _, Lib.OthersKept.refl _ _ _⟩
theorem Kept.trans {B : Nat} {e : TypeId} {a b c : World} (h : Kept B e a b) (k : Kept B e b c) : Kept B e a c := ⟨h.1.trans k.1, h.2.trans k.2⟩
theorem Kept.le {B : Nat} {e : TypeId} {a b : World} (h : Kept B e a b) : a.heap.size ≤ b.heap.size := h.1.size
theorem kind_own {w : World} {B : Nat} {e : TypeId} {v : Value} {n sz : Nat} {xs : List Value} (h : w.ownsRow B e sz v n xs) : ∀ g, v.ownBlock = some g → ∃ c fz, w.heap[g]? = some (.cells c e fz) := by
  intro g hg
  rcases h.2 with ⟨rfl, _⟩ | ⟨g', cap, cur, rfl, _, hgg, _⟩
  · simp [Value.ownBlock] at hg
  · simp [Value.ownBlock] at hg
    subst hg
    exact ⟨cur, _, hgg⟩
theorem kept_append {w w' : World} {B : Nat} {e : TypeId} {v : Value} {n sz : Nat} {xs : List Value} (hown : w.ownsRow B e sz v n xs) (hg : w.grownBy w' v.ownBlock) (hBw : B ≤ w.heap.size) : Kept B e w w' :=
  ⟨(Below.refl _ _).grown hg hBw (fun k hk => (hown.lt k hk).1), (Lib.OthersKept.refl _ _ _).grown hg (kind_own hown)⟩
theorem kept_alloc (B : Nat) (e : TypeId) (w : World) (o : Obj) (h : B ≤ w.heap.size) : Kept B e w (w.alloc o) := ⟨(Below.refl _ _).alloc h _, (Lib.OthersKept.refl _ _ _).alloc _⟩
theorem kept_drewN (B : Nat) (e : TypeId) (w : World) (n : Nat) : Kept B e w (w.drewN n) := by
  refine ⟨below_drewN (Below.refl _ _) n, fun k o hk _ _ => ?_⟩
  rw [← hk]; rfl

theorem oneCell_bytes (l : List UInt8) : ∀ u ∈ Lib.byteCells l, u.oneCell' = true := by
  intro u hu
  simp only [Lib.byteCells, List.mem_map] at hu
  obtain ⟨b, _, rfl⟩ := hu
  rfl

set_option maxHeartbeats 400000 in
set_option maxRecDepth 100000 in
theorem appendUnit_any (B : Nat) (v : Value) (n : Nat) (xs : List Value) (u : Nat) (h1 : u < 65536) (w : World) (hown : w.ownsRow B 5 1 v n xs) (hlen : n + 2 ≤ 140737488355328) (hBw : B ≤ w.heap.size) :
    Calls Tryz.prog 117 #[v, .int .u16 u] w fun e w' => ∃ v', e = .returned v' ∧ w'.ownsRow B 5 1 v' (n + 2) (xs ++ Lib.byteCells (ub u)) ∧ Kept B 5 w w' := by
  rw [byteCells_ub u h1]
  obtain ⟨i0, hi, hz0, hz1, hz2⟩ := info_parts info8
  go_enter Tryz.func117, Tryz.ntmps117
  go_wp2_with (at_builtin; refine wpList_append_own _ rfl _ _ 54 rfl B 5 i0 (.int .u8 0) 1 1 Tryz.underlying54 hi hz0 hz1 hz2 rfl (by decide) _ _ _ rfl (hown.alloc _) ⟨w.heap.size, 0, none⟩ 2 2 [.int .u8 ((u : Int) / 256), .int .u8 ((u : Int) % 256)] rfl rfl ?c1 ?c2 ?c3 ?c4 ?c5 ?_)
  case c1 => exact cells_new _ _ _
  case c2 => intro u hu; simp at hu; rcases hu with rfl | rfl <;> rfl
  case c3 => unfold maxLen; omega
  case c4 => omega
  case c5 => simp; omega
  intro v' w2 hown' hgrow _
  go_wp2
  go_ret
  exact ⟨_, rfl, hown', kept_append hown (grown_of_alloc hgrow) hBw⟩


theorem pb_low {r : Nat} (h : r < 65536) : pb r = ub r := by simp [pb, h]
theorem pb_high {r : Nat} (h : ¬ r < 65536) : pb r = ub (55296 + (r - 65536) / 1024) ++ ub (56320 + (r - 65536) % 1024) := by simp [pb, h]
theorem byteCells_append' (a b : List UInt8) : Lib.byteCells (a ++ b) = Lib.byteCells a ++ Lib.byteCells b := by simp [Lib.byteCells]

set_option maxHeartbeats 400000 in
set_option maxRecDepth 100000 in
theorem appendPoint_low (B : Nat) (v : Value) (n : Nat) (xs : List Value) (r : Nat) (h1 : r < 65536) (w : World) (hown : w.ownsRow B 5 1 v n xs) (hlen : n + 4 ≤ 140737488355328) (hBw : B ≤ w.heap.size) :
    Calls Tryz.prog 101 #[v, .int .i32 r] w fun e w' => ∃ v', e = .returned v' ∧ w'.ownsRow B 5 1 v' (n + (pb r).length) (xs ++ Lib.byteCells (pb r)) ∧ Kept B 5 w w' := by
  have e1 : Hid (pb r = ub r) := pb_low h1
  have hr : (r : Int) < 65536 := by omega
  have C := appendUnit_any B v n xs r h1 w hown (by omega) hBw
  go_enter Tryz.func101, Tryz.ntmps101
  go_wp2_with (go_at_call 117; refine C.mono ?_; rintro e w' ⟨v', rfl, o1, k1⟩)
  go_ret
  rw [e1.out]
  exact ⟨v', rfl, o1, k1⟩


end Go.Proofs.YtbkkkpfoaggejaaGreatDoor
