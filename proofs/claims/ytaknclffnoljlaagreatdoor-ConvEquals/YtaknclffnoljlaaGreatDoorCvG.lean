/- Which values are as they should be: conv.Good and the document's. Written by tools/mkcvq.py. -/
import Derived.Test.YtaknclffnoljlaaGreatDoorCvP
namespace Go.Proofs.YtaknclffnoljlaaGreatDoor
set_option linter.unusedVariables false
open Go.RowKit Fl

/-- Whether a value is as it should be. -/
def goodV (k : Int) (x : Nat) (s : ByteArray) (r : Int) : Bool :=
  if k = 0 ∨ k = 1 then decide (x = 0) && s.toList.isEmpty && (r == 0)
  else if k = 2 then (decide (x = 4607182418800017408) || decide (x = 0)) && s.toList.isEmpty && (r == 0)
  else if k = 3 then s.toList.isEmpty && (r == 0)
  else if k = 4 then decide (s.size % 2 = 0) && decide (x = 0) && (r == 0)
  else if k = 5 ∨ k = 6 then decide (0 < r) && decide (x = 0) && s.toList.isEmpty
  else false
theorem empty_size {s : ByteArray} (h : s.toList.isEmpty = true) : s = ⟨#[]⟩ := by
  have : s.toList.length = s.size := by rw [ByteArray.toList_eq]; simp
  have h2 : s.toList = [] := List.isEmpty_iff.1 h
  rw [h2] at this
  exact ByteArray.ext (Array.eq_empty_of_size_eq_zero this.symm)
theorem zero_eq (x : Nat) (hx : x < 18446744073709551616) : (FloatKind.f64.format.order x 0 == some Ordering.eq) = decide (x % 9223372036854775808 = 0) := by
  rw [eqf x _ hx (by omega)]
  refine decide_eq_decide.2 ⟨fun h => ?_, fun h => ?_⟩
  · have := h.2.2
    unfold key at this
    rw [if_neg (show ¬ 9223372036854775808 ≤ 0 by omega)] at this
    split at this <;> omega
  · refine ⟨by unfold nan; omega, by unfold nan; omega, ?_⟩
    unfold key
    rw [if_neg (show ¬ 9223372036854775808 ≤ 0 by omega)]
    split <;> omega
theorem same_zero (x : Nat) : sameB x 0 2 = decide (x = 0) := alike_zero x
theorem same_self2 (x : Nat) : sameB x x 2 = true := by unfold sameB alike; simp

set_option maxHeartbeats 1000000 in
set_option maxRecDepth 100000 in
theorem vgood_0 (x : Nat) (s : ByteArray) (r : Int) (w : World) (hx : x < 18446744073709551616) :
    Calls Tryz.prog 17 #[.agg #[.int .i64 0, .float .f64 x, .string s, .int .i64 r]] w fun e w' => e = .returned (.bool (decide (x = 0) && s.toList.isEmpty && (r == 0))) ∧ Below w.heap.size w w' := by
  have HN := Hid.mk' (fun W => nsame_any x 0 2 W hx (by omega))
  rw [same_zero] at HN
  obtain ⟨X, hX⟩ : ∃ X, decide (x = 0) = X := ⟨_, rfl⟩
  rw [hX] at HN ⊢
  clear hX
  obtain ⟨E, hE⟩ : ∃ E, s.toList.isEmpty = E := ⟨_, rfl⟩
  obtain ⟨R, hR⟩ : ∃ R, (r == 0) = R := ⟨_, rfl⟩
  rw [hE, hR]
  cases X
  · go_enter Tryz.func17, Tryz.ntmps17
    go_wp2_with fail
    refine (HN.out _).mono ?_
    rintro e w9 ⟨rfl, hw9⟩
    rw [hw9]; clear hw9 w9
    go_wp2
    go_ret
    exact ⟨rfl, by (repeat' (first | (with_reducible exact Below.refl _ _) | (with_reducible assumption) | (with_reducible refine Below.drew ?_) | (with_reducible refine Below.alloc ?_ ?_ _) | (with_reducible refine Below.setCell ?_ ?_ _) | (simp; done) | (simp; omega)))⟩
  · cases E
    · go_enter Tryz.func17, Tryz.ntmps17
      go_wp2_with fail
      refine (HN.out _).mono ?_
      rintro e w9 ⟨rfl, hw9⟩
      rw [hw9]; clear hw9 w9
      go_wp2
      go_ret
      exact ⟨rfl, by (repeat' (first | (with_reducible exact Below.refl _ _) | (with_reducible assumption) | (with_reducible refine Below.drew ?_) | (with_reducible refine Below.alloc ?_ ?_ _) | (with_reducible refine Below.setCell ?_ ?_ _) | (simp; done) | (simp; omega)))⟩
    · cases R
      · go_enter Tryz.func17, Tryz.ntmps17
        go_wp2_with fail
        refine (HN.out _).mono ?_
        rintro e w9 ⟨rfl, hw9⟩
        rw [hw9]; clear hw9 w9
        go_wp2
        go_ret
        exact ⟨rfl, by (repeat' (first | (with_reducible exact Below.refl _ _) | (with_reducible assumption) | (with_reducible refine Below.drew ?_) | (with_reducible refine Below.alloc ?_ ?_ _) | (with_reducible refine Below.setCell ?_ ?_ _) | (simp; done) | (simp; omega)))⟩
      · go_enter Tryz.func17, Tryz.ntmps17
        go_wp2_with fail
        refine (HN.out _).mono ?_
        rintro e w9 ⟨rfl, hw9⟩
        rw [hw9]; clear hw9 w9
        go_wp2
        go_ret
        exact ⟨rfl, by (repeat' (first | (with_reducible exact Below.refl _ _) | (with_reducible assumption) | (with_reducible refine Below.drew ?_) | (with_reducible refine Below.alloc ?_ ?_ _) | (with_reducible refine Below.setCell ?_ ?_ _) | (simp; done) | (simp; omega)))⟩
set_option maxHeartbeats 1000000 in
set_option maxRecDepth 100000 in
theorem vgood_1 (x : Nat) (s : ByteArray) (r : Int) (w : World) (hx : x < 18446744073709551616) :
    Calls Tryz.prog 17 #[.agg #[.int .i64 1, .float .f64 x, .string s, .int .i64 r]] w fun e w' => e = .returned (.bool (decide (x = 0) && s.toList.isEmpty && (r == 0))) ∧ Below w.heap.size w w' := by
  have HN := Hid.mk' (fun W => nsame_any x 0 2 W hx (by omega))
  rw [same_zero] at HN
  obtain ⟨X, hX⟩ : ∃ X, decide (x = 0) = X := ⟨_, rfl⟩
  rw [hX] at HN ⊢
  clear hX
  obtain ⟨E, hE⟩ : ∃ E, s.toList.isEmpty = E := ⟨_, rfl⟩
  obtain ⟨R, hR⟩ : ∃ R, (r == 0) = R := ⟨_, rfl⟩
  rw [hE, hR]
  cases X
  · go_enter Tryz.func17, Tryz.ntmps17
    go_wp2_with fail
    refine (HN.out _).mono ?_
    rintro e w9 ⟨rfl, hw9⟩
    rw [hw9]; clear hw9 w9
    go_wp2
    go_ret
    exact ⟨rfl, by (repeat' (first | (with_reducible exact Below.refl _ _) | (with_reducible assumption) | (with_reducible refine Below.drew ?_) | (with_reducible refine Below.alloc ?_ ?_ _) | (with_reducible refine Below.setCell ?_ ?_ _) | (simp; done) | (simp; omega)))⟩
  · cases E
    · go_enter Tryz.func17, Tryz.ntmps17
      go_wp2_with fail
      refine (HN.out _).mono ?_
      rintro e w9 ⟨rfl, hw9⟩
      rw [hw9]; clear hw9 w9
      go_wp2
      go_ret
      exact ⟨rfl, by (repeat' (first | (with_reducible exact Below.refl _ _) | (with_reducible assumption) | (with_reducible refine Below.drew ?_) | (with_reducible refine Below.alloc ?_ ?_ _) | (with_reducible refine Below.setCell ?_ ?_ _) | (simp; done) | (simp; omega)))⟩
    · cases R
      · go_enter Tryz.func17, Tryz.ntmps17
        go_wp2_with fail
        refine (HN.out _).mono ?_
        rintro e w9 ⟨rfl, hw9⟩
        rw [hw9]; clear hw9 w9
        go_wp2
        go_ret
        exact ⟨rfl, by (repeat' (first | (with_reducible exact Below.refl _ _) | (with_reducible assumption) | (with_reducible refine Below.drew ?_) | (with_reducible refine Below.alloc ?_ ?_ _) | (with_reducible refine Below.setCell ?_ ?_ _) | (simp; done) | (simp; omega)))⟩
      · go_enter Tryz.func17, Tryz.ntmps17
        go_wp2_with fail
        refine (HN.out _).mono ?_
        rintro e w9 ⟨rfl, hw9⟩
        rw [hw9]; clear hw9 w9
        go_wp2
        go_ret
        exact ⟨rfl, by (repeat' (first | (with_reducible exact Below.refl _ _) | (with_reducible assumption) | (with_reducible refine Below.drew ?_) | (with_reducible refine Below.alloc ?_ ?_ _) | (with_reducible refine Below.setCell ?_ ?_ _) | (simp; done) | (simp; omega)))⟩
set_option maxHeartbeats 1000000 in
set_option maxRecDepth 100000 in
theorem vgood_2 (x : Nat) (s : ByteArray) (r : Int) (w : World) (hx : x < 18446744073709551616) :
    Calls Tryz.prog 17 #[.agg #[.int .i64 2, .float .f64 x, .string s, .int .i64 r]] w fun e w' => e = .returned (.bool ((decide (x = 4607182418800017408) || decide (x = 0)) && s.toList.isEmpty && (r == 0))) ∧ Below w.heap.size w w' := by
  have HN := Hid.mk' (fun W => nsame_any x 0 2 W hx (by omega))
  rw [same_zero] at HN
  obtain ⟨X, hX⟩ : ∃ X, decide (x = 0) = X := ⟨_, rfl⟩
  rw [hX] at HN ⊢
  clear hX
  have HZ := Hid.mk' (fun W => nsame_any 0 0 2 W (by omega) (by omega))
  rw [same_self2] at HZ
  have HT := Hid.mk' (fun W => isTrue_any 2 x s r W hx)
  obtain ⟨O, hO⟩ : ∃ O, decide (x = 4607182418800017408) = O := ⟨_, rfl⟩
  rw [hO] at HT ⊢
  clear hO
  obtain ⟨E, hE⟩ : ∃ E, s.toList.isEmpty = E := ⟨_, rfl⟩
  obtain ⟨R, hR⟩ : ∃ R, (r == 0) = R := ⟨_, rfl⟩
  rw [hE, hR]
  cases O
  · cases X
    · go_enter Tryz.func17, Tryz.ntmps17
      go_wp2_with fail
      refine (HT.out _).mono ?_
      rintro e w1 ⟨rfl, b1⟩
      have c1 : Below w.heap.size w w1 := bl_chain (by (repeat' (first | (with_reducible exact Below.refl _ _) | (with_reducible assumption) | (with_reducible refine Below.drew ?_) | (with_reducible refine Below.alloc ?_ ?_ _) | (with_reducible refine Below.setCell ?_ ?_ _) | (simp; done) | (simp; omega)))) b1
      have V1 : CellV w1 w.heap.size 2 x s r := CellV.below (by constructor <;> first | (simp; done) | (simp; omega)) b1
      have U1 : CellV w1 (w.heap.size + 1) 2 x s r := CellV.below (by constructor <;> first | (simp; done) | (simp; omega)) b1
      have g1 := (b1.frozen (p := ⟨w.heap.size + 1, 1, none⟩) (by simp)).trans (show _ = false from by simp)
      obtain ⟨-, z0, z1, z2, z3⟩ := id V1
      obtain ⟨-, y0, y1, y2, y3⟩ := id U1
      clear b1
      go_wp2_with fail
      refine (HN.out _).mono ?_
      rintro e w9 ⟨rfl, hw9⟩
      rw [hw9]; clear hw9 w9
      go_wp2
      go_ret
      exact ⟨rfl, by (repeat' (first | (with_reducible exact Below.refl _ _) | (with_reducible assumption) | (with_reducible refine Below.drew ?_) | (with_reducible refine Below.alloc ?_ ?_ _) | (with_reducible refine Below.setCell ?_ ?_ _) | (simp; done) | (simp; omega)))⟩
    · cases E
      · go_enter Tryz.func17, Tryz.ntmps17
        go_wp2_with fail
        refine (HT.out _).mono ?_
        rintro e w1 ⟨rfl, b1⟩
        have c1 : Below w.heap.size w w1 := bl_chain (by (repeat' (first | (with_reducible exact Below.refl _ _) | (with_reducible assumption) | (with_reducible refine Below.drew ?_) | (with_reducible refine Below.alloc ?_ ?_ _) | (with_reducible refine Below.setCell ?_ ?_ _) | (simp; done) | (simp; omega)))) b1
        have V1 : CellV w1 w.heap.size 2 x s r := CellV.below (by constructor <;> first | (simp; done) | (simp; omega)) b1
        have U1 : CellV w1 (w.heap.size + 1) 2 x s r := CellV.below (by constructor <;> first | (simp; done) | (simp; omega)) b1
        have g1 := (b1.frozen (p := ⟨w.heap.size + 1, 1, none⟩) (by simp)).trans (show _ = false from by simp)
        obtain ⟨-, z0, z1, z2, z3⟩ := id V1
        obtain ⟨-, y0, y1, y2, y3⟩ := id U1
        clear b1
        go_wp2_with fail
        refine (HN.out _).mono ?_
        rintro e w9 ⟨rfl, hw9⟩
        rw [hw9]; clear hw9 w9
        go_wp2
        go_ret
        exact ⟨rfl, by (repeat' (first | (with_reducible exact Below.refl _ _) | (with_reducible assumption) | (with_reducible refine Below.drew ?_) | (with_reducible refine Below.alloc ?_ ?_ _) | (with_reducible refine Below.setCell ?_ ?_ _) | (simp; done) | (simp; omega)))⟩
      · cases R
        · go_enter Tryz.func17, Tryz.ntmps17
          go_wp2_with fail
          refine (HT.out _).mono ?_
          rintro e w1 ⟨rfl, b1⟩
          have c1 : Below w.heap.size w w1 := bl_chain (by (repeat' (first | (with_reducible exact Below.refl _ _) | (with_reducible assumption) | (with_reducible refine Below.drew ?_) | (with_reducible refine Below.alloc ?_ ?_ _) | (with_reducible refine Below.setCell ?_ ?_ _) | (simp; done) | (simp; omega)))) b1
          have V1 : CellV w1 w.heap.size 2 x s r := CellV.below (by constructor <;> first | (simp; done) | (simp; omega)) b1
          have U1 : CellV w1 (w.heap.size + 1) 2 x s r := CellV.below (by constructor <;> first | (simp; done) | (simp; omega)) b1
          have g1 := (b1.frozen (p := ⟨w.heap.size + 1, 1, none⟩) (by simp)).trans (show _ = false from by simp)
          obtain ⟨-, z0, z1, z2, z3⟩ := id V1
          obtain ⟨-, y0, y1, y2, y3⟩ := id U1
          clear b1
          go_wp2_with fail
          refine (HN.out _).mono ?_
          rintro e w9 ⟨rfl, hw9⟩
          rw [hw9]; clear hw9 w9
          go_wp2
          go_ret
          exact ⟨rfl, by (repeat' (first | (with_reducible exact Below.refl _ _) | (with_reducible assumption) | (with_reducible refine Below.drew ?_) | (with_reducible refine Below.alloc ?_ ?_ _) | (with_reducible refine Below.setCell ?_ ?_ _) | (simp; done) | (simp; omega)))⟩
        · go_enter Tryz.func17, Tryz.ntmps17
          go_wp2_with fail
          refine (HT.out _).mono ?_
          rintro e w1 ⟨rfl, b1⟩
          have c1 : Below w.heap.size w w1 := bl_chain (by (repeat' (first | (with_reducible exact Below.refl _ _) | (with_reducible assumption) | (with_reducible refine Below.drew ?_) | (with_reducible refine Below.alloc ?_ ?_ _) | (with_reducible refine Below.setCell ?_ ?_ _) | (simp; done) | (simp; omega)))) b1
          have V1 : CellV w1 w.heap.size 2 x s r := CellV.below (by constructor <;> first | (simp; done) | (simp; omega)) b1
          have U1 : CellV w1 (w.heap.size + 1) 2 x s r := CellV.below (by constructor <;> first | (simp; done) | (simp; omega)) b1
          have g1 := (b1.frozen (p := ⟨w.heap.size + 1, 1, none⟩) (by simp)).trans (show _ = false from by simp)
          obtain ⟨-, z0, z1, z2, z3⟩ := id V1
          obtain ⟨-, y0, y1, y2, y3⟩ := id U1
          clear b1
          go_wp2_with fail
          refine (HN.out _).mono ?_
          rintro e w9 ⟨rfl, hw9⟩
          rw [hw9]; clear hw9 w9
          go_wp2
          go_ret
          exact ⟨rfl, by (repeat' (first | (with_reducible exact Below.refl _ _) | (with_reducible assumption) | (with_reducible refine Below.drew ?_) | (with_reducible refine Below.alloc ?_ ?_ _) | (with_reducible refine Below.setCell ?_ ?_ _) | (simp; done) | (simp; omega)))⟩
  · cases E
    · go_enter Tryz.func17, Tryz.ntmps17
      go_wp2_with fail
      refine (HT.out _).mono ?_
      rintro e w1 ⟨rfl, b1⟩
      have c1 : Below w.heap.size w w1 := bl_chain (by (repeat' (first | (with_reducible exact Below.refl _ _) | (with_reducible assumption) | (with_reducible refine Below.drew ?_) | (with_reducible refine Below.alloc ?_ ?_ _) | (with_reducible refine Below.setCell ?_ ?_ _) | (simp; done) | (simp; omega)))) b1
      have V1 : CellV w1 w.heap.size 2 x s r := CellV.below (by constructor <;> first | (simp; done) | (simp; omega)) b1
      have U1 : CellV w1 (w.heap.size + 1) 2 x s r := CellV.below (by constructor <;> first | (simp; done) | (simp; omega)) b1
      have g1 := (b1.frozen (p := ⟨w.heap.size + 1, 1, none⟩) (by simp)).trans (show _ = false from by simp)
      obtain ⟨-, z0, z1, z2, z3⟩ := id V1
      obtain ⟨-, y0, y1, y2, y3⟩ := id U1
      clear b1
      go_wp2_with fail
      refine (HZ.out _).mono ?_
      rintro e w9 ⟨rfl, hw9⟩
      rw [hw9]; clear hw9 w9
      go_wp2
      go_ret
      exact ⟨rfl, by (repeat' (first | (with_reducible exact Below.refl _ _) | (with_reducible assumption) | (with_reducible refine Below.drew ?_) | (with_reducible refine Below.alloc ?_ ?_ _) | (with_reducible refine Below.setCell ?_ ?_ _) | (simp; done) | (simp; omega)))⟩
    · cases R
      · go_enter Tryz.func17, Tryz.ntmps17
        go_wp2_with fail
        refine (HT.out _).mono ?_
        rintro e w1 ⟨rfl, b1⟩
        have c1 : Below w.heap.size w w1 := bl_chain (by (repeat' (first | (with_reducible exact Below.refl _ _) | (with_reducible assumption) | (with_reducible refine Below.drew ?_) | (with_reducible refine Below.alloc ?_ ?_ _) | (with_reducible refine Below.setCell ?_ ?_ _) | (simp; done) | (simp; omega)))) b1
        have V1 : CellV w1 w.heap.size 2 x s r := CellV.below (by constructor <;> first | (simp; done) | (simp; omega)) b1
        have U1 : CellV w1 (w.heap.size + 1) 2 x s r := CellV.below (by constructor <;> first | (simp; done) | (simp; omega)) b1
        have g1 := (b1.frozen (p := ⟨w.heap.size + 1, 1, none⟩) (by simp)).trans (show _ = false from by simp)
        obtain ⟨-, z0, z1, z2, z3⟩ := id V1
        obtain ⟨-, y0, y1, y2, y3⟩ := id U1
        clear b1
        go_wp2_with fail
        refine (HZ.out _).mono ?_
        rintro e w9 ⟨rfl, hw9⟩
        rw [hw9]; clear hw9 w9
        go_wp2
        go_ret
        exact ⟨rfl, by (repeat' (first | (with_reducible exact Below.refl _ _) | (with_reducible assumption) | (with_reducible refine Below.drew ?_) | (with_reducible refine Below.alloc ?_ ?_ _) | (with_reducible refine Below.setCell ?_ ?_ _) | (simp; done) | (simp; omega)))⟩
      · go_enter Tryz.func17, Tryz.ntmps17
        go_wp2_with fail
        refine (HT.out _).mono ?_
        rintro e w1 ⟨rfl, b1⟩
        have c1 : Below w.heap.size w w1 := bl_chain (by (repeat' (first | (with_reducible exact Below.refl _ _) | (with_reducible assumption) | (with_reducible refine Below.drew ?_) | (with_reducible refine Below.alloc ?_ ?_ _) | (with_reducible refine Below.setCell ?_ ?_ _) | (simp; done) | (simp; omega)))) b1
        have V1 : CellV w1 w.heap.size 2 x s r := CellV.below (by constructor <;> first | (simp; done) | (simp; omega)) b1
        have U1 : CellV w1 (w.heap.size + 1) 2 x s r := CellV.below (by constructor <;> first | (simp; done) | (simp; omega)) b1
        have g1 := (b1.frozen (p := ⟨w.heap.size + 1, 1, none⟩) (by simp)).trans (show _ = false from by simp)
        obtain ⟨-, z0, z1, z2, z3⟩ := id V1
        obtain ⟨-, y0, y1, y2, y3⟩ := id U1
        clear b1
        go_wp2_with fail
        refine (HZ.out _).mono ?_
        rintro e w9 ⟨rfl, hw9⟩
        rw [hw9]; clear hw9 w9
        go_wp2
        go_ret
        exact ⟨rfl, by (repeat' (first | (with_reducible exact Below.refl _ _) | (with_reducible assumption) | (with_reducible refine Below.drew ?_) | (with_reducible refine Below.alloc ?_ ?_ _) | (with_reducible refine Below.setCell ?_ ?_ _) | (simp; done) | (simp; omega)))⟩
set_option maxHeartbeats 1000000 in
set_option maxRecDepth 100000 in
theorem vgood_3 (x : Nat) (s : ByteArray) (r : Int) (w : World) (hx : x < 18446744073709551616) :
    Calls Tryz.prog 17 #[.agg #[.int .i64 3, .float .f64 x, .string s, .int .i64 r]] w fun e w' => e = .returned (.bool (s.toList.isEmpty && (r == 0))) ∧ Below w.heap.size w w' := by
  have HZ := Hid.mk' (fun W => nsame_any 0 0 2 W (by omega) (by omega))
  rw [same_self2] at HZ
  obtain ⟨E, hE⟩ : ∃ E, s.toList.isEmpty = E := ⟨_, rfl⟩
  obtain ⟨R, hR⟩ : ∃ R, (r == 0) = R := ⟨_, rfl⟩
  rw [hE, hR]
  cases E
  · go_enter Tryz.func17, Tryz.ntmps17
    go_wp2_with fail
    refine (HZ.out _).mono ?_
    rintro e w9 ⟨rfl, hw9⟩
    rw [hw9]; clear hw9 w9
    go_wp2
    go_ret
    exact ⟨rfl, by (repeat' (first | (with_reducible exact Below.refl _ _) | (with_reducible assumption) | (with_reducible refine Below.drew ?_) | (with_reducible refine Below.alloc ?_ ?_ _) | (with_reducible refine Below.setCell ?_ ?_ _) | (simp; done) | (simp; omega)))⟩
  · cases R
    · go_enter Tryz.func17, Tryz.ntmps17
      go_wp2_with fail
      refine (HZ.out _).mono ?_
      rintro e w9 ⟨rfl, hw9⟩
      rw [hw9]; clear hw9 w9
      go_wp2
      go_ret
      exact ⟨rfl, by (repeat' (first | (with_reducible exact Below.refl _ _) | (with_reducible assumption) | (with_reducible refine Below.drew ?_) | (with_reducible refine Below.alloc ?_ ?_ _) | (with_reducible refine Below.setCell ?_ ?_ _) | (simp; done) | (simp; omega)))⟩
    · go_enter Tryz.func17, Tryz.ntmps17
      go_wp2_with fail
      refine (HZ.out _).mono ?_
      rintro e w9 ⟨rfl, hw9⟩
      rw [hw9]; clear hw9 w9
      go_wp2
      go_ret
      exact ⟨rfl, by (repeat' (first | (with_reducible exact Below.refl _ _) | (with_reducible assumption) | (with_reducible refine Below.drew ?_) | (with_reducible refine Below.alloc ?_ ?_ _) | (with_reducible refine Below.setCell ?_ ?_ _) | (simp; done) | (simp; omega)))⟩
set_option maxHeartbeats 1000000 in
set_option maxRecDepth 100000 in
theorem vgood_4 (x : Nat) (s : ByteArray) (r : Int) (w : World) (hx : x < 18446744073709551616) (hs : (s.size : Int) ≤ 140737488351232) :
    Calls Tryz.prog 17 #[.agg #[.int .i64 4, .float .f64 x, .string s, .int .i64 r]] w fun e w' => e = .returned (.bool (decide (s.size % 2 = 0) && decide (x = 0) && (r == 0))) ∧ Below w.heap.size w w' := by
  have HN := Hid.mk' (fun W => nsame_any x 0 2 W hx (by omega))
  rw [same_zero] at HN
  obtain ⟨X, hX⟩ : ∃ X, decide (x = 0) = X := ⟨_, rfl⟩
  rw [hX] at HN ⊢
  clear hX
  obtain ⟨R, hR⟩ : ∃ R, (r == 0) = R := ⟨_, rfl⟩
  rw [hR]
  by_cases hd : s.size % 2 = 0
  · have hd2 : ((s.size : Int) % 2 == 0) = true := by rw [beq_iff_eq]; omega
    rw [decide_eq_true hd]
    clear hd
    cases X
    · go_enter Tryz.func17, Tryz.ntmps17
      go_wp2_with fail
      go_region
      go_wp2_with fail
      refine (HN.out _).mono ?_
      rintro e w9 ⟨rfl, hw9⟩
      rw [hw9]; clear hw9 w9
      go_wp2
      go_ret
      exact ⟨rfl, by (repeat' (first | (with_reducible exact Below.refl _ _) | (with_reducible assumption) | (with_reducible refine Below.drew ?_) | (with_reducible refine Below.alloc ?_ ?_ _) | (with_reducible refine Below.setCell ?_ ?_ _) | (simp; done) | (simp; omega)))⟩
    · cases R
      · go_enter Tryz.func17, Tryz.ntmps17
        go_wp2_with fail
        go_region
        go_wp2_with fail
        refine (HN.out _).mono ?_
        rintro e w9 ⟨rfl, hw9⟩
        rw [hw9]; clear hw9 w9
        go_wp2
        go_ret
        exact ⟨rfl, by (repeat' (first | (with_reducible exact Below.refl _ _) | (with_reducible assumption) | (with_reducible refine Below.drew ?_) | (with_reducible refine Below.alloc ?_ ?_ _) | (with_reducible refine Below.setCell ?_ ?_ _) | (simp; done) | (simp; omega)))⟩
      · go_enter Tryz.func17, Tryz.ntmps17
        go_wp2_with fail
        go_region
        go_wp2_with fail
        refine (HN.out _).mono ?_
        rintro e w9 ⟨rfl, hw9⟩
        rw [hw9]; clear hw9 w9
        go_wp2
        go_ret
        exact ⟨rfl, by (repeat' (first | (with_reducible exact Below.refl _ _) | (with_reducible assumption) | (with_reducible refine Below.drew ?_) | (with_reducible refine Below.alloc ?_ ?_ _) | (with_reducible refine Below.setCell ?_ ?_ _) | (simp; done) | (simp; omega)))⟩
  · have hd2 : ((s.size : Int) % 2 == 0) = false := by rw [beq_eq_false_iff_ne]; omega
    rw [decide_eq_false hd]
    clear hd
    go_enter Tryz.func17, Tryz.ntmps17
    go_wp2_with fail
    go_region
    go_wp2
    go_ret
    exact ⟨rfl, by (repeat' (first | (with_reducible exact Below.refl _ _) | (with_reducible assumption) | (with_reducible refine Below.drew ?_) | (with_reducible refine Below.alloc ?_ ?_ _) | (with_reducible refine Below.setCell ?_ ?_ _) | (simp; done) | (simp; omega)))⟩
set_option maxHeartbeats 1000000 in
set_option maxRecDepth 100000 in
theorem vgood_5 (x : Nat) (s : ByteArray) (r : Int) (w : World) (hx : x < 18446744073709551616) :
    Calls Tryz.prog 17 #[.agg #[.int .i64 5, .float .f64 x, .string s, .int .i64 r]] w fun e w' => e = .returned (.bool (decide (0 < r) && decide (x = 0) && s.toList.isEmpty)) ∧ Below w.heap.size w w' := by
  have HN := Hid.mk' (fun W => nsame_any x 0 2 W hx (by omega))
  rw [same_zero] at HN
  obtain ⟨X, hX⟩ : ∃ X, decide (x = 0) = X := ⟨_, rfl⟩
  rw [hX] at HN ⊢
  clear hX
  obtain ⟨E, hE⟩ : ∃ E, s.toList.isEmpty = E := ⟨_, rfl⟩
  rw [hE]
  by_cases hr : 0 < r
  · rw [decide_eq_true hr]
    cases X
    · go_enter Tryz.func17, Tryz.ntmps17
      go_wp2_with fail
      go_region
      go_wp2_with fail
      refine (HN.out _).mono ?_
      rintro e w9 ⟨rfl, hw9⟩
      rw [hw9]; clear hw9 w9
      go_wp2
      go_ret
      exact ⟨rfl, by (repeat' (first | (with_reducible exact Below.refl _ _) | (with_reducible assumption) | (with_reducible refine Below.drew ?_) | (with_reducible refine Below.alloc ?_ ?_ _) | (with_reducible refine Below.setCell ?_ ?_ _) | (simp; done) | (simp; omega)))⟩
    · cases E
      · go_enter Tryz.func17, Tryz.ntmps17
        go_wp2_with fail
        go_region
        go_wp2_with fail
        refine (HN.out _).mono ?_
        rintro e w9 ⟨rfl, hw9⟩
        rw [hw9]; clear hw9 w9
        go_wp2
        go_ret
        exact ⟨rfl, by (repeat' (first | (with_reducible exact Below.refl _ _) | (with_reducible assumption) | (with_reducible refine Below.drew ?_) | (with_reducible refine Below.alloc ?_ ?_ _) | (with_reducible refine Below.setCell ?_ ?_ _) | (simp; done) | (simp; omega)))⟩
      · go_enter Tryz.func17, Tryz.ntmps17
        go_wp2_with fail
        go_region
        go_wp2_with fail
        refine (HN.out _).mono ?_
        rintro e w9 ⟨rfl, hw9⟩
        rw [hw9]; clear hw9 w9
        go_wp2
        go_ret
        exact ⟨rfl, by (repeat' (first | (with_reducible exact Below.refl _ _) | (with_reducible assumption) | (with_reducible refine Below.drew ?_) | (with_reducible refine Below.alloc ?_ ?_ _) | (with_reducible refine Below.setCell ?_ ?_ _) | (simp; done) | (simp; omega)))⟩
  · rw [decide_eq_false hr]
    go_enter Tryz.func17, Tryz.ntmps17
    go_wp2_with fail
    go_region
    go_wp2
    go_ret
    exact ⟨rfl, by (repeat' (first | (with_reducible exact Below.refl _ _) | (with_reducible assumption) | (with_reducible refine Below.drew ?_) | (with_reducible refine Below.alloc ?_ ?_ _) | (with_reducible refine Below.setCell ?_ ?_ _) | (simp; done) | (simp; omega)))⟩
set_option maxHeartbeats 1000000 in
set_option maxRecDepth 100000 in
theorem vgood_6 (x : Nat) (s : ByteArray) (r : Int) (w : World) (hx : x < 18446744073709551616) :
    Calls Tryz.prog 17 #[.agg #[.int .i64 6, .float .f64 x, .string s, .int .i64 r]] w fun e w' => e = .returned (.bool (decide (0 < r) && decide (x = 0) && s.toList.isEmpty)) ∧ Below w.heap.size w w' := by
  have HN := Hid.mk' (fun W => nsame_any x 0 2 W hx (by omega))
  rw [same_zero] at HN
  obtain ⟨X, hX⟩ : ∃ X, decide (x = 0) = X := ⟨_, rfl⟩
  rw [hX] at HN ⊢
  clear hX
  obtain ⟨E, hE⟩ : ∃ E, s.toList.isEmpty = E := ⟨_, rfl⟩
  rw [hE]
  by_cases hr : 0 < r
  · rw [decide_eq_true hr]
    cases X
    · go_enter Tryz.func17, Tryz.ntmps17
      go_wp2_with fail
      go_region
      go_wp2_with fail
      refine (HN.out _).mono ?_
      rintro e w9 ⟨rfl, hw9⟩
      rw [hw9]; clear hw9 w9
      go_wp2
      go_ret
      exact ⟨rfl, by (repeat' (first | (with_reducible exact Below.refl _ _) | (with_reducible assumption) | (with_reducible refine Below.drew ?_) | (with_reducible refine Below.alloc ?_ ?_ _) | (with_reducible refine Below.setCell ?_ ?_ _) | (simp; done) | (simp; omega)))⟩
    · cases E
      · go_enter Tryz.func17, Tryz.ntmps17
        go_wp2_with fail
        go_region
        go_wp2_with fail
        refine (HN.out _).mono ?_
        rintro e w9 ⟨rfl, hw9⟩
        rw [hw9]; clear hw9 w9
        go_wp2
        go_ret
        exact ⟨rfl, by (repeat' (first | (with_reducible exact Below.refl _ _) | (with_reducible assumption) | (with_reducible refine Below.drew ?_) | (with_reducible refine Below.alloc ?_ ?_ _) | (with_reducible refine Below.setCell ?_ ?_ _) | (simp; done) | (simp; omega)))⟩
      · go_enter Tryz.func17, Tryz.ntmps17
        go_wp2_with fail
        go_region
        go_wp2_with fail
        refine (HN.out _).mono ?_
        rintro e w9 ⟨rfl, hw9⟩
        rw [hw9]; clear hw9 w9
        go_wp2
        go_ret
        exact ⟨rfl, by (repeat' (first | (with_reducible exact Below.refl _ _) | (with_reducible assumption) | (with_reducible refine Below.drew ?_) | (with_reducible refine Below.alloc ?_ ?_ _) | (with_reducible refine Below.setCell ?_ ?_ _) | (simp; done) | (simp; omega)))⟩
  · rw [decide_eq_false hr]
    go_enter Tryz.func17, Tryz.ntmps17
    go_wp2_with fail
    go_region
    go_wp2
    go_ret
    exact ⟨rfl, by (repeat' (first | (with_reducible exact Below.refl _ _) | (with_reducible assumption) | (with_reducible refine Below.drew ?_) | (with_reducible refine Below.alloc ?_ ?_ _) | (with_reducible refine Below.setCell ?_ ?_ _) | (simp; done) | (simp; omega)))⟩
set_option maxHeartbeats 1000000 in
set_option maxRecDepth 100000 in
theorem vgood_o (k : Int) (x : Nat) (s : ByteArray) (r : Int) (w : World) (h : k < 0 ∨ 6 < k) :
    Calls Tryz.prog 17 #[.agg #[.int .i64 k, .float .f64 x, .string s, .int .i64 r]] w fun e w' => e = .returned (.bool false) ∧ Below w.heap.size w w' := by
  have q0 : (k == 0) = false := by rw [beq_eq_false_iff_ne]; omega
  have q1 : (k == 1) = false := by rw [beq_eq_false_iff_ne]; omega
  have q2 : (k == 2) = false := by rw [beq_eq_false_iff_ne]; omega
  have q3 : (k == 3) = false := by rw [beq_eq_false_iff_ne]; omega
  have q4 : (k == 4) = false := by rw [beq_eq_false_iff_ne]; omega
  have q5 : (k == 5) = false := by rw [beq_eq_false_iff_ne]; omega
  have q6 : (k == 6) = false := by rw [beq_eq_false_iff_ne]; omega
  clear h
  go_enter Tryz.func17, Tryz.ntmps17
  go_wp2
  go_ret
  exact ⟨rfl, by (repeat' (first | (with_reducible exact Below.refl _ _) | (with_reducible assumption) | (with_reducible refine Below.drew ?_) | (with_reducible refine Below.alloc ?_ ?_ _) | (with_reducible refine Below.setCell ?_ ?_ _) | (simp; done) | (simp; omega)))⟩
set_option maxHeartbeats 1000000 in
set_option maxRecDepth 100000 in
theorem rvgood_0 (x : Nat) (s : ByteArray) (r : Int) (w : World) (hx : x < 18446744073709551616) :
    Calls Tryz.prog 18 #[.agg #[.int .i64 0, .float .f64 x, .string s, .int .i64 r]] w fun e w' => e = .returned (.bool (decide (x = 0) && s.toList.isEmpty && (r == 0))) ∧ Below w.heap.size w w' := by
  have HS := Hid.mk' (fun W => signbit_any x W hx)
  have HN := Hid.mk' (fun W => rsame_any x 0 2 W hx (by omega))
  rw [same_zero] at HN
  obtain ⟨E, hE⟩ : ∃ E, s.toList.isEmpty = E := ⟨_, rfl⟩
  obtain ⟨R, hR⟩ : ∃ R, (r == 0) = R := ⟨_, rfl⟩
  rw [hE, hR]
  by_cases hb : 9223372036854775808 ≤ x
  · rw [decide_eq_true hb] at HS
    rw [decide_eq_false (show ¬ x = 0 by omega)]
    clear hb
    go_enter Tryz.func18, Tryz.ntmps18
    go_wp2_with fail
    refine (HS.out _).mono ?_
    rintro e w9 ⟨rfl, hw9⟩
    rw [hw9]; clear hw9 w9
    go_wp2
    go_ret
    exact ⟨rfl, by (repeat' (first | (with_reducible exact Below.refl _ _) | (with_reducible assumption) | (with_reducible refine Below.drew ?_) | (with_reducible refine Below.alloc ?_ ?_ _) | (with_reducible refine Below.setCell ?_ ?_ _) | (simp; done) | (simp; omega)))⟩
  · rw [decide_eq_false hb] at HS
    clear hb
    obtain ⟨X, hX⟩ : ∃ X, decide (x = 0) = X := ⟨_, rfl⟩
    rw [hX] at HN ⊢
    clear hX
    cases X
    · go_enter Tryz.func18, Tryz.ntmps18
      go_wp2_with fail
      refine (HS.out _).mono ?_
      rintro e w9 ⟨rfl, hw9⟩
      rw [hw9]; clear hw9 w9
      go_wp2_with fail
      refine (HN.out _).mono ?_
      rintro e w9 ⟨rfl, hw9⟩
      rw [hw9]; clear hw9 w9
      go_wp2
      go_ret
      exact ⟨rfl, by (repeat' (first | (with_reducible exact Below.refl _ _) | (with_reducible assumption) | (with_reducible refine Below.drew ?_) | (with_reducible refine Below.alloc ?_ ?_ _) | (with_reducible refine Below.setCell ?_ ?_ _) | (simp; done) | (simp; omega)))⟩
    · cases E
      · go_enter Tryz.func18, Tryz.ntmps18
        go_wp2_with fail
        refine (HS.out _).mono ?_
        rintro e w9 ⟨rfl, hw9⟩
        rw [hw9]; clear hw9 w9
        go_wp2_with fail
        refine (HN.out _).mono ?_
        rintro e w9 ⟨rfl, hw9⟩
        rw [hw9]; clear hw9 w9
        go_wp2
        go_ret
        exact ⟨rfl, by (repeat' (first | (with_reducible exact Below.refl _ _) | (with_reducible assumption) | (with_reducible refine Below.drew ?_) | (with_reducible refine Below.alloc ?_ ?_ _) | (with_reducible refine Below.setCell ?_ ?_ _) | (simp; done) | (simp; omega)))⟩
      · cases R
        · go_enter Tryz.func18, Tryz.ntmps18
          go_wp2_with fail
          refine (HS.out _).mono ?_
          rintro e w9 ⟨rfl, hw9⟩
          rw [hw9]; clear hw9 w9
          go_wp2_with fail
          refine (HN.out _).mono ?_
          rintro e w9 ⟨rfl, hw9⟩
          rw [hw9]; clear hw9 w9
          go_wp2
          go_ret
          exact ⟨rfl, by (repeat' (first | (with_reducible exact Below.refl _ _) | (with_reducible assumption) | (with_reducible refine Below.drew ?_) | (with_reducible refine Below.alloc ?_ ?_ _) | (with_reducible refine Below.setCell ?_ ?_ _) | (simp; done) | (simp; omega)))⟩
        · go_enter Tryz.func18, Tryz.ntmps18
          go_wp2_with fail
          refine (HS.out _).mono ?_
          rintro e w9 ⟨rfl, hw9⟩
          rw [hw9]; clear hw9 w9
          go_wp2_with fail
          refine (HN.out _).mono ?_
          rintro e w9 ⟨rfl, hw9⟩
          rw [hw9]; clear hw9 w9
          go_wp2
          go_ret
          exact ⟨rfl, by (repeat' (first | (with_reducible exact Below.refl _ _) | (with_reducible assumption) | (with_reducible refine Below.drew ?_) | (with_reducible refine Below.alloc ?_ ?_ _) | (with_reducible refine Below.setCell ?_ ?_ _) | (simp; done) | (simp; omega)))⟩
set_option maxHeartbeats 1000000 in
set_option maxRecDepth 100000 in
theorem rvgood_1 (x : Nat) (s : ByteArray) (r : Int) (w : World) (hx : x < 18446744073709551616) :
    Calls Tryz.prog 18 #[.agg #[.int .i64 1, .float .f64 x, .string s, .int .i64 r]] w fun e w' => e = .returned (.bool (decide (x = 0) && s.toList.isEmpty && (r == 0))) ∧ Below w.heap.size w w' := by
  have HS := Hid.mk' (fun W => signbit_any x W hx)
  have HN := Hid.mk' (fun W => rsame_any x 0 2 W hx (by omega))
  rw [same_zero] at HN
  obtain ⟨E, hE⟩ : ∃ E, s.toList.isEmpty = E := ⟨_, rfl⟩
  obtain ⟨R, hR⟩ : ∃ R, (r == 0) = R := ⟨_, rfl⟩
  rw [hE, hR]
  by_cases hb : 9223372036854775808 ≤ x
  · rw [decide_eq_true hb] at HS
    rw [decide_eq_false (show ¬ x = 0 by omega)]
    clear hb
    go_enter Tryz.func18, Tryz.ntmps18
    go_wp2_with fail
    refine (HS.out _).mono ?_
    rintro e w9 ⟨rfl, hw9⟩
    rw [hw9]; clear hw9 w9
    go_wp2
    go_ret
    exact ⟨rfl, by (repeat' (first | (with_reducible exact Below.refl _ _) | (with_reducible assumption) | (with_reducible refine Below.drew ?_) | (with_reducible refine Below.alloc ?_ ?_ _) | (with_reducible refine Below.setCell ?_ ?_ _) | (simp; done) | (simp; omega)))⟩
  · rw [decide_eq_false hb] at HS
    clear hb
    obtain ⟨X, hX⟩ : ∃ X, decide (x = 0) = X := ⟨_, rfl⟩
    rw [hX] at HN ⊢
    clear hX
    cases X
    · go_enter Tryz.func18, Tryz.ntmps18
      go_wp2_with fail
      refine (HS.out _).mono ?_
      rintro e w9 ⟨rfl, hw9⟩
      rw [hw9]; clear hw9 w9
      go_wp2_with fail
      refine (HN.out _).mono ?_
      rintro e w9 ⟨rfl, hw9⟩
      rw [hw9]; clear hw9 w9
      go_wp2
      go_ret
      exact ⟨rfl, by (repeat' (first | (with_reducible exact Below.refl _ _) | (with_reducible assumption) | (with_reducible refine Below.drew ?_) | (with_reducible refine Below.alloc ?_ ?_ _) | (with_reducible refine Below.setCell ?_ ?_ _) | (simp; done) | (simp; omega)))⟩
    · cases E
      · go_enter Tryz.func18, Tryz.ntmps18
        go_wp2_with fail
        refine (HS.out _).mono ?_
        rintro e w9 ⟨rfl, hw9⟩
        rw [hw9]; clear hw9 w9
        go_wp2_with fail
        refine (HN.out _).mono ?_
        rintro e w9 ⟨rfl, hw9⟩
        rw [hw9]; clear hw9 w9
        go_wp2
        go_ret
        exact ⟨rfl, by (repeat' (first | (with_reducible exact Below.refl _ _) | (with_reducible assumption) | (with_reducible refine Below.drew ?_) | (with_reducible refine Below.alloc ?_ ?_ _) | (with_reducible refine Below.setCell ?_ ?_ _) | (simp; done) | (simp; omega)))⟩
      · cases R
        · go_enter Tryz.func18, Tryz.ntmps18
          go_wp2_with fail
          refine (HS.out _).mono ?_
          rintro e w9 ⟨rfl, hw9⟩
          rw [hw9]; clear hw9 w9
          go_wp2_with fail
          refine (HN.out _).mono ?_
          rintro e w9 ⟨rfl, hw9⟩
          rw [hw9]; clear hw9 w9
          go_wp2
          go_ret
          exact ⟨rfl, by (repeat' (first | (with_reducible exact Below.refl _ _) | (with_reducible assumption) | (with_reducible refine Below.drew ?_) | (with_reducible refine Below.alloc ?_ ?_ _) | (with_reducible refine Below.setCell ?_ ?_ _) | (simp; done) | (simp; omega)))⟩
        · go_enter Tryz.func18, Tryz.ntmps18
          go_wp2_with fail
          refine (HS.out _).mono ?_
          rintro e w9 ⟨rfl, hw9⟩
          rw [hw9]; clear hw9 w9
          go_wp2_with fail
          refine (HN.out _).mono ?_
          rintro e w9 ⟨rfl, hw9⟩
          rw [hw9]; clear hw9 w9
          go_wp2
          go_ret
          exact ⟨rfl, by (repeat' (first | (with_reducible exact Below.refl _ _) | (with_reducible assumption) | (with_reducible refine Below.drew ?_) | (with_reducible refine Below.alloc ?_ ?_ _) | (with_reducible refine Below.setCell ?_ ?_ _) | (simp; done) | (simp; omega)))⟩
set_option maxHeartbeats 1000000 in
set_option maxRecDepth 100000 in
theorem rvgood_2 (x : Nat) (s : ByteArray) (r : Int) (w : World) (hx : x < 18446744073709551616) :
    Calls Tryz.prog 18 #[.agg #[.int .i64 2, .float .f64 x, .string s, .int .i64 r]] w fun e w' => e = .returned (.bool ((decide (x = 4607182418800017408) || decide (x = 0)) && s.toList.isEmpty && (r == 0))) ∧ Below w.heap.size w w' := by
  have HS := Hid.mk' (fun W => signbit_any x W hx)
  have HZ := Hid.mk' (fun W => rsame_any x x 2 W hx hx)
  rw [same_self2] at HZ
  obtain ⟨E, hE⟩ : ∃ E, s.toList.isEmpty = E := ⟨_, rfl⟩
  obtain ⟨R, hR⟩ : ∃ R, (r == 0) = R := ⟨_, rfl⟩
  rw [hE, hR]
  have z1 := one_eq x hx
  have z0 := zero_eq x hx
  by_cases o1 : x = 4607182418800017408
  · rw [decide_eq_true o1] at z1 ⊢
    rw [decide_eq_false (show ¬ x % 9223372036854775808 = 0 by omega)] at z0
    rw [decide_eq_false (show ¬ 9223372036854775808 ≤ x by omega)] at HS
    have y1 : (FloatKind.f64.format.order x 4607182418800017408 != some Ordering.eq) = false := by show (!(_ == _)) = _; rw [z1]; rfl
    have y0 : (FloatKind.f64.format.order x 0 != some Ordering.eq) = true := by show (!(_ == _)) = _; rw [z0]; rfl
    clear o1
    cases E
    · go_enter Tryz.func18, Tryz.ntmps18
      go_wp2_with fail
      refine (HS.out _).mono ?_
      rintro e w9 ⟨rfl, hw9⟩
      rw [hw9]; clear hw9 w9
      go_wp2_with fail
      refine (HZ.out _).mono ?_
      rintro e w9 ⟨rfl, hw9⟩
      rw [hw9]; clear hw9 w9
      go_wp2
      go_ret
      exact ⟨rfl, by (repeat' (first | (with_reducible exact Below.refl _ _) | (with_reducible assumption) | (with_reducible refine Below.drew ?_) | (with_reducible refine Below.alloc ?_ ?_ _) | (with_reducible refine Below.setCell ?_ ?_ _) | (simp; done) | (simp; omega)))⟩
    · cases R
      · go_enter Tryz.func18, Tryz.ntmps18
        go_wp2_with fail
        refine (HS.out _).mono ?_
        rintro e w9 ⟨rfl, hw9⟩
        rw [hw9]; clear hw9 w9
        go_wp2_with fail
        refine (HZ.out _).mono ?_
        rintro e w9 ⟨rfl, hw9⟩
        rw [hw9]; clear hw9 w9
        go_wp2
        go_ret
        exact ⟨rfl, by (repeat' (first | (with_reducible exact Below.refl _ _) | (with_reducible assumption) | (with_reducible refine Below.drew ?_) | (with_reducible refine Below.alloc ?_ ?_ _) | (with_reducible refine Below.setCell ?_ ?_ _) | (simp; done) | (simp; omega)))⟩
      · go_enter Tryz.func18, Tryz.ntmps18
        go_wp2_with fail
        refine (HS.out _).mono ?_
        rintro e w9 ⟨rfl, hw9⟩
        rw [hw9]; clear hw9 w9
        go_wp2_with fail
        refine (HZ.out _).mono ?_
        rintro e w9 ⟨rfl, hw9⟩
        rw [hw9]; clear hw9 w9
        go_wp2
        go_ret
        exact ⟨rfl, by (repeat' (first | (with_reducible exact Below.refl _ _) | (with_reducible assumption) | (with_reducible refine Below.drew ?_) | (with_reducible refine Below.alloc ?_ ?_ _) | (with_reducible refine Below.setCell ?_ ?_ _) | (simp; done) | (simp; omega)))⟩
  · rw [decide_eq_false o1] at z1 ⊢
    by_cases o2 : x % 9223372036854775808 = 0
    · rw [decide_eq_true o2] at z0
      have y1 : (FloatKind.f64.format.order x 4607182418800017408 != some Ordering.eq) = true := by show (!(_ == _)) = _; rw [z1]; rfl
      have y0 : (FloatKind.f64.format.order x 0 != some Ordering.eq) = false := by show (!(_ == _)) = _; rw [z0]; rfl
      by_cases o3 : x = 0
      · rw [decide_eq_true o3]
        rw [decide_eq_false (show ¬ 9223372036854775808 ≤ x by omega)] at HS
        clear o1 o2 o3
        cases E
        · go_enter Tryz.func18, Tryz.ntmps18
          go_wp2_with fail
          refine (HS.out _).mono ?_
          rintro e w9 ⟨rfl, hw9⟩
          rw [hw9]; clear hw9 w9
          go_wp2_with fail
          refine (HZ.out _).mono ?_
          rintro e w9 ⟨rfl, hw9⟩
          rw [hw9]; clear hw9 w9
          go_wp2
          go_ret
          exact ⟨rfl, by (repeat' (first | (with_reducible exact Below.refl _ _) | (with_reducible assumption) | (with_reducible refine Below.drew ?_) | (with_reducible refine Below.alloc ?_ ?_ _) | (with_reducible refine Below.setCell ?_ ?_ _) | (simp; done) | (simp; omega)))⟩
        · cases R
          · go_enter Tryz.func18, Tryz.ntmps18
            go_wp2_with fail
            refine (HS.out _).mono ?_
            rintro e w9 ⟨rfl, hw9⟩
            rw [hw9]; clear hw9 w9
            go_wp2_with fail
            refine (HZ.out _).mono ?_
            rintro e w9 ⟨rfl, hw9⟩
            rw [hw9]; clear hw9 w9
            go_wp2
            go_ret
            exact ⟨rfl, by (repeat' (first | (with_reducible exact Below.refl _ _) | (with_reducible assumption) | (with_reducible refine Below.drew ?_) | (with_reducible refine Below.alloc ?_ ?_ _) | (with_reducible refine Below.setCell ?_ ?_ _) | (simp; done) | (simp; omega)))⟩
          · go_enter Tryz.func18, Tryz.ntmps18
            go_wp2_with fail
            refine (HS.out _).mono ?_
            rintro e w9 ⟨rfl, hw9⟩
            rw [hw9]; clear hw9 w9
            go_wp2_with fail
            refine (HZ.out _).mono ?_
            rintro e w9 ⟨rfl, hw9⟩
            rw [hw9]; clear hw9 w9
            go_wp2
            go_ret
            exact ⟨rfl, by (repeat' (first | (with_reducible exact Below.refl _ _) | (with_reducible assumption) | (with_reducible refine Below.drew ?_) | (with_reducible refine Below.alloc ?_ ?_ _) | (with_reducible refine Below.setCell ?_ ?_ _) | (simp; done) | (simp; omega)))⟩
      · rw [decide_eq_false o3]
        rw [decide_eq_true (show 9223372036854775808 ≤ x by omega)] at HS
        clear o1 o2 o3
        go_enter Tryz.func18, Tryz.ntmps18
        go_wp2_with fail
        refine (HS.out _).mono ?_
        rintro e w9 ⟨rfl, hw9⟩
        rw [hw9]; clear hw9 w9
        go_wp2
        go_ret
        exact ⟨rfl, by (repeat' (first | (with_reducible exact Below.refl _ _) | (with_reducible assumption) | (with_reducible refine Below.drew ?_) | (with_reducible refine Below.alloc ?_ ?_ _) | (with_reducible refine Below.setCell ?_ ?_ _) | (simp; done) | (simp; omega)))⟩
    · rw [decide_eq_false o2] at z0
      have y1 : (FloatKind.f64.format.order x 4607182418800017408 != some Ordering.eq) = true := by show (!(_ == _)) = _; rw [z1]; rfl
      have y0 : (FloatKind.f64.format.order x 0 != some Ordering.eq) = true := by show (!(_ == _)) = _; rw [z0]; rfl
      rw [decide_eq_false (show ¬ x = 0 by omega)]
      clear o1 o2
      go_enter Tryz.func18, Tryz.ntmps18
      go_wp2
      go_ret
      exact ⟨rfl, by (repeat' (first | (with_reducible exact Below.refl _ _) | (with_reducible assumption) | (with_reducible refine Below.drew ?_) | (with_reducible refine Below.alloc ?_ ?_ _) | (with_reducible refine Below.setCell ?_ ?_ _) | (simp; done) | (simp; omega)))⟩
set_option maxHeartbeats 1000000 in
set_option maxRecDepth 100000 in
theorem rvgood_3 (x : Nat) (s : ByteArray) (r : Int) (w : World) (hx : x < 18446744073709551616) :
    Calls Tryz.prog 18 #[.agg #[.int .i64 3, .float .f64 x, .string s, .int .i64 r]] w fun e w' => e = .returned (.bool (s.toList.isEmpty && (r == 0))) ∧ Below w.heap.size w w' := by
  have HZ := Hid.mk' (fun W => rsame_any x x 2 W hx hx)
  rw [same_self2] at HZ
  obtain ⟨E, hE⟩ : ∃ E, s.toList.isEmpty = E := ⟨_, rfl⟩
  obtain ⟨R, hR⟩ : ∃ R, (r == 0) = R := ⟨_, rfl⟩
  rw [hE, hR]
  cases E
  · go_enter Tryz.func18, Tryz.ntmps18
    go_wp2_with fail
    refine (HZ.out _).mono ?_
    rintro e w9 ⟨rfl, hw9⟩
    rw [hw9]; clear hw9 w9
    go_wp2
    go_ret
    exact ⟨rfl, by (repeat' (first | (with_reducible exact Below.refl _ _) | (with_reducible assumption) | (with_reducible refine Below.drew ?_) | (with_reducible refine Below.alloc ?_ ?_ _) | (with_reducible refine Below.setCell ?_ ?_ _) | (simp; done) | (simp; omega)))⟩
  · cases R
    · go_enter Tryz.func18, Tryz.ntmps18
      go_wp2_with fail
      refine (HZ.out _).mono ?_
      rintro e w9 ⟨rfl, hw9⟩
      rw [hw9]; clear hw9 w9
      go_wp2
      go_ret
      exact ⟨rfl, by (repeat' (first | (with_reducible exact Below.refl _ _) | (with_reducible assumption) | (with_reducible refine Below.drew ?_) | (with_reducible refine Below.alloc ?_ ?_ _) | (with_reducible refine Below.setCell ?_ ?_ _) | (simp; done) | (simp; omega)))⟩
    · go_enter Tryz.func18, Tryz.ntmps18
      go_wp2_with fail
      refine (HZ.out _).mono ?_
      rintro e w9 ⟨rfl, hw9⟩
      rw [hw9]; clear hw9 w9
      go_wp2
      go_ret
      exact ⟨rfl, by (repeat' (first | (with_reducible exact Below.refl _ _) | (with_reducible assumption) | (with_reducible refine Below.drew ?_) | (with_reducible refine Below.alloc ?_ ?_ _) | (with_reducible refine Below.setCell ?_ ?_ _) | (simp; done) | (simp; omega)))⟩
set_option maxHeartbeats 1000000 in
set_option maxRecDepth 100000 in
theorem rvgood_4 (x : Nat) (s : ByteArray) (r : Int) (w : World) (hx : x < 18446744073709551616) (hs : (s.size : Int) ≤ 140737488351232) :
    Calls Tryz.prog 18 #[.agg #[.int .i64 4, .float .f64 x, .string s, .int .i64 r]] w fun e w' => e = .returned (.bool (decide (s.size % 2 = 0) && decide (x = 0) && (r == 0))) ∧ Below w.heap.size w w' := by
  have HS := Hid.mk' (fun W => signbit_any x W hx)
  have HN := Hid.mk' (fun W => rsame_any x 0 2 W hx (by omega))
  rw [same_zero] at HN
  obtain ⟨R, hR⟩ : ∃ R, (r == 0) = R := ⟨_, rfl⟩
  rw [hR]
  by_cases hd : s.size % 2 = 0
  · have hd2 : ((s.size : Int) % 2 == 1) = false := by rw [beq_eq_false_iff_ne]; omega
    rw [decide_eq_true hd]
    clear hd
    by_cases hb : 9223372036854775808 ≤ x
    · rw [decide_eq_true hb] at HS
      rw [decide_eq_false (show ¬ x = 0 by omega)]
      clear hb
      go_enter Tryz.func18, Tryz.ntmps18
      go_wp2_with fail
      refine (HS.out _).mono ?_
      rintro e w9 ⟨rfl, hw9⟩
      rw [hw9]; clear hw9 w9
      go_wp2
      go_ret
      exact ⟨rfl, by (repeat' (first | (with_reducible exact Below.refl _ _) | (with_reducible assumption) | (with_reducible refine Below.drew ?_) | (with_reducible refine Below.alloc ?_ ?_ _) | (with_reducible refine Below.setCell ?_ ?_ _) | (simp; done) | (simp; omega)))⟩
    · rw [decide_eq_false hb] at HS
      clear hb
      obtain ⟨X, hX⟩ : ∃ X, decide (x = 0) = X := ⟨_, rfl⟩
      rw [hX] at HN ⊢
      clear hX
      cases X
      · go_enter Tryz.func18, Tryz.ntmps18
        go_wp2_with fail
        refine (HS.out _).mono ?_
        rintro e w9 ⟨rfl, hw9⟩
        rw [hw9]; clear hw9 w9
        go_wp2_with fail
        refine (HN.out _).mono ?_
        rintro e w9 ⟨rfl, hw9⟩
        rw [hw9]; clear hw9 w9
        go_wp2
        go_ret
        exact ⟨rfl, by (repeat' (first | (with_reducible exact Below.refl _ _) | (with_reducible assumption) | (with_reducible refine Below.drew ?_) | (with_reducible refine Below.alloc ?_ ?_ _) | (with_reducible refine Below.setCell ?_ ?_ _) | (simp; done) | (simp; omega)))⟩
      · cases R
        · go_enter Tryz.func18, Tryz.ntmps18
          go_wp2_with fail
          refine (HS.out _).mono ?_
          rintro e w9 ⟨rfl, hw9⟩
          rw [hw9]; clear hw9 w9
          go_wp2_with fail
          refine (HN.out _).mono ?_
          rintro e w9 ⟨rfl, hw9⟩
          rw [hw9]; clear hw9 w9
          go_wp2
          go_ret
          exact ⟨rfl, by (repeat' (first | (with_reducible exact Below.refl _ _) | (with_reducible assumption) | (with_reducible refine Below.drew ?_) | (with_reducible refine Below.alloc ?_ ?_ _) | (with_reducible refine Below.setCell ?_ ?_ _) | (simp; done) | (simp; omega)))⟩
        · go_enter Tryz.func18, Tryz.ntmps18
          go_wp2_with fail
          refine (HS.out _).mono ?_
          rintro e w9 ⟨rfl, hw9⟩
          rw [hw9]; clear hw9 w9
          go_wp2_with fail
          refine (HN.out _).mono ?_
          rintro e w9 ⟨rfl, hw9⟩
          rw [hw9]; clear hw9 w9
          go_wp2
          go_ret
          exact ⟨rfl, by (repeat' (first | (with_reducible exact Below.refl _ _) | (with_reducible assumption) | (with_reducible refine Below.drew ?_) | (with_reducible refine Below.alloc ?_ ?_ _) | (with_reducible refine Below.setCell ?_ ?_ _) | (simp; done) | (simp; omega)))⟩
  · have hd2 : ((s.size : Int) % 2 == 1) = true := by rw [beq_iff_eq]; omega
    rw [decide_eq_false hd]
    clear hd
    go_enter Tryz.func18, Tryz.ntmps18
    go_wp2
    go_ret
    exact ⟨rfl, by (repeat' (first | (with_reducible exact Below.refl _ _) | (with_reducible assumption) | (with_reducible refine Below.drew ?_) | (with_reducible refine Below.alloc ?_ ?_ _) | (with_reducible refine Below.setCell ?_ ?_ _) | (simp; done) | (simp; omega)))⟩
set_option maxHeartbeats 1000000 in
set_option maxRecDepth 100000 in
theorem rvgood_5 (x : Nat) (s : ByteArray) (r : Int) (w : World) (hx : x < 18446744073709551616) :
    Calls Tryz.prog 18 #[.agg #[.int .i64 5, .float .f64 x, .string s, .int .i64 r]] w fun e w' => e = .returned (.bool (decide (0 < r) && decide (x = 0) && s.toList.isEmpty)) ∧ Below w.heap.size w w' := by
  have HS := Hid.mk' (fun W => signbit_any x W hx)
  have HN := Hid.mk' (fun W => rsame_any x 0 2 W hx (by omega))
  rw [same_zero] at HN
  obtain ⟨E, hE⟩ : ∃ E, s.toList.isEmpty = E := ⟨_, rfl⟩
  rw [hE]
  by_cases hr : 0 < r
  · have hr2 : ¬ r ≤ 0 := by omega
    rw [decide_eq_true hr]
    by_cases hb : 9223372036854775808 ≤ x
    · rw [decide_eq_true hb] at HS
      rw [decide_eq_false (show ¬ x = 0 by omega)]
      clear hb
      go_enter Tryz.func18, Tryz.ntmps18
      go_wp2_with fail
      refine (HS.out _).mono ?_
      rintro e w9 ⟨rfl, hw9⟩
      rw [hw9]; clear hw9 w9
      go_wp2
      go_ret
      exact ⟨rfl, by (repeat' (first | (with_reducible exact Below.refl _ _) | (with_reducible assumption) | (with_reducible refine Below.drew ?_) | (with_reducible refine Below.alloc ?_ ?_ _) | (with_reducible refine Below.setCell ?_ ?_ _) | (simp; done) | (simp; omega)))⟩
    · rw [decide_eq_false hb] at HS
      clear hb
      obtain ⟨X, hX⟩ : ∃ X, decide (x = 0) = X := ⟨_, rfl⟩
      rw [hX] at HN ⊢
      clear hX
      cases X
      · go_enter Tryz.func18, Tryz.ntmps18
        go_wp2_with fail
        refine (HS.out _).mono ?_
        rintro e w9 ⟨rfl, hw9⟩
        rw [hw9]; clear hw9 w9
        go_wp2_with fail
        refine (HN.out _).mono ?_
        rintro e w9 ⟨rfl, hw9⟩
        rw [hw9]; clear hw9 w9
        go_wp2
        go_ret
        exact ⟨rfl, by (repeat' (first | (with_reducible exact Below.refl _ _) | (with_reducible assumption) | (with_reducible refine Below.drew ?_) | (with_reducible refine Below.alloc ?_ ?_ _) | (with_reducible refine Below.setCell ?_ ?_ _) | (simp; done) | (simp; omega)))⟩
      · cases E
        · go_enter Tryz.func18, Tryz.ntmps18
          go_wp2_with fail
          refine (HS.out _).mono ?_
          rintro e w9 ⟨rfl, hw9⟩
          rw [hw9]; clear hw9 w9
          go_wp2_with fail
          refine (HN.out _).mono ?_
          rintro e w9 ⟨rfl, hw9⟩
          rw [hw9]; clear hw9 w9
          go_wp2
          go_ret
          exact ⟨rfl, by (repeat' (first | (with_reducible exact Below.refl _ _) | (with_reducible assumption) | (with_reducible refine Below.drew ?_) | (with_reducible refine Below.alloc ?_ ?_ _) | (with_reducible refine Below.setCell ?_ ?_ _) | (simp; done) | (simp; omega)))⟩
        · go_enter Tryz.func18, Tryz.ntmps18
          go_wp2_with fail
          refine (HS.out _).mono ?_
          rintro e w9 ⟨rfl, hw9⟩
          rw [hw9]; clear hw9 w9
          go_wp2_with fail
          refine (HN.out _).mono ?_
          rintro e w9 ⟨rfl, hw9⟩
          rw [hw9]; clear hw9 w9
          go_wp2
          go_ret
          exact ⟨rfl, by (repeat' (first | (with_reducible exact Below.refl _ _) | (with_reducible assumption) | (with_reducible refine Below.drew ?_) | (with_reducible refine Below.alloc ?_ ?_ _) | (with_reducible refine Below.setCell ?_ ?_ _) | (simp; done) | (simp; omega)))⟩
  · have hr2 : r ≤ 0 := by omega
    rw [decide_eq_false hr]
    go_enter Tryz.func18, Tryz.ntmps18
    go_wp2
    go_ret
    exact ⟨rfl, by (repeat' (first | (with_reducible exact Below.refl _ _) | (with_reducible assumption) | (with_reducible refine Below.drew ?_) | (with_reducible refine Below.alloc ?_ ?_ _) | (with_reducible refine Below.setCell ?_ ?_ _) | (simp; done) | (simp; omega)))⟩
set_option maxHeartbeats 1000000 in
set_option maxRecDepth 100000 in
theorem rvgood_6 (x : Nat) (s : ByteArray) (r : Int) (w : World) (hx : x < 18446744073709551616) :
    Calls Tryz.prog 18 #[.agg #[.int .i64 6, .float .f64 x, .string s, .int .i64 r]] w fun e w' => e = .returned (.bool (decide (0 < r) && decide (x = 0) && s.toList.isEmpty)) ∧ Below w.heap.size w w' := by
  have HS := Hid.mk' (fun W => signbit_any x W hx)
  have HN := Hid.mk' (fun W => rsame_any x 0 2 W hx (by omega))
  rw [same_zero] at HN
  obtain ⟨E, hE⟩ : ∃ E, s.toList.isEmpty = E := ⟨_, rfl⟩
  rw [hE]
  by_cases hr : 0 < r
  · have hr2 : ¬ r ≤ 0 := by omega
    rw [decide_eq_true hr]
    by_cases hb : 9223372036854775808 ≤ x
    · rw [decide_eq_true hb] at HS
      rw [decide_eq_false (show ¬ x = 0 by omega)]
      clear hb
      go_enter Tryz.func18, Tryz.ntmps18
      go_wp2_with fail
      refine (HS.out _).mono ?_
      rintro e w9 ⟨rfl, hw9⟩
      rw [hw9]; clear hw9 w9
      go_wp2
      go_ret
      exact ⟨rfl, by (repeat' (first | (with_reducible exact Below.refl _ _) | (with_reducible assumption) | (with_reducible refine Below.drew ?_) | (with_reducible refine Below.alloc ?_ ?_ _) | (with_reducible refine Below.setCell ?_ ?_ _) | (simp; done) | (simp; omega)))⟩
    · rw [decide_eq_false hb] at HS
      clear hb
      obtain ⟨X, hX⟩ : ∃ X, decide (x = 0) = X := ⟨_, rfl⟩
      rw [hX] at HN ⊢
      clear hX
      cases X
      · go_enter Tryz.func18, Tryz.ntmps18
        go_wp2_with fail
        refine (HS.out _).mono ?_
        rintro e w9 ⟨rfl, hw9⟩
        rw [hw9]; clear hw9 w9
        go_wp2_with fail
        refine (HN.out _).mono ?_
        rintro e w9 ⟨rfl, hw9⟩
        rw [hw9]; clear hw9 w9
        go_wp2
        go_ret
        exact ⟨rfl, by (repeat' (first | (with_reducible exact Below.refl _ _) | (with_reducible assumption) | (with_reducible refine Below.drew ?_) | (with_reducible refine Below.alloc ?_ ?_ _) | (with_reducible refine Below.setCell ?_ ?_ _) | (simp; done) | (simp; omega)))⟩
      · cases E
        · go_enter Tryz.func18, Tryz.ntmps18
          go_wp2_with fail
          refine (HS.out _).mono ?_
          rintro e w9 ⟨rfl, hw9⟩
          rw [hw9]; clear hw9 w9
          go_wp2_with fail
          refine (HN.out _).mono ?_
          rintro e w9 ⟨rfl, hw9⟩
          rw [hw9]; clear hw9 w9
          go_wp2
          go_ret
          exact ⟨rfl, by (repeat' (first | (with_reducible exact Below.refl _ _) | (with_reducible assumption) | (with_reducible refine Below.drew ?_) | (with_reducible refine Below.alloc ?_ ?_ _) | (with_reducible refine Below.setCell ?_ ?_ _) | (simp; done) | (simp; omega)))⟩
        · go_enter Tryz.func18, Tryz.ntmps18
          go_wp2_with fail
          refine (HS.out _).mono ?_
          rintro e w9 ⟨rfl, hw9⟩
          rw [hw9]; clear hw9 w9
          go_wp2_with fail
          refine (HN.out _).mono ?_
          rintro e w9 ⟨rfl, hw9⟩
          rw [hw9]; clear hw9 w9
          go_wp2
          go_ret
          exact ⟨rfl, by (repeat' (first | (with_reducible exact Below.refl _ _) | (with_reducible assumption) | (with_reducible refine Below.drew ?_) | (with_reducible refine Below.alloc ?_ ?_ _) | (with_reducible refine Below.setCell ?_ ?_ _) | (simp; done) | (simp; omega)))⟩
  · have hr2 : r ≤ 0 := by omega
    rw [decide_eq_false hr]
    go_enter Tryz.func18, Tryz.ntmps18
    go_wp2
    go_ret
    exact ⟨rfl, by (repeat' (first | (with_reducible exact Below.refl _ _) | (with_reducible assumption) | (with_reducible refine Below.drew ?_) | (with_reducible refine Below.alloc ?_ ?_ _) | (with_reducible refine Below.setCell ?_ ?_ _) | (simp; done) | (simp; omega)))⟩
set_option maxHeartbeats 1000000 in
set_option maxRecDepth 100000 in
theorem rvgood_o (k : Int) (x : Nat) (s : ByteArray) (r : Int) (w : World) (h : k < 0 ∨ 6 < k) :
    Calls Tryz.prog 18 #[.agg #[.int .i64 k, .float .f64 x, .string s, .int .i64 r]] w fun e w' => e = .returned (.bool false) ∧ Below w.heap.size w w' := by
  have q0 : (k == 0) = false := by rw [beq_eq_false_iff_ne]; omega
  have q1 : (k == 1) = false := by rw [beq_eq_false_iff_ne]; omega
  have q2 : (k == 2) = false := by rw [beq_eq_false_iff_ne]; omega
  have q3 : (k == 3) = false := by rw [beq_eq_false_iff_ne]; omega
  have q4 : (k == 4) = false := by rw [beq_eq_false_iff_ne]; omega
  have q5 : (k == 5) = false := by rw [beq_eq_false_iff_ne]; omega
  have q6 : (k == 6) = false := by rw [beq_eq_false_iff_ne]; omega
  clear h
  go_enter Tryz.func18, Tryz.ntmps18
  go_wp2
  go_ret
  exact ⟨rfl, by (repeat' (first | (with_reducible exact Below.refl _ _) | (with_reducible assumption) | (with_reducible refine Below.drew ?_) | (with_reducible refine Below.alloc ?_ ?_ _) | (with_reducible refine Below.setCell ?_ ?_ _) | (simp; done) | (simp; omega)))⟩
theorem vgood (k : Int) (x : Nat) (s : ByteArray) (r : Int) (w : World) (hx : x < 18446744073709551616) (hs : (s.size : Int) ≤ 140737488351232) :
    Calls Tryz.prog 17 #[.agg #[.int .i64 k, .float .f64 x, .string s, .int .i64 r]] w fun e w' => e = .returned (.bool (goodV k x s r)) ∧ Below w.heap.size w w' := by
  by_cases ho : k < 0 ∨ 6 < k
  · have HE : goodV k x s r = false := by
      unfold goodV
      rw [if_neg (by omega), if_neg (by omega), if_neg (by omega), if_neg (by omega), if_neg (by omega)]
    rw [HE]; exact vgood_o k x s r w ho
  have hc : k = 0 ∨ k = 1 ∨ k = 2 ∨ k = 3 ∨ k = 4 ∨ k = 5 ∨ k = 6 := by omega
  rcases hc with rfl | rfl | rfl | rfl | rfl | rfl | rfl
  · exact vgood_0 x s r w hx
  · exact vgood_1 x s r w hx
  · exact vgood_2 x s r w hx
  · exact vgood_3 x s r w hx
  · exact vgood_4 x s r w hx hs
  · exact vgood_5 x s r w hx
  · exact vgood_6 x s r w hx
theorem rvgood (k : Int) (x : Nat) (s : ByteArray) (r : Int) (w : World) (hx : x < 18446744073709551616) (hs : (s.size : Int) ≤ 140737488351232) :
    Calls Tryz.prog 18 #[.agg #[.int .i64 k, .float .f64 x, .string s, .int .i64 r]] w fun e w' => e = .returned (.bool (goodV k x s r)) ∧ Below w.heap.size w w' := by
  by_cases ho : k < 0 ∨ 6 < k
  · have HE : goodV k x s r = false := by
      unfold goodV
      rw [if_neg (by omega), if_neg (by omega), if_neg (by omega), if_neg (by omega), if_neg (by omega)]
    rw [HE]; exact rvgood_o k x s r w ho
  have hc : k = 0 ∨ k = 1 ∨ k = 2 ∨ k = 3 ∨ k = 4 ∨ k = 5 ∨ k = 6 := by omega
  rcases hc with rfl | rfl | rfl | rfl | rfl | rfl | rfl
  · exact rvgood_0 x s r w hx
  · exact rvgood_1 x s r w hx
  · exact rvgood_2 x s r w hx
  · exact rvgood_3 x s r w hx
  · exact rvgood_4 x s r w hx hs
  · exact rvgood_5 x s r w hx
  · exact rvgood_6 x s r w hx
end Go.Proofs.YtaknclffnoljlaaGreatDoor
