/- lintelref03.zeros, Plain, Show; lintelref01.Ascii: the document's text of a number. conv.Text and the document's. Written by tools/mkcvk.py. -/
import Derived.Test.YtbkkkpfoaggejaaGreatDoorShowU
import Derived.Test.YtbkkkpfoaggejaaGreatDoorRAsc
import Derived.PlainAid
import Derived.Test.YtbkkkpfoaggejaaGreatDoorCvP
namespace Go.Proofs.YtbkkkpfoaggejaaGreatDoor
set_option linter.unusedVariables false
open Go.RowKit Fl

theorem man_filter (b : Nat) : (u8s (manN (shDs b))).filter (· != 46) = u8s (shDs b) := by
  have hd := shDs_digit b
  have hf : ∀ l : List Nat, (∀ c ∈ l, 48 ≤ c ∧ c ≤ 57) → (u8s l).filter (· != 46) = u8s l := fun l hl => by
    rw [List.filter_eq_self]
    intro c hc
    have := u8s_mem hc (fun x hx => by have := hl x hx; omega)
    have := hl _ this
    rw [bne_iff_ne]
    rintro rfl
    exact absurd this.1 (by decide)
  cases h : shDs b with
  | nil => rfl
  | cons d r =>
    rw [h] at hd
    cases r with
    | nil => exact hf [d] hd
    | cons e r =>
      have h1 := hf [d] (fun c hc => hd c (by simp at hc; simp [hc]))
      have h2 := hf (e :: r) (fun c hc => hd c (by simp at hc ⊢; right; exact hc))
      show ((u8s [d]) ++ ([46] ++ u8s (e :: r))).filter (· != 46) = u8s [d] ++ u8s (e :: r)
      rw [List.filter_append, h1, List.filter_append, h2]
      rfl

theorem enc_ascii (c : UInt8) (h : c.toNat < 128) : Utf8.encode (c.toNat : Int) = Sb [c] := by
  unfold Utf8.encode
  have hv : Utf8.valid (c.toNat : Int) = true := by unfold Utf8.valid; simp; omega
  simp only [hv, if_true]
  simp [h, Sb]
end Go.Proofs.YtbkkkpfoaggejaaGreatDoor

namespace Go.Proofs.YtbkkkpfoaggejaaGreatDoor
set_option linter.unusedVariables false
open Go.RowKit Go.Sort Fl

theorem cv_even_eq (s : ByteArray) : evenS s = s.extract 0 (2 * (s.size / 2)) := by unfold evenS; rw [Nat.mul_comm]
theorem cv_cut_own (s : ByteArray) : cutS s 0 (((s.size / 2 : Nat)) : Int) = evenS s := by
  by_cases h : s.size / 2 = 0
  · rw [cutS_no (by omega), cv_even_eq, h]
    exact (ByteArray.ext (by simp)).symm
  · rw [cutS_yes 0 (s.size / 2) (by omega) (by omega) (by omega), cv_even_eq]
set_option maxHeartbeats 1000000 in
set_option maxRecDepth 100000 in
theorem copied_any (s : ByteArray) (w : World) (hs : (s.size : Int) ≤ 140737488351232) :
    Calls Tryz.prog 121 #[.string s] w fun e w' => e = .returned (.string (evenS s)) ∧ Below w.heap.size w w' := by
  have hm : s.size ≤ maxLen := by unfold maxLen; omega
  have HC := Hid.mk' (fun W => cut_wide s 0 ((s.size / 2 : Nat) : Int) W hs)
  rw [cv_cut_own] at HC
  go_enter Tryz.func121, Tryz.ntmps121
  go_wp2_with (first | (go_at_call 99; refine (len_any _ _ hm).mono ?_; rintro e w1 ⟨rfl, hw1⟩; rw [hw1]; clear hw1 w1) | (go_at_call 131; refine (HC.out _).mono ?_; rintro e w2 ⟨rfl, b2⟩))
  go_ret
  exact ⟨rfl, b2⟩
set_option maxHeartbeats 1000000 in
set_option maxRecDepth 100000 in
theorem word_any (s : ByteArray) (w : World) (hs : (s.size : Int) ≤ 1048576) :
    Calls Tryz.prog 119 #[.string s] w fun e w' => e = .returned (.string (ofFst (ofS s))) ∧ Below w.heap.size w w' := by
  have HO := Hid.mk' (of_any s w hs)
  generalize ofS s = r at HO ⊢
  go_enter Tryz.func119, Tryz.ntmps119
  go_wp2_with fail
  refine HO.out.mono ?_
  rintro e w1 ⟨rfl, b1⟩
  cases r with
  | ok bs =>
    dsimp only [ofEnd, ofFst]
    go_wp2
    go_ret
    exact ⟨rfl, b1⟩
  | error n =>
    dsimp only [ofEnd, ofFst]
    go_wp2
    go_ret
    exact ⟨rfl, b1⟩
/-- A value's text. -/
def textV (k : Int) (x : Nat) (s : ByteArray) : ByteArray :=
  if kd k = 0 then ofFst (ofS ⟨#[117, 110, 100, 101, 102, 105, 110, 101, 100]⟩) else if kd k = 1 then ofFst (ofS ⟨#[110, 117, 108, 108]⟩) else if kd k = 2 then (if x = 4607182418800017408 then ofFst (ofS ⟨#[116, 114, 117, 101]⟩) else ofFst (ofS ⟨#[102, 97, 108, 115, 101]⟩)) else if kd k = 3 then ofFst (ofS (Sb (showB x))) else if kd k = 4 then evenS s else ⟨#[]⟩
set_option maxHeartbeats 1000000 in
set_option maxRecDepth 100000 in
theorem vtext_0 (k : Int) (x : Nat) (s : ByteArray) (r : Int) (w : World) (hx : x < 18446744073709551616) (hs : (s.size : Int) ≤ 140737488351232) (hl : Hid (Laid w)) (e : kd k = 0) :
    Calls Tryz.prog 103 #[.agg #[.int .i64 k, .float .f64 x, .string s, .int .i64 r]] w fun e w' => e = .returned (.tuple #[.string (ofFst (ofS ⟨#[117, 110, 100, 101, 102, 105, 110, 101, 100]⟩)), .bool true]) ∧ Below w.heap.size w w' := by
  have HK := Hid.mk' (fun W => kindOf_any k x s r W)
  rw [e] at HK
  go_enter Tryz.func103, Tryz.ntmps103
  go_wp2_with fail
  refine (HK.out _).mono ?_
  rintro e w1 ⟨rfl, b1⟩
  have c1 : Below w.heap.size w w1 := bl_chain (by (repeat' (first | (with_reducible exact Below.refl _ _) | (with_reducible assumption) | (with_reducible refine Below.drew ?_) | (with_reducible refine below_drewN ?_ _) | (with_reducible refine Below.alloc ?_ ?_ _) | (with_reducible refine Below.setCell ?_ ?_ _) | (simp; done) | (simp; omega)))) b1
  have V1 : CellV w1 w.heap.size k x s r := CellV.below (by first | (with_reducible assumption) | (with_reducible refine CellV.drew ?_; assumption) | (constructor <;> first | (simp; done) | (simp; omega))) b1
  obtain ⟨-, z10, z11, z12, z13⟩ := id V1
  clear b1
  go_wp2_with fail
  refine (word_any ⟨#[117, 110, 100, 101, 102, 105, 110, 101, 100]⟩ _ (by decide)).mono ?_
  rintro e w2 ⟨rfl, b2⟩
  have c2 := c1.trans (b2.mono c1.size)
  go_wp2
  go_ret2
  exact ⟨rfl, by (repeat' (first | (with_reducible exact Below.refl _ _) | (with_reducible assumption) | (with_reducible refine Below.drew ?_) | (with_reducible refine below_drewN ?_ _) | (with_reducible refine Below.alloc ?_ ?_ _) | (with_reducible refine Below.setCell ?_ ?_ _) | (simp; done) | (simp; omega)))⟩
set_option maxHeartbeats 1000000 in
set_option maxRecDepth 100000 in
theorem vtext_1 (k : Int) (x : Nat) (s : ByteArray) (r : Int) (w : World) (hx : x < 18446744073709551616) (hs : (s.size : Int) ≤ 140737488351232) (hl : Hid (Laid w)) (e : kd k = 1) :
    Calls Tryz.prog 103 #[.agg #[.int .i64 k, .float .f64 x, .string s, .int .i64 r]] w fun e w' => e = .returned (.tuple #[.string (ofFst (ofS ⟨#[110, 117, 108, 108]⟩)), .bool true]) ∧ Below w.heap.size w w' := by
  have HK := Hid.mk' (fun W => kindOf_any k x s r W)
  rw [e] at HK
  go_enter Tryz.func103, Tryz.ntmps103
  go_wp2_with fail
  refine (HK.out _).mono ?_
  rintro e w1 ⟨rfl, b1⟩
  have c1 : Below w.heap.size w w1 := bl_chain (by (repeat' (first | (with_reducible exact Below.refl _ _) | (with_reducible assumption) | (with_reducible refine Below.drew ?_) | (with_reducible refine below_drewN ?_ _) | (with_reducible refine Below.alloc ?_ ?_ _) | (with_reducible refine Below.setCell ?_ ?_ _) | (simp; done) | (simp; omega)))) b1
  have V1 : CellV w1 w.heap.size k x s r := CellV.below (by first | (with_reducible assumption) | (with_reducible refine CellV.drew ?_; assumption) | (constructor <;> first | (simp; done) | (simp; omega))) b1
  obtain ⟨-, z10, z11, z12, z13⟩ := id V1
  clear b1
  go_wp2_with fail
  refine (word_any ⟨#[110, 117, 108, 108]⟩ _ (by decide)).mono ?_
  rintro e w2 ⟨rfl, b2⟩
  have c2 := c1.trans (b2.mono c1.size)
  go_wp2
  go_ret2
  exact ⟨rfl, by (repeat' (first | (with_reducible exact Below.refl _ _) | (with_reducible assumption) | (with_reducible refine Below.drew ?_) | (with_reducible refine below_drewN ?_ _) | (with_reducible refine Below.alloc ?_ ?_ _) | (with_reducible refine Below.setCell ?_ ?_ _) | (simp; done) | (simp; omega)))⟩
set_option maxHeartbeats 1000000 in
set_option maxRecDepth 100000 in
theorem vtext_2 (k : Int) (x : Nat) (s : ByteArray) (r : Int) (w : World) (hx : x < 18446744073709551616) (hs : (s.size : Int) ≤ 140737488351232) (hl : Hid (Laid w)) (e : kd k = 2) :
    Calls Tryz.prog 103 #[.agg #[.int .i64 k, .float .f64 x, .string s, .int .i64 r]] w fun e w' => e = .returned (.tuple #[.string ((if x = 4607182418800017408 then ofFst (ofS ⟨#[116, 114, 117, 101]⟩) else ofFst (ofS ⟨#[102, 97, 108, 115, 101]⟩))), .bool true]) ∧ Below w.heap.size w w' := by
  have HK := Hid.mk' (fun W => kindOf_any k x s r W)
  rw [e] at HK
  have HT := Hid.mk' (fun W => isTrue_any k x s r W hx)
  by_cases o : x = 4607182418800017408
  · rw [if_pos o]
    rw [decide_eq_true o] at HT
    clear o
    go_enter Tryz.func103, Tryz.ntmps103
    go_wp2_with fail
    refine (HK.out _).mono ?_
    rintro e w1 ⟨rfl, b1⟩
    have c1 : Below w.heap.size w w1 := bl_chain (by (repeat' (first | (with_reducible exact Below.refl _ _) | (with_reducible assumption) | (with_reducible refine Below.drew ?_) | (with_reducible refine below_drewN ?_ _) | (with_reducible refine Below.alloc ?_ ?_ _) | (with_reducible refine Below.setCell ?_ ?_ _) | (simp; done) | (simp; omega)))) b1
    have V1 : CellV w1 w.heap.size k x s r := CellV.below (by first | (with_reducible assumption) | (with_reducible refine CellV.drew ?_; assumption) | (constructor <;> first | (simp; done) | (simp; omega))) b1
    obtain ⟨-, z10, z11, z12, z13⟩ := id V1
    clear b1
    go_wp2_with fail
    refine (HT.out _).mono ?_
    rintro e w2 ⟨rfl, b2⟩
    have c2 : Below w.heap.size w w2 := bl_chain (by (repeat' (first | (with_reducible exact Below.refl _ _) | (with_reducible assumption) | (with_reducible refine Below.drew ?_) | (with_reducible refine below_drewN ?_ _) | (with_reducible refine Below.alloc ?_ ?_ _) | (with_reducible refine Below.setCell ?_ ?_ _) | (simp; done) | (simp; omega)))) b2
    have V2 : CellV w2 w.heap.size k x s r := CellV.below (by first | (with_reducible assumption) | (with_reducible refine CellV.drew ?_; assumption) | (constructor <;> first | (simp; done) | (simp; omega))) b2
    obtain ⟨-, z20, z21, z22, z23⟩ := id V2
    clear b2
    go_wp2_with fail
    refine (word_any ⟨#[116, 114, 117, 101]⟩ _ (by decide)).mono ?_
    rintro e w5 ⟨rfl, b5⟩
    have c5 := c2.trans (b5.mono c2.size)
    go_wp2
    go_ret2
    exact ⟨rfl, by (repeat' (first | (with_reducible exact Below.refl _ _) | (with_reducible assumption) | (with_reducible refine Below.drew ?_) | (with_reducible refine below_drewN ?_ _) | (with_reducible refine Below.alloc ?_ ?_ _) | (with_reducible refine Below.setCell ?_ ?_ _) | (simp; done) | (simp; omega)))⟩
  · rw [if_neg o]
    rw [decide_eq_false o] at HT
    clear o
    go_enter Tryz.func103, Tryz.ntmps103
    go_wp2_with fail
    refine (HK.out _).mono ?_
    rintro e w1 ⟨rfl, b1⟩
    have c1 : Below w.heap.size w w1 := bl_chain (by (repeat' (first | (with_reducible exact Below.refl _ _) | (with_reducible assumption) | (with_reducible refine Below.drew ?_) | (with_reducible refine below_drewN ?_ _) | (with_reducible refine Below.alloc ?_ ?_ _) | (with_reducible refine Below.setCell ?_ ?_ _) | (simp; done) | (simp; omega)))) b1
    have V1 : CellV w1 w.heap.size k x s r := CellV.below (by first | (with_reducible assumption) | (with_reducible refine CellV.drew ?_; assumption) | (constructor <;> first | (simp; done) | (simp; omega))) b1
    obtain ⟨-, z10, z11, z12, z13⟩ := id V1
    clear b1
    go_wp2_with fail
    refine (HT.out _).mono ?_
    rintro e w2 ⟨rfl, b2⟩
    have c2 : Below w.heap.size w w2 := bl_chain (by (repeat' (first | (with_reducible exact Below.refl _ _) | (with_reducible assumption) | (with_reducible refine Below.drew ?_) | (with_reducible refine below_drewN ?_ _) | (with_reducible refine Below.alloc ?_ ?_ _) | (with_reducible refine Below.setCell ?_ ?_ _) | (simp; done) | (simp; omega)))) b2
    have V2 : CellV w2 w.heap.size k x s r := CellV.below (by first | (with_reducible assumption) | (with_reducible refine CellV.drew ?_; assumption) | (constructor <;> first | (simp; done) | (simp; omega))) b2
    obtain ⟨-, z20, z21, z22, z23⟩ := id V2
    clear b2
    go_wp2_with fail
    refine (word_any ⟨#[102, 97, 108, 115, 101]⟩ _ (by decide)).mono ?_
    rintro e w5 ⟨rfl, b5⟩
    have c5 := c2.trans (b5.mono c2.size)
    go_wp2
    go_ret2
    exact ⟨rfl, by (repeat' (first | (with_reducible exact Below.refl _ _) | (with_reducible assumption) | (with_reducible refine Below.drew ?_) | (with_reducible refine below_drewN ?_ _) | (with_reducible refine Below.alloc ?_ ?_ _) | (with_reducible refine Below.setCell ?_ ?_ _) | (simp; done) | (simp; omega)))⟩
set_option maxHeartbeats 1000000 in
set_option maxRecDepth 100000 in
theorem vtext_3 (k : Int) (x : Nat) (s : ByteArray) (r : Int) (w : World) (hx : x < 18446744073709551616) (hs : (s.size : Int) ≤ 140737488351232) (hl : Hid (Laid w)) (e : kd k = 3) :
    Calls Tryz.prog 103 #[.agg #[.int .i64 k, .float .f64 x, .string s, .int .i64 r]] w fun e w' => e = .returned (.tuple #[.string (ofFst (ofS (Sb (showB x)))), .bool true]) ∧ Below w.heap.size w w' := by
  have HK := Hid.mk' (fun W => kindOf_any k x s r W)
  rw [e] at HK
  go_enter Tryz.func103, Tryz.ntmps103
  go_wp2_with fail
  refine (HK.out _).mono ?_
  rintro e w1 ⟨rfl, b1⟩
  have c1 : Below w.heap.size w w1 := bl_chain (by (repeat' (first | (with_reducible exact Below.refl _ _) | (with_reducible assumption) | (with_reducible refine Below.drew ?_) | (with_reducible refine below_drewN ?_ _) | (with_reducible refine Below.alloc ?_ ?_ _) | (with_reducible refine Below.setCell ?_ ?_ _) | (simp; done) | (simp; omega)))) b1
  have V1 : CellV w1 w.heap.size k x s r := CellV.below (by first | (with_reducible assumption) | (with_reducible refine CellV.drew ?_; assumption) | (constructor <;> first | (simp; done) | (simp; omega))) b1
  obtain ⟨-, z10, z11, z12, z13⟩ := id V1
  clear b1
  have HS := Hid.mk' (show_any x _ hx (Hid.mk' (hl.out.below c1)))
  go_wp2_with fail
  refine HS.out.mono ?_
  rintro e w2 ⟨rfl, b2⟩
  have c2 := c1.trans (b2.mono c1.size)
  go_wp2
  go_ret2
  exact ⟨rfl, by (repeat' (first | (with_reducible exact Below.refl _ _) | (with_reducible assumption) | (with_reducible refine Below.drew ?_) | (with_reducible refine below_drewN ?_ _) | (with_reducible refine Below.alloc ?_ ?_ _) | (with_reducible refine Below.setCell ?_ ?_ _) | (simp; done) | (simp; omega)))⟩
set_option maxHeartbeats 1000000 in
set_option maxRecDepth 100000 in
theorem vtext_4 (k : Int) (x : Nat) (s : ByteArray) (r : Int) (w : World) (hx : x < 18446744073709551616) (hs : (s.size : Int) ≤ 140737488351232) (hl : Hid (Laid w)) (e : kd k = 4) :
    Calls Tryz.prog 103 #[.agg #[.int .i64 k, .float .f64 x, .string s, .int .i64 r]] w fun e w' => e = .returned (.tuple #[.string (evenS s), .bool true]) ∧ Below w.heap.size w w' := by
  have HK := Hid.mk' (fun W => kindOf_any k x s r W)
  rw [e] at HK
  go_enter Tryz.func103, Tryz.ntmps103
  go_wp2_with fail
  refine (HK.out _).mono ?_
  rintro e w1 ⟨rfl, b1⟩
  have c1 : Below w.heap.size w w1 := bl_chain (by (repeat' (first | (with_reducible exact Below.refl _ _) | (with_reducible assumption) | (with_reducible refine Below.drew ?_) | (with_reducible refine below_drewN ?_ _) | (with_reducible refine Below.alloc ?_ ?_ _) | (with_reducible refine Below.setCell ?_ ?_ _) | (simp; done) | (simp; omega)))) b1
  have V1 : CellV w1 w.heap.size k x s r := CellV.below (by first | (with_reducible assumption) | (with_reducible refine CellV.drew ?_; assumption) | (constructor <;> first | (simp; done) | (simp; omega))) b1
  obtain ⟨-, z10, z11, z12, z13⟩ := id V1
  clear b1
  go_wp2_with fail
  refine (copied_any s _ hs).mono ?_
  rintro e w2 ⟨rfl, b2⟩
  have c2 := c1.trans (b2.mono c1.size)
  go_wp2
  go_ret2
  exact ⟨rfl, by (repeat' (first | (with_reducible exact Below.refl _ _) | (with_reducible assumption) | (with_reducible refine Below.drew ?_) | (with_reducible refine below_drewN ?_ _) | (with_reducible refine Below.alloc ?_ ?_ _) | (with_reducible refine Below.setCell ?_ ?_ _) | (simp; done) | (simp; omega)))⟩
set_option maxHeartbeats 1000000 in
set_option maxRecDepth 100000 in
theorem vtext_5 (k : Int) (x : Nat) (s : ByteArray) (r : Int) (w : World) (hx : x < 18446744073709551616) (hs : (s.size : Int) ≤ 140737488351232) (hl : Hid (Laid w)) (e : kd k = 5) :
    Calls Tryz.prog 103 #[.agg #[.int .i64 k, .float .f64 x, .string s, .int .i64 r]] w fun e w' => e = .returned (.tuple #[.string (⟨#[]⟩), .bool false]) ∧ Below w.heap.size w w' := by
  have HK := Hid.mk' (fun W => kindOf_any k x s r W)
  rw [e] at HK
  go_enter Tryz.func103, Tryz.ntmps103
  go_wp2_with fail
  refine (HK.out _).mono ?_
  rintro e w1 ⟨rfl, b1⟩
  have c1 : Below w.heap.size w w1 := bl_chain (by (repeat' (first | (with_reducible exact Below.refl _ _) | (with_reducible assumption) | (with_reducible refine Below.drew ?_) | (with_reducible refine below_drewN ?_ _) | (with_reducible refine Below.alloc ?_ ?_ _) | (with_reducible refine Below.setCell ?_ ?_ _) | (simp; done) | (simp; omega)))) b1
  have V1 : CellV w1 w.heap.size k x s r := CellV.below (by first | (with_reducible assumption) | (with_reducible refine CellV.drew ?_; assumption) | (constructor <;> first | (simp; done) | (simp; omega))) b1
  obtain ⟨-, z10, z11, z12, z13⟩ := id V1
  clear b1
  go_wp2
  go_ret2
  exact ⟨rfl, by (repeat' (first | (with_reducible exact Below.refl _ _) | (with_reducible assumption) | (with_reducible refine Below.drew ?_) | (with_reducible refine below_drewN ?_ _) | (with_reducible refine Below.alloc ?_ ?_ _) | (with_reducible refine Below.setCell ?_ ?_ _) | (simp; done) | (simp; omega)))⟩
set_option maxHeartbeats 1000000 in
set_option maxRecDepth 100000 in
theorem vtext_6 (k : Int) (x : Nat) (s : ByteArray) (r : Int) (w : World) (hx : x < 18446744073709551616) (hs : (s.size : Int) ≤ 140737488351232) (hl : Hid (Laid w)) (e : kd k = 6) :
    Calls Tryz.prog 103 #[.agg #[.int .i64 k, .float .f64 x, .string s, .int .i64 r]] w fun e w' => e = .returned (.tuple #[.string (⟨#[]⟩), .bool false]) ∧ Below w.heap.size w w' := by
  have HK := Hid.mk' (fun W => kindOf_any k x s r W)
  rw [e] at HK
  go_enter Tryz.func103, Tryz.ntmps103
  go_wp2_with fail
  refine (HK.out _).mono ?_
  rintro e w1 ⟨rfl, b1⟩
  have c1 : Below w.heap.size w w1 := bl_chain (by (repeat' (first | (with_reducible exact Below.refl _ _) | (with_reducible assumption) | (with_reducible refine Below.drew ?_) | (with_reducible refine below_drewN ?_ _) | (with_reducible refine Below.alloc ?_ ?_ _) | (with_reducible refine Below.setCell ?_ ?_ _) | (simp; done) | (simp; omega)))) b1
  have V1 : CellV w1 w.heap.size k x s r := CellV.below (by first | (with_reducible assumption) | (with_reducible refine CellV.drew ?_; assumption) | (constructor <;> first | (simp; done) | (simp; omega))) b1
  obtain ⟨-, z10, z11, z12, z13⟩ := id V1
  clear b1
  go_wp2
  go_ret2
  exact ⟨rfl, by (repeat' (first | (with_reducible exact Below.refl _ _) | (with_reducible assumption) | (with_reducible refine Below.drew ?_) | (with_reducible refine below_drewN ?_ _) | (with_reducible refine Below.alloc ?_ ?_ _) | (with_reducible refine Below.setCell ?_ ?_ _) | (simp; done) | (simp; omega)))⟩
theorem vtext (k : Int) (x : Nat) (s : ByteArray) (r : Int) (w : World) (hx : x < 18446744073709551616) (hs : (s.size : Int) ≤ 140737488351232) (hl : Hid (Laid w)) :
    Calls Tryz.prog 103 #[.agg #[.int .i64 k, .float .f64 x, .string s, .int .i64 r]] w fun e w' => e = .returned (.tuple #[.string (textV k x s), .bool (decide (kd k ≤ 4))]) ∧ Below w.heap.size w w' := by
  rcases kd_cases k with e | e | e | e | e | e | e
  · rw [show textV k x s = ofFst (ofS ⟨#[117, 110, 100, 101, 102, 105, 110, 101, 100]⟩) by unfold textV; simp only [e]; rfl, show decide (kd k ≤ 4) = true by rw [e]; decide]
    exact vtext_0 k x s r w hx hs hl e
  · rw [show textV k x s = ofFst (ofS ⟨#[110, 117, 108, 108]⟩) by unfold textV; simp only [e]; rfl, show decide (kd k ≤ 4) = true by rw [e]; decide]
    exact vtext_1 k x s r w hx hs hl e
  · rw [show textV k x s = (if x = 4607182418800017408 then ofFst (ofS ⟨#[116, 114, 117, 101]⟩) else ofFst (ofS ⟨#[102, 97, 108, 115, 101]⟩)) by unfold textV; simp only [e]; rfl, show decide (kd k ≤ 4) = true by rw [e]; decide]
    exact vtext_2 k x s r w hx hs hl e
  · rw [show textV k x s = ofFst (ofS (Sb (showB x))) by unfold textV; simp only [e]; rfl, show decide (kd k ≤ 4) = true by rw [e]; decide]
    exact vtext_3 k x s r w hx hs hl e
  · rw [show textV k x s = evenS s by unfold textV; simp only [e]; rfl, show decide (kd k ≤ 4) = true by rw [e]; decide]
    exact vtext_4 k x s r w hx hs hl e
  · rw [show textV k x s = ⟨#[]⟩ by unfold textV; simp only [e]; rfl, show decide (kd k ≤ 4) = false by rw [e]; decide]
    exact vtext_5 k x s r w hx hs hl e
  · rw [show textV k x s = ⟨#[]⟩ by unfold textV; simp only [e]; rfl, show decide (kd k ≤ 4) = false by rw [e]; decide]
    exact vtext_6 k x s r w hx hs hl e
end Go.Proofs.YtbkkkpfoaggejaaGreatDoor
