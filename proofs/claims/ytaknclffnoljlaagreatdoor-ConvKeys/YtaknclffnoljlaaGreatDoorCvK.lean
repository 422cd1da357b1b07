/- conv.Key, conv.Of and the document's; values and keys alike. Written by tools/mkcvk.py. -/
import Derived.Test.YtaknclffnoljlaaGreatDoorCvT
import Derived.Test.YtaknclffnoljlaaGreatDoorCvA
namespace Go.Proofs.YtaknclffnoljlaaGreatDoor
set_option linter.unusedVariables false
open Go.RowKit Go.Sort Fl

/-- A key's block. -/
structure KeyC (w : World) (g : Nat) (s : ByteArray) (z : Int) : Prop where
  lt : g < w.heap.size
  c0 : w.cell? ⟨g, 0, none⟩ = some (.string s)
  c1 : w.cell? ⟨g, 1, none⟩ = some (.int .i64 z)
  f0 : w.frozen? ⟨g, 0, none⟩ = false
  f1 : w.frozen? ⟨g, 1, none⟩ = false
theorem KeyC.below {w w' : World} {g : Nat} {s : ByteArray} {z : Int} (h : KeyC w g s z) (hb : Below w.heap.size w w') : KeyC w' g s z :=
  ⟨Nat.lt_of_lt_of_le h.lt hb.size, (hb.cell (p := ⟨g, 0, none⟩) h.lt).trans h.c0, (hb.cell (p := ⟨g, 1, none⟩) h.lt).trans h.c1, (hb.frozen (p := ⟨g, 0, none⟩) h.lt).trans h.f0, (hb.frozen (p := ⟨g, 1, none⟩) h.lt).trans h.f1⟩
theorem KeyC.alloc {w : World} {g : Nat} {s : ByteArray} {z : Int} (h : KeyC w g s z) (o : Obj) : KeyC (w.alloc o) g s z := h.below ((Below.refl _ _).alloc (Nat.le_refl _) _)
theorem KeyC.drew {w : World} {g : Nat} {s : ByteArray} {z : Int} (h : KeyC w g s z) : KeyC w.drew g s z := ⟨h.lt, h.c0, h.c1, h.f0, h.f1⟩
/-- A value's key, and whether it has one. -/
def keyS (k : Int) (x : Nat) (s : ByteArray) (r : Int) : ByteArray := if k = 5 ∧ 0 < r then ⟨#[]⟩ else textV k x s
def keyZ (k : Int) (r : Int) : Int := if k = 5 ∧ 0 < r then r else 0
def keyB (k : Int) (r : Int) : Bool := if k = 5 ∧ 0 < r then true else decide (kd k ≤ 4)
theorem kd_five (k : Int) : kd k = 5 ↔ k = 5 := by unfold kd; split <;> omega
set_option maxHeartbeats 1000000 in
set_option maxRecDepth 100000 in
theorem vkey_sym (x : Nat) (s : ByteArray) (r : Int) (w : World) (h : 0 < r) : Calls Tryz.prog 9 #[.agg #[.int .i64 5, .float .f64 x, .string s, .int .i64 r]] w fun e w' => e = .returned (.tuple #[.agg #[.string ⟨#[]⟩, .int .i64 r], .bool true]) ∧ Below w.heap.size w w' := by
  go_enter Tryz.func9, Tryz.ntmps9
  go_wp2
  (try simp only [Exit.inBlock, Exit.then])
  refine bodyPost_ret (v := .tuple #[.agg #[.string ⟨#[]⟩, .int .i64 r], .bool true]) ?_ rfl ⟨rfl, by (repeat' (first | (with_reducible exact Below.refl _ _) | (with_reducible assumption) | (with_reducible refine Below.drew ?_) | (with_reducible refine below_drewN ?_ _) | (with_reducible refine Below.alloc ?_ ?_ _) | (with_reducible refine Below.setCell ?_ ?_ _) | (simp; done) | (simp; omega)))⟩
  simp [results, Tryz.results9, go_sem, *]
set_option maxHeartbeats 1000000 in
set_option maxRecDepth 100000 in
theorem vkey_txt (k : Int) (x : Nat) (s : ByteArray) (r : Int) (w : World) (hx : x < 18446744073709551616) (hs : (s.size : Int) ≤ 140737488351232) (hl : Hid (Laid w)) (h : ¬ (k = 5 ∧ 0 < r)) : Calls Tryz.prog 9 #[.agg #[.int .i64 k, .float .f64 x, .string s, .int .i64 r]] w fun e w' => e = .returned (.tuple #[.agg #[.string (textV k x s), .int .i64 0], .bool (decide (kd k ≤ 4))]) ∧ Below w.heap.size w w' := by
  have HT := Hid.mk' (fun W hW => vtext k x s r W hx hs hW)
  obtain ⟨T, hT⟩ : ∃ T, textV k x s = T := ⟨_, rfl⟩
  obtain ⟨B, hB⟩ : ∃ B, decide (kd k ≤ 4) = B := ⟨_, rfl⟩
  rw [hT, hB] at HT ⊢
  clear hT hB hx hs
  by_cases h5 : k = 5
  · have h6 : ¬ 0 < r := fun q => h ⟨h5, q⟩
    clear h
    subst h5
    go_enter Tryz.func9, Tryz.ntmps9
    go_wp2_with fail
    refine (HT.out _ (Hid.mk' (hl.out.below (by (repeat' (first | (with_reducible exact Below.refl _ _) | (with_reducible assumption) | (with_reducible refine Below.drew ?_) | (with_reducible refine below_drewN ?_ _) | (with_reducible refine Below.alloc ?_ ?_ _) | (with_reducible refine Below.setCell ?_ ?_ _) | (simp; done) | (simp; omega))))))).mono ?_
    rintro e w1 ⟨rfl, b1⟩
    have c1 : Below w.heap.size w w1 := bl_chain (by (repeat' (first | (with_reducible exact Below.refl _ _) | (with_reducible assumption) | (with_reducible refine Below.drew ?_) | (with_reducible refine below_drewN ?_ _) | (with_reducible refine Below.alloc ?_ ?_ _) | (with_reducible refine Below.setCell ?_ ?_ _) | (simp; done) | (simp; omega)))) b1
    have V1 : CellV w1 w.heap.size 5 x s r := CellV.below (by first | (with_reducible assumption) | (with_reducible refine CellV.drew ?_; assumption) | (constructor <;> first | (simp; done) | (simp; omega))) b1
    obtain ⟨-, z10, z11, z12, z13⟩ := id V1
    have K1 : KeyC w1 (w.heap.size + 1) ⟨#[]⟩ 0 := KeyC.below (by first | (with_reducible assumption) | (with_reducible refine KeyC.drew ?_; assumption) | (constructor <;> first | (simp; done) | (simp; omega))) b1
    obtain ⟨-, y10, y11, g10, g11⟩ := id K1
    clear b1
    go_wp2
    (try simp only [Exit.inBlock, Exit.then])
    refine bodyPost_ret (v := .tuple #[.agg #[.string T, .int .i64 0], .bool B]) ?_ rfl ⟨rfl, by (repeat' (first | (with_reducible exact Below.refl _ _) | (with_reducible assumption) | (with_reducible refine Below.drew ?_) | (with_reducible refine below_drewN ?_ _) | (with_reducible refine Below.alloc ?_ ?_ _) | (with_reducible refine Below.setCell ?_ ?_ _) | (simp; done) | (simp; omega)))⟩
    simp [results, Tryz.results9, go_sem, *]
  · have q5 : (k == 5) = false := by rw [beq_eq_false_iff_ne]; exact h5
    clear h
    go_enter Tryz.func9, Tryz.ntmps9
    go_wp2_with fail
    refine (HT.out _ (Hid.mk' (hl.out.below (by (repeat' (first | (with_reducible exact Below.refl _ _) | (with_reducible assumption) | (with_reducible refine Below.drew ?_) | (with_reducible refine below_drewN ?_ _) | (with_reducible refine Below.alloc ?_ ?_ _) | (with_reducible refine Below.setCell ?_ ?_ _) | (simp; done) | (simp; omega))))))).mono ?_
    rintro e w1 ⟨rfl, b1⟩
    have c1 : Below w.heap.size w w1 := bl_chain (by (repeat' (first | (with_reducible exact Below.refl _ _) | (with_reducible assumption) | (with_reducible refine Below.drew ?_) | (with_reducible refine below_drewN ?_ _) | (with_reducible refine Below.alloc ?_ ?_ _) | (with_reducible refine Below.setCell ?_ ?_ _) | (simp; done) | (simp; omega)))) b1
    have V1 : CellV w1 w.heap.size k x s r := CellV.below (by first | (with_reducible assumption) | (with_reducible refine CellV.drew ?_; assumption) | (constructor <;> first | (simp; done) | (simp; omega))) b1
    obtain ⟨-, z10, z11, z12, z13⟩ := id V1
    have K1 : KeyC w1 (w.heap.size + 1) ⟨#[]⟩ 0 := KeyC.below (by first | (with_reducible assumption) | (with_reducible refine KeyC.drew ?_; assumption) | (constructor <;> first | (simp; done) | (simp; omega))) b1
    obtain ⟨-, y10, y11, g10, g11⟩ := id K1
    clear b1
    go_wp2
    (try simp only [Exit.inBlock, Exit.then])
    refine bodyPost_ret (v := .tuple #[.agg #[.string T, .int .i64 0], .bool B]) ?_ rfl ⟨rfl, by (repeat' (first | (with_reducible exact Below.refl _ _) | (with_reducible assumption) | (with_reducible refine Below.drew ?_) | (with_reducible refine below_drewN ?_ _) | (with_reducible refine Below.alloc ?_ ?_ _) | (with_reducible refine Below.setCell ?_ ?_ _) | (simp; done) | (simp; omega)))⟩
    simp [results, Tryz.results9, go_sem, *]
theorem vkey (k : Int) (x : Nat) (s : ByteArray) (r : Int) (w : World) (hx : x < 18446744073709551616) (hs : (s.size : Int) ≤ 140737488351232) (hl : Hid (Laid w)) : Calls Tryz.prog 9 #[.agg #[.int .i64 k, .float .f64 x, .string s, .int .i64 r]] w fun e w' => e = .returned (.tuple #[.agg #[.string (keyS k x s r), .int .i64 (keyZ k r)], .bool (keyB k r)]) ∧ Below w.heap.size w w' := by
  unfold keyS keyZ keyB
  by_cases h : k = 5 ∧ 0 < r
  · rw [if_pos h, if_pos h, if_pos h]
    obtain ⟨rfl, h⟩ := h
    exact vkey_sym x s r w h
  · rw [if_neg h, if_neg h, if_neg h]
    exact vkey_txt k x s r w hx hs hl h
set_option maxHeartbeats 1000000 in
set_option maxRecDepth 100000 in
theorem rvkey (k : Int) (x : Nat) (s : ByteArray) (r : Int) (w : World) (hx : x < 18446744073709551616) (hs : (s.size : Int) ≤ 140737488351232) (hl : Hid (Laid w)) : Calls Tryz.prog 10 #[.agg #[.int .i64 k, .float .f64 x, .string s, .int .i64 r]] w fun e w' => e = .returned (.tuple #[.agg #[.string (keyS k x s r), .int .i64 (keyZ k r)], .bool (keyB k r)]) ∧ Below w.heap.size w w' := by
  have HK := Hid.mk' (fun W => rkind_any k x s r W)
  have HT := Hid.mk' (fun W hW => rvtext k x s r W hx hs hW)
  unfold keyS keyZ keyB
  clear hx hs
  by_cases h5 : k = 5
  · subst h5
    rw [show kd 5 = 5 from rfl] at HK
    by_cases hr : 0 < r
    · rw [if_pos ⟨rfl, hr⟩, if_pos ⟨rfl, hr⟩, if_pos ⟨rfl, hr⟩]
      have hr2 : ¬ r ≤ 0 := by omega
      go_enter Tryz.func10, Tryz.ntmps10
      go_wp2_with fail
      refine (HK.out _).mono ?_
      rintro e w1 ⟨rfl, b1⟩
      have c1 : Below w.heap.size w w1 := bl_chain (by (repeat' (first | (with_reducible exact Below.refl _ _) | (with_reducible assumption) | (with_reducible refine Below.drew ?_) | (with_reducible refine below_drewN ?_ _) | (with_reducible refine Below.alloc ?_ ?_ _) | (with_reducible refine Below.setCell ?_ ?_ _) | (simp; done) | (simp; omega)))) b1
      have V1 : CellV w1 w.heap.size 5 x s r := CellV.below (by first | (with_reducible assumption) | (with_reducible refine CellV.drew ?_; assumption) | (constructor <;> first | (simp; done) | (simp; omega))) b1
      obtain ⟨-, z10, z11, z12, z13⟩ := id V1
      have K1 : KeyC w1 (w.heap.size + 1) ⟨#[]⟩ 0 := KeyC.below (by first | (with_reducible assumption) | (with_reducible refine KeyC.drew ?_; assumption) | (constructor <;> first | (simp; done) | (simp; omega))) b1
      obtain ⟨-, y10, y11, g10, g11⟩ := id K1
      clear b1
      go_wp2
      (try simp only [Exit.inBlock, Exit.then])
      refine bodyPost_ret (v := .tuple #[.agg #[.string ⟨#[]⟩, .int .i64 r], .bool true]) ?_ rfl ⟨rfl, by (repeat' (first | (with_reducible exact Below.refl _ _) | (with_reducible assumption) | (with_reducible refine Below.drew ?_) | (with_reducible refine below_drewN ?_ _) | (with_reducible refine Below.alloc ?_ ?_ _) | (with_reducible refine Below.setCell ?_ ?_ _) | (simp; done) | (simp; omega)))⟩
      simp [results, Tryz.results10, go_sem, *]
    · rw [if_neg (fun q => hr q.2), if_neg (fun q => hr q.2), if_neg (fun q => hr q.2)]
      rw [show textV 5 x s = ⟨#[]⟩ by unfold textV; rfl, show decide (kd 5 ≤ 4) = false from rfl]
      have hr2 : r ≤ 0 := by omega
      go_enter Tryz.func10, Tryz.ntmps10
      go_wp2_with fail
      refine (HK.out _).mono ?_
      rintro e w1 ⟨rfl, b1⟩
      have c1 : Below w.heap.size w w1 := bl_chain (by (repeat' (first | (with_reducible exact Below.refl _ _) | (with_reducible assumption) | (with_reducible refine Below.drew ?_) | (with_reducible refine below_drewN ?_ _) | (with_reducible refine Below.alloc ?_ ?_ _) | (with_reducible refine Below.setCell ?_ ?_ _) | (simp; done) | (simp; omega)))) b1
      have V1 : CellV w1 w.heap.size 5 x s r := CellV.below (by first | (with_reducible assumption) | (with_reducible refine CellV.drew ?_; assumption) | (constructor <;> first | (simp; done) | (simp; omega))) b1
      obtain ⟨-, z10, z11, z12, z13⟩ := id V1
      have K1 : KeyC w1 (w.heap.size + 1) ⟨#[]⟩ 0 := KeyC.below (by first | (with_reducible assumption) | (with_reducible refine KeyC.drew ?_; assumption) | (constructor <;> first | (simp; done) | (simp; omega))) b1
      obtain ⟨-, y10, y11, g10, g11⟩ := id K1
      clear b1
      go_wp2
      (try simp only [Exit.inBlock, Exit.then])
      refine bodyPost_ret (v := .tuple #[.agg #[.string ⟨#[]⟩, .int .i64 0], .bool false]) ?_ rfl ⟨rfl, by (repeat' (first | (with_reducible exact Below.refl _ _) | (with_reducible assumption) | (with_reducible refine Below.drew ?_) | (with_reducible refine below_drewN ?_ _) | (with_reducible refine Below.alloc ?_ ?_ _) | (with_reducible refine Below.setCell ?_ ?_ _) | (simp; done) | (simp; omega)))⟩
      simp [results, Tryz.results10, go_sem, *]
  · rw [if_neg (fun q => h5 q.1), if_neg (fun q => h5 q.1), if_neg (fun q => h5 q.1)]
    obtain ⟨T, hT⟩ : ∃ T, textV k x s = T := ⟨_, rfl⟩
    obtain ⟨B, hB⟩ : ∃ B, decide (kd k ≤ 4) = B := ⟨_, rfl⟩
    rw [hT, hB] at HT ⊢
    clear hT hB
    have q5 : (kd k == 5) = false := by rw [beq_eq_false_iff_ne]; exact fun q => h5 ((kd_five k).1 q)
    generalize kd k = q at *
    go_enter Tryz.func10, Tryz.ntmps10
    go_wp2_with fail
    refine (HK.out _).mono ?_
    rintro e w1 ⟨rfl, b1⟩
    have c1 : Below w.heap.size w w1 := bl_chain (by (repeat' (first | (with_reducible exact Below.refl _ _) | (with_reducible assumption) | (with_reducible refine Below.drew ?_) | (with_reducible refine below_drewN ?_ _) | (with_reducible refine Below.alloc ?_ ?_ _) | (with_reducible refine Below.setCell ?_ ?_ _) | (simp; done) | (simp; omega)))) b1
    have V1 : CellV w1 w.heap.size k x s r := CellV.below (by first | (with_reducible assumption) | (with_reducible refine CellV.drew ?_; assumption) | (constructor <;> first | (simp; done) | (simp; omega))) b1
    obtain ⟨-, z10, z11, z12, z13⟩ := id V1
    have K1 : KeyC w1 (w.heap.size + 1) ⟨#[]⟩ 0 := KeyC.below (by first | (with_reducible assumption) | (with_reducible refine KeyC.drew ?_; assumption) | (constructor <;> first | (simp; done) | (simp; omega))) b1
    obtain ⟨-, y10, y11, g10, g11⟩ := id K1
    clear b1
    go_wp2_with fail
    refine (HT.out _ (Hid.mk' (hl.out.below (by (repeat' (first | (with_reducible exact Below.refl _ _) | (with_reducible assumption) | (with_reducible refine Below.drew ?_) | (with_reducible refine below_drewN ?_ _) | (with_reducible refine Below.alloc ?_ ?_ _) | (with_reducible refine Below.setCell ?_ ?_ _) | (simp; done) | (simp; omega))))))).mono ?_
    rintro e w2 ⟨rfl, b2⟩
    have c2 : Below w.heap.size w w2 := bl_chain (by (repeat' (first | (with_reducible exact Below.refl _ _) | (with_reducible assumption) | (with_reducible refine Below.drew ?_) | (with_reducible refine below_drewN ?_ _) | (with_reducible refine Below.alloc ?_ ?_ _) | (with_reducible refine Below.setCell ?_ ?_ _) | (simp; done) | (simp; omega)))) b2
    have V2 : CellV w2 w.heap.size k x s r := CellV.below (by first | (with_reducible assumption) | (with_reducible refine CellV.drew ?_; assumption) | (constructor <;> first | (simp; done) | (simp; omega))) b2
    obtain ⟨-, z20, z21, z22, z23⟩ := id V2
    have K2 : KeyC w2 (w.heap.size + 1) ⟨#[]⟩ 0 := KeyC.below (by first | (with_reducible assumption) | (with_reducible refine KeyC.drew ?_; assumption) | (constructor <;> first | (simp; done) | (simp; omega))) b2
    obtain ⟨-, y20, y21, g20, g21⟩ := id K2
    clear b2
    go_wp2
    (try simp only [Exit.inBlock, Exit.then])
    refine bodyPost_ret (v := .tuple #[.agg #[.string T, .int .i64 0], .bool B]) ?_ rfl ⟨rfl, by (repeat' (first | (with_reducible exact Below.refl _ _) | (with_reducible assumption) | (with_reducible refine Below.drew ?_) | (with_reducible refine below_drewN ?_ _) | (with_reducible refine Below.alloc ?_ ?_ _) | (with_reducible refine Below.setCell ?_ ?_ _) | (simp; done) | (simp; omega)))⟩
    simp [results, Tryz.results10, go_sem, *]
set_option maxHeartbeats 1000000 in
set_option maxRecDepth 100000 in
theorem vof (s : ByteArray) (z : Int) (w : World) (hs : (s.size : Int) ≤ 140737488351232) : Calls Tryz.prog 12 #[.agg #[.string s, .int .i64 z]] w fun e w' => e = .returned (if 0 < z then .agg #[.int .i64 5, .float .f64 0, .string ⟨#[]⟩, .int .i64 z] else .agg #[.int .i64 4, .float .f64 0, .string (evenS s), .int .i64 0]) ∧ Below w.heap.size w w' := by
  by_cases hz : 0 < z
  · rw [if_pos hz]
    go_enter Tryz.func12, Tryz.ntmps12
    go_wp2
    (try simp only [Exit.inBlock, Exit.then])
    refine bodyPost_ret (v := .agg #[.int .i64 5, .float .f64 0, .string ⟨#[]⟩, .int .i64 z]) ?_ rfl ⟨rfl, by (repeat' (first | (with_reducible exact Below.refl _ _) | (with_reducible assumption) | (with_reducible refine Below.drew ?_) | (with_reducible refine below_drewN ?_ _) | (with_reducible refine Below.alloc ?_ ?_ _) | (with_reducible refine Below.setCell ?_ ?_ _) | (simp; done) | (simp; omega)))⟩
    rw [cv_results_cell rfl]
    go_simp
  · rw [if_neg hz]
    have HC := Hid.mk' (fun W => copied_any s W hs)
    go_enter Tryz.func12, Tryz.ntmps12
    go_wp2_with fail
    refine (HC.out _).mono ?_
    rintro e w1 ⟨rfl, b1⟩
    have q0 : w1.cell? ⟨w.heap.size + 1, 0, none⟩ = some (.int .i64 0) := (b1.cell (p := ⟨w.heap.size + 1, 0, none⟩) (by simp)).trans (by simp)
    have f0 : w1.frozen? ⟨w.heap.size + 1, 0, none⟩ = false := (b1.frozen (p := ⟨w.heap.size + 1, 0, none⟩) (by simp)).trans (by simp)
    have q1 : w1.cell? ⟨w.heap.size + 1, 1, none⟩ = some (.float .f64 0) := (b1.cell (p := ⟨w.heap.size + 1, 1, none⟩) (by simp)).trans (by simp)
    have f1 : w1.frozen? ⟨w.heap.size + 1, 1, none⟩ = false := (b1.frozen (p := ⟨w.heap.size + 1, 1, none⟩) (by simp)).trans (by simp)
    have q2 : w1.cell? ⟨w.heap.size + 1, 2, none⟩ = some (.string ⟨#[]⟩) := (b1.cell (p := ⟨w.heap.size + 1, 2, none⟩) (by simp)).trans (by simp)
    have f2 : w1.frozen? ⟨w.heap.size + 1, 2, none⟩ = false := (b1.frozen (p := ⟨w.heap.size + 1, 2, none⟩) (by simp)).trans (by simp)
    have q3 : w1.cell? ⟨w.heap.size + 1, 3, none⟩ = some (.int .i64 0) := (b1.cell (p := ⟨w.heap.size + 1, 3, none⟩) (by simp)).trans (by simp)
    have f3 : w1.frozen? ⟨w.heap.size + 1, 3, none⟩ = false := (b1.frozen (p := ⟨w.heap.size + 1, 3, none⟩) (by simp)).trans (by simp)
    have c1 : Below w.heap.size w w1 := bl_chain (by (repeat' (first | (with_reducible exact Below.refl _ _) | (with_reducible assumption) | (with_reducible refine Below.drew ?_) | (with_reducible refine below_drewN ?_ _) | (with_reducible refine Below.alloc ?_ ?_ _) | (with_reducible refine Below.setCell ?_ ?_ _) | (simp; done) | (simp; omega)))) b1
    clear b1
    go_wp2
    (try simp only [Exit.inBlock, Exit.then])
    refine bodyPost_ret (v := .agg #[.int .i64 4, .float .f64 0, .string (evenS s), .int .i64 0]) ?_ rfl ⟨rfl, by (repeat' (first | (with_reducible exact Below.refl _ _) | (with_reducible assumption) | (with_reducible refine Below.drew ?_) | (with_reducible refine below_drewN ?_ _) | (with_reducible refine Below.alloc ?_ ?_ _) | (with_reducible refine Below.setCell ?_ ?_ _) | (simp; done) | (simp; omega)))⟩
    rw [cv_results_cell rfl]
    go_simp
set_option maxHeartbeats 1000000 in
set_option maxRecDepth 100000 in
theorem rvof (s : ByteArray) (z : Int) (w : World) (hs : (s.size : Int) ≤ 140737488351232) : Calls Tryz.prog 14 #[.agg #[.string s, .int .i64 z]] w fun e w' => e = .returned (if 0 < z then .agg #[.int .i64 5, .float .f64 0, .string ⟨#[]⟩, .int .i64 z] else .agg #[.int .i64 4, .float .f64 0, .string (evenS s), .int .i64 0]) ∧ Below w.heap.size w w' := by
  by_cases hz : 0 < z
  · rw [if_pos hz]
    go_enter Tryz.func14, Tryz.ntmps14
    go_wp2
    (try simp only [Exit.inBlock, Exit.then])
    refine bodyPost_ret (v := .agg #[.int .i64 5, .float .f64 0, .string ⟨#[]⟩, .int .i64 z]) ?_ rfl ⟨rfl, by (repeat' (first | (with_reducible exact Below.refl _ _) | (with_reducible assumption) | (with_reducible refine Below.drew ?_) | (with_reducible refine below_drewN ?_ _) | (with_reducible refine Below.alloc ?_ ?_ _) | (with_reducible refine Below.setCell ?_ ?_ _) | (simp; done) | (simp; omega)))⟩
    rw [cv_results_cell rfl]
    go_simp
  · rw [if_neg hz]
    have HE := Hid.mk' (fun W => reven_wide s W hs)
    have HS := Hid.mk' (fun W => rstr_any (evenS s) W)
    go_enter Tryz.func14, Tryz.ntmps14
    go_wp2_with fail
    refine (HE.out _).mono ?_
    rintro e w0 ⟨rfl, hw0⟩
    rw [hw0]; clear hw0 w0
    go_wp2_with fail
    refine (HS.out _).mono ?_
    rintro e w1 ⟨rfl, b1⟩
    have q0 : w1.cell? ⟨w.heap.size + 1, 0, none⟩ = some (.int .i64 0) := (b1.cell (p := ⟨w.heap.size + 1, 0, none⟩) (by simp)).trans (by simp)
    have f0 : w1.frozen? ⟨w.heap.size + 1, 0, none⟩ = false := (b1.frozen (p := ⟨w.heap.size + 1, 0, none⟩) (by simp)).trans (by simp)
    have q1 : w1.cell? ⟨w.heap.size + 1, 1, none⟩ = some (.float .f64 0) := (b1.cell (p := ⟨w.heap.size + 1, 1, none⟩) (by simp)).trans (by simp)
    have f1 : w1.frozen? ⟨w.heap.size + 1, 1, none⟩ = false := (b1.frozen (p := ⟨w.heap.size + 1, 1, none⟩) (by simp)).trans (by simp)
    have q2 : w1.cell? ⟨w.heap.size + 1, 2, none⟩ = some (.string ⟨#[]⟩) := (b1.cell (p := ⟨w.heap.size + 1, 2, none⟩) (by simp)).trans (by simp)
    have f2 : w1.frozen? ⟨w.heap.size + 1, 2, none⟩ = false := (b1.frozen (p := ⟨w.heap.size + 1, 2, none⟩) (by simp)).trans (by simp)
    have q3 : w1.cell? ⟨w.heap.size + 1, 3, none⟩ = some (.int .i64 0) := (b1.cell (p := ⟨w.heap.size + 1, 3, none⟩) (by simp)).trans (by simp)
    have f3 : w1.frozen? ⟨w.heap.size + 1, 3, none⟩ = false := (b1.frozen (p := ⟨w.heap.size + 1, 3, none⟩) (by simp)).trans (by simp)
    have c1 : Below w.heap.size w w1 := bl_chain (by (repeat' (first | (with_reducible exact Below.refl _ _) | (with_reducible assumption) | (with_reducible refine Below.drew ?_) | (with_reducible refine below_drewN ?_ _) | (with_reducible refine Below.alloc ?_ ?_ _) | (with_reducible refine Below.setCell ?_ ?_ _) | (simp; done) | (simp; omega)))) b1
    clear b1
    go_wp2
    (try simp only [Exit.inBlock, Exit.then])
    refine bodyPost_ret (v := .agg #[.int .i64 4, .float .f64 0, .string (evenS s), .int .i64 0]) ?_ rfl ⟨rfl, by (repeat' (first | (with_reducible exact Below.refl _ _) | (with_reducible assumption) | (with_reducible refine Below.drew ?_) | (with_reducible refine below_drewN ?_ _) | (with_reducible refine Below.alloc ?_ ?_ _) | (with_reducible refine Below.setCell ?_ ?_ _) | (simp; done) | (simp; omega)))⟩
    rw [cv_results_cell rfl]
    go_simp
set_option maxHeartbeats 1000000 in
set_option maxRecDepth 100000 in
theorem ralike_self (k : Int) (x : Nat) (s : ByteArray) (r : Int) (w : World) (hx : x < 18446744073709551616) : Calls Tryz.prog 13 #[.agg #[.int .i64 k, .float .f64 x, .string s, .int .i64 r], .agg #[.int .i64 k, .float .f64 x, .string s, .int .i64 r]] w fun e w' => e = .returned (.bool true) ∧ Below w.heap.size w w' := by
  have HZ := Hid.mk' (fun W => rsame_any x x 2 W hx hx)
  rw [same_self2] at HZ
  go_enter Tryz.func13, Tryz.ntmps13
  go_wp2_with fail
  refine (HZ.out _).mono ?_
  rintro e w9 ⟨rfl, hw9⟩
  rw [hw9]; clear hw9 w9
  go_wp2
  go_ret
  exact ⟨by first | rfl | simp, by (repeat' (first | (with_reducible exact Below.refl _ _) | (with_reducible assumption) | (with_reducible refine Below.drew ?_) | (with_reducible refine below_drewN ?_ _) | (with_reducible refine Below.alloc ?_ ?_ _) | (with_reducible refine Below.setCell ?_ ?_ _) | (simp; done) | (simp; omega)))⟩
/-- Keys alike. -/
def sameKK (a : ByteArray) (x : Int) (b : ByteArray) (y : Int) : Bool := if 0 < x ∨ 0 < y then x == y else cmpK a b 0 == 0
set_option maxHeartbeats 1000000 in
set_option maxRecDepth 100000 in
theorem rksame_any (a b : ByteArray) (x y : Int) (w : World) (ha : (a.size : Int) ≤ 140737488351232) (hb : (b.size : Int) ≤ 140737488351232) :
    Calls Tryz.prog 11 #[.agg #[.string a, .int .i64 x], .agg #[.string b, .int .i64 y]] w fun e w' => e = .returned (.bool (sameKK a x b y)) ∧ Below w.heap.size w w' := by
  have HC := Hid.mk' (fun W => rcompare_wide a b W ha hb)
  have bb : Below w.heap.size w ((w.alloc (.cells #[.string a, .int .i64 x] 27)).alloc (.cells #[.string b, .int .i64 y] 27)) := ((Below.refl _ _).alloc (Nat.le_refl _) _).alloc (by simp) _
  have HB := Hid.mk' bb
  clear bb ha hb
  by_cases hx : 0 < x
  · have HE : Hid (sameKK a x b y = (x == y)) := Hid.mk' (by unfold sameKK; rw [if_pos (.inl hx)])
    go_enter Tryz.func11, Tryz.ntmps11
    go_wp2
    go_ret
    exact ⟨by rw [HE.out]; rfl, HB.out⟩
  · by_cases hy : 0 < y
    · have HE : Hid (sameKK a x b y = (x == y)) := Hid.mk' (by unfold sameKK; rw [if_pos (.inr hy)])
      go_enter Tryz.func11, Tryz.ntmps11
      go_wp2
      go_ret
      exact ⟨by rw [HE.out]; rfl, HB.out⟩
    · have HE : Hid (sameKK a x b y = (cmpK a b 0 == 0)) := Hid.mk' (by unfold sameKK; rw [if_neg (by rintro (h | h) <;> contradiction)])
      go_enter Tryz.func11, Tryz.ntmps11
      go_wp2_with (go_at_call 19; refine (HC.out _).mono ?_; rintro e w1 ⟨rfl, b1⟩)
      go_ret
      exact ⟨by rw [HE.out]; rfl, HB.out.trans (b1.mono HB.out.size)⟩

end Go.Proofs.YtaknclffnoljlaaGreatDoor
