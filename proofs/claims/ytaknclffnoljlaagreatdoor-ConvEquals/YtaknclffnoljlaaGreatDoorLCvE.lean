/- ConvEquals: being the same goes on from one value to the next. Written by tools/mkcvw.py. -/
import Derived.Test.YtaknclffnoljlaaGreatDoorCvW
import Derived.Deep.RegionHeld3
namespace Go.Proofs.YtaknclffnoljlaaGreatDoor
set_option linter.unusedVariables false
set_option linter.unusedSimpArgs false
open Go.RowKit Go.Sort Fl

theorem CellV.new (w : World) (k : Int) (x : Nat) (s : ByteArray) (r : Int) : CellV (w.alloc (.cells #[.int .i64 k, .float .f64 x, .string s, .int .i64 r] 25)) w.heap.size k x s r := by constructor <;> first | (simp; done) | (simp; omega)
theorem cells3a {w : World} {ka : Int} {xa : Nat} {sa : ByteArray} {ra : Int} {o1 o2 : Obj} : CellV (((w.alloc (.cells #[.int .i64 ka, .float .f64 xa, .string sa, .int .i64 ra] 25)).alloc o1).alloc o2) w.heap.size ka xa sa ra := ((CellV.new w ka xa sa ra).alloc _).alloc _
theorem cells3b {w : World} {ka : Int} {xa : Nat} {sa : ByteArray} {ra : Int} {o1 o2 : Obj} : CellV (((w.alloc o1).alloc (.cells #[.int .i64 ka, .float .f64 xa, .string sa, .int .i64 ra] 25)).alloc o2) (w.heap.size + 1) ka xa sa ra := by
  have := (CellV.new (w.alloc o1) ka xa sa ra).alloc o2
  simpa using this
theorem cells3c {w : World} {ka : Int} {xa : Nat} {sa : ByteArray} {ra : Int} {o1 o2 : Obj} : CellV (((w.alloc o1).alloc o2).alloc (.cells #[.int .i64 ka, .float .f64 xa, .string sa, .int .i64 ra] 25)) (w.heap.size + 2) ka xa sa ra := by
  have := CellV.new ((w.alloc o1).alloc o2) ka xa sa ra
  simpa using this
theorem kd_three (k : Int) : (k == 3) = decide (kd k = 3) := by
  unfold kd
  by_cases h : k < 0 ∨ 6 < k
  · rw [if_pos h, beq_eq_false_iff_ne.2 (by omega)]; rfl
  · rw [if_neg h]
    by_cases e : k = 3
    · rw [e]; rfl
    · rw [beq_eq_false_iff_ne.2 e, decide_eq_false e]
set_option maxHeartbeats 4000000 in
set_option maxRecDepth 100000 in
theorem equals_lo (ka : Int) (xa : Nat) (sa : ByteArray) (ra : Int) (kb : Int) (xb : Nat) (sb : ByteArray) (rb : Int) (kc : Int) (xc : Nat) (sc : ByteArray) (rc : Int) (how : Int) (w : World) (ha : xa < 18446744073709551616) (za : (sa.size : Int) ≤ 140737488351232) (hb : xb < 18446744073709551616) (zb : (sb.size : Int) ≤ 140737488351232) (hc : xc < 18446744073709551616) (zc : (sc.size : Int) ≤ 140737488351232) (hh : how < 0) (hl : Hid (LaidN w)) :
    Calls Tryz.prog 6 #[.agg #[.int .i64 ka, .float .f64 xa, .string sa, .int .i64 ra], .agg #[.int .i64 kb, .float .f64 xb, .string sb, .int .i64 rb], .agg #[.int .i64 kc, .float .f64 xc, .string sc, .int .i64 rc], .int .i64 how] w fun e w' => e = .returned (.bool true) ∧ Below w.heap.size w w' := by
  have HW := Hid.mk' (fun W (hW : Hid (LaidN W)) => awake18 W hW)
  have HFa := Hid.mk' (fun W => few18 ka xa sa ra W)
  have HGa := Hid.mk' (fun W => rvgood ka xa sa ra W ha za)
  obtain ⟨Fa, hFa⟩ : ∃ F, decide ((sa.size : Int) ≤ 2000) = F := ⟨_, rfl⟩
  obtain ⟨Ga, hGa⟩ : ∃ G, goodV ka xa sa ra = G := ⟨_, rfl⟩
  rw [hFa] at HFa
  rw [hGa] at HGa
  clear hFa hGa
  have HFb := Hid.mk' (fun W => few18 kb xb sb rb W)
  have HGb := Hid.mk' (fun W => rvgood kb xb sb rb W hb zb)
  obtain ⟨Fb, hFb⟩ : ∃ F, decide ((sb.size : Int) ≤ 2000) = F := ⟨_, rfl⟩
  obtain ⟨Gb, hGb⟩ : ∃ G, goodV kb xb sb rb = G := ⟨_, rfl⟩
  rw [hFb] at HFb
  rw [hGb] at HGb
  clear hFb hGb
  have HFc := Hid.mk' (fun W => few18 kc xc sc rc W)
  have HGc := Hid.mk' (fun W => rvgood kc xc sc rc W hc zc)
  obtain ⟨Fc, hFc⟩ : ∃ F, decide ((sc.size : Int) ≤ 2000) = F := ⟨_, rfl⟩
  obtain ⟨Gc, hGc⟩ : ∃ G, goodV kc xc sc rc = G := ⟨_, rfl⟩
  rw [hFc] at HFc
  rw [hGc] at HGc
  clear hFc hGc
  clear ha za hb zb hc zc
  go_enter Tryz.func6, Tryz.ntmps6
  go_wp2_with fail
  refine (HW.out _ (Hid.mk' (hl.out.below (by (repeat' (first | (with_reducible exact Below.refl _ _) | (with_reducible assumption) | (with_reducible refine Below.drew ?_) | (with_reducible refine below_drewN ?_ _) | (with_reducible refine Below.alloc ?_ ?_ _) | (with_reducible refine Below.setCell ?_ ?_ _) | (simp; done) | (simp; omega))))))).mono ?_
  rintro e w1 ⟨rfl, b1⟩
  have c1 : Below w.heap.size w w1 := bl_chain (by (repeat' (first | (with_reducible exact Below.refl _ _) | (with_reducible assumption) | (with_reducible refine Below.drew ?_) | (with_reducible refine below_drewN ?_ _) | (with_reducible refine Below.alloc ?_ ?_ _) | (with_reducible refine Below.setCell ?_ ?_ _) | (simp; done) | (simp; omega)))) b1
  have Va1 : CellV w1 (w.heap.size) ka xa sa ra := CellV.below (by first | (with_reducible assumption) | (with_reducible refine CellV.drew ?_; assumption) | (with_reducible exact cells3a) | (with_reducible exact cells3b) | (with_reducible exact cells3c) | (constructor <;> first | (simp; done) | (simp; omega))) b1
  obtain ⟨-, qa10, qa11, qa12, qa13⟩ := id Va1
  have Vb1 : CellV w1 (w.heap.size + 1) kb xb sb rb := CellV.below (by first | (with_reducible assumption) | (with_reducible refine CellV.drew ?_; assumption) | (with_reducible exact cells3a) | (with_reducible exact cells3b) | (with_reducible exact cells3c) | (constructor <;> first | (simp; done) | (simp; omega))) b1
  obtain ⟨-, qb10, qb11, qb12, qb13⟩ := id Vb1
  have Vc1 : CellV w1 (w.heap.size + 2) kc xc sc rc := CellV.below (by first | (with_reducible assumption) | (with_reducible refine CellV.drew ?_; assumption) | (with_reducible exact cells3a) | (with_reducible exact cells3b) | (with_reducible exact cells3c) | (constructor <;> first | (simp; done) | (simp; omega))) b1
  obtain ⟨-, qc10, qc11, qc12, qc13⟩ := id Vc1
  clear b1
  go_wp2_with fail
  refine (HFa.out _).mono ?_
  rintro e w2 ⟨rfl, b2⟩
  have c2 : Below w.heap.size w w2 := bl_chain (by (repeat' (first | (with_reducible exact Below.refl _ _) | (with_reducible assumption) | (with_reducible refine Below.drew ?_) | (with_reducible refine below_drewN ?_ _) | (with_reducible refine Below.alloc ?_ ?_ _) | (with_reducible refine Below.setCell ?_ ?_ _) | (simp; done) | (simp; omega)))) b2
  have Va2 : CellV w2 (w.heap.size) ka xa sa ra := CellV.below (by first | (with_reducible assumption) | (with_reducible refine CellV.drew ?_; assumption) | (with_reducible exact cells3a) | (with_reducible exact cells3b) | (with_reducible exact cells3c) | (constructor <;> first | (simp; done) | (simp; omega))) b2
  obtain ⟨-, qa20, qa21, qa22, qa23⟩ := id Va2
  have Vb2 : CellV w2 (w.heap.size + 1) kb xb sb rb := CellV.below (by first | (with_reducible assumption) | (with_reducible refine CellV.drew ?_; assumption) | (with_reducible exact cells3a) | (with_reducible exact cells3b) | (with_reducible exact cells3c) | (constructor <;> first | (simp; done) | (simp; omega))) b2
  obtain ⟨-, qb20, qb21, qb22, qb23⟩ := id Vb2
  have Vc2 : CellV w2 (w.heap.size + 2) kc xc sc rc := CellV.below (by first | (with_reducible assumption) | (with_reducible refine CellV.drew ?_; assumption) | (with_reducible exact cells3a) | (with_reducible exact cells3b) | (with_reducible exact cells3c) | (constructor <;> first | (simp; done) | (simp; omega))) b2
  obtain ⟨-, qc20, qc21, qc22, qc23⟩ := id Vc2
  clear b2
  cases Fa
  · go_wp2
    go_ret
    exact ⟨by first | rfl | simp, by (repeat' (first | (with_reducible exact Below.refl _ _) | (with_reducible assumption) | (with_reducible refine Below.drew ?_) | (with_reducible refine below_drewN ?_ _) | (with_reducible refine Below.alloc ?_ ?_ _) | (with_reducible refine Below.setCell ?_ ?_ _) | (simp; done) | (simp; omega)))⟩
  · go_wp2_with fail
    refine (HFb.out _).mono ?_
    rintro e w3 ⟨rfl, b3⟩
    have c3 : Below w.heap.size w w3 := bl_chain (by (repeat' (first | (with_reducible exact Below.refl _ _) | (with_reducible assumption) | (with_reducible refine Below.drew ?_) | (with_reducible refine below_drewN ?_ _) | (with_reducible refine Below.alloc ?_ ?_ _) | (with_reducible refine Below.setCell ?_ ?_ _) | (simp; done) | (simp; omega)))) b3
    have Va3 : CellV w3 (w.heap.size) ka xa sa ra := CellV.below (by first | (with_reducible assumption) | (with_reducible refine CellV.drew ?_; assumption) | (with_reducible exact cells3a) | (with_reducible exact cells3b) | (with_reducible exact cells3c) | (constructor <;> first | (simp; done) | (simp; omega))) b3
    obtain ⟨-, qa30, qa31, qa32, qa33⟩ := id Va3
    have Vb3 : CellV w3 (w.heap.size + 1) kb xb sb rb := CellV.below (by first | (with_reducible assumption) | (with_reducible refine CellV.drew ?_; assumption) | (with_reducible exact cells3a) | (with_reducible exact cells3b) | (with_reducible exact cells3c) | (constructor <;> first | (simp; done) | (simp; omega))) b3
    obtain ⟨-, qb30, qb31, qb32, qb33⟩ := id Vb3
    have Vc3 : CellV w3 (w.heap.size + 2) kc xc sc rc := CellV.below (by first | (with_reducible assumption) | (with_reducible refine CellV.drew ?_; assumption) | (with_reducible exact cells3a) | (with_reducible exact cells3b) | (with_reducible exact cells3c) | (constructor <;> first | (simp; done) | (simp; omega))) b3
    obtain ⟨-, qc30, qc31, qc32, qc33⟩ := id Vc3
    clear b3
    cases Fb
    · go_wp2
      go_ret
      exact ⟨by first | rfl | simp, by (repeat' (first | (with_reducible exact Below.refl _ _) | (with_reducible assumption) | (with_reducible refine Below.drew ?_) | (with_reducible refine below_drewN ?_ _) | (with_reducible refine Below.alloc ?_ ?_ _) | (with_reducible refine Below.setCell ?_ ?_ _) | (simp; done) | (simp; omega)))⟩
    · go_wp2_with fail
      refine (HFc.out _).mono ?_
      rintro e w4 ⟨rfl, b4⟩
      have c4 : Below w.heap.size w w4 := bl_chain (by (repeat' (first | (with_reducible exact Below.refl _ _) | (with_reducible assumption) | (with_reducible refine Below.drew ?_) | (with_reducible refine below_drewN ?_ _) | (with_reducible refine Below.alloc ?_ ?_ _) | (with_reducible refine Below.setCell ?_ ?_ _) | (simp; done) | (simp; omega)))) b4
      have Va4 : CellV w4 (w.heap.size) ka xa sa ra := CellV.below (by first | (with_reducible assumption) | (with_reducible refine CellV.drew ?_; assumption) | (with_reducible exact cells3a) | (with_reducible exact cells3b) | (with_reducible exact cells3c) | (constructor <;> first | (simp; done) | (simp; omega))) b4
      obtain ⟨-, qa40, qa41, qa42, qa43⟩ := id Va4
      have Vb4 : CellV w4 (w.heap.size + 1) kb xb sb rb := CellV.below (by first | (with_reducible assumption) | (with_reducible refine CellV.drew ?_; assumption) | (with_reducible exact cells3a) | (with_reducible exact cells3b) | (with_reducible exact cells3c) | (constructor <;> first | (simp; done) | (simp; omega))) b4
      obtain ⟨-, qb40, qb41, qb42, qb43⟩ := id Vb4
      have Vc4 : CellV w4 (w.heap.size + 2) kc xc sc rc := CellV.below (by first | (with_reducible assumption) | (with_reducible refine CellV.drew ?_; assumption) | (with_reducible exact cells3a) | (with_reducible exact cells3b) | (with_reducible exact cells3c) | (constructor <;> first | (simp; done) | (simp; omega))) b4
      obtain ⟨-, qc40, qc41, qc42, qc43⟩ := id Vc4
      clear b4
      cases Fc
      · go_wp2
        go_ret
        exact ⟨by first | rfl | simp, by (repeat' (first | (with_reducible exact Below.refl _ _) | (with_reducible assumption) | (with_reducible refine Below.drew ?_) | (with_reducible refine below_drewN ?_ _) | (with_reducible refine Below.alloc ?_ ?_ _) | (with_reducible refine Below.setCell ?_ ?_ _) | (simp; done) | (simp; omega)))⟩
      · go_wp2
        go_ret
        exact ⟨by first | rfl | simp, by (repeat' (first | (with_reducible exact Below.refl _ _) | (with_reducible assumption) | (with_reducible refine Below.drew ?_) | (with_reducible refine below_drewN ?_ _) | (with_reducible refine Below.alloc ?_ ?_ _) | (with_reducible refine Below.setCell ?_ ?_ _) | (simp; done) | (simp; omega)))⟩
set_option maxHeartbeats 4000000 in
set_option maxRecDepth 100000 in
theorem equals_hi (ka : Int) (xa : Nat) (sa : ByteArray) (ra : Int) (kb : Int) (xb : Nat) (sb : ByteArray) (rb : Int) (kc : Int) (xc : Nat) (sc : ByteArray) (rc : Int) (how : Int) (w : World) (ha : xa < 18446744073709551616) (za : (sa.size : Int) ≤ 140737488351232) (hb : xb < 18446744073709551616) (zb : (sb.size : Int) ≤ 140737488351232) (hc : xc < 18446744073709551616) (zc : (sc.size : Int) ≤ 140737488351232) (hh : 2 < how) (hl : Hid (LaidN w)) :
    Calls Tryz.prog 6 #[.agg #[.int .i64 ka, .float .f64 xa, .string sa, .int .i64 ra], .agg #[.int .i64 kb, .float .f64 xb, .string sb, .int .i64 rb], .agg #[.int .i64 kc, .float .f64 xc, .string sc, .int .i64 rc], .int .i64 how] w fun e w' => e = .returned (.bool true) ∧ Below w.heap.size w w' := by
  have HW := Hid.mk' (fun W (hW : Hid (LaidN W)) => awake18 W hW)
  have HFa := Hid.mk' (fun W => few18 ka xa sa ra W)
  have HGa := Hid.mk' (fun W => rvgood ka xa sa ra W ha za)
  obtain ⟨Fa, hFa⟩ : ∃ F, decide ((sa.size : Int) ≤ 2000) = F := ⟨_, rfl⟩
  obtain ⟨Ga, hGa⟩ : ∃ G, goodV ka xa sa ra = G := ⟨_, rfl⟩
  rw [hFa] at HFa
  rw [hGa] at HGa
  clear hFa hGa
  have HFb := Hid.mk' (fun W => few18 kb xb sb rb W)
  have HGb := Hid.mk' (fun W => rvgood kb xb sb rb W hb zb)
  obtain ⟨Fb, hFb⟩ : ∃ F, decide ((sb.size : Int) ≤ 2000) = F := ⟨_, rfl⟩
  obtain ⟨Gb, hGb⟩ : ∃ G, goodV kb xb sb rb = G := ⟨_, rfl⟩
  rw [hFb] at HFb
  rw [hGb] at HGb
  clear hFb hGb
  have HFc := Hid.mk' (fun W => few18 kc xc sc rc W)
  have HGc := Hid.mk' (fun W => rvgood kc xc sc rc W hc zc)
  obtain ⟨Fc, hFc⟩ : ∃ F, decide ((sc.size : Int) ≤ 2000) = F := ⟨_, rfl⟩
  obtain ⟨Gc, hGc⟩ : ∃ G, goodV kc xc sc rc = G := ⟨_, rfl⟩
  rw [hFc] at HFc
  rw [hGc] at HGc
  clear hFc hGc
  clear ha za hb zb hc zc
  go_enter Tryz.func6, Tryz.ntmps6
  go_wp2_with fail
  refine (HW.out _ (Hid.mk' (hl.out.below (by (repeat' (first | (with_reducible exact Below.refl _ _) | (with_reducible assumption) | (with_reducible refine Below.drew ?_) | (with_reducible refine below_drewN ?_ _) | (with_reducible refine Below.alloc ?_ ?_ _) | (with_reducible refine Below.setCell ?_ ?_ _) | (simp; done) | (simp; omega))))))).mono ?_
  rintro e w1 ⟨rfl, b1⟩
  have c1 : Below w.heap.size w w1 := bl_chain (by (repeat' (first | (with_reducible exact Below.refl _ _) | (with_reducible assumption) | (with_reducible refine Below.drew ?_) | (with_reducible refine below_drewN ?_ _) | (with_reducible refine Below.alloc ?_ ?_ _) | (with_reducible refine Below.setCell ?_ ?_ _) | (simp; done) | (simp; omega)))) b1
  have Va1 : CellV w1 (w.heap.size) ka xa sa ra := CellV.below (by first | (with_reducible assumption) | (with_reducible refine CellV.drew ?_; assumption) | (with_reducible exact cells3a) | (with_reducible exact cells3b) | (with_reducible exact cells3c) | (constructor <;> first | (simp; done) | (simp; omega))) b1
  obtain ⟨-, qa10, qa11, qa12, qa13⟩ := id Va1
  have Vb1 : CellV w1 (w.heap.size + 1) kb xb sb rb := CellV.below (by first | (with_reducible assumption) | (with_reducible refine CellV.drew ?_; assumption) | (with_reducible exact cells3a) | (with_reducible exact cells3b) | (with_reducible exact cells3c) | (constructor <;> first | (simp; done) | (simp; omega))) b1
  obtain ⟨-, qb10, qb11, qb12, qb13⟩ := id Vb1
  have Vc1 : CellV w1 (w.heap.size + 2) kc xc sc rc := CellV.below (by first | (with_reducible assumption) | (with_reducible refine CellV.drew ?_; assumption) | (with_reducible exact cells3a) | (with_reducible exact cells3b) | (with_reducible exact cells3c) | (constructor <;> first | (simp; done) | (simp; omega))) b1
  obtain ⟨-, qc10, qc11, qc12, qc13⟩ := id Vc1
  clear b1
  go_wp2_with fail
  refine (HFa.out _).mono ?_
  rintro e w2 ⟨rfl, b2⟩
  have c2 : Below w.heap.size w w2 := bl_chain (by (repeat' (first | (with_reducible exact Below.refl _ _) | (with_reducible assumption) | (with_reducible refine Below.drew ?_) | (with_reducible refine below_drewN ?_ _) | (with_reducible refine Below.alloc ?_ ?_ _) | (with_reducible refine Below.setCell ?_ ?_ _) | (simp; done) | (simp; omega)))) b2
  have Va2 : CellV w2 (w.heap.size) ka xa sa ra := CellV.below (by first | (with_reducible assumption) | (with_reducible refine CellV.drew ?_; assumption) | (with_reducible exact cells3a) | (with_reducible exact cells3b) | (with_reducible exact cells3c) | (constructor <;> first | (simp; done) | (simp; omega))) b2
  obtain ⟨-, qa20, qa21, qa22, qa23⟩ := id Va2
  have Vb2 : CellV w2 (w.heap.size + 1) kb xb sb rb := CellV.below (by first | (with_reducible assumption) | (with_reducible refine CellV.drew ?_; assumption) | (with_reducible exact cells3a) | (with_reducible exact cells3b) | (with_reducible exact cells3c) | (constructor <;> first | (simp; done) | (simp; omega))) b2
  obtain ⟨-, qb20, qb21, qb22, qb23⟩ := id Vb2
  have Vc2 : CellV w2 (w.heap.size + 2) kc xc sc rc := CellV.below (by first | (with_reducible assumption) | (with_reducible refine CellV.drew ?_; assumption) | (with_reducible exact cells3a) | (with_reducible exact cells3b) | (with_reducible exact cells3c) | (constructor <;> first | (simp; done) | (simp; omega))) b2
  obtain ⟨-, qc20, qc21, qc22, qc23⟩ := id Vc2
  clear b2
  cases Fa
  · go_wp2
    go_ret
    exact ⟨by first | rfl | simp, by (repeat' (first | (with_reducible exact Below.refl _ _) | (with_reducible assumption) | (with_reducible refine Below.drew ?_) | (with_reducible refine below_drewN ?_ _) | (with_reducible refine Below.alloc ?_ ?_ _) | (with_reducible refine Below.setCell ?_ ?_ _) | (simp; done) | (simp; omega)))⟩
  · go_wp2_with fail
    refine (HFb.out _).mono ?_
    rintro e w3 ⟨rfl, b3⟩
    have c3 : Below w.heap.size w w3 := bl_chain (by (repeat' (first | (with_reducible exact Below.refl _ _) | (with_reducible assumption) | (with_reducible refine Below.drew ?_) | (with_reducible refine below_drewN ?_ _) | (with_reducible refine Below.alloc ?_ ?_ _) | (with_reducible refine Below.setCell ?_ ?_ _) | (simp; done) | (simp; omega)))) b3
    have Va3 : CellV w3 (w.heap.size) ka xa sa ra := CellV.below (by first | (with_reducible assumption) | (with_reducible refine CellV.drew ?_; assumption) | (with_reducible exact cells3a) | (with_reducible exact cells3b) | (with_reducible exact cells3c) | (constructor <;> first | (simp; done) | (simp; omega))) b3
    obtain ⟨-, qa30, qa31, qa32, qa33⟩ := id Va3
    have Vb3 : CellV w3 (w.heap.size + 1) kb xb sb rb := CellV.below (by first | (with_reducible assumption) | (with_reducible refine CellV.drew ?_; assumption) | (with_reducible exact cells3a) | (with_reducible exact cells3b) | (with_reducible exact cells3c) | (constructor <;> first | (simp; done) | (simp; omega))) b3
    obtain ⟨-, qb30, qb31, qb32, qb33⟩ := id Vb3
    have Vc3 : CellV w3 (w.heap.size + 2) kc xc sc rc := CellV.below (by first | (with_reducible assumption) | (with_reducible refine CellV.drew ?_; assumption) | (with_reducible exact cells3a) | (with_reducible exact cells3b) | (with_reducible exact cells3c) | (constructor <;> first | (simp; done) | (simp; omega))) b3
    obtain ⟨-, qc30, qc31, qc32, qc33⟩ := id Vc3
    clear b3
    cases Fb
    · go_wp2
      go_ret
      exact ⟨by first | rfl | simp, by (repeat' (first | (with_reducible exact Below.refl _ _) | (with_reducible assumption) | (with_reducible refine Below.drew ?_) | (with_reducible refine below_drewN ?_ _) | (with_reducible refine Below.alloc ?_ ?_ _) | (with_reducible refine Below.setCell ?_ ?_ _) | (simp; done) | (simp; omega)))⟩
    · go_wp2_with fail
      refine (HFc.out _).mono ?_
      rintro e w4 ⟨rfl, b4⟩
      have c4 : Below w.heap.size w w4 := bl_chain (by (repeat' (first | (with_reducible exact Below.refl _ _) | (with_reducible assumption) | (with_reducible refine Below.drew ?_) | (with_reducible refine below_drewN ?_ _) | (with_reducible refine Below.alloc ?_ ?_ _) | (with_reducible refine Below.setCell ?_ ?_ _) | (simp; done) | (simp; omega)))) b4
      have Va4 : CellV w4 (w.heap.size) ka xa sa ra := CellV.below (by first | (with_reducible assumption) | (with_reducible refine CellV.drew ?_; assumption) | (with_reducible exact cells3a) | (with_reducible exact cells3b) | (with_reducible exact cells3c) | (constructor <;> first | (simp; done) | (simp; omega))) b4
      obtain ⟨-, qa40, qa41, qa42, qa43⟩ := id Va4
      have Vb4 : CellV w4 (w.heap.size + 1) kb xb sb rb := CellV.below (by first | (with_reducible assumption) | (with_reducible refine CellV.drew ?_; assumption) | (with_reducible exact cells3a) | (with_reducible exact cells3b) | (with_reducible exact cells3c) | (constructor <;> first | (simp; done) | (simp; omega))) b4
      obtain ⟨-, qb40, qb41, qb42, qb43⟩ := id Vb4
      have Vc4 : CellV w4 (w.heap.size + 2) kc xc sc rc := CellV.below (by first | (with_reducible assumption) | (with_reducible refine CellV.drew ?_; assumption) | (with_reducible exact cells3a) | (with_reducible exact cells3b) | (with_reducible exact cells3c) | (constructor <;> first | (simp; done) | (simp; omega))) b4
      obtain ⟨-, qc40, qc41, qc42, qc43⟩ := id Vc4
      clear b4
      cases Fc
      · go_wp2
        go_ret
        exact ⟨by first | rfl | simp, by (repeat' (first | (with_reducible exact Below.refl _ _) | (with_reducible assumption) | (with_reducible refine Below.drew ?_) | (with_reducible refine below_drewN ?_ _) | (with_reducible refine Below.alloc ?_ ?_ _) | (with_reducible refine Below.setCell ?_ ?_ _) | (simp; done) | (simp; omega)))⟩
      · go_wp2
        go_ret
        exact ⟨by first | rfl | simp, by (repeat' (first | (with_reducible exact Below.refl _ _) | (with_reducible assumption) | (with_reducible refine Below.drew ?_) | (with_reducible refine below_drewN ?_ _) | (with_reducible refine Below.alloc ?_ ?_ _) | (with_reducible refine Below.setCell ?_ ?_ _) | (simp; done) | (simp; omega)))⟩
set_option maxHeartbeats 4000000 in
set_option maxRecDepth 100000 in
theorem equals_0 (ka : Int) (xa : Nat) (sa : ByteArray) (ra : Int) (kb : Int) (xb : Nat) (sb : ByteArray) (rb : Int) (kc : Int) (xc : Nat) (sc : ByteArray) (rc : Int) (w : World) (ha : xa < 18446744073709551616) (za : (sa.size : Int) ≤ 140737488351232) (hb : xb < 18446744073709551616) (zb : (sb.size : Int) ≤ 140737488351232) (hc : xc < 18446744073709551616) (zc : (sc.size : Int) ≤ 140737488351232) (hl : Hid (LaidN w)) :
    Calls Tryz.prog 6 #[.agg #[.int .i64 ka, .float .f64 xa, .string sa, .int .i64 ra], .agg #[.int .i64 kb, .float .f64 xb, .string sb, .int .i64 rb], .agg #[.int .i64 kc, .float .f64 xc, .string sc, .int .i64 rc], .int .i64 0] w fun e w' => e = .returned (.bool true) ∧ Below w.heap.size w w' := by
  have HW := Hid.mk' (fun W (hW : Hid (LaidN W)) => awake18 W hW)
  have HFa := Hid.mk' (fun W => few18 ka xa sa ra W)
  have HGa := Hid.mk' (fun W => rvgood ka xa sa ra W ha za)
  obtain ⟨Fa, hFa⟩ : ∃ F, decide ((sa.size : Int) ≤ 2000) = F := ⟨_, rfl⟩
  obtain ⟨Ga, hGa⟩ : ∃ G, goodV ka xa sa ra = G := ⟨_, rfl⟩
  rw [hFa] at HFa
  rw [hGa] at HGa
  clear hFa hGa
  have HFb := Hid.mk' (fun W => few18 kb xb sb rb W)
  have HGb := Hid.mk' (fun W => rvgood kb xb sb rb W hb zb)
  obtain ⟨Fb, hFb⟩ : ∃ F, decide ((sb.size : Int) ≤ 2000) = F := ⟨_, rfl⟩
  obtain ⟨Gb, hGb⟩ : ∃ G, goodV kb xb sb rb = G := ⟨_, rfl⟩
  rw [hFb] at HFb
  rw [hGb] at HGb
  clear hFb hGb
  have HFc := Hid.mk' (fun W => few18 kc xc sc rc W)
  have HGc := Hid.mk' (fun W => rvgood kc xc sc rc W hc zc)
  obtain ⟨Fc, hFc⟩ : ∃ F, decide ((sc.size : Int) ≤ 2000) = F := ⟨_, rfl⟩
  obtain ⟨Gc, hGc⟩ : ∃ G, goodV kc xc sc rc = G := ⟨_, rfl⟩
  rw [hFc] at HFc
  rw [hGc] at HGc
  clear hFc hGc
  have HAB := Hid.mk' (fun W => vsame ka xa sa ra kb xb sb rb 0 W ha hb za zb)
  have HBC := Hid.mk' (fun W => vsame kb xb sb rb kc xc sc rc 0 W hb hc zb zc)
  have HAC := Hid.mk' (fun W => vsame ka xa sa ra kc xc sc rc 0 W ha hc za zc)
  have HAA := Hid.mk' (fun W => vsame ka xa sa ra ka xa sa ra 0 W ha ha za za)
  have HC := Hid.mk' (fun W => rcompare_wide sa sa W za za)
  rw [(sh_cmp_zero sa sa).2 rfl] at HC
  rw [sameV_self ka xa sa ra 0 (.inl rfl)] at HAA
  have HTR : Hid (sameV ka xa sa ra kb xb sb rb 0 = true → sameV kb xb sb rb kc xc sc rc 0 = true → sameV ka xa sa ra kc xc sc rc 0 = true) := Hid.mk' (sameV_trans ka xa sa ra kb xb sb rb kc xc sc rc 0 (.inl rfl))
  obtain ⟨SAB, hs1⟩ : ∃ S, sameV ka xa sa ra kb xb sb rb 0 = S := ⟨_, rfl⟩
  obtain ⟨SBC, hs2⟩ : ∃ S, sameV kb xb sb rb kc xc sc rc 0 = S := ⟨_, rfl⟩
  obtain ⟨SAC, hs3⟩ : ∃ S, sameV ka xa sa ra kc xc sc rc 0 = S := ⟨_, rfl⟩
  rw [hs1] at HAB HTR
  rw [hs2] at HBC HTR
  rw [hs3] at HAC HTR
  have k3 := kd_three ka
  have nx := isnan_eq xa ha
  obtain ⟨K, hK⟩ : ∃ K, decide (kd ka = 3) = K := ⟨_, rfl⟩
  obtain ⟨N, hN⟩ : ∃ N, decide (nan xa) = N := ⟨_, rfl⟩
  rw [hK] at k3 HAA
  rw [hN] at nx HAA
  clear hs1 hs2 hs3 hK hN ha za hb zb hc zc
  cases K
  all_goals cases N
  all_goals simp only [Bool.false_and, Bool.and_false, Bool.true_and, Bool.not_false, decide_true, decide_false, Bool.not_true, Bool.and_true, show decide ((0 : Int) = 0) = true from rfl] at HAA
  all_goals
    go_enter Tryz.func6, Tryz.ntmps6
    go_wp2_with fail
    refine (HW.out _ (Hid.mk' (hl.out.below (by (repeat' (first | (with_reducible exact Below.refl _ _) | (with_reducible assumption) | (with_reducible refine Below.drew ?_) | (with_reducible refine below_drewN ?_ _) | (with_reducible refine Below.alloc ?_ ?_ _) | (with_reducible refine Below.setCell ?_ ?_ _) | (simp; done) | (simp; omega))))))).mono ?_
    rintro e w1 ⟨rfl, b1⟩
    have c1 : Below w.heap.size w w1 := bl_chain (by (repeat' (first | (with_reducible exact Below.refl _ _) | (with_reducible assumption) | (with_reducible refine Below.drew ?_) | (with_reducible refine below_drewN ?_ _) | (with_reducible refine Below.alloc ?_ ?_ _) | (with_reducible refine Below.setCell ?_ ?_ _) | (simp; done) | (simp; omega)))) b1
    have Va1 : CellV w1 (w.heap.size) ka xa sa ra := CellV.below (by first | (with_reducible assumption) | (with_reducible refine CellV.drew ?_; assumption) | (with_reducible exact cells3a) | (with_reducible exact cells3b) | (with_reducible exact cells3c) | (constructor <;> first | (simp; done) | (simp; omega))) b1
    obtain ⟨-, qa10, qa11, qa12, qa13⟩ := id Va1
    have Vb1 : CellV w1 (w.heap.size + 1) kb xb sb rb := CellV.below (by first | (with_reducible assumption) | (with_reducible refine CellV.drew ?_; assumption) | (with_reducible exact cells3a) | (with_reducible exact cells3b) | (with_reducible exact cells3c) | (constructor <;> first | (simp; done) | (simp; omega))) b1
    obtain ⟨-, qb10, qb11, qb12, qb13⟩ := id Vb1
    have Vc1 : CellV w1 (w.heap.size + 2) kc xc sc rc := CellV.below (by first | (with_reducible assumption) | (with_reducible refine CellV.drew ?_; assumption) | (with_reducible exact cells3a) | (with_reducible exact cells3b) | (with_reducible exact cells3c) | (constructor <;> first | (simp; done) | (simp; omega))) b1
    obtain ⟨-, qc10, qc11, qc12, qc13⟩ := id Vc1
    clear b1
    go_wp2_with fail
    refine (HFa.out _).mono ?_
    rintro e w2 ⟨rfl, b2⟩
    have c2 : Below w.heap.size w w2 := bl_chain (by (repeat' (first | (with_reducible exact Below.refl _ _) | (with_reducible assumption) | (with_reducible refine Below.drew ?_) | (with_reducible refine below_drewN ?_ _) | (with_reducible refine Below.alloc ?_ ?_ _) | (with_reducible refine Below.setCell ?_ ?_ _) | (simp; done) | (simp; omega)))) b2
    have Va2 : CellV w2 (w.heap.size) ka xa sa ra := CellV.below (by first | (with_reducible assumption) | (with_reducible refine CellV.drew ?_; assumption) | (with_reducible exact cells3a) | (with_reducible exact cells3b) | (with_reducible exact cells3c) | (constructor <;> first | (simp; done) | (simp; omega))) b2
    obtain ⟨-, qa20, qa21, qa22, qa23⟩ := id Va2
    have Vb2 : CellV w2 (w.heap.size + 1) kb xb sb rb := CellV.below (by first | (with_reducible assumption) | (with_reducible refine CellV.drew ?_; assumption) | (with_reducible exact cells3a) | (with_reducible exact cells3b) | (with_reducible exact cells3c) | (constructor <;> first | (simp; done) | (simp; omega))) b2
    obtain ⟨-, qb20, qb21, qb22, qb23⟩ := id Vb2
    have Vc2 : CellV w2 (w.heap.size + 2) kc xc sc rc := CellV.below (by first | (with_reducible assumption) | (with_reducible refine CellV.drew ?_; assumption) | (with_reducible exact cells3a) | (with_reducible exact cells3b) | (with_reducible exact cells3c) | (constructor <;> first | (simp; done) | (simp; omega))) b2
    obtain ⟨-, qc20, qc21, qc22, qc23⟩ := id Vc2
    clear b2
    cases Fa
    · go_wp2
      go_ret
      exact ⟨by first | rfl | simp, by (repeat' (first | (with_reducible exact Below.refl _ _) | (with_reducible assumption) | (with_reducible refine Below.drew ?_) | (with_reducible refine below_drewN ?_ _) | (with_reducible refine Below.alloc ?_ ?_ _) | (with_reducible refine Below.setCell ?_ ?_ _) | (simp; done) | (simp; omega)))⟩
    · go_wp2_with fail
      refine (HFb.out _).mono ?_
      rintro e w3 ⟨rfl, b3⟩
      have c3 : Below w.heap.size w w3 := bl_chain (by (repeat' (first | (with_reducible exact Below.refl _ _) | (with_reducible assumption) | (with_reducible refine Below.drew ?_) | (with_reducible refine below_drewN ?_ _) | (with_reducible refine Below.alloc ?_ ?_ _) | (with_reducible refine Below.setCell ?_ ?_ _) | (simp; done) | (simp; omega)))) b3
      have Va3 : CellV w3 (w.heap.size) ka xa sa ra := CellV.below (by first | (with_reducible assumption) | (with_reducible refine CellV.drew ?_; assumption) | (with_reducible exact cells3a) | (with_reducible exact cells3b) | (with_reducible exact cells3c) | (constructor <;> first | (simp; done) | (simp; omega))) b3
      obtain ⟨-, qa30, qa31, qa32, qa33⟩ := id Va3
      have Vb3 : CellV w3 (w.heap.size + 1) kb xb sb rb := CellV.below (by first | (with_reducible assumption) | (with_reducible refine CellV.drew ?_; assumption) | (with_reducible exact cells3a) | (with_reducible exact cells3b) | (with_reducible exact cells3c) | (constructor <;> first | (simp; done) | (simp; omega))) b3
      obtain ⟨-, qb30, qb31, qb32, qb33⟩ := id Vb3
      have Vc3 : CellV w3 (w.heap.size + 2) kc xc sc rc := CellV.below (by first | (with_reducible assumption) | (with_reducible refine CellV.drew ?_; assumption) | (with_reducible exact cells3a) | (with_reducible exact cells3b) | (with_reducible exact cells3c) | (constructor <;> first | (simp; done) | (simp; omega))) b3
      obtain ⟨-, qc30, qc31, qc32, qc33⟩ := id Vc3
      clear b3
      cases Fb
      · go_wp2
        go_ret
        exact ⟨by first | rfl | simp, by (repeat' (first | (with_reducible exact Below.refl _ _) | (with_reducible assumption) | (with_reducible refine Below.drew ?_) | (with_reducible refine below_drewN ?_ _) | (with_reducible refine Below.alloc ?_ ?_ _) | (with_reducible refine Below.setCell ?_ ?_ _) | (simp; done) | (simp; omega)))⟩
      · go_wp2_with fail
        refine (HFc.out _).mono ?_
        rintro e w4 ⟨rfl, b4⟩
        have c4 : Below w.heap.size w w4 := bl_chain (by (repeat' (first | (with_reducible exact Below.refl _ _) | (with_reducible assumption) | (with_reducible refine Below.drew ?_) | (with_reducible refine below_drewN ?_ _) | (with_reducible refine Below.alloc ?_ ?_ _) | (with_reducible refine Below.setCell ?_ ?_ _) | (simp; done) | (simp; omega)))) b4
        have Va4 : CellV w4 (w.heap.size) ka xa sa ra := CellV.below (by first | (with_reducible assumption) | (with_reducible refine CellV.drew ?_; assumption) | (with_reducible exact cells3a) | (with_reducible exact cells3b) | (with_reducible exact cells3c) | (constructor <;> first | (simp; done) | (simp; omega))) b4
        obtain ⟨-, qa40, qa41, qa42, qa43⟩ := id Va4
        have Vb4 : CellV w4 (w.heap.size + 1) kb xb sb rb := CellV.below (by first | (with_reducible assumption) | (with_reducible refine CellV.drew ?_; assumption) | (with_reducible exact cells3a) | (with_reducible exact cells3b) | (with_reducible exact cells3c) | (constructor <;> first | (simp; done) | (simp; omega))) b4
        obtain ⟨-, qb40, qb41, qb42, qb43⟩ := id Vb4
        have Vc4 : CellV w4 (w.heap.size + 2) kc xc sc rc := CellV.below (by first | (with_reducible assumption) | (with_reducible refine CellV.drew ?_; assumption) | (with_reducible exact cells3a) | (with_reducible exact cells3b) | (with_reducible exact cells3c) | (constructor <;> first | (simp; done) | (simp; omega))) b4
        obtain ⟨-, qc40, qc41, qc42, qc43⟩ := id Vc4
        clear b4
        cases Fc
        · go_wp2
          go_ret
          exact ⟨by first | rfl | simp, by (repeat' (first | (with_reducible exact Below.refl _ _) | (with_reducible assumption) | (with_reducible refine Below.drew ?_) | (with_reducible refine below_drewN ?_ _) | (with_reducible refine Below.alloc ?_ ?_ _) | (with_reducible refine Below.setCell ?_ ?_ _) | (simp; done) | (simp; omega)))⟩
        · go_wp2_with fail
          refine (HGa.out _).mono ?_
          rintro e w5 ⟨rfl, b5⟩
          have c5 : Below w.heap.size w w5 := bl_chain (by (repeat' (first | (with_reducible exact Below.refl _ _) | (with_reducible assumption) | (with_reducible refine Below.drew ?_) | (with_reducible refine below_drewN ?_ _) | (with_reducible refine Below.alloc ?_ ?_ _) | (with_reducible refine Below.setCell ?_ ?_ _) | (simp; done) | (simp; omega)))) b5
          have Va5 : CellV w5 (w.heap.size) ka xa sa ra := CellV.below (by first | (with_reducible assumption) | (with_reducible refine CellV.drew ?_; assumption) | (with_reducible exact cells3a) | (with_reducible exact cells3b) | (with_reducible exact cells3c) | (constructor <;> first | (simp; done) | (simp; omega))) b5
          obtain ⟨-, qa50, qa51, qa52, qa53⟩ := id Va5
          have Vb5 : CellV w5 (w.heap.size + 1) kb xb sb rb := CellV.below (by first | (with_reducible assumption) | (with_reducible refine CellV.drew ?_; assumption) | (with_reducible exact cells3a) | (with_reducible exact cells3b) | (with_reducible exact cells3c) | (constructor <;> first | (simp; done) | (simp; omega))) b5
          obtain ⟨-, qb50, qb51, qb52, qb53⟩ := id Vb5
          have Vc5 : CellV w5 (w.heap.size + 2) kc xc sc rc := CellV.below (by first | (with_reducible assumption) | (with_reducible refine CellV.drew ?_; assumption) | (with_reducible exact cells3a) | (with_reducible exact cells3b) | (with_reducible exact cells3c) | (constructor <;> first | (simp; done) | (simp; omega))) b5
          obtain ⟨-, qc50, qc51, qc52, qc53⟩ := id Vc5
          clear b5
          cases Ga
          · go_wp2
            go_ret
            exact ⟨by first | rfl | simp, by (repeat' (first | (with_reducible exact Below.refl _ _) | (with_reducible assumption) | (with_reducible refine Below.drew ?_) | (with_reducible refine below_drewN ?_ _) | (with_reducible refine Below.alloc ?_ ?_ _) | (with_reducible refine Below.setCell ?_ ?_ _) | (simp; done) | (simp; omega)))⟩
          · go_wp2_with fail
            refine (HGb.out _).mono ?_
            rintro e w6 ⟨rfl, b6⟩
            have c6 : Below w.heap.size w w6 := bl_chain (by (repeat' (first | (with_reducible exact Below.refl _ _) | (with_reducible assumption) | (with_reducible refine Below.drew ?_) | (with_reducible refine below_drewN ?_ _) | (with_reducible refine Below.alloc ?_ ?_ _) | (with_reducible refine Below.setCell ?_ ?_ _) | (simp; done) | (simp; omega)))) b6
            have Va6 : CellV w6 (w.heap.size) ka xa sa ra := CellV.below (by first | (with_reducible assumption) | (with_reducible refine CellV.drew ?_; assumption) | (with_reducible exact cells3a) | (with_reducible exact cells3b) | (with_reducible exact cells3c) | (constructor <;> first | (simp; done) | (simp; omega))) b6
            obtain ⟨-, qa60, qa61, qa62, qa63⟩ := id Va6
            have Vb6 : CellV w6 (w.heap.size + 1) kb xb sb rb := CellV.below (by first | (with_reducible assumption) | (with_reducible refine CellV.drew ?_; assumption) | (with_reducible exact cells3a) | (with_reducible exact cells3b) | (with_reducible exact cells3c) | (constructor <;> first | (simp; done) | (simp; omega))) b6
            obtain ⟨-, qb60, qb61, qb62, qb63⟩ := id Vb6
            have Vc6 : CellV w6 (w.heap.size + 2) kc xc sc rc := CellV.below (by first | (with_reducible assumption) | (with_reducible refine CellV.drew ?_; assumption) | (with_reducible exact cells3a) | (with_reducible exact cells3b) | (with_reducible exact cells3c) | (constructor <;> first | (simp; done) | (simp; omega))) b6
            obtain ⟨-, qc60, qc61, qc62, qc63⟩ := id Vc6
            clear b6
            cases Gb
            · go_wp2
              go_ret
              exact ⟨by first | rfl | simp, by (repeat' (first | (with_reducible exact Below.refl _ _) | (with_reducible assumption) | (with_reducible refine Below.drew ?_) | (with_reducible refine below_drewN ?_ _) | (with_reducible refine Below.alloc ?_ ?_ _) | (with_reducible refine Below.setCell ?_ ?_ _) | (simp; done) | (simp; omega)))⟩
            · go_wp2_with fail
              refine (HGc.out _).mono ?_
              rintro e w7 ⟨rfl, b7⟩
              have c7 : Below w.heap.size w w7 := bl_chain (by (repeat' (first | (with_reducible exact Below.refl _ _) | (with_reducible assumption) | (with_reducible refine Below.drew ?_) | (with_reducible refine below_drewN ?_ _) | (with_reducible refine Below.alloc ?_ ?_ _) | (with_reducible refine Below.setCell ?_ ?_ _) | (simp; done) | (simp; omega)))) b7
              have Va7 : CellV w7 (w.heap.size) ka xa sa ra := CellV.below (by first | (with_reducible assumption) | (with_reducible refine CellV.drew ?_; assumption) | (with_reducible exact cells3a) | (with_reducible exact cells3b) | (with_reducible exact cells3c) | (constructor <;> first | (simp; done) | (simp; omega))) b7
              obtain ⟨-, qa70, qa71, qa72, qa73⟩ := id Va7
              have Vb7 : CellV w7 (w.heap.size + 1) kb xb sb rb := CellV.below (by first | (with_reducible assumption) | (with_reducible refine CellV.drew ?_; assumption) | (with_reducible exact cells3a) | (with_reducible exact cells3b) | (with_reducible exact cells3c) | (constructor <;> first | (simp; done) | (simp; omega))) b7
              obtain ⟨-, qb70, qb71, qb72, qb73⟩ := id Vb7
              have Vc7 : CellV w7 (w.heap.size + 2) kc xc sc rc := CellV.below (by first | (with_reducible assumption) | (with_reducible refine CellV.drew ?_; assumption) | (with_reducible exact cells3a) | (with_reducible exact cells3b) | (with_reducible exact cells3c) | (constructor <;> first | (simp; done) | (simp; omega))) b7
              obtain ⟨-, qc70, qc71, qc72, qc73⟩ := id Vc7
              clear b7
              cases Gc
              · go_wp2
                go_ret
                exact ⟨by first | rfl | simp, by (repeat' (first | (with_reducible exact Below.refl _ _) | (with_reducible assumption) | (with_reducible refine Below.drew ?_) | (with_reducible refine below_drewN ?_ _) | (with_reducible refine Below.alloc ?_ ?_ _) | (with_reducible refine Below.setCell ?_ ?_ _) | (simp; done) | (simp; omega)))⟩
              · go_wp2_with fail
                refine (HAB.out _).mono ?_
                rintro e w8 ⟨rfl, b8⟩
                have c8 : Below w.heap.size w w8 := bl_chain (by (repeat' (first | (with_reducible exact Below.refl _ _) | (with_reducible assumption) | (with_reducible refine Below.drew ?_) | (with_reducible refine below_drewN ?_ _) | (with_reducible refine Below.alloc ?_ ?_ _) | (with_reducible refine Below.setCell ?_ ?_ _) | (simp; done) | (simp; omega)))) b8
                have Va8 : CellV w8 (w.heap.size) ka xa sa ra := CellV.below (by first | (with_reducible assumption) | (with_reducible refine CellV.drew ?_; assumption) | (with_reducible exact cells3a) | (with_reducible exact cells3b) | (with_reducible exact cells3c) | (constructor <;> first | (simp; done) | (simp; omega))) b8
                obtain ⟨-, qa80, qa81, qa82, qa83⟩ := id Va8
                have Vb8 : CellV w8 (w.heap.size + 1) kb xb sb rb := CellV.below (by first | (with_reducible assumption) | (with_reducible refine CellV.drew ?_; assumption) | (with_reducible exact cells3a) | (with_reducible exact cells3b) | (with_reducible exact cells3c) | (constructor <;> first | (simp; done) | (simp; omega))) b8
                obtain ⟨-, qb80, qb81, qb82, qb83⟩ := id Vb8
                have Vc8 : CellV w8 (w.heap.size + 2) kc xc sc rc := CellV.below (by first | (with_reducible assumption) | (with_reducible refine CellV.drew ?_; assumption) | (with_reducible exact cells3a) | (with_reducible exact cells3b) | (with_reducible exact cells3c) | (constructor <;> first | (simp; done) | (simp; omega))) b8
                obtain ⟨-, qc80, qc81, qc82, qc83⟩ := id Vc8
                clear b8
                cases SAB
                · go_wp2_with fail
                  refine (HAA.out _).mono ?_
                  rintro e w11 ⟨rfl, b11⟩
                  have c11 : Below w.heap.size w w11 := bl_chain (by (repeat' (first | (with_reducible exact Below.refl _ _) | (with_reducible assumption) | (with_reducible refine Below.drew ?_) | (with_reducible refine below_drewN ?_ _) | (with_reducible refine Below.alloc ?_ ?_ _) | (with_reducible refine Below.setCell ?_ ?_ _) | (simp; done) | (simp; omega)))) b11
                  have Va11 : CellV w11 (w.heap.size) ka xa sa ra := CellV.below (by first | (with_reducible assumption) | (with_reducible refine CellV.drew ?_; assumption) | (with_reducible exact cells3a) | (with_reducible exact cells3b) | (with_reducible exact cells3c) | (constructor <;> first | (simp; done) | (simp; omega))) b11
                  obtain ⟨-, qa110, qa111, qa112, qa113⟩ := id Va11
                  have Vb11 : CellV w11 (w.heap.size + 1) kb xb sb rb := CellV.below (by first | (with_reducible assumption) | (with_reducible refine CellV.drew ?_; assumption) | (with_reducible exact cells3a) | (with_reducible exact cells3b) | (with_reducible exact cells3c) | (constructor <;> first | (simp; done) | (simp; omega))) b11
                  obtain ⟨-, qb110, qb111, qb112, qb113⟩ := id Vb11
                  have Vc11 : CellV w11 (w.heap.size + 2) kc xc sc rc := CellV.below (by first | (with_reducible assumption) | (with_reducible refine CellV.drew ?_; assumption) | (with_reducible exact cells3a) | (with_reducible exact cells3b) | (with_reducible exact cells3c) | (constructor <;> first | (simp; done) | (simp; omega))) b11
                  obtain ⟨-, qc110, qc111, qc112, qc113⟩ := id Vc11
                  clear b11
                  go_wp2_with fail
                  refine (HC.out _).mono ?_
                  rintro e w12 ⟨rfl, b12⟩
                  have c12 : Below w.heap.size w w12 := bl_chain (by (repeat' (first | (with_reducible exact Below.refl _ _) | (with_reducible assumption) | (with_reducible refine Below.drew ?_) | (with_reducible refine below_drewN ?_ _) | (with_reducible refine Below.alloc ?_ ?_ _) | (with_reducible refine Below.setCell ?_ ?_ _) | (simp; done) | (simp; omega)))) b12
                  have Va12 : CellV w12 (w.heap.size) ka xa sa ra := CellV.below (by first | (with_reducible assumption) | (with_reducible refine CellV.drew ?_; assumption) | (with_reducible exact cells3a) | (with_reducible exact cells3b) | (with_reducible exact cells3c) | (constructor <;> first | (simp; done) | (simp; omega))) b12
                  obtain ⟨-, qa120, qa121, qa122, qa123⟩ := id Va12
                  have Vb12 : CellV w12 (w.heap.size + 1) kb xb sb rb := CellV.below (by first | (with_reducible assumption) | (with_reducible refine CellV.drew ?_; assumption) | (with_reducible exact cells3a) | (with_reducible exact cells3b) | (with_reducible exact cells3c) | (constructor <;> first | (simp; done) | (simp; omega))) b12
                  obtain ⟨-, qb120, qb121, qb122, qb123⟩ := id Vb12
                  have Vc12 : CellV w12 (w.heap.size + 2) kc xc sc rc := CellV.below (by first | (with_reducible assumption) | (with_reducible refine CellV.drew ?_; assumption) | (with_reducible exact cells3a) | (with_reducible exact cells3b) | (with_reducible exact cells3c) | (constructor <;> first | (simp; done) | (simp; omega))) b12
                  obtain ⟨-, qc120, qc121, qc122, qc123⟩ := id Vc12
                  clear b12
                  go_wp2
                  go_ret
                  exact ⟨by first | rfl | simp, by (repeat' (first | (with_reducible exact Below.refl _ _) | (with_reducible assumption) | (with_reducible refine Below.drew ?_) | (with_reducible refine below_drewN ?_ _) | (with_reducible refine Below.alloc ?_ ?_ _) | (with_reducible refine Below.setCell ?_ ?_ _) | (simp; done) | (simp; omega)))⟩
                · go_wp2_with fail
                  refine (HBC.out _).mono ?_
                  rintro e w9 ⟨rfl, b9⟩
                  have c9 : Below w.heap.size w w9 := bl_chain (by (repeat' (first | (with_reducible exact Below.refl _ _) | (with_reducible assumption) | (with_reducible refine Below.drew ?_) | (with_reducible refine below_drewN ?_ _) | (with_reducible refine Below.alloc ?_ ?_ _) | (with_reducible refine Below.setCell ?_ ?_ _) | (simp; done) | (simp; omega)))) b9
                  have Va9 : CellV w9 (w.heap.size) ka xa sa ra := CellV.below (by first | (with_reducible assumption) | (with_reducible refine CellV.drew ?_; assumption) | (with_reducible exact cells3a) | (with_reducible exact cells3b) | (with_reducible exact cells3c) | (constructor <;> first | (simp; done) | (simp; omega))) b9
                  obtain ⟨-, qa90, qa91, qa92, qa93⟩ := id Va9
                  have Vb9 : CellV w9 (w.heap.size + 1) kb xb sb rb := CellV.below (by first | (with_reducible assumption) | (with_reducible refine CellV.drew ?_; assumption) | (with_reducible exact cells3a) | (with_reducible exact cells3b) | (with_reducible exact cells3c) | (constructor <;> first | (simp; done) | (simp; omega))) b9
                  obtain ⟨-, qb90, qb91, qb92, qb93⟩ := id Vb9
                  have Vc9 : CellV w9 (w.heap.size + 2) kc xc sc rc := CellV.below (by first | (with_reducible assumption) | (with_reducible refine CellV.drew ?_; assumption) | (with_reducible exact cells3a) | (with_reducible exact cells3b) | (with_reducible exact cells3c) | (constructor <;> first | (simp; done) | (simp; omega))) b9
                  obtain ⟨-, qc90, qc91, qc92, qc93⟩ := id Vc9
                  clear b9
                  cases SBC
                  · go_wp2_with fail
                    refine (HAA.out _).mono ?_
                    rintro e w11 ⟨rfl, b11⟩
                    have c11 : Below w.heap.size w w11 := bl_chain (by (repeat' (first | (with_reducible exact Below.refl _ _) | (with_reducible assumption) | (with_reducible refine Below.drew ?_) | (with_reducible refine below_drewN ?_ _) | (with_reducible refine Below.alloc ?_ ?_ _) | (with_reducible refine Below.setCell ?_ ?_ _) | (simp; done) | (simp; omega)))) b11
                    have Va11 : CellV w11 (w.heap.size) ka xa sa ra := CellV.below (by first | (with_reducible assumption) | (with_reducible refine CellV.drew ?_; assumption) | (with_reducible exact cells3a) | (with_reducible exact cells3b) | (with_reducible exact cells3c) | (constructor <;> first | (simp; done) | (simp; omega))) b11
                    obtain ⟨-, qa110, qa111, qa112, qa113⟩ := id Va11
                    have Vb11 : CellV w11 (w.heap.size + 1) kb xb sb rb := CellV.below (by first | (with_reducible assumption) | (with_reducible refine CellV.drew ?_; assumption) | (with_reducible exact cells3a) | (with_reducible exact cells3b) | (with_reducible exact cells3c) | (constructor <;> first | (simp; done) | (simp; omega))) b11
                    obtain ⟨-, qb110, qb111, qb112, qb113⟩ := id Vb11
                    have Vc11 : CellV w11 (w.heap.size + 2) kc xc sc rc := CellV.below (by first | (with_reducible assumption) | (with_reducible refine CellV.drew ?_; assumption) | (with_reducible exact cells3a) | (with_reducible exact cells3b) | (with_reducible exact cells3c) | (constructor <;> first | (simp; done) | (simp; omega))) b11
                    obtain ⟨-, qc110, qc111, qc112, qc113⟩ := id Vc11
                    clear b11
                    go_wp2_with fail
                    refine (HC.out _).mono ?_
                    rintro e w12 ⟨rfl, b12⟩
                    have c12 : Below w.heap.size w w12 := bl_chain (by (repeat' (first | (with_reducible exact Below.refl _ _) | (with_reducible assumption) | (with_reducible refine Below.drew ?_) | (with_reducible refine below_drewN ?_ _) | (with_reducible refine Below.alloc ?_ ?_ _) | (with_reducible refine Below.setCell ?_ ?_ _) | (simp; done) | (simp; omega)))) b12
                    have Va12 : CellV w12 (w.heap.size) ka xa sa ra := CellV.below (by first | (with_reducible assumption) | (with_reducible refine CellV.drew ?_; assumption) | (with_reducible exact cells3a) | (with_reducible exact cells3b) | (with_reducible exact cells3c) | (constructor <;> first | (simp; done) | (simp; omega))) b12
                    obtain ⟨-, qa120, qa121, qa122, qa123⟩ := id Va12
                    have Vb12 : CellV w12 (w.heap.size + 1) kb xb sb rb := CellV.below (by first | (with_reducible assumption) | (with_reducible refine CellV.drew ?_; assumption) | (with_reducible exact cells3a) | (with_reducible exact cells3b) | (with_reducible exact cells3c) | (constructor <;> first | (simp; done) | (simp; omega))) b12
                    obtain ⟨-, qb120, qb121, qb122, qb123⟩ := id Vb12
                    have Vc12 : CellV w12 (w.heap.size + 2) kc xc sc rc := CellV.below (by first | (with_reducible assumption) | (with_reducible refine CellV.drew ?_; assumption) | (with_reducible exact cells3a) | (with_reducible exact cells3b) | (with_reducible exact cells3c) | (constructor <;> first | (simp; done) | (simp; omega))) b12
                    obtain ⟨-, qc120, qc121, qc122, qc123⟩ := id Vc12
                    clear b12
                    go_wp2
                    go_ret
                    exact ⟨by first | rfl | simp, by (repeat' (first | (with_reducible exact Below.refl _ _) | (with_reducible assumption) | (with_reducible refine Below.drew ?_) | (with_reducible refine below_drewN ?_ _) | (with_reducible refine Below.alloc ?_ ?_ _) | (with_reducible refine Below.setCell ?_ ?_ _) | (simp; done) | (simp; omega)))⟩
                  · have hac := HTR.out (by first | rfl | trivial) (by first | rfl | trivial)
                    subst hac
                    go_wp2_with fail
                    refine (HAC.out _).mono ?_
                    rintro e w10 ⟨rfl, b10⟩
                    have c10 : Below w.heap.size w w10 := bl_chain (by (repeat' (first | (with_reducible exact Below.refl _ _) | (with_reducible assumption) | (with_reducible refine Below.drew ?_) | (with_reducible refine below_drewN ?_ _) | (with_reducible refine Below.alloc ?_ ?_ _) | (with_reducible refine Below.setCell ?_ ?_ _) | (simp; done) | (simp; omega)))) b10
                    have Va10 : CellV w10 (w.heap.size) ka xa sa ra := CellV.below (by first | (with_reducible assumption) | (with_reducible refine CellV.drew ?_; assumption) | (with_reducible exact cells3a) | (with_reducible exact cells3b) | (with_reducible exact cells3c) | (constructor <;> first | (simp; done) | (simp; omega))) b10
                    obtain ⟨-, qa100, qa101, qa102, qa103⟩ := id Va10
                    have Vb10 : CellV w10 (w.heap.size + 1) kb xb sb rb := CellV.below (by first | (with_reducible assumption) | (with_reducible refine CellV.drew ?_; assumption) | (with_reducible exact cells3a) | (with_reducible exact cells3b) | (with_reducible exact cells3c) | (constructor <;> first | (simp; done) | (simp; omega))) b10
                    obtain ⟨-, qb100, qb101, qb102, qb103⟩ := id Vb10
                    have Vc10 : CellV w10 (w.heap.size + 2) kc xc sc rc := CellV.below (by first | (with_reducible assumption) | (with_reducible refine CellV.drew ?_; assumption) | (with_reducible exact cells3a) | (with_reducible exact cells3b) | (with_reducible exact cells3c) | (constructor <;> first | (simp; done) | (simp; omega))) b10
                    obtain ⟨-, qc100, qc101, qc102, qc103⟩ := id Vc10
                    clear b10
                    go_wp2_with fail
                    refine (HAA.out _).mono ?_
                    rintro e w11 ⟨rfl, b11⟩
                    have c11 : Below w.heap.size w w11 := bl_chain (by (repeat' (first | (with_reducible exact Below.refl _ _) | (with_reducible assumption) | (with_reducible refine Below.drew ?_) | (with_reducible refine below_drewN ?_ _) | (with_reducible refine Below.alloc ?_ ?_ _) | (with_reducible refine Below.setCell ?_ ?_ _) | (simp; done) | (simp; omega)))) b11
                    have Va11 : CellV w11 (w.heap.size) ka xa sa ra := CellV.below (by first | (with_reducible assumption) | (with_reducible refine CellV.drew ?_; assumption) | (with_reducible exact cells3a) | (with_reducible exact cells3b) | (with_reducible exact cells3c) | (constructor <;> first | (simp; done) | (simp; omega))) b11
                    obtain ⟨-, qa110, qa111, qa112, qa113⟩ := id Va11
                    have Vb11 : CellV w11 (w.heap.size + 1) kb xb sb rb := CellV.below (by first | (with_reducible assumption) | (with_reducible refine CellV.drew ?_; assumption) | (with_reducible exact cells3a) | (with_reducible exact cells3b) | (with_reducible exact cells3c) | (constructor <;> first | (simp; done) | (simp; omega))) b11
                    obtain ⟨-, qb110, qb111, qb112, qb113⟩ := id Vb11
                    have Vc11 : CellV w11 (w.heap.size + 2) kc xc sc rc := CellV.below (by first | (with_reducible assumption) | (with_reducible refine CellV.drew ?_; assumption) | (with_reducible exact cells3a) | (with_reducible exact cells3b) | (with_reducible exact cells3c) | (constructor <;> first | (simp; done) | (simp; omega))) b11
                    obtain ⟨-, qc110, qc111, qc112, qc113⟩ := id Vc11
                    clear b11
                    go_wp2_with fail
                    refine (HC.out _).mono ?_
                    rintro e w12 ⟨rfl, b12⟩
                    have c12 : Below w.heap.size w w12 := bl_chain (by (repeat' (first | (with_reducible exact Below.refl _ _) | (with_reducible assumption) | (with_reducible refine Below.drew ?_) | (with_reducible refine below_drewN ?_ _) | (with_reducible refine Below.alloc ?_ ?_ _) | (with_reducible refine Below.setCell ?_ ?_ _) | (simp; done) | (simp; omega)))) b12
                    have Va12 : CellV w12 (w.heap.size) ka xa sa ra := CellV.below (by first | (with_reducible assumption) | (with_reducible refine CellV.drew ?_; assumption) | (with_reducible exact cells3a) | (with_reducible exact cells3b) | (with_reducible exact cells3c) | (constructor <;> first | (simp; done) | (simp; omega))) b12
                    obtain ⟨-, qa120, qa121, qa122, qa123⟩ := id Va12
                    have Vb12 : CellV w12 (w.heap.size + 1) kb xb sb rb := CellV.below (by first | (with_reducible assumption) | (with_reducible refine CellV.drew ?_; assumption) | (with_reducible exact cells3a) | (with_reducible exact cells3b) | (with_reducible exact cells3c) | (constructor <;> first | (simp; done) | (simp; omega))) b12
                    obtain ⟨-, qb120, qb121, qb122, qb123⟩ := id Vb12
                    have Vc12 : CellV w12 (w.heap.size + 2) kc xc sc rc := CellV.below (by first | (with_reducible assumption) | (with_reducible refine CellV.drew ?_; assumption) | (with_reducible exact cells3a) | (with_reducible exact cells3b) | (with_reducible exact cells3c) | (constructor <;> first | (simp; done) | (simp; omega))) b12
                    obtain ⟨-, qc120, qc121, qc122, qc123⟩ := id Vc12
                    clear b12
                    go_wp2
                    go_ret
                    exact ⟨by first | rfl | simp, by (repeat' (first | (with_reducible exact Below.refl _ _) | (with_reducible assumption) | (with_reducible refine Below.drew ?_) | (with_reducible refine below_drewN ?_ _) | (with_reducible refine Below.alloc ?_ ?_ _) | (with_reducible refine Below.setCell ?_ ?_ _) | (simp; done) | (simp; omega)))⟩
set_option maxHeartbeats 4000000 in
set_option maxRecDepth 100000 in
theorem equals_1 (ka : Int) (xa : Nat) (sa : ByteArray) (ra : Int) (kb : Int) (xb : Nat) (sb : ByteArray) (rb : Int) (kc : Int) (xc : Nat) (sc : ByteArray) (rc : Int) (w : World) (ha : xa < 18446744073709551616) (za : (sa.size : Int) ≤ 140737488351232) (hb : xb < 18446744073709551616) (zb : (sb.size : Int) ≤ 140737488351232) (hc : xc < 18446744073709551616) (zc : (sc.size : Int) ≤ 140737488351232) (hl : Hid (LaidN w)) :
    Calls Tryz.prog 6 #[.agg #[.int .i64 ka, .float .f64 xa, .string sa, .int .i64 ra], .agg #[.int .i64 kb, .float .f64 xb, .string sb, .int .i64 rb], .agg #[.int .i64 kc, .float .f64 xc, .string sc, .int .i64 rc], .int .i64 1] w fun e w' => e = .returned (.bool true) ∧ Below w.heap.size w w' := by
  have HW := Hid.mk' (fun W (hW : Hid (LaidN W)) => awake18 W hW)
  have HFa := Hid.mk' (fun W => few18 ka xa sa ra W)
  have HGa := Hid.mk' (fun W => rvgood ka xa sa ra W ha za)
  obtain ⟨Fa, hFa⟩ : ∃ F, decide ((sa.size : Int) ≤ 2000) = F := ⟨_, rfl⟩
  obtain ⟨Ga, hGa⟩ : ∃ G, goodV ka xa sa ra = G := ⟨_, rfl⟩
  rw [hFa] at HFa
  rw [hGa] at HGa
  clear hFa hGa
  have HFb := Hid.mk' (fun W => few18 kb xb sb rb W)
  have HGb := Hid.mk' (fun W => rvgood kb xb sb rb W hb zb)
  obtain ⟨Fb, hFb⟩ : ∃ F, decide ((sb.size : Int) ≤ 2000) = F := ⟨_, rfl⟩
  obtain ⟨Gb, hGb⟩ : ∃ G, goodV kb xb sb rb = G := ⟨_, rfl⟩
  rw [hFb] at HFb
  rw [hGb] at HGb
  clear hFb hGb
  have HFc := Hid.mk' (fun W => few18 kc xc sc rc W)
  have HGc := Hid.mk' (fun W => rvgood kc xc sc rc W hc zc)
  obtain ⟨Fc, hFc⟩ : ∃ F, decide ((sc.size : Int) ≤ 2000) = F := ⟨_, rfl⟩
  obtain ⟨Gc, hGc⟩ : ∃ G, goodV kc xc sc rc = G := ⟨_, rfl⟩
  rw [hFc] at HFc
  rw [hGc] at HGc
  clear hFc hGc
  have HAB := Hid.mk' (fun W => vsame ka xa sa ra kb xb sb rb 1 W ha hb za zb)
  have HBC := Hid.mk' (fun W => vsame kb xb sb rb kc xc sc rc 1 W hb hc zb zc)
  have HAC := Hid.mk' (fun W => vsame ka xa sa ra kc xc sc rc 1 W ha hc za zc)
  have HAA := Hid.mk' (fun W => vsame ka xa sa ra ka xa sa ra 1 W ha ha za za)
  have HC := Hid.mk' (fun W => rcompare_wide sa sa W za za)
  rw [(sh_cmp_zero sa sa).2 rfl] at HC
  rw [sameV_self ka xa sa ra 1 (.inr (.inl rfl))] at HAA
  have HTR : Hid (sameV ka xa sa ra kb xb sb rb 1 = true → sameV kb xb sb rb kc xc sc rc 1 = true → sameV ka xa sa ra kc xc sc rc 1 = true) := Hid.mk' (sameV_trans ka xa sa ra kb xb sb rb kc xc sc rc 1 (.inr (.inl rfl)))
  obtain ⟨SAB, hs1⟩ : ∃ S, sameV ka xa sa ra kb xb sb rb 1 = S := ⟨_, rfl⟩
  obtain ⟨SBC, hs2⟩ : ∃ S, sameV kb xb sb rb kc xc sc rc 1 = S := ⟨_, rfl⟩
  obtain ⟨SAC, hs3⟩ : ∃ S, sameV ka xa sa ra kc xc sc rc 1 = S := ⟨_, rfl⟩
  rw [hs1] at HAB HTR
  rw [hs2] at HBC HTR
  rw [hs3] at HAC HTR
  have k3 := kd_three ka
  have nx := isnan_eq xa ha
  obtain ⟨K, hK⟩ : ∃ K, decide (kd ka = 3) = K := ⟨_, rfl⟩
  obtain ⟨N, hN⟩ : ∃ N, decide (nan xa) = N := ⟨_, rfl⟩
  rw [hK] at k3 HAA
  rw [hN] at nx HAA
  clear hs1 hs2 hs3 hK hN ha za hb zb hc zc
  cases K
  all_goals cases N
  all_goals simp only [Bool.false_and, Bool.and_false, Bool.true_and, Bool.not_false, decide_true, decide_false, Bool.not_true, Bool.and_true, show decide ((1 : Int) = 0) = false from rfl] at HAA
  all_goals
    go_enter Tryz.func6, Tryz.ntmps6
    go_wp2_with fail
    refine (HW.out _ (Hid.mk' (hl.out.below (by (repeat' (first | (with_reducible exact Below.refl _ _) | (with_reducible assumption) | (with_reducible refine Below.drew ?_) | (with_reducible refine below_drewN ?_ _) | (with_reducible refine Below.alloc ?_ ?_ _) | (with_reducible refine Below.setCell ?_ ?_ _) | (simp; done) | (simp; omega))))))).mono ?_
    rintro e w1 ⟨rfl, b1⟩
    have c1 : Below w.heap.size w w1 := bl_chain (by (repeat' (first | (with_reducible exact Below.refl _ _) | (with_reducible assumption) | (with_reducible refine Below.drew ?_) | (with_reducible refine below_drewN ?_ _) | (with_reducible refine Below.alloc ?_ ?_ _) | (with_reducible refine Below.setCell ?_ ?_ _) | (simp; done) | (simp; omega)))) b1
    have Va1 : CellV w1 (w.heap.size) ka xa sa ra := CellV.below (by first | (with_reducible assumption) | (with_reducible refine CellV.drew ?_; assumption) | (with_reducible exact cells3a) | (with_reducible exact cells3b) | (with_reducible exact cells3c) | (constructor <;> first | (simp; done) | (simp; omega))) b1
    obtain ⟨-, qa10, qa11, qa12, qa13⟩ := id Va1
    have Vb1 : CellV w1 (w.heap.size + 1) kb xb sb rb := CellV.below (by first | (with_reducible assumption) | (with_reducible refine CellV.drew ?_; assumption) | (with_reducible exact cells3a) | (with_reducible exact cells3b) | (with_reducible exact cells3c) | (constructor <;> first | (simp; done) | (simp; omega))) b1
    obtain ⟨-, qb10, qb11, qb12, qb13⟩ := id Vb1
    have Vc1 : CellV w1 (w.heap.size + 2) kc xc sc rc := CellV.below (by first | (with_reducible assumption) | (with_reducible refine CellV.drew ?_; assumption) | (with_reducible exact cells3a) | (with_reducible exact cells3b) | (with_reducible exact cells3c) | (constructor <;> first | (simp; done) | (simp; omega))) b1
    obtain ⟨-, qc10, qc11, qc12, qc13⟩ := id Vc1
    clear b1
    go_wp2_with fail
    refine (HFa.out _).mono ?_
    rintro e w2 ⟨rfl, b2⟩
    have c2 : Below w.heap.size w w2 := bl_chain (by (repeat' (first | (with_reducible exact Below.refl _ _) | (with_reducible assumption) | (with_reducible refine Below.drew ?_) | (with_reducible refine below_drewN ?_ _) | (with_reducible refine Below.alloc ?_ ?_ _) | (with_reducible refine Below.setCell ?_ ?_ _) | (simp; done) | (simp; omega)))) b2
    have Va2 : CellV w2 (w.heap.size) ka xa sa ra := CellV.below (by first | (with_reducible assumption) | (with_reducible refine CellV.drew ?_; assumption) | (with_reducible exact cells3a) | (with_reducible exact cells3b) | (with_reducible exact cells3c) | (constructor <;> first | (simp; done) | (simp; omega))) b2
    obtain ⟨-, qa20, qa21, qa22, qa23⟩ := id Va2
    have Vb2 : CellV w2 (w.heap.size + 1) kb xb sb rb := CellV.below (by first | (with_reducible assumption) | (with_reducible refine CellV.drew ?_; assumption) | (with_reducible exact cells3a) | (with_reducible exact cells3b) | (with_reducible exact cells3c) | (constructor <;> first | (simp; done) | (simp; omega))) b2
    obtain ⟨-, qb20, qb21, qb22, qb23⟩ := id Vb2
    have Vc2 : CellV w2 (w.heap.size + 2) kc xc sc rc := CellV.below (by first | (with_reducible assumption) | (with_reducible refine CellV.drew ?_; assumption) | (with_reducible exact cells3a) | (with_reducible exact cells3b) | (with_reducible exact cells3c) | (constructor <;> first | (simp; done) | (simp; omega))) b2
    obtain ⟨-, qc20, qc21, qc22, qc23⟩ := id Vc2
    clear b2
    cases Fa
    · go_wp2
      go_ret
      exact ⟨by first | rfl | simp, by (repeat' (first | (with_reducible exact Below.refl _ _) | (with_reducible assumption) | (with_reducible refine Below.drew ?_) | (with_reducible refine below_drewN ?_ _) | (with_reducible refine Below.alloc ?_ ?_ _) | (with_reducible refine Below.setCell ?_ ?_ _) | (simp; done) | (simp; omega)))⟩
    · go_wp2_with fail
      refine (HFb.out _).mono ?_
      rintro e w3 ⟨rfl, b3⟩
      have c3 : Below w.heap.size w w3 := bl_chain (by (repeat' (first | (with_reducible exact Below.refl _ _) | (with_reducible assumption) | (with_reducible refine Below.drew ?_) | (with_reducible refine below_drewN ?_ _) | (with_reducible refine Below.alloc ?_ ?_ _) | (with_reducible refine Below.setCell ?_ ?_ _) | (simp; done) | (simp; omega)))) b3
      have Va3 : CellV w3 (w.heap.size) ka xa sa ra := CellV.below (by first | (with_reducible assumption) | (with_reducible refine CellV.drew ?_; assumption) | (with_reducible exact cells3a) | (with_reducible exact cells3b) | (with_reducible exact cells3c) | (constructor <;> first | (simp; done) | (simp; omega))) b3
      obtain ⟨-, qa30, qa31, qa32, qa33⟩ := id Va3
      have Vb3 : CellV w3 (w.heap.size + 1) kb xb sb rb := CellV.below (by first | (with_reducible assumption) | (with_reducible refine CellV.drew ?_; assumption) | (with_reducible exact cells3a) | (with_reducible exact cells3b) | (with_reducible exact cells3c) | (constructor <;> first | (simp; done) | (simp; omega))) b3
      obtain ⟨-, qb30, qb31, qb32, qb33⟩ := id Vb3
      have Vc3 : CellV w3 (w.heap.size + 2) kc xc sc rc := CellV.below (by first | (with_reducible assumption) | (with_reducible refine CellV.drew ?_; assumption) | (with_reducible exact cells3a) | (with_reducible exact cells3b) | (with_reducible exact cells3c) | (constructor <;> first | (simp; done) | (simp; omega))) b3
      obtain ⟨-, qc30, qc31, qc32, qc33⟩ := id Vc3
      clear b3
      cases Fb
      · go_wp2
        go_ret
        exact ⟨by first | rfl | simp, by (repeat' (first | (with_reducible exact Below.refl _ _) | (with_reducible assumption) | (with_reducible refine Below.drew ?_) | (with_reducible refine below_drewN ?_ _) | (with_reducible refine Below.alloc ?_ ?_ _) | (with_reducible refine Below.setCell ?_ ?_ _) | (simp; done) | (simp; omega)))⟩
      · go_wp2_with fail
        refine (HFc.out _).mono ?_
        rintro e w4 ⟨rfl, b4⟩
        have c4 : Below w.heap.size w w4 := bl_chain (by (repeat' (first | (with_reducible exact Below.refl _ _) | (with_reducible assumption) | (with_reducible refine Below.drew ?_) | (with_reducible refine below_drewN ?_ _) | (with_reducible refine Below.alloc ?_ ?_ _) | (with_reducible refine Below.setCell ?_ ?_ _) | (simp; done) | (simp; omega)))) b4
        have Va4 : CellV w4 (w.heap.size) ka xa sa ra := CellV.below (by first | (with_reducible assumption) | (with_reducible refine CellV.drew ?_; assumption) | (with_reducible exact cells3a) | (with_reducible exact cells3b) | (with_reducible exact cells3c) | (constructor <;> first | (simp; done) | (simp; omega))) b4
        obtain ⟨-, qa40, qa41, qa42, qa43⟩ := id Va4
        have Vb4 : CellV w4 (w.heap.size + 1) kb xb sb rb := CellV.below (by first | (with_reducible assumption) | (with_reducible refine CellV.drew ?_; assumption) | (with_reducible exact cells3a) | (with_reducible exact cells3b) | (with_reducible exact cells3c) | (constructor <;> first | (simp; done) | (simp; omega))) b4
        obtain ⟨-, qb40, qb41, qb42, qb43⟩ := id Vb4
        have Vc4 : CellV w4 (w.heap.size + 2) kc xc sc rc := CellV.below (by first | (with_reducible assumption) | (with_reducible refine CellV.drew ?_; assumption) | (with_reducible exact cells3a) | (with_reducible exact cells3b) | (with_reducible exact cells3c) | (constructor <;> first | (simp; done) | (simp; omega))) b4
        obtain ⟨-, qc40, qc41, qc42, qc43⟩ := id Vc4
        clear b4
        cases Fc
        · go_wp2
          go_ret
          exact ⟨by first | rfl | simp, by (repeat' (first | (with_reducible exact Below.refl _ _) | (with_reducible assumption) | (with_reducible refine Below.drew ?_) | (with_reducible refine below_drewN ?_ _) | (with_reducible refine Below.alloc ?_ ?_ _) | (with_reducible refine Below.setCell ?_ ?_ _) | (simp; done) | (simp; omega)))⟩
        · go_wp2_with fail
          refine (HGa.out _).mono ?_
          rintro e w5 ⟨rfl, b5⟩
          have c5 : Below w.heap.size w w5 := bl_chain (by (repeat' (first | (with_reducible exact Below.refl _ _) | (with_reducible assumption) | (with_reducible refine Below.drew ?_) | (with_reducible refine below_drewN ?_ _) | (with_reducible refine Below.alloc ?_ ?_ _) | (with_reducible refine Below.setCell ?_ ?_ _) | (simp; done) | (simp; omega)))) b5
          have Va5 : CellV w5 (w.heap.size) ka xa sa ra := CellV.below (by first | (with_reducible assumption) | (with_reducible refine CellV.drew ?_; assumption) | (with_reducible exact cells3a) | (with_reducible exact cells3b) | (with_reducible exact cells3c) | (constructor <;> first | (simp; done) | (simp; omega))) b5
          obtain ⟨-, qa50, qa51, qa52, qa53⟩ := id Va5
          have Vb5 : CellV w5 (w.heap.size + 1) kb xb sb rb := CellV.below (by first | (with_reducible assumption) | (with_reducible refine CellV.drew ?_; assumption) | (with_reducible exact cells3a) | (with_reducible exact cells3b) | (with_reducible exact cells3c) | (constructor <;> first | (simp; done) | (simp; omega))) b5
          obtain ⟨-, qb50, qb51, qb52, qb53⟩ := id Vb5
          have Vc5 : CellV w5 (w.heap.size + 2) kc xc sc rc := CellV.below (by first | (with_reducible assumption) | (with_reducible refine CellV.drew ?_; assumption) | (with_reducible exact cells3a) | (with_reducible exact cells3b) | (with_reducible exact cells3c) | (constructor <;> first | (simp; done) | (simp; omega))) b5
          obtain ⟨-, qc50, qc51, qc52, qc53⟩ := id Vc5
          clear b5
          cases Ga
          · go_wp2
            go_ret
            exact ⟨by first | rfl | simp, by (repeat' (first | (with_reducible exact Below.refl _ _) | (with_reducible assumption) | (with_reducible refine Below.drew ?_) | (with_reducible refine below_drewN ?_ _) | (with_reducible refine Below.alloc ?_ ?_ _) | (with_reducible refine Below.setCell ?_ ?_ _) | (simp; done) | (simp; omega)))⟩
          · go_wp2_with fail
            refine (HGb.out _).mono ?_
            rintro e w6 ⟨rfl, b6⟩
            have c6 : Below w.heap.size w w6 := bl_chain (by (repeat' (first | (with_reducible exact Below.refl _ _) | (with_reducible assumption) | (with_reducible refine Below.drew ?_) | (with_reducible refine below_drewN ?_ _) | (with_reducible refine Below.alloc ?_ ?_ _) | (with_reducible refine Below.setCell ?_ ?_ _) | (simp; done) | (simp; omega)))) b6
            have Va6 : CellV w6 (w.heap.size) ka xa sa ra := CellV.below (by first | (with_reducible assumption) | (with_reducible refine CellV.drew ?_; assumption) | (with_reducible exact cells3a) | (with_reducible exact cells3b) | (with_reducible exact cells3c) | (constructor <;> first | (simp; done) | (simp; omega))) b6
            obtain ⟨-, qa60, qa61, qa62, qa63⟩ := id Va6
            have Vb6 : CellV w6 (w.heap.size + 1) kb xb sb rb := CellV.below (by first | (with_reducible assumption) | (with_reducible refine CellV.drew ?_; assumption) | (with_reducible exact cells3a) | (with_reducible exact cells3b) | (with_reducible exact cells3c) | (constructor <;> first | (simp; done) | (simp; omega))) b6
            obtain ⟨-, qb60, qb61, qb62, qb63⟩ := id Vb6
            have Vc6 : CellV w6 (w.heap.size + 2) kc xc sc rc := CellV.below (by first | (with_reducible assumption) | (with_reducible refine CellV.drew ?_; assumption) | (with_reducible exact cells3a) | (with_reducible exact cells3b) | (with_reducible exact cells3c) | (constructor <;> first | (simp; done) | (simp; omega))) b6
            obtain ⟨-, qc60, qc61, qc62, qc63⟩ := id Vc6
            clear b6
            cases Gb
            · go_wp2
              go_ret
              exact ⟨by first | rfl | simp, by (repeat' (first | (with_reducible exact Below.refl _ _) | (with_reducible assumption) | (with_reducible refine Below.drew ?_) | (with_reducible refine below_drewN ?_ _) | (with_reducible refine Below.alloc ?_ ?_ _) | (with_reducible refine Below.setCell ?_ ?_ _) | (simp; done) | (simp; omega)))⟩
            · go_wp2_with fail
              refine (HGc.out _).mono ?_
              rintro e w7 ⟨rfl, b7⟩
              have c7 : Below w.heap.size w w7 := bl_chain (by (repeat' (first | (with_reducible exact Below.refl _ _) | (with_reducible assumption) | (with_reducible refine Below.drew ?_) | (with_reducible refine below_drewN ?_ _) | (with_reducible refine Below.alloc ?_ ?_ _) | (with_reducible refine Below.setCell ?_ ?_ _) | (simp; done) | (simp; omega)))) b7
              have Va7 : CellV w7 (w.heap.size) ka xa sa ra := CellV.below (by first | (with_reducible assumption) | (with_reducible refine CellV.drew ?_; assumption) | (with_reducible exact cells3a) | (with_reducible exact cells3b) | (with_reducible exact cells3c) | (constructor <;> first | (simp; done) | (simp; omega))) b7
              obtain ⟨-, qa70, qa71, qa72, qa73⟩ := id Va7
              have Vb7 : CellV w7 (w.heap.size + 1) kb xb sb rb := CellV.below (by first | (with_reducible assumption) | (with_reducible refine CellV.drew ?_; assumption) | (with_reducible exact cells3a) | (with_reducible exact cells3b) | (with_reducible exact cells3c) | (constructor <;> first | (simp; done) | (simp; omega))) b7
              obtain ⟨-, qb70, qb71, qb72, qb73⟩ := id Vb7
              have Vc7 : CellV w7 (w.heap.size + 2) kc xc sc rc := CellV.below (by first | (with_reducible assumption) | (with_reducible refine CellV.drew ?_; assumption) | (with_reducible exact cells3a) | (with_reducible exact cells3b) | (with_reducible exact cells3c) | (constructor <;> first | (simp; done) | (simp; omega))) b7
              obtain ⟨-, qc70, qc71, qc72, qc73⟩ := id Vc7
              clear b7
              cases Gc
              · go_wp2
                go_ret
                exact ⟨by first | rfl | simp, by (repeat' (first | (with_reducible exact Below.refl _ _) | (with_reducible assumption) | (with_reducible refine Below.drew ?_) | (with_reducible refine below_drewN ?_ _) | (with_reducible refine Below.alloc ?_ ?_ _) | (with_reducible refine Below.setCell ?_ ?_ _) | (simp; done) | (simp; omega)))⟩
              · go_wp2_with fail
                refine (HAB.out _).mono ?_
                rintro e w8 ⟨rfl, b8⟩
                have c8 : Below w.heap.size w w8 := bl_chain (by (repeat' (first | (with_reducible exact Below.refl _ _) | (with_reducible assumption) | (with_reducible refine Below.drew ?_) | (with_reducible refine below_drewN ?_ _) | (with_reducible refine Below.alloc ?_ ?_ _) | (with_reducible refine Below.setCell ?_ ?_ _) | (simp; done) | (simp; omega)))) b8
                have Va8 : CellV w8 (w.heap.size) ka xa sa ra := CellV.below (by first | (with_reducible assumption) | (with_reducible refine CellV.drew ?_; assumption) | (with_reducible exact cells3a) | (with_reducible exact cells3b) | (with_reducible exact cells3c) | (constructor <;> first | (simp; done) | (simp; omega))) b8
                obtain ⟨-, qa80, qa81, qa82, qa83⟩ := id Va8
                have Vb8 : CellV w8 (w.heap.size + 1) kb xb sb rb := CellV.below (by first | (with_reducible assumption) | (with_reducible refine CellV.drew ?_; assumption) | (with_reducible exact cells3a) | (with_reducible exact cells3b) | (with_reducible exact cells3c) | (constructor <;> first | (simp; done) | (simp; omega))) b8
                obtain ⟨-, qb80, qb81, qb82, qb83⟩ := id Vb8
                have Vc8 : CellV w8 (w.heap.size + 2) kc xc sc rc := CellV.below (by first | (with_reducible assumption) | (with_reducible refine CellV.drew ?_; assumption) | (with_reducible exact cells3a) | (with_reducible exact cells3b) | (with_reducible exact cells3c) | (constructor <;> first | (simp; done) | (simp; omega))) b8
                obtain ⟨-, qc80, qc81, qc82, qc83⟩ := id Vc8
                clear b8
                cases SAB
                · go_wp2_with fail
                  refine (HAA.out _).mono ?_
                  rintro e w11 ⟨rfl, b11⟩
                  have c11 : Below w.heap.size w w11 := bl_chain (by (repeat' (first | (with_reducible exact Below.refl _ _) | (with_reducible assumption) | (with_reducible refine Below.drew ?_) | (with_reducible refine below_drewN ?_ _) | (with_reducible refine Below.alloc ?_ ?_ _) | (with_reducible refine Below.setCell ?_ ?_ _) | (simp; done) | (simp; omega)))) b11
                  have Va11 : CellV w11 (w.heap.size) ka xa sa ra := CellV.below (by first | (with_reducible assumption) | (with_reducible refine CellV.drew ?_; assumption) | (with_reducible exact cells3a) | (with_reducible exact cells3b) | (with_reducible exact cells3c) | (constructor <;> first | (simp; done) | (simp; omega))) b11
                  obtain ⟨-, qa110, qa111, qa112, qa113⟩ := id Va11
                  have Vb11 : CellV w11 (w.heap.size + 1) kb xb sb rb := CellV.below (by first | (with_reducible assumption) | (with_reducible refine CellV.drew ?_; assumption) | (with_reducible exact cells3a) | (with_reducible exact cells3b) | (with_reducible exact cells3c) | (constructor <;> first | (simp; done) | (simp; omega))) b11
                  obtain ⟨-, qb110, qb111, qb112, qb113⟩ := id Vb11
                  have Vc11 : CellV w11 (w.heap.size + 2) kc xc sc rc := CellV.below (by first | (with_reducible assumption) | (with_reducible refine CellV.drew ?_; assumption) | (with_reducible exact cells3a) | (with_reducible exact cells3b) | (with_reducible exact cells3c) | (constructor <;> first | (simp; done) | (simp; omega))) b11
                  obtain ⟨-, qc110, qc111, qc112, qc113⟩ := id Vc11
                  clear b11
                  go_wp2_with fail
                  refine (HC.out _).mono ?_
                  rintro e w12 ⟨rfl, b12⟩
                  have c12 : Below w.heap.size w w12 := bl_chain (by (repeat' (first | (with_reducible exact Below.refl _ _) | (with_reducible assumption) | (with_reducible refine Below.drew ?_) | (with_reducible refine below_drewN ?_ _) | (with_reducible refine Below.alloc ?_ ?_ _) | (with_reducible refine Below.setCell ?_ ?_ _) | (simp; done) | (simp; omega)))) b12
                  have Va12 : CellV w12 (w.heap.size) ka xa sa ra := CellV.below (by first | (with_reducible assumption) | (with_reducible refine CellV.drew ?_; assumption) | (with_reducible exact cells3a) | (with_reducible exact cells3b) | (with_reducible exact cells3c) | (constructor <;> first | (simp; done) | (simp; omega))) b12
                  obtain ⟨-, qa120, qa121, qa122, qa123⟩ := id Va12
                  have Vb12 : CellV w12 (w.heap.size + 1) kb xb sb rb := CellV.below (by first | (with_reducible assumption) | (with_reducible refine CellV.drew ?_; assumption) | (with_reducible exact cells3a) | (with_reducible exact cells3b) | (with_reducible exact cells3c) | (constructor <;> first | (simp; done) | (simp; omega))) b12
                  obtain ⟨-, qb120, qb121, qb122, qb123⟩ := id Vb12
                  have Vc12 : CellV w12 (w.heap.size + 2) kc xc sc rc := CellV.below (by first | (with_reducible assumption) | (with_reducible refine CellV.drew ?_; assumption) | (with_reducible exact cells3a) | (with_reducible exact cells3b) | (with_reducible exact cells3c) | (constructor <;> first | (simp; done) | (simp; omega))) b12
                  obtain ⟨-, qc120, qc121, qc122, qc123⟩ := id Vc12
                  clear b12
                  go_wp2
                  go_ret
                  exact ⟨by first | rfl | simp, by (repeat' (first | (with_reducible exact Below.refl _ _) | (with_reducible assumption) | (with_reducible refine Below.drew ?_) | (with_reducible refine below_drewN ?_ _) | (with_reducible refine Below.alloc ?_ ?_ _) | (with_reducible refine Below.setCell ?_ ?_ _) | (simp; done) | (simp; omega)))⟩
                · go_wp2_with fail
                  refine (HBC.out _).mono ?_
                  rintro e w9 ⟨rfl, b9⟩
                  have c9 : Below w.heap.size w w9 := bl_chain (by (repeat' (first | (with_reducible exact Below.refl _ _) | (with_reducible assumption) | (with_reducible refine Below.drew ?_) | (with_reducible refine below_drewN ?_ _) | (with_reducible refine Below.alloc ?_ ?_ _) | (with_reducible refine Below.setCell ?_ ?_ _) | (simp; done) | (simp; omega)))) b9
                  have Va9 : CellV w9 (w.heap.size) ka xa sa ra := CellV.below (by first | (with_reducible assumption) | (with_reducible refine CellV.drew ?_; assumption) | (with_reducible exact cells3a) | (with_reducible exact cells3b) | (with_reducible exact cells3c) | (constructor <;> first | (simp; done) | (simp; omega))) b9
                  obtain ⟨-, qa90, qa91, qa92, qa93⟩ := id Va9
                  have Vb9 : CellV w9 (w.heap.size + 1) kb xb sb rb := CellV.below (by first | (with_reducible assumption) | (with_reducible refine CellV.drew ?_; assumption) | (with_reducible exact cells3a) | (with_reducible exact cells3b) | (with_reducible exact cells3c) | (constructor <;> first | (simp; done) | (simp; omega))) b9
                  obtain ⟨-, qb90, qb91, qb92, qb93⟩ := id Vb9
                  have Vc9 : CellV w9 (w.heap.size + 2) kc xc sc rc := CellV.below (by first | (with_reducible assumption) | (with_reducible refine CellV.drew ?_; assumption) | (with_reducible exact cells3a) | (with_reducible exact cells3b) | (with_reducible exact cells3c) | (constructor <;> first | (simp; done) | (simp; omega))) b9
                  obtain ⟨-, qc90, qc91, qc92, qc93⟩ := id Vc9
                  clear b9
                  cases SBC
                  · go_wp2_with fail
                    refine (HAA.out _).mono ?_
                    rintro e w11 ⟨rfl, b11⟩
                    have c11 : Below w.heap.size w w11 := bl_chain (by (repeat' (first | (with_reducible exact Below.refl _ _) | (with_reducible assumption) | (with_reducible refine Below.drew ?_) | (with_reducible refine below_drewN ?_ _) | (with_reducible refine Below.alloc ?_ ?_ _) | (with_reducible refine Below.setCell ?_ ?_ _) | (simp; done) | (simp; omega)))) b11
                    have Va11 : CellV w11 (w.heap.size) ka xa sa ra := CellV.below (by first | (with_reducible assumption) | (with_reducible refine CellV.drew ?_; assumption) | (with_reducible exact cells3a) | (with_reducible exact cells3b) | (with_reducible exact cells3c) | (constructor <;> first | (simp; done) | (simp; omega))) b11
                    obtain ⟨-, qa110, qa111, qa112, qa113⟩ := id Va11
                    have Vb11 : CellV w11 (w.heap.size + 1) kb xb sb rb := CellV.below (by first | (with_reducible assumption) | (with_reducible refine CellV.drew ?_; assumption) | (with_reducible exact cells3a) | (with_reducible exact cells3b) | (with_reducible exact cells3c) | (constructor <;> first | (simp; done) | (simp; omega))) b11
                    obtain ⟨-, qb110, qb111, qb112, qb113⟩ := id Vb11
                    have Vc11 : CellV w11 (w.heap.size + 2) kc xc sc rc := CellV.below (by first | (with_reducible assumption) | (with_reducible refine CellV.drew ?_; assumption) | (with_reducible exact cells3a) | (with_reducible exact cells3b) | (with_reducible exact cells3c) | (constructor <;> first | (simp; done) | (simp; omega))) b11
                    obtain ⟨-, qc110, qc111, qc112, qc113⟩ := id Vc11
                    clear b11
                    go_wp2_with fail
                    refine (HC.out _).mono ?_
                    rintro e w12 ⟨rfl, b12⟩
                    have c12 : Below w.heap.size w w12 := bl_chain (by (repeat' (first | (with_reducible exact Below.refl _ _) | (with_reducible assumption) | (with_reducible refine Below.drew ?_) | (with_reducible refine below_drewN ?_ _) | (with_reducible refine Below.alloc ?_ ?_ _) | (with_reducible refine Below.setCell ?_ ?_ _) | (simp; done) | (simp; omega)))) b12
                    have Va12 : CellV w12 (w.heap.size) ka xa sa ra := CellV.below (by first | (with_reducible assumption) | (with_reducible refine CellV.drew ?_; assumption) | (with_reducible exact cells3a) | (with_reducible exact cells3b) | (with_reducible exact cells3c) | (constructor <;> first | (simp; done) | (simp; omega))) b12
                    obtain ⟨-, qa120, qa121, qa122, qa123⟩ := id Va12
                    have Vb12 : CellV w12 (w.heap.size + 1) kb xb sb rb := CellV.below (by first | (with_reducible assumption) | (with_reducible refine CellV.drew ?_; assumption) | (with_reducible exact cells3a) | (with_reducible exact cells3b) | (with_reducible exact cells3c) | (constructor <;> first | (simp; done) | (simp; omega))) b12
                    obtain ⟨-, qb120, qb121, qb122, qb123⟩ := id Vb12
                    have Vc12 : CellV w12 (w.heap.size + 2) kc xc sc rc := CellV.below (by first | (with_reducible assumption) | (with_reducible refine CellV.drew ?_; assumption) | (with_reducible exact cells3a) | (with_reducible exact cells3b) | (with_reducible exact cells3c) | (constructor <;> first | (simp; done) | (simp; omega))) b12
                    obtain ⟨-, qc120, qc121, qc122, qc123⟩ := id Vc12
                    clear b12
                    go_wp2
                    go_ret
                    exact ⟨by first | rfl | simp, by (repeat' (first | (with_reducible exact Below.refl _ _) | (with_reducible assumption) | (with_reducible refine Below.drew ?_) | (with_reducible refine below_drewN ?_ _) | (with_reducible refine Below.alloc ?_ ?_ _) | (with_reducible refine Below.setCell ?_ ?_ _) | (simp; done) | (simp; omega)))⟩
                  · have hac := HTR.out (by first | rfl | trivial) (by first | rfl | trivial)
                    subst hac
                    go_wp2_with fail
                    refine (HAC.out _).mono ?_
                    rintro e w10 ⟨rfl, b10⟩
                    have c10 : Below w.heap.size w w10 := bl_chain (by (repeat' (first | (with_reducible exact Below.refl _ _) | (with_reducible assumption) | (with_reducible refine Below.drew ?_) | (with_reducible refine below_drewN ?_ _) | (with_reducible refine Below.alloc ?_ ?_ _) | (with_reducible refine Below.setCell ?_ ?_ _) | (simp; done) | (simp; omega)))) b10
                    have Va10 : CellV w10 (w.heap.size) ka xa sa ra := CellV.below (by first | (with_reducible assumption) | (with_reducible refine CellV.drew ?_; assumption) | (with_reducible exact cells3a) | (with_reducible exact cells3b) | (with_reducible exact cells3c) | (constructor <;> first | (simp; done) | (simp; omega))) b10
                    obtain ⟨-, qa100, qa101, qa102, qa103⟩ := id Va10
                    have Vb10 : CellV w10 (w.heap.size + 1) kb xb sb rb := CellV.below (by first | (with_reducible assumption) | (with_reducible refine CellV.drew ?_; assumption) | (with_reducible exact cells3a) | (with_reducible exact cells3b) | (with_reducible exact cells3c) | (constructor <;> first | (simp; done) | (simp; omega))) b10
                    obtain ⟨-, qb100, qb101, qb102, qb103⟩ := id Vb10
                    have Vc10 : CellV w10 (w.heap.size + 2) kc xc sc rc := CellV.below (by first | (with_reducible assumption) | (with_reducible refine CellV.drew ?_; assumption) | (with_reducible exact cells3a) | (with_reducible exact cells3b) | (with_reducible exact cells3c) | (constructor <;> first | (simp; done) | (simp; omega))) b10
                    obtain ⟨-, qc100, qc101, qc102, qc103⟩ := id Vc10
                    clear b10
                    go_wp2_with fail
                    refine (HAA.out _).mono ?_
                    rintro e w11 ⟨rfl, b11⟩
                    have c11 : Below w.heap.size w w11 := bl_chain (by (repeat' (first | (with_reducible exact Below.refl _ _) | (with_reducible assumption) | (with_reducible refine Below.drew ?_) | (with_reducible refine below_drewN ?_ _) | (with_reducible refine Below.alloc ?_ ?_ _) | (with_reducible refine Below.setCell ?_ ?_ _) | (simp; done) | (simp; omega)))) b11
                    have Va11 : CellV w11 (w.heap.size) ka xa sa ra := CellV.below (by first | (with_reducible assumption) | (with_reducible refine CellV.drew ?_; assumption) | (with_reducible exact cells3a) | (with_reducible exact cells3b) | (with_reducible exact cells3c) | (constructor <;> first | (simp; done) | (simp; omega))) b11
                    obtain ⟨-, qa110, qa111, qa112, qa113⟩ := id Va11
                    have Vb11 : CellV w11 (w.heap.size + 1) kb xb sb rb := CellV.below (by first | (with_reducible assumption) | (with_reducible refine CellV.drew ?_; assumption) | (with_reducible exact cells3a) | (with_reducible exact cells3b) | (with_reducible exact cells3c) | (constructor <;> first | (simp; done) | (simp; omega))) b11
                    obtain ⟨-, qb110, qb111, qb112, qb113⟩ := id Vb11
                    have Vc11 : CellV w11 (w.heap.size + 2) kc xc sc rc := CellV.below (by first | (with_reducible assumption) | (with_reducible refine CellV.drew ?_; assumption) | (with_reducible exact cells3a) | (with_reducible exact cells3b) | (with_reducible exact cells3c) | (constructor <;> first | (simp; done) | (simp; omega))) b11
                    obtain ⟨-, qc110, qc111, qc112, qc113⟩ := id Vc11
                    clear b11
                    go_wp2_with fail
                    refine (HC.out _).mono ?_
                    rintro e w12 ⟨rfl, b12⟩
                    have c12 : Below w.heap.size w w12 := bl_chain (by (repeat' (first | (with_reducible exact Below.refl _ _) | (with_reducible assumption) | (with_reducible refine Below.drew ?_) | (with_reducible refine below_drewN ?_ _) | (with_reducible refine Below.alloc ?_ ?_ _) | (with_reducible refine Below.setCell ?_ ?_ _) | (simp; done) | (simp; omega)))) b12
                    have Va12 : CellV w12 (w.heap.size) ka xa sa ra := CellV.below (by first | (with_reducible assumption) | (with_reducible refine CellV.drew ?_; assumption) | (with_reducible exact cells3a) | (with_reducible exact cells3b) | (with_reducible exact cells3c) | (constructor <;> first | (simp; done) | (simp; omega))) b12
                    obtain ⟨-, qa120, qa121, qa122, qa123⟩ := id Va12
                    have Vb12 : CellV w12 (w.heap.size + 1) kb xb sb rb := CellV.below (by first | (with_reducible assumption) | (with_reducible refine CellV.drew ?_; assumption) | (with_reducible exact cells3a) | (with_reducible exact cells3b) | (with_reducible exact cells3c) | (constructor <;> first | (simp; done) | (simp; omega))) b12
                    obtain ⟨-, qb120, qb121, qb122, qb123⟩ := id Vb12
                    have Vc12 : CellV w12 (w.heap.size + 2) kc xc sc rc := CellV.below (by first | (with_reducible assumption) | (with_reducible refine CellV.drew ?_; assumption) | (with_reducible exact cells3a) | (with_reducible exact cells3b) | (with_reducible exact cells3c) | (constructor <;> first | (simp; done) | (simp; omega))) b12
                    obtain ⟨-, qc120, qc121, qc122, qc123⟩ := id Vc12
                    clear b12
                    go_wp2
                    go_ret
                    exact ⟨by first | rfl | simp, by (repeat' (first | (with_reducible exact Below.refl _ _) | (with_reducible assumption) | (with_reducible refine Below.drew ?_) | (with_reducible refine below_drewN ?_ _) | (with_reducible refine Below.alloc ?_ ?_ _) | (with_reducible refine Below.setCell ?_ ?_ _) | (simp; done) | (simp; omega)))⟩
set_option maxHeartbeats 4000000 in
set_option maxRecDepth 100000 in
theorem equals_2 (ka : Int) (xa : Nat) (sa : ByteArray) (ra : Int) (kb : Int) (xb : Nat) (sb : ByteArray) (rb : Int) (kc : Int) (xc : Nat) (sc : ByteArray) (rc : Int) (w : World) (ha : xa < 18446744073709551616) (za : (sa.size : Int) ≤ 140737488351232) (hb : xb < 18446744073709551616) (zb : (sb.size : Int) ≤ 140737488351232) (hc : xc < 18446744073709551616) (zc : (sc.size : Int) ≤ 140737488351232) (hl : Hid (LaidN w)) :
    Calls Tryz.prog 6 #[.agg #[.int .i64 ka, .float .f64 xa, .string sa, .int .i64 ra], .agg #[.int .i64 kb, .float .f64 xb, .string sb, .int .i64 rb], .agg #[.int .i64 kc, .float .f64 xc, .string sc, .int .i64 rc], .int .i64 2] w fun e w' => e = .returned (.bool true) ∧ Below w.heap.size w w' := by
  have HW := Hid.mk' (fun W (hW : Hid (LaidN W)) => awake18 W hW)
  have HFa := Hid.mk' (fun W => few18 ka xa sa ra W)
  have HGa := Hid.mk' (fun W => rvgood ka xa sa ra W ha za)
  obtain ⟨Fa, hFa⟩ : ∃ F, decide ((sa.size : Int) ≤ 2000) = F := ⟨_, rfl⟩
  obtain ⟨Ga, hGa⟩ : ∃ G, goodV ka xa sa ra = G := ⟨_, rfl⟩
  rw [hFa] at HFa
  rw [hGa] at HGa
  clear hFa hGa
  have HFb := Hid.mk' (fun W => few18 kb xb sb rb W)
  have HGb := Hid.mk' (fun W => rvgood kb xb sb rb W hb zb)
  obtain ⟨Fb, hFb⟩ : ∃ F, decide ((sb.size : Int) ≤ 2000) = F := ⟨_, rfl⟩
  obtain ⟨Gb, hGb⟩ : ∃ G, goodV kb xb sb rb = G := ⟨_, rfl⟩
  rw [hFb] at HFb
  rw [hGb] at HGb
  clear hFb hGb
  have HFc := Hid.mk' (fun W => few18 kc xc sc rc W)
  have HGc := Hid.mk' (fun W => rvgood kc xc sc rc W hc zc)
  obtain ⟨Fc, hFc⟩ : ∃ F, decide ((sc.size : Int) ≤ 2000) = F := ⟨_, rfl⟩
  obtain ⟨Gc, hGc⟩ : ∃ G, goodV kc xc sc rc = G := ⟨_, rfl⟩
  rw [hFc] at HFc
  rw [hGc] at HGc
  clear hFc hGc
  have HAB := Hid.mk' (fun W => vsame ka xa sa ra kb xb sb rb 2 W ha hb za zb)
  have HBC := Hid.mk' (fun W => vsame kb xb sb rb kc xc sc rc 2 W hb hc zb zc)
  have HAC := Hid.mk' (fun W => vsame ka xa sa ra kc xc sc rc 2 W ha hc za zc)
  have HAA := Hid.mk' (fun W => vsame ka xa sa ra ka xa sa ra 2 W ha ha za za)
  have HC := Hid.mk' (fun W => rcompare_wide sa sa W za za)
  rw [(sh_cmp_zero sa sa).2 rfl] at HC
  rw [sameV_self ka xa sa ra 2 (.inr (.inr rfl))] at HAA
  have HTR : Hid (sameV ka xa sa ra kb xb sb rb 2 = true → sameV kb xb sb rb kc xc sc rc 2 = true → sameV ka xa sa ra kc xc sc rc 2 = true) := Hid.mk' (sameV_trans ka xa sa ra kb xb sb rb kc xc sc rc 2 (.inr (.inr rfl)))
  obtain ⟨SAB, hs1⟩ : ∃ S, sameV ka xa sa ra kb xb sb rb 2 = S := ⟨_, rfl⟩
  obtain ⟨SBC, hs2⟩ : ∃ S, sameV kb xb sb rb kc xc sc rc 2 = S := ⟨_, rfl⟩
  obtain ⟨SAC, hs3⟩ : ∃ S, sameV ka xa sa ra kc xc sc rc 2 = S := ⟨_, rfl⟩
  rw [hs1] at HAB HTR
  rw [hs2] at HBC HTR
  rw [hs3] at HAC HTR
  have k3 := kd_three ka
  have nx := isnan_eq xa ha
  obtain ⟨K, hK⟩ : ∃ K, decide (kd ka = 3) = K := ⟨_, rfl⟩
  obtain ⟨N, hN⟩ : ∃ N, decide (nan xa) = N := ⟨_, rfl⟩
  rw [hK] at k3 HAA
  rw [hN] at nx HAA
  clear hs1 hs2 hs3 hK hN ha za hb zb hc zc
  cases K
  all_goals cases N
  all_goals simp only [Bool.false_and, Bool.and_false, Bool.true_and, Bool.not_false, decide_true, decide_false, Bool.not_true, Bool.and_true, show decide ((2 : Int) = 0) = false from rfl] at HAA
  all_goals
    go_enter Tryz.func6, Tryz.ntmps6
    go_wp2_with fail
    refine (HW.out _ (Hid.mk' (hl.out.below (by (repeat' (first | (with_reducible exact Below.refl _ _) | (with_reducible assumption) | (with_reducible refine Below.drew ?_) | (with_reducible refine below_drewN ?_ _) | (with_reducible refine Below.alloc ?_ ?_ _) | (with_reducible refine Below.setCell ?_ ?_ _) | (simp; done) | (simp; omega))))))).mono ?_
    rintro e w1 ⟨rfl, b1⟩
    have c1 : Below w.heap.size w w1 := bl_chain (by (repeat' (first | (with_reducible exact Below.refl _ _) | (with_reducible assumption) | (with_reducible refine Below.drew ?_) | (with_reducible refine below_drewN ?_ _) | (with_reducible refine Below.alloc ?_ ?_ _) | (with_reducible refine Below.setCell ?_ ?_ _) | (simp; done) | (simp; omega)))) b1
    have Va1 : CellV w1 (w.heap.size) ka xa sa ra := CellV.below (by first | (with_reducible assumption) | (with_reducible refine CellV.drew ?_; assumption) | (with_reducible exact cells3a) | (with_reducible exact cells3b) | (with_reducible exact cells3c) | (constructor <;> first | (simp; done) | (simp; omega))) b1
    obtain ⟨-, qa10, qa11, qa12, qa13⟩ := id Va1
    have Vb1 : CellV w1 (w.heap.size + 1) kb xb sb rb := CellV.below (by first | (with_reducible assumption) | (with_reducible refine CellV.drew ?_; assumption) | (with_reducible exact cells3a) | (with_reducible exact cells3b) | (with_reducible exact cells3c) | (constructor <;> first | (simp; done) | (simp; omega))) b1
    obtain ⟨-, qb10, qb11, qb12, qb13⟩ := id Vb1
    have Vc1 : CellV w1 (w.heap.size + 2) kc xc sc rc := CellV.below (by first | (with_reducible assumption) | (with_reducible refine CellV.drew ?_; assumption) | (with_reducible exact cells3a) | (with_reducible exact cells3b) | (with_reducible exact cells3c) | (constructor <;> first | (simp; done) | (simp; omega))) b1
    obtain ⟨-, qc10, qc11, qc12, qc13⟩ := id Vc1
    clear b1
    go_wp2_with fail
    refine (HFa.out _).mono ?_
    rintro e w2 ⟨rfl, b2⟩
    have c2 : Below w.heap.size w w2 := bl_chain (by (repeat' (first | (with_reducible exact Below.refl _ _) | (with_reducible assumption) | (with_reducible refine Below.drew ?_) | (with_reducible refine below_drewN ?_ _) | (with_reducible refine Below.alloc ?_ ?_ _) | (with_reducible refine Below.setCell ?_ ?_ _) | (simp; done) | (simp; omega)))) b2
    have Va2 : CellV w2 (w.heap.size) ka xa sa ra := CellV.below (by first | (with_reducible assumption) | (with_reducible refine CellV.drew ?_; assumption) | (with_reducible exact cells3a) | (with_reducible exact cells3b) | (with_reducible exact cells3c) | (constructor <;> first | (simp; done) | (simp; omega))) b2
    obtain ⟨-, qa20, qa21, qa22, qa23⟩ := id Va2
    have Vb2 : CellV w2 (w.heap.size + 1) kb xb sb rb := CellV.below (by first | (with_reducible assumption) | (with_reducible refine CellV.drew ?_; assumption) | (with_reducible exact cells3a) | (with_reducible exact cells3b) | (with_reducible exact cells3c) | (constructor <;> first | (simp; done) | (simp; omega))) b2
    obtain ⟨-, qb20, qb21, qb22, qb23⟩ := id Vb2
    have Vc2 : CellV w2 (w.heap.size + 2) kc xc sc rc := CellV.below (by first | (with_reducible assumption) | (with_reducible refine CellV.drew ?_; assumption) | (with_reducible exact cells3a) | (with_reducible exact cells3b) | (with_reducible exact cells3c) | (constructor <;> first | (simp; done) | (simp; omega))) b2
    obtain ⟨-, qc20, qc21, qc22, qc23⟩ := id Vc2
    clear b2
    cases Fa
    · go_wp2
      go_ret
      exact ⟨by first | rfl | simp, by (repeat' (first | (with_reducible exact Below.refl _ _) | (with_reducible assumption) | (with_reducible refine Below.drew ?_) | (with_reducible refine below_drewN ?_ _) | (with_reducible refine Below.alloc ?_ ?_ _) | (with_reducible refine Below.setCell ?_ ?_ _) | (simp; done) | (simp; omega)))⟩
    · go_wp2_with fail
      refine (HFb.out _).mono ?_
      rintro e w3 ⟨rfl, b3⟩
      have c3 : Below w.heap.size w w3 := bl_chain (by (repeat' (first | (with_reducible exact Below.refl _ _) | (with_reducible assumption) | (with_reducible refine Below.drew ?_) | (with_reducible refine below_drewN ?_ _) | (with_reducible refine Below.alloc ?_ ?_ _) | (with_reducible refine Below.setCell ?_ ?_ _) | (simp; done) | (simp; omega)))) b3
      have Va3 : CellV w3 (w.heap.size) ka xa sa ra := CellV.below (by first | (with_reducible assumption) | (with_reducible refine CellV.drew ?_; assumption) | (with_reducible exact cells3a) | (with_reducible exact cells3b) | (with_reducible exact cells3c) | (constructor <;> first | (simp; done) | (simp; omega))) b3
      obtain ⟨-, qa30, qa31, qa32, qa33⟩ := id Va3
      have Vb3 : CellV w3 (w.heap.size + 1) kb xb sb rb := CellV.below (by first | (with_reducible assumption) | (with_reducible refine CellV.drew ?_; assumption) | (with_reducible exact cells3a) | (with_reducible exact cells3b) | (with_reducible exact cells3c) | (constructor <;> first | (simp; done) | (simp; omega))) b3
      obtain ⟨-, qb30, qb31, qb32, qb33⟩ := id Vb3
      have Vc3 : CellV w3 (w.heap.size + 2) kc xc sc rc := CellV.below (by first | (with_reducible assumption) | (with_reducible refine CellV.drew ?_; assumption) | (with_reducible exact cells3a) | (with_reducible exact cells3b) | (with_reducible exact cells3c) | (constructor <;> first | (simp; done) | (simp; omega))) b3
      obtain ⟨-, qc30, qc31, qc32, qc33⟩ := id Vc3
      clear b3
      cases Fb
      · go_wp2
        go_ret
        exact ⟨by first | rfl | simp, by (repeat' (first | (with_reducible exact Below.refl _ _) | (with_reducible assumption) | (with_reducible refine Below.drew ?_) | (with_reducible refine below_drewN ?_ _) | (with_reducible refine Below.alloc ?_ ?_ _) | (with_reducible refine Below.setCell ?_ ?_ _) | (simp; done) | (simp; omega)))⟩
      · go_wp2_with fail
        refine (HFc.out _).mono ?_
        rintro e w4 ⟨rfl, b4⟩
        have c4 : Below w.heap.size w w4 := bl_chain (by (repeat' (first | (with_reducible exact Below.refl _ _) | (with_reducible assumption) | (with_reducible refine Below.drew ?_) | (with_reducible refine below_drewN ?_ _) | (with_reducible refine Below.alloc ?_ ?_ _) | (with_reducible refine Below.setCell ?_ ?_ _) | (simp; done) | (simp; omega)))) b4
        have Va4 : CellV w4 (w.heap.size) ka xa sa ra := CellV.below (by first | (with_reducible assumption) | (with_reducible refine CellV.drew ?_; assumption) | (with_reducible exact cells3a) | (with_reducible exact cells3b) | (with_reducible exact cells3c) | (constructor <;> first | (simp; done) | (simp; omega))) b4
        obtain ⟨-, qa40, qa41, qa42, qa43⟩ := id Va4
        have Vb4 : CellV w4 (w.heap.size + 1) kb xb sb rb := CellV.below (by first | (with_reducible assumption) | (with_reducible refine CellV.drew ?_; assumption) | (with_reducible exact cells3a) | (with_reducible exact cells3b) | (with_reducible exact cells3c) | (constructor <;> first | (simp; done) | (simp; omega))) b4
        obtain ⟨-, qb40, qb41, qb42, qb43⟩ := id Vb4
        have Vc4 : CellV w4 (w.heap.size + 2) kc xc sc rc := CellV.below (by first | (with_reducible assumption) | (with_reducible refine CellV.drew ?_; assumption) | (with_reducible exact cells3a) | (with_reducible exact cells3b) | (with_reducible exact cells3c) | (constructor <;> first | (simp; done) | (simp; omega))) b4
        obtain ⟨-, qc40, qc41, qc42, qc43⟩ := id Vc4
        clear b4
        cases Fc
        · go_wp2
          go_ret
          exact ⟨by first | rfl | simp, by (repeat' (first | (with_reducible exact Below.refl _ _) | (with_reducible assumption) | (with_reducible refine Below.drew ?_) | (with_reducible refine below_drewN ?_ _) | (with_reducible refine Below.alloc ?_ ?_ _) | (with_reducible refine Below.setCell ?_ ?_ _) | (simp; done) | (simp; omega)))⟩
        · go_wp2_with fail
          refine (HGa.out _).mono ?_
          rintro e w5 ⟨rfl, b5⟩
          have c5 : Below w.heap.size w w5 := bl_chain (by (repeat' (first | (with_reducible exact Below.refl _ _) | (with_reducible assumption) | (with_reducible refine Below.drew ?_) | (with_reducible refine below_drewN ?_ _) | (with_reducible refine Below.alloc ?_ ?_ _) | (with_reducible refine Below.setCell ?_ ?_ _) | (simp; done) | (simp; omega)))) b5
          have Va5 : CellV w5 (w.heap.size) ka xa sa ra := CellV.below (by first | (with_reducible assumption) | (with_reducible refine CellV.drew ?_; assumption) | (with_reducible exact cells3a) | (with_reducible exact cells3b) | (with_reducible exact cells3c) | (constructor <;> first | (simp; done) | (simp; omega))) b5
          obtain ⟨-, qa50, qa51, qa52, qa53⟩ := id Va5
          have Vb5 : CellV w5 (w.heap.size + 1) kb xb sb rb := CellV.below (by first | (with_reducible assumption) | (with_reducible refine CellV.drew ?_; assumption) | (with_reducible exact cells3a) | (with_reducible exact cells3b) | (with_reducible exact cells3c) | (constructor <;> first | (simp; done) | (simp; omega))) b5
          obtain ⟨-, qb50, qb51, qb52, qb53⟩ := id Vb5
          have Vc5 : CellV w5 (w.heap.size + 2) kc xc sc rc := CellV.below (by first | (with_reducible assumption) | (with_reducible refine CellV.drew ?_; assumption) | (with_reducible exact cells3a) | (with_reducible exact cells3b) | (with_reducible exact cells3c) | (constructor <;> first | (simp; done) | (simp; omega))) b5
          obtain ⟨-, qc50, qc51, qc52, qc53⟩ := id Vc5
          clear b5
          cases Ga
          · go_wp2
            go_ret
            exact ⟨by first | rfl | simp, by (repeat' (first | (with_reducible exact Below.refl _ _) | (with_reducible assumption) | (with_reducible refine Below.drew ?_) | (with_reducible refine below_drewN ?_ _) | (with_reducible refine Below.alloc ?_ ?_ _) | (with_reducible refine Below.setCell ?_ ?_ _) | (simp; done) | (simp; omega)))⟩
          · go_wp2_with fail
            refine (HGb.out _).mono ?_
            rintro e w6 ⟨rfl, b6⟩
            have c6 : Below w.heap.size w w6 := bl_chain (by (repeat' (first | (with_reducible exact Below.refl _ _) | (with_reducible assumption) | (with_reducible refine Below.drew ?_) | (with_reducible refine below_drewN ?_ _) | (with_reducible refine Below.alloc ?_ ?_ _) | (with_reducible refine Below.setCell ?_ ?_ _) | (simp; done) | (simp; omega)))) b6
            have Va6 : CellV w6 (w.heap.size) ka xa sa ra := CellV.below (by first | (with_reducible assumption) | (with_reducible refine CellV.drew ?_; assumption) | (with_reducible exact cells3a) | (with_reducible exact cells3b) | (with_reducible exact cells3c) | (constructor <;> first | (simp; done) | (simp; omega))) b6
            obtain ⟨-, qa60, qa61, qa62, qa63⟩ := id Va6
            have Vb6 : CellV w6 (w.heap.size + 1) kb xb sb rb := CellV.below (by first | (with_reducible assumption) | (with_reducible refine CellV.drew ?_; assumption) | (with_reducible exact cells3a) | (with_reducible exact cells3b) | (with_reducible exact cells3c) | (constructor <;> first | (simp; done) | (simp; omega))) b6
            obtain ⟨-, qb60, qb61, qb62, qb63⟩ := id Vb6
            have Vc6 : CellV w6 (w.heap.size + 2) kc xc sc rc := CellV.below (by first | (with_reducible assumption) | (with_reducible refine CellV.drew ?_; assumption) | (with_reducible exact cells3a) | (with_reducible exact cells3b) | (with_reducible exact cells3c) | (constructor <;> first | (simp; done) | (simp; omega))) b6
            obtain ⟨-, qc60, qc61, qc62, qc63⟩ := id Vc6
            clear b6
            cases Gb
            · go_wp2
              go_ret
              exact ⟨by first | rfl | simp, by (repeat' (first | (with_reducible exact Below.refl _ _) | (with_reducible assumption) | (with_reducible refine Below.drew ?_) | (with_reducible refine below_drewN ?_ _) | (with_reducible refine Below.alloc ?_ ?_ _) | (with_reducible refine Below.setCell ?_ ?_ _) | (simp; done) | (simp; omega)))⟩
            · go_wp2_with fail
              refine (HGc.out _).mono ?_
              rintro e w7 ⟨rfl, b7⟩
              have c7 : Below w.heap.size w w7 := bl_chain (by (repeat' (first | (with_reducible exact Below.refl _ _) | (with_reducible assumption) | (with_reducible refine Below.drew ?_) | (with_reducible refine below_drewN ?_ _) | (with_reducible refine Below.alloc ?_ ?_ _) | (with_reducible refine Below.setCell ?_ ?_ _) | (simp; done) | (simp; omega)))) b7
              have Va7 : CellV w7 (w.heap.size) ka xa sa ra := CellV.below (by first | (with_reducible assumption) | (with_reducible refine CellV.drew ?_; assumption) | (with_reducible exact cells3a) | (with_reducible exact cells3b) | (with_reducible exact cells3c) | (constructor <;> first | (simp; done) | (simp; omega))) b7
              obtain ⟨-, qa70, qa71, qa72, qa73⟩ := id Va7
              have Vb7 : CellV w7 (w.heap.size + 1) kb xb sb rb := CellV.below (by first | (with_reducible assumption) | (with_reducible refine CellV.drew ?_; assumption) | (with_reducible exact cells3a) | (with_reducible exact cells3b) | (with_reducible exact cells3c) | (constructor <;> first | (simp; done) | (simp; omega))) b7
              obtain ⟨-, qb70, qb71, qb72, qb73⟩ := id Vb7
              have Vc7 : CellV w7 (w.heap.size + 2) kc xc sc rc := CellV.below (by first | (with_reducible assumption) | (with_reducible refine CellV.drew ?_; assumption) | (with_reducible exact cells3a) | (with_reducible exact cells3b) | (with_reducible exact cells3c) | (constructor <;> first | (simp; done) | (simp; omega))) b7
              obtain ⟨-, qc70, qc71, qc72, qc73⟩ := id Vc7
              clear b7
              cases Gc
              · go_wp2
                go_ret
                exact ⟨by first | rfl | simp, by (repeat' (first | (with_reducible exact Below.refl _ _) | (with_reducible assumption) | (with_reducible refine Below.drew ?_) | (with_reducible refine below_drewN ?_ _) | (with_reducible refine Below.alloc ?_ ?_ _) | (with_reducible refine Below.setCell ?_ ?_ _) | (simp; done) | (simp; omega)))⟩
              · go_wp2_with fail
                refine (HAB.out _).mono ?_
                rintro e w8 ⟨rfl, b8⟩
                have c8 : Below w.heap.size w w8 := bl_chain (by (repeat' (first | (with_reducible exact Below.refl _ _) | (with_reducible assumption) | (with_reducible refine Below.drew ?_) | (with_reducible refine below_drewN ?_ _) | (with_reducible refine Below.alloc ?_ ?_ _) | (with_reducible refine Below.setCell ?_ ?_ _) | (simp; done) | (simp; omega)))) b8
                have Va8 : CellV w8 (w.heap.size) ka xa sa ra := CellV.below (by first | (with_reducible assumption) | (with_reducible refine CellV.drew ?_; assumption) | (with_reducible exact cells3a) | (with_reducible exact cells3b) | (with_reducible exact cells3c) | (constructor <;> first | (simp; done) | (simp; omega))) b8
                obtain ⟨-, qa80, qa81, qa82, qa83⟩ := id Va8
                have Vb8 : CellV w8 (w.heap.size + 1) kb xb sb rb := CellV.below (by first | (with_reducible assumption) | (with_reducible refine CellV.drew ?_; assumption) | (with_reducible exact cells3a) | (with_reducible exact cells3b) | (with_reducible exact cells3c) | (constructor <;> first | (simp; done) | (simp; omega))) b8
                obtain ⟨-, qb80, qb81, qb82, qb83⟩ := id Vb8
                have Vc8 : CellV w8 (w.heap.size + 2) kc xc sc rc := CellV.below (by first | (with_reducible assumption) | (with_reducible refine CellV.drew ?_; assumption) | (with_reducible exact cells3a) | (with_reducible exact cells3b) | (with_reducible exact cells3c) | (constructor <;> first | (simp; done) | (simp; omega))) b8
                obtain ⟨-, qc80, qc81, qc82, qc83⟩ := id Vc8
                clear b8
                cases SAB
                · go_wp2_with fail
                  refine (HAA.out _).mono ?_
                  rintro e w11 ⟨rfl, b11⟩
                  have c11 : Below w.heap.size w w11 := bl_chain (by (repeat' (first | (with_reducible exact Below.refl _ _) | (with_reducible assumption) | (with_reducible refine Below.drew ?_) | (with_reducible refine below_drewN ?_ _) | (with_reducible refine Below.alloc ?_ ?_ _) | (with_reducible refine Below.setCell ?_ ?_ _) | (simp; done) | (simp; omega)))) b11
                  have Va11 : CellV w11 (w.heap.size) ka xa sa ra := CellV.below (by first | (with_reducible assumption) | (with_reducible refine CellV.drew ?_; assumption) | (with_reducible exact cells3a) | (with_reducible exact cells3b) | (with_reducible exact cells3c) | (constructor <;> first | (simp; done) | (simp; omega))) b11
                  obtain ⟨-, qa110, qa111, qa112, qa113⟩ := id Va11
                  have Vb11 : CellV w11 (w.heap.size + 1) kb xb sb rb := CellV.below (by first | (with_reducible assumption) | (with_reducible refine CellV.drew ?_; assumption) | (with_reducible exact cells3a) | (with_reducible exact cells3b) | (with_reducible exact cells3c) | (constructor <;> first | (simp; done) | (simp; omega))) b11
                  obtain ⟨-, qb110, qb111, qb112, qb113⟩ := id Vb11
                  have Vc11 : CellV w11 (w.heap.size + 2) kc xc sc rc := CellV.below (by first | (with_reducible assumption) | (with_reducible refine CellV.drew ?_; assumption) | (with_reducible exact cells3a) | (with_reducible exact cells3b) | (with_reducible exact cells3c) | (constructor <;> first | (simp; done) | (simp; omega))) b11
                  obtain ⟨-, qc110, qc111, qc112, qc113⟩ := id Vc11
                  clear b11
                  go_wp2_with fail
                  refine (HC.out _).mono ?_
                  rintro e w12 ⟨rfl, b12⟩
                  have c12 : Below w.heap.size w w12 := bl_chain (by (repeat' (first | (with_reducible exact Below.refl _ _) | (with_reducible assumption) | (with_reducible refine Below.drew ?_) | (with_reducible refine below_drewN ?_ _) | (with_reducible refine Below.alloc ?_ ?_ _) | (with_reducible refine Below.setCell ?_ ?_ _) | (simp; done) | (simp; omega)))) b12
                  have Va12 : CellV w12 (w.heap.size) ka xa sa ra := CellV.below (by first | (with_reducible assumption) | (with_reducible refine CellV.drew ?_; assumption) | (with_reducible exact cells3a) | (with_reducible exact cells3b) | (with_reducible exact cells3c) | (constructor <;> first | (simp; done) | (simp; omega))) b12
                  obtain ⟨-, qa120, qa121, qa122, qa123⟩ := id Va12
                  have Vb12 : CellV w12 (w.heap.size + 1) kb xb sb rb := CellV.below (by first | (with_reducible assumption) | (with_reducible refine CellV.drew ?_; assumption) | (with_reducible exact cells3a) | (with_reducible exact cells3b) | (with_reducible exact cells3c) | (constructor <;> first | (simp; done) | (simp; omega))) b12
                  obtain ⟨-, qb120, qb121, qb122, qb123⟩ := id Vb12
                  have Vc12 : CellV w12 (w.heap.size + 2) kc xc sc rc := CellV.below (by first | (with_reducible assumption) | (with_reducible refine CellV.drew ?_; assumption) | (with_reducible exact cells3a) | (with_reducible exact cells3b) | (with_reducible exact cells3c) | (constructor <;> first | (simp; done) | (simp; omega))) b12
                  obtain ⟨-, qc120, qc121, qc122, qc123⟩ := id Vc12
                  clear b12
                  go_wp2
                  go_ret
                  exact ⟨by first | rfl | simp, by (repeat' (first | (with_reducible exact Below.refl _ _) | (with_reducible assumption) | (with_reducible refine Below.drew ?_) | (with_reducible refine below_drewN ?_ _) | (with_reducible refine Below.alloc ?_ ?_ _) | (with_reducible refine Below.setCell ?_ ?_ _) | (simp; done) | (simp; omega)))⟩
                · go_wp2_with fail
                  refine (HBC.out _).mono ?_
                  rintro e w9 ⟨rfl, b9⟩
                  have c9 : Below w.heap.size w w9 := bl_chain (by (repeat' (first | (with_reducible exact Below.refl _ _) | (with_reducible assumption) | (with_reducible refine Below.drew ?_) | (with_reducible refine below_drewN ?_ _) | (with_reducible refine Below.alloc ?_ ?_ _) | (with_reducible refine Below.setCell ?_ ?_ _) | (simp; done) | (simp; omega)))) b9
                  have Va9 : CellV w9 (w.heap.size) ka xa sa ra := CellV.below (by first | (with_reducible assumption) | (with_reducible refine CellV.drew ?_; assumption) | (with_reducible exact cells3a) | (with_reducible exact cells3b) | (with_reducible exact cells3c) | (constructor <;> first | (simp; done) | (simp; omega))) b9
                  obtain ⟨-, qa90, qa91, qa92, qa93⟩ := id Va9
                  have Vb9 : CellV w9 (w.heap.size + 1) kb xb sb rb := CellV.below (by first | (with_reducible assumption) | (with_reducible refine CellV.drew ?_; assumption) | (with_reducible exact cells3a) | (with_reducible exact cells3b) | (with_reducible exact cells3c) | (constructor <;> first | (simp; done) | (simp; omega))) b9
                  obtain ⟨-, qb90, qb91, qb92, qb93⟩ := id Vb9
                  have Vc9 : CellV w9 (w.heap.size + 2) kc xc sc rc := CellV.below (by first | (with_reducible assumption) | (with_reducible refine CellV.drew ?_; assumption) | (with_reducible exact cells3a) | (with_reducible exact cells3b) | (with_reducible exact cells3c) | (constructor <;> first | (simp; done) | (simp; omega))) b9
                  obtain ⟨-, qc90, qc91, qc92, qc93⟩ := id Vc9
                  clear b9
                  cases SBC
                  · go_wp2_with fail
                    refine (HAA.out _).mono ?_
                    rintro e w11 ⟨rfl, b11⟩
                    have c11 : Below w.heap.size w w11 := bl_chain (by (repeat' (first | (with_reducible exact Below.refl _ _) | (with_reducible assumption) | (with_reducible refine Below.drew ?_) | (with_reducible refine below_drewN ?_ _) | (with_reducible refine Below.alloc ?_ ?_ _) | (with_reducible refine Below.setCell ?_ ?_ _) | (simp; done) | (simp; omega)))) b11
                    have Va11 : CellV w11 (w.heap.size) ka xa sa ra := CellV.below (by first | (with_reducible assumption) | (with_reducible refine CellV.drew ?_; assumption) | (with_reducible exact cells3a) | (with_reducible exact cells3b) | (with_reducible exact cells3c) | (constructor <;> first | (simp; done) | (simp; omega))) b11
                    obtain ⟨-, qa110, qa111, qa112, qa113⟩ := id Va11
                    have Vb11 : CellV w11 (w.heap.size + 1) kb xb sb rb := CellV.below (by first | (with_reducible assumption) | (with_reducible refine CellV.drew ?_; assumption) | (with_reducible exact cells3a) | (with_reducible exact cells3b) | (with_reducible exact cells3c) | (constructor <;> first | (simp; done) | (simp; omega))) b11
                    obtain ⟨-, qb110, qb111, qb112, qb113⟩ := id Vb11
                    have Vc11 : CellV w11 (w.heap.size + 2) kc xc sc rc := CellV.below (by first | (with_reducible assumption) | (with_reducible refine CellV.drew ?_; assumption) | (with_reducible exact cells3a) | (with_reducible exact cells3b) | (with_reducible exact cells3c) | (constructor <;> first | (simp; done) | (simp; omega))) b11
                    obtain ⟨-, qc110, qc111, qc112, qc113⟩ := id Vc11
                    clear b11
                    go_wp2_with fail
                    refine (HC.out _).mono ?_
                    rintro e w12 ⟨rfl, b12⟩
                    have c12 : Below w.heap.size w w12 := bl_chain (by (repeat' (first | (with_reducible exact Below.refl _ _) | (with_reducible assumption) | (with_reducible refine Below.drew ?_) | (with_reducible refine below_drewN ?_ _) | (with_reducible refine Below.alloc ?_ ?_ _) | (with_reducible refine Below.setCell ?_ ?_ _) | (simp; done) | (simp; omega)))) b12
                    have Va12 : CellV w12 (w.heap.size) ka xa sa ra := CellV.below (by first | (with_reducible assumption) | (with_reducible refine CellV.drew ?_; assumption) | (with_reducible exact cells3a) | (with_reducible exact cells3b) | (with_reducible exact cells3c) | (constructor <;> first | (simp; done) | (simp; omega))) b12
                    obtain ⟨-, qa120, qa121, qa122, qa123⟩ := id Va12
                    have Vb12 : CellV w12 (w.heap.size + 1) kb xb sb rb := CellV.below (by first | (with_reducible assumption) | (with_reducible refine CellV.drew ?_; assumption) | (with_reducible exact cells3a) | (with_reducible exact cells3b) | (with_reducible exact cells3c) | (constructor <;> first | (simp; done) | (simp; omega))) b12
                    obtain ⟨-, qb120, qb121, qb122, qb123⟩ := id Vb12
                    have Vc12 : CellV w12 (w.heap.size + 2) kc xc sc rc := CellV.below (by first | (with_reducible assumption) | (with_reducible refine CellV.drew ?_; assumption) | (with_reducible exact cells3a) | (with_reducible exact cells3b) | (with_reducible exact cells3c) | (constructor <;> first | (simp; done) | (simp; omega))) b12
                    obtain ⟨-, qc120, qc121, qc122, qc123⟩ := id Vc12
                    clear b12
                    go_wp2
                    go_ret
                    exact ⟨by first | rfl | simp, by (repeat' (first | (with_reducible exact Below.refl _ _) | (with_reducible assumption) | (with_reducible refine Below.drew ?_) | (with_reducible refine below_drewN ?_ _) | (with_reducible refine Below.alloc ?_ ?_ _) | (with_reducible refine Below.setCell ?_ ?_ _) | (simp; done) | (simp; omega)))⟩
                  · have hac := HTR.out (by first | rfl | trivial) (by first | rfl | trivial)
                    subst hac
                    go_wp2_with fail
                    refine (HAC.out _).mono ?_
                    rintro e w10 ⟨rfl, b10⟩
                    have c10 : Below w.heap.size w w10 := bl_chain (by (repeat' (first | (with_reducible exact Below.refl _ _) | (with_reducible assumption) | (with_reducible refine Below.drew ?_) | (with_reducible refine below_drewN ?_ _) | (with_reducible refine Below.alloc ?_ ?_ _) | (with_reducible refine Below.setCell ?_ ?_ _) | (simp; done) | (simp; omega)))) b10
                    have Va10 : CellV w10 (w.heap.size) ka xa sa ra := CellV.below (by first | (with_reducible assumption) | (with_reducible refine CellV.drew ?_; assumption) | (with_reducible exact cells3a) | (with_reducible exact cells3b) | (with_reducible exact cells3c) | (constructor <;> first | (simp; done) | (simp; omega))) b10
                    obtain ⟨-, qa100, qa101, qa102, qa103⟩ := id Va10
                    have Vb10 : CellV w10 (w.heap.size + 1) kb xb sb rb := CellV.below (by first | (with_reducible assumption) | (with_reducible refine CellV.drew ?_; assumption) | (with_reducible exact cells3a) | (with_reducible exact cells3b) | (with_reducible exact cells3c) | (constructor <;> first | (simp; done) | (simp; omega))) b10
                    obtain ⟨-, qb100, qb101, qb102, qb103⟩ := id Vb10
                    have Vc10 : CellV w10 (w.heap.size + 2) kc xc sc rc := CellV.below (by first | (with_reducible assumption) | (with_reducible refine CellV.drew ?_; assumption) | (with_reducible exact cells3a) | (with_reducible exact cells3b) | (with_reducible exact cells3c) | (constructor <;> first | (simp; done) | (simp; omega))) b10
                    obtain ⟨-, qc100, qc101, qc102, qc103⟩ := id Vc10
                    clear b10
                    go_wp2_with fail
                    refine (HAA.out _).mono ?_
                    rintro e w11 ⟨rfl, b11⟩
                    have c11 : Below w.heap.size w w11 := bl_chain (by (repeat' (first | (with_reducible exact Below.refl _ _) | (with_reducible assumption) | (with_reducible refine Below.drew ?_) | (with_reducible refine below_drewN ?_ _) | (with_reducible refine Below.alloc ?_ ?_ _) | (with_reducible refine Below.setCell ?_ ?_ _) | (simp; done) | (simp; omega)))) b11
                    have Va11 : CellV w11 (w.heap.size) ka xa sa ra := CellV.below (by first | (with_reducible assumption) | (with_reducible refine CellV.drew ?_; assumption) | (with_reducible exact cells3a) | (with_reducible exact cells3b) | (with_reducible exact cells3c) | (constructor <;> first | (simp; done) | (simp; omega))) b11
                    obtain ⟨-, qa110, qa111, qa112, qa113⟩ := id Va11
                    have Vb11 : CellV w11 (w.heap.size + 1) kb xb sb rb := CellV.below (by first | (with_reducible assumption) | (with_reducible refine CellV.drew ?_; assumption) | (with_reducible exact cells3a) | (with_reducible exact cells3b) | (with_reducible exact cells3c) | (constructor <;> first | (simp; done) | (simp; omega))) b11
                    obtain ⟨-, qb110, qb111, qb112, qb113⟩ := id Vb11
                    have Vc11 : CellV w11 (w.heap.size + 2) kc xc sc rc := CellV.below (by first | (with_reducible assumption) | (with_reducible refine CellV.drew ?_; assumption) | (with_reducible exact cells3a) | (with_reducible exact cells3b) | (with_reducible exact cells3c) | (constructor <;> first | (simp; done) | (simp; omega))) b11
                    obtain ⟨-, qc110, qc111, qc112, qc113⟩ := id Vc11
                    clear b11
                    go_wp2_with fail
                    refine (HC.out _).mono ?_
                    rintro e w12 ⟨rfl, b12⟩
                    have c12 : Below w.heap.size w w12 := bl_chain (by (repeat' (first | (with_reducible exact Below.refl _ _) | (with_reducible assumption) | (with_reducible refine Below.drew ?_) | (with_reducible refine below_drewN ?_ _) | (with_reducible refine Below.alloc ?_ ?_ _) | (with_reducible refine Below.setCell ?_ ?_ _) | (simp; done) | (simp; omega)))) b12
                    have Va12 : CellV w12 (w.heap.size) ka xa sa ra := CellV.below (by first | (with_reducible assumption) | (with_reducible refine CellV.drew ?_; assumption) | (with_reducible exact cells3a) | (with_reducible exact cells3b) | (with_reducible exact cells3c) | (constructor <;> first | (simp; done) | (simp; omega))) b12
                    obtain ⟨-, qa120, qa121, qa122, qa123⟩ := id Va12
                    have Vb12 : CellV w12 (w.heap.size + 1) kb xb sb rb := CellV.below (by first | (with_reducible assumption) | (with_reducible refine CellV.drew ?_; assumption) | (with_reducible exact cells3a) | (with_reducible exact cells3b) | (with_reducible exact cells3c) | (constructor <;> first | (simp; done) | (simp; omega))) b12
                    obtain ⟨-, qb120, qb121, qb122, qb123⟩ := id Vb12
                    have Vc12 : CellV w12 (w.heap.size + 2) kc xc sc rc := CellV.below (by first | (with_reducible assumption) | (with_reducible refine CellV.drew ?_; assumption) | (with_reducible exact cells3a) | (with_reducible exact cells3b) | (with_reducible exact cells3c) | (constructor <;> first | (simp; done) | (simp; omega))) b12
                    obtain ⟨-, qc120, qc121, qc122, qc123⟩ := id Vc12
                    clear b12
                    go_wp2
                    go_ret
                    exact ⟨by first | rfl | simp, by (repeat' (first | (with_reducible exact Below.refl _ _) | (with_reducible assumption) | (with_reducible refine Below.drew ?_) | (with_reducible refine below_drewN ?_ _) | (with_reducible refine Below.alloc ?_ ?_ _) | (with_reducible refine Below.setCell ?_ ?_ _) | (simp; done) | (simp; omega)))⟩
theorem equals_all (ka : Int) (xa : Nat) (sa : ByteArray) (ra : Int) (kb : Int) (xb : Nat) (sb : ByteArray) (rb : Int) (kc : Int) (xc : Nat) (sc : ByteArray) (rc : Int) (how : Int) (w : World) (ha : xa < 18446744073709551616) (za : (sa.size : Int) ≤ 140737488351232) (hb : xb < 18446744073709551616) (zb : (sb.size : Int) ≤ 140737488351232) (hc : xc < 18446744073709551616) (zc : (sc.size : Int) ≤ 140737488351232) (hwf : Lit.wf (.int .i64 how) = true) (hl : Hid (LaidN w)) :
    Calls Tryz.prog 6 #[.agg #[.int .i64 ka, .float .f64 xa, .string sa, .int .i64 ra], .agg #[.int .i64 kb, .float .f64 xb, .string sb, .int .i64 rb], .agg #[.int .i64 kc, .float .f64 xc, .string sc, .int .i64 rc], .int .i64 how] w fun e w' => e = .returned (.bool true) ∧ Below w.heap.size w w' := by
  by_cases h1 : how < 0
  · exact equals_lo ka xa sa ra kb xb sb rb kc xc sc rc how w ha za hb zb hc zc h1 hl
  by_cases h2 : 2 < how
  · exact equals_hi ka xa sa ra kb xb sb rb kc xc sc rc how w ha za hb zb hc zc h2 hl
  have h3 : how = 0 ∨ how = 1 ∨ how = 2 := by omega
  rcases h3 with rfl | rfl | rfl
  · exact equals_0 ka xa sa ra kb xb sb rb kc xc sc rc w ha za hb zb hc zc hl
  · exact equals_1 ka xa sa ra kb xb sb rb kc xc sc rc w ha za hb zb hc zc hl
  · exact equals_2 ka xa sa ra kb xb sb rb kc xc sc rc w ha za hb zb hc zc hl
end Go.Proofs.YtaknclffnoljlaaGreatDoor
