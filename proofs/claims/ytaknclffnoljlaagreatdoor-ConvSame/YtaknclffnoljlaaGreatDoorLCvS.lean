/- ConvSame: values are the same in each of three ways. Written by tools/mkcvw.py. -/
import Derived.Test.YtaknclffnoljlaaGreatDoorCvW
import Derived.Deep.RegionHeld3
namespace Go.Proofs.YtaknclffnoljlaaGreatDoor
set_option linter.unusedVariables false
open Go.RowKit Go.Sort Fl

set_option maxHeartbeats 2000000 in
set_option maxRecDepth 100000 in
theorem same_walk (ka : Int) (xa : Nat) (sa : ByteArray) (ra : Int) (kb : Int) (xb : Nat) (sb : ByteArray) (rb : Int) (how : Int) (w : World) (ha : xa < 18446744073709551616) (za : (sa.size : Int) ≤ 140737488351232) (hb : xb < 18446744073709551616) (zb : (sb.size : Int) ≤ 140737488351232) (hl : Hid (LaidN w)) :
    Calls Tryz.prog 4 #[.agg #[.int .i64 ka, .float .f64 xa, .string sa, .int .i64 ra], .agg #[.int .i64 kb, .float .f64 xb, .string sb, .int .i64 rb], .int .i64 how] w fun e w' => e = .returned (.bool true) ∧ Below w.heap.size w w' := by
  have HW := Hid.mk' (fun W (hW : Hid (LaidN W)) => awake18 W hW)
  have HF := Hid.mk' (fun W => few18 ka xa sa ra W)
  have HFb := Hid.mk' (fun W => few18 kb xb sb rb W)
  have H1 := Hid.mk' (fun W => vsame ka xa sa ra kb xb sb rb how W ha hb za zb)
  have H2 := Hid.mk' (fun W => rvsame ka xa sa ra kb xb sb rb how W ha hb za zb)
  have H3 := Hid.mk' (fun W => vsame kb xb sb rb ka xa sa ra how W hb ha zb za)
  rw [sameV_comm] at H3
  obtain ⟨F, hF⟩ : ∃ F, decide ((sa.size : Int) ≤ 2000) = F := ⟨_, rfl⟩
  obtain ⟨E, hE⟩ : ∃ E, decide ((sb.size : Int) ≤ 2000) = E := ⟨_, rfl⟩
  obtain ⟨G, hG⟩ : ∃ G, sameV ka xa sa ra kb xb sb rb how = G := ⟨_, rfl⟩
  rw [hF] at HF
  rw [hE] at HFb
  rw [hG] at H1 H2 H3
  clear hF hG hE ha za hb zb
  go_enter Tryz.func4, Tryz.ntmps4
  go_wp2_with fail
  refine (HW.out _ (Hid.mk' (hl.out.below (by (repeat' (first | (with_reducible exact Below.refl _ _) | (with_reducible assumption) | (with_reducible refine Below.drew ?_) | (with_reducible refine below_drewN ?_ _) | (with_reducible refine Below.alloc ?_ ?_ _) | (with_reducible refine Below.setCell ?_ ?_ _) | (simp; done) | (simp; omega))))))).mono ?_
  rintro e w1 ⟨rfl, b1⟩
  have c1 : Below w.heap.size w w1 := bl_chain (by (repeat' (first | (with_reducible exact Below.refl _ _) | (with_reducible assumption) | (with_reducible refine Below.drew ?_) | (with_reducible refine below_drewN ?_ _) | (with_reducible refine Below.alloc ?_ ?_ _) | (with_reducible refine Below.setCell ?_ ?_ _) | (simp; done) | (simp; omega)))) b1
  have Va1 : CellV w1 (w.heap.size) ka xa sa ra := CellV.below (by first | (with_reducible assumption) | (with_reducible refine CellV.drew ?_; assumption) | (constructor <;> first | (simp; done) | (simp; omega))) b1
  obtain ⟨-, qa10, qa11, qa12, qa13⟩ := id Va1
  have Vb1 : CellV w1 (w.heap.size + 1) kb xb sb rb := CellV.below (by first | (with_reducible assumption) | (with_reducible refine CellV.drew ?_; assumption) | (constructor <;> first | (simp; done) | (simp; omega))) b1
  obtain ⟨-, qb10, qb11, qb12, qb13⟩ := id Vb1
  clear b1
  go_wp2_with fail
  refine (HF.out _).mono ?_
  rintro e w2 ⟨rfl, b2⟩
  have c2 : Below w.heap.size w w2 := bl_chain (by (repeat' (first | (with_reducible exact Below.refl _ _) | (with_reducible assumption) | (with_reducible refine Below.drew ?_) | (with_reducible refine below_drewN ?_ _) | (with_reducible refine Below.alloc ?_ ?_ _) | (with_reducible refine Below.setCell ?_ ?_ _) | (simp; done) | (simp; omega)))) b2
  have Va2 : CellV w2 (w.heap.size) ka xa sa ra := CellV.below (by first | (with_reducible assumption) | (with_reducible refine CellV.drew ?_; assumption) | (constructor <;> first | (simp; done) | (simp; omega))) b2
  obtain ⟨-, qa20, qa21, qa22, qa23⟩ := id Va2
  have Vb2 : CellV w2 (w.heap.size + 1) kb xb sb rb := CellV.below (by first | (with_reducible assumption) | (with_reducible refine CellV.drew ?_; assumption) | (constructor <;> first | (simp; done) | (simp; omega))) b2
  obtain ⟨-, qb20, qb21, qb22, qb23⟩ := id Vb2
  clear b2
  cases F
  · go_wp2
    go_ret
    exact ⟨by first | rfl | simp, by (repeat' (first | (with_reducible exact Below.refl _ _) | (with_reducible assumption) | (with_reducible refine Below.drew ?_) | (with_reducible refine below_drewN ?_ _) | (with_reducible refine Below.alloc ?_ ?_ _) | (with_reducible refine Below.setCell ?_ ?_ _) | (simp; done) | (simp; omega)))⟩
  · go_wp2_with fail
    refine (HFb.out _).mono ?_
    rintro e w3 ⟨rfl, b3⟩
    have c3 : Below w.heap.size w w3 := bl_chain (by (repeat' (first | (with_reducible exact Below.refl _ _) | (with_reducible assumption) | (with_reducible refine Below.drew ?_) | (with_reducible refine below_drewN ?_ _) | (with_reducible refine Below.alloc ?_ ?_ _) | (with_reducible refine Below.setCell ?_ ?_ _) | (simp; done) | (simp; omega)))) b3
    have Va3 : CellV w3 (w.heap.size) ka xa sa ra := CellV.below (by first | (with_reducible assumption) | (with_reducible refine CellV.drew ?_; assumption) | (constructor <;> first | (simp; done) | (simp; omega))) b3
    obtain ⟨-, qa30, qa31, qa32, qa33⟩ := id Va3
    have Vb3 : CellV w3 (w.heap.size + 1) kb xb sb rb := CellV.below (by first | (with_reducible assumption) | (with_reducible refine CellV.drew ?_; assumption) | (constructor <;> first | (simp; done) | (simp; omega))) b3
    obtain ⟨-, qb30, qb31, qb32, qb33⟩ := id Vb3
    clear b3
    cases E
    · go_wp2
      go_ret
      exact ⟨by first | rfl | simp, by (repeat' (first | (with_reducible exact Below.refl _ _) | (with_reducible assumption) | (with_reducible refine Below.drew ?_) | (with_reducible refine below_drewN ?_ _) | (with_reducible refine Below.alloc ?_ ?_ _) | (with_reducible refine Below.setCell ?_ ?_ _) | (simp; done) | (simp; omega)))⟩
    · cases G
      all_goals
        go_wp2_with fail
        go_region_held3 (fun w' => w'.cell? ⟨w.heap.size, 0, none⟩ = some (.int .i64 ka) ∧ w'.cell? ⟨w.heap.size, 1, none⟩ = some (.float .f64 xa) ∧ w'.cell? ⟨w.heap.size, 2, none⟩ = some (.string sa) ∧ w'.cell? ⟨w.heap.size, 3, none⟩ = some (.int .i64 ra) ∧ w'.cell? ⟨w.heap.size + 1, 0, none⟩ = some (.int .i64 kb) ∧ w'.cell? ⟨w.heap.size + 1, 1, none⟩ = some (.float .f64 xb) ∧ w'.cell? ⟨w.heap.size + 1, 2, none⟩ = some (.string sb) ∧ w'.cell? ⟨w.heap.size + 1, 3, none⟩ = some (.int .i64 rb)) (go_keep) (first | (go_at_call 15; first | (with_reducible refine (H1.out _).mono ?_; rintro e w4 ⟨rfl, b4⟩; have c4 : Below w.heap.size w w4 := bl_chain (by (repeat' (first | (with_reducible exact Below.refl _ _) | (with_reducible assumption) | (with_reducible refine Below.drew ?_) | (with_reducible refine below_drewN ?_ _) | (with_reducible refine Below.alloc ?_ ?_ _) | (with_reducible refine Below.setCell ?_ ?_ _) | (simp; done) | (simp; omega)))) b4; have Va4 : CellV w4 (w.heap.size) ka xa sa ra := CellV.below (by first | (with_reducible assumption) | (with_reducible refine CellV.drew ?_; assumption)) b4; obtain ⟨-, qa40, qa41, qa42, qa43⟩ := id Va4; have Vb4 : CellV w4 (w.heap.size + 1) kb xb sb rb := CellV.below (by first | (with_reducible assumption) | (with_reducible refine CellV.drew ?_; assumption)) b4; obtain ⟨-, qb40, qb41, qb42, qb43⟩ := id Vb4; clear b4) | (with_reducible refine (H3.out _).mono ?_; rintro e w4 ⟨rfl, b4⟩; have c4 : Below w.heap.size w w4 := bl_chain (by (repeat' (first | (with_reducible exact Below.refl _ _) | (with_reducible assumption) | (with_reducible refine Below.drew ?_) | (with_reducible refine below_drewN ?_ _) | (with_reducible refine Below.alloc ?_ ?_ _) | (with_reducible refine Below.setCell ?_ ?_ _) | (simp; done) | (simp; omega)))) b4; have Va4 : CellV w4 (w.heap.size) ka xa sa ra := CellV.below (by first | (with_reducible assumption) | (with_reducible refine CellV.drew ?_; assumption)) b4; obtain ⟨-, qa40, qa41, qa42, qa43⟩ := id Va4; have Vb4 : CellV w4 (w.heap.size + 1) kb xb sb rb := CellV.below (by first | (with_reducible assumption) | (with_reducible refine CellV.drew ?_; assumption)) b4; obtain ⟨-, qb40, qb41, qb42, qb43⟩ := id Vb4; clear b4)) | (go_at_call 16; first | (with_reducible refine (H2.out _).mono ?_; rintro e w5 ⟨rfl, b5⟩; have c5 : Below w.heap.size w w5 := bl_chain (by (repeat' (first | (with_reducible exact Below.refl _ _) | (with_reducible assumption) | (with_reducible refine Below.drew ?_) | (with_reducible refine below_drewN ?_ _) | (with_reducible refine Below.alloc ?_ ?_ _) | (with_reducible refine Below.setCell ?_ ?_ _) | (simp; done) | (simp; omega)))) b5; have Va5 : CellV w5 (w.heap.size) ka xa sa ra := CellV.below (by first | (with_reducible assumption) | (with_reducible refine CellV.drew ?_; assumption)) b5; obtain ⟨-, qa50, qa51, qa52, qa53⟩ := id Va5; have Vb5 : CellV w5 (w.heap.size + 1) kb xb sb rb := CellV.below (by first | (with_reducible assumption) | (with_reducible refine CellV.drew ?_; assumption)) b5; obtain ⟨-, qb50, qb51, qb52, qb53⟩ := id Vb5; clear b5)))
        all_goals go_wp2
        all_goals go_ret
        all_goals exact ⟨by first | rfl | simp, by (repeat' (first | (with_reducible exact Below.refl _ _) | (with_reducible assumption) | (with_reducible refine Below.drew ?_) | (with_reducible refine below_drewN ?_ _) | (with_reducible refine Below.alloc ?_ ?_ _) | (with_reducible refine Below.setCell ?_ ?_ _) | (simp; done) | (simp; omega)))⟩
theorem same_all (ka : Int) (xa : Nat) (sa : ByteArray) (ra : Int) (kb : Int) (xb : Nat) (sb : ByteArray) (rb : Int) (how : Int) (w : World) (ha : xa < 18446744073709551616) (za : (sa.size : Int) ≤ 140737488351232) (hb : xb < 18446744073709551616) (zb : (sb.size : Int) ≤ 140737488351232) (hwf : Lit.wf (.int .i64 how) = true) (hl : Hid (LaidN w)) :
    Calls Tryz.prog 4 #[.agg #[.int .i64 ka, .float .f64 xa, .string sa, .int .i64 ra], .agg #[.int .i64 kb, .float .f64 xb, .string sb, .int .i64 rb], .int .i64 how] w fun e w' => e = .returned (.bool true) ∧ Below w.heap.size w w' := same_walk ka xa sa ra kb xb sb rb how w ha za hb zb hl
end Go.Proofs.YtaknclffnoljlaaGreatDoor
