/- ConvGood: which values are as they should be. Written by tools/mkcvw.py. -/
import Derived.Test.YtaknclffnoljlaaGreatDoorCvW
import Derived.Deep.RegionHeld3
namespace Go.Proofs.YtaknclffnoljlaaGreatDoor
set_option linter.unusedVariables false
open Go.RowKit Go.Sort Fl

set_option maxHeartbeats 2000000 in
set_option maxRecDepth 100000 in
theorem good_walk (ka : Int) (xa : Nat) (sa : ByteArray) (ra : Int) (w : World) (ha : xa < 18446744073709551616) (za : (sa.size : Int) ≤ 140737488351232) (hl : Hid (LaidN w)) :
    Calls Tryz.prog 5 #[.agg #[.int .i64 ka, .float .f64 xa, .string sa, .int .i64 ra]] w fun e w' => e = .returned (.bool true) ∧ Below w.heap.size w w' := by
  have HW := Hid.mk' (fun W (hW : Hid (LaidN W)) => awake18 W hW)
  have HF := Hid.mk' (fun W => few18 ka xa sa ra W)
  have H1 := Hid.mk' (fun W => vgood ka xa sa ra W ha za)
  have H2 := Hid.mk' (fun W => rvgood ka xa sa ra W ha za)
  obtain ⟨F, hF⟩ : ∃ F, decide ((sa.size : Int) ≤ 2000) = F := ⟨_, rfl⟩
  obtain ⟨G, hG⟩ : ∃ G, goodV ka xa sa ra = G := ⟨_, rfl⟩
  rw [hF] at HF
  rw [hG] at H1 H2
  clear hF hG ha za
  go_enter Tryz.func5, Tryz.ntmps5
  go_wp2_with fail
  refine (HW.out _ (Hid.mk' (hl.out.below (by (repeat' (first | (with_reducible exact Below.refl _ _) | (with_reducible assumption) | (with_reducible refine Below.drew ?_) | (with_reducible refine below_drewN ?_ _) | (with_reducible refine Below.alloc ?_ ?_ _) | (with_reducible refine Below.setCell ?_ ?_ _) | (simp; done) | (simp; omega))))))).mono ?_
  rintro e w1 ⟨rfl, b1⟩
  have c1 : Below w.heap.size w w1 := bl_chain (by (repeat' (first | (with_reducible exact Below.refl _ _) | (with_reducible assumption) | (with_reducible refine Below.drew ?_) | (with_reducible refine below_drewN ?_ _) | (with_reducible refine Below.alloc ?_ ?_ _) | (with_reducible refine Below.setCell ?_ ?_ _) | (simp; done) | (simp; omega)))) b1
  have Va1 : CellV w1 (w.heap.size) ka xa sa ra := CellV.below (by first | (with_reducible assumption) | (with_reducible refine CellV.drew ?_; assumption) | (constructor <;> first | (simp; done) | (simp; omega))) b1
  obtain ⟨-, qa10, qa11, qa12, qa13⟩ := id Va1
  clear b1
  go_wp2_with fail
  refine (HF.out _).mono ?_
  rintro e w2 ⟨rfl, b2⟩
  have c2 : Below w.heap.size w w2 := bl_chain (by (repeat' (first | (with_reducible exact Below.refl _ _) | (with_reducible assumption) | (with_reducible refine Below.drew ?_) | (with_reducible refine below_drewN ?_ _) | (with_reducible refine Below.alloc ?_ ?_ _) | (with_reducible refine Below.setCell ?_ ?_ _) | (simp; done) | (simp; omega)))) b2
  have Va2 : CellV w2 (w.heap.size) ka xa sa ra := CellV.below (by first | (with_reducible assumption) | (with_reducible refine CellV.drew ?_; assumption) | (constructor <;> first | (simp; done) | (simp; omega))) b2
  obtain ⟨-, qa20, qa21, qa22, qa23⟩ := id Va2
  clear b2
  cases F
  · go_wp2
    go_ret
    exact ⟨by first | rfl | simp, by (repeat' (first | (with_reducible exact Below.refl _ _) | (with_reducible assumption) | (with_reducible refine Below.drew ?_) | (with_reducible refine below_drewN ?_ _) | (with_reducible refine Below.alloc ?_ ?_ _) | (with_reducible refine Below.setCell ?_ ?_ _) | (simp; done) | (simp; omega)))⟩
  · cases G
    all_goals
      go_wp2_with fail
      go_region_held3 (fun w' => w'.cell? ⟨w.heap.size, 0, none⟩ = some (.int .i64 ka) ∧ w'.cell? ⟨w.heap.size, 1, none⟩ = some (.float .f64 xa) ∧ w'.cell? ⟨w.heap.size, 2, none⟩ = some (.string sa) ∧ w'.cell? ⟨w.heap.size, 3, none⟩ = some (.int .i64 ra)) (go_keep) (first | (go_at_call 17; first | (with_reducible refine (H1.out _).mono ?_; rintro e w3 ⟨rfl, b3⟩; have c3 : Below w.heap.size w w3 := bl_chain (by (repeat' (first | (with_reducible exact Below.refl _ _) | (with_reducible assumption) | (with_reducible refine Below.drew ?_) | (with_reducible refine below_drewN ?_ _) | (with_reducible refine Below.alloc ?_ ?_ _) | (with_reducible refine Below.setCell ?_ ?_ _) | (simp; done) | (simp; omega)))) b3; have Va3 : CellV w3 (w.heap.size) ka xa sa ra := CellV.below (by first | (with_reducible assumption) | (with_reducible refine CellV.drew ?_; assumption)) b3; obtain ⟨-, qa30, qa31, qa32, qa33⟩ := id Va3; clear b3)) | (go_at_call 18; first | (with_reducible refine (H2.out _).mono ?_; rintro e w4 ⟨rfl, b4⟩; have c4 : Below w.heap.size w w4 := bl_chain (by (repeat' (first | (with_reducible exact Below.refl _ _) | (with_reducible assumption) | (with_reducible refine Below.drew ?_) | (with_reducible refine below_drewN ?_ _) | (with_reducible refine Below.alloc ?_ ?_ _) | (with_reducible refine Below.setCell ?_ ?_ _) | (simp; done) | (simp; omega)))) b4; have Va4 : CellV w4 (w.heap.size) ka xa sa ra := CellV.below (by first | (with_reducible assumption) | (with_reducible refine CellV.drew ?_; assumption)) b4; obtain ⟨-, qa40, qa41, qa42, qa43⟩ := id Va4; clear b4)))
      all_goals go_wp2
      all_goals go_ret
      all_goals exact ⟨by first | rfl | simp, by (repeat' (first | (with_reducible exact Below.refl _ _) | (with_reducible assumption) | (with_reducible refine Below.drew ?_) | (with_reducible refine below_drewN ?_ _) | (with_reducible refine Below.alloc ?_ ?_ _) | (with_reducible refine Below.setCell ?_ ?_ _) | (simp; done) | (simp; omega)))⟩
end Go.Proofs.YtaknclffnoljlaaGreatDoor
