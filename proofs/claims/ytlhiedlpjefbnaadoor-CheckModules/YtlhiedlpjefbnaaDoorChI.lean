/- Package check: tries by their places: the comparison. -/
import Derived.Test.YtlhiedlpjefbnaaDoorChP
import Derived.Test.YtlhiedlpjefbnaaDoorSortL
import Derived.Test.YtlhiedlpjefbnaaDoorCdE
import Derived.Shelf.SlSortCmp.QuietGrown
import Derived.Shelf.SlSortCmp.NoneTotal
import Derived.Shelf.SlicesG.Cmp
import Derived.Shelf.Abstract
import Derived.BigQuiet
import Derived.Deep.RegionHeld3
import Derived.Deep.DrawnRows
namespace Go.Proofs.YtlhiedlpjefbnaaDoor
set_option linter.unusedVariables false
set_option linter.unusedSimpArgs false
open Go.RowKit Go.Sort

theorem cmpI (x y : Int) (W : World) : Calls Tryd.prog 58 #[.int .i64 x, .int .i64 y] W fun e w' => e = .returned (.int .i64 (Lib.compareInt x y)) ∧ w' = W := AnyG.cmp_Compare_int Tryd.cmpL x y W
def or3 (x y z : Int) : Int := if x = 0 then (if y = 0 then z else y) else x
set_option maxHeartbeats 1000000 in
set_option maxRecDepth 100000 in
theorem or_three (g : Nat) (x y z r : Int) (hr : r = or3 x y z) (w : World) (h0 : w.cell? ⟨g, 0, none⟩ = some (.int .i64 x)) (h1 : w.cell? ⟨g, 1, none⟩ = some (.int .i64 y)) (h2 : w.cell? ⟨g, 2, none⟩ = some (.int .i64 z)) :
    Calls Tryd.prog 57 #[.slice (some ⟨g, 0, none⟩) 3 3] w fun e w' => e = .returned (.int .i64 r) ∧ w' = w := by
  have HR := Hid.mk' hr
  clear hr
  go_enter Tryd.func57, Tryd.ntmps57
  go_wp2_with fail
  go_loopw [8] (fun vk wr => ∃ k : Nat, vk = .int .i64 k ∧ k ≤ 3 ∧ wr = w ∧ Hid ((1 ≤ k → x = 0) ∧ (2 ≤ k → y = 0) ∧ (3 ≤ k → z = 0))) (fun vk _ => 3 - (intOf vk).toNat)
  case atStart => exact ⟨0, rfl, by omega, rfl, Hid.mk' ⟨fun h => by omega, fun h => by omega, fun h => by omega⟩⟩
  case round =>
    obtain ⟨k, rfl, hk, rfl, HK⟩ := hrel
    match k, hk with
    | 0, _ =>
      by_cases hx : x = 0
      · have zx : (x == 0) = true := by simp [hx]
        have HX := Hid.mk' hx
        clear hx
        go_wp2
        go_roundw
        case rel => exact ⟨1, by go_num, by omega, by first | rfl | trivial, Hid.mk' ⟨fun _ => HX.out, fun h => by omega, fun h => by omega⟩⟩
        case measure => simp [intOf]
      · have zx : (x == 0) = false := by simp [hx]
        have HX := Hid.mk' hx
        clear hx
        go_wp2
        go_ret
        exact ⟨by rw [HR.out, or3, if_neg HX.out]; rfl, rfl⟩
    | 1, _ =>
      have HX := Hid.mk' (HK.out.1 (by omega))
      by_cases hy : y = 0
      · have zy : (y == 0) = true := by simp [hy]
        have HY := Hid.mk' hy
        clear hy
        go_wp2
        go_roundw
        case rel => exact ⟨2, by go_num, by omega, by first | rfl | trivial, Hid.mk' ⟨fun _ => HX.out, fun _ => HY.out, fun h => by omega⟩⟩
        case measure => simp [intOf]
      · have zy : (y == 0) = false := by simp [hy]
        have HY := Hid.mk' hy
        clear hy
        go_wp2
        go_ret
        exact ⟨by rw [HR.out, or3, if_pos HX.out, if_neg HY.out]; rfl, rfl⟩
    | 2, _ =>
      have HX := Hid.mk' (HK.out.1 (by omega))
      have HY := Hid.mk' (HK.out.2.1 (by omega))
      by_cases hz : z = 0
      · have zz : (z == 0) = true := by simp [hz]
        have HZ := Hid.mk' hz
        clear hz
        go_wp2
        go_roundw
        case rel => exact ⟨3, by go_num, by omega, by first | rfl | trivial, Hid.mk' ⟨fun _ => HX.out, fun _ => HY.out, fun _ => HZ.out⟩⟩
        case measure => simp [intOf]
      · have zz : (z == 0) = false := by simp [hz]
        have HZ := Hid.mk' hz
        clear hz
        go_wp2
        go_ret
        exact ⟨by rw [HR.out, or3, if_pos HX.out, if_pos HY.out]; rfl, rfl⟩
    | 3, _ =>
      have HX := Hid.mk' (HK.out.1 (by omega))
      have HY := Hid.mk' (HK.out.2.1 (by omega))
      have HZ := Hid.mk' (HK.out.2.2 (by omega))
      go_wp2
      go_ret
      exact ⟨by rw [HR.out, or3, if_pos HX.out, if_pos HY.out, HZ.out]; rfl, rfl⟩
/-- The comparison. -/
def cfT (l : List Tri) (a b : Nat) : Int := or3 (Lib.compareInt (trAt l a).fr (trAt l b).fr) (Lib.compareInt (trAt l b).to (trAt l a).to) (Lib.compareInt (b : Int) (a : Int))
set_option maxHeartbeats 2000000 in
set_option maxRecDepth 100000 in
theorem closure_any (l : List Tri) (za : Option Addr) (zc bl : Nat) (W : World) (hr : RdE Tri.cs 4 W za zc l) (hb : W.cell? ⟨bl, 0, none⟩ = some (.slice za l.length zc)) (a b : Nat) (ha : a < l.length) (hb' : b < l.length) :
    Calls Tryd.prog 56 #[.int .i64 (a : Int), .int .i64 (b : Int), .pointer (some ⟨bl, 0, none⟩)] W fun e w' => e = .returned (.int .i64 (cfT l a b)) ∧ ∃ q os', w' = grow (W.drewN q) os' := by
  obtain ⟨g, o, rfl, hg, hca⟩ := hr.at a ha
  obtain ⟨g', o', hgo, _, hcb⟩ := hr.at b hb'
  simp only [Option.some.injEq, Addr.mk.injEq] at hgo
  obtain ⟨rfl, rfl, _⟩ := hgo
  have ea : trAt l a = l[a] := by simp [trAt, List.getD_eq_getElem?_getD, List.getElem?_eq_getElem ha]
  have eb : trAt l b = l[b] := by simp [trAt, List.getD_eq_getElem?_getD, List.getElem?_eq_getElem hb']
  unfold cfT
  rw [ea, eb]
  generalize l[a] = ta at hca
  generalize l[b] = tb at hcb
  obtain ⟨a1, a2, a3, a4⟩ := ta
  obtain ⟨b1, b2, b3, b4⟩ := tb
  have p0 := hca 0 (.int .i64 a1) (by omega) rfl
  have p1 := hca 1 (.int .i64 a2) (by omega) rfl
  have r0 := hcb 0 (.int .i64 b1) (by omega) rfl
  have r1 := hcb 1 (.int .i64 b2) (by omega) rfl
  simp only [Nat.add_zero] at p0 r0
  dsimp only
  obtain ⟨n, hn⟩ : ∃ n, l.length = n := ⟨_, rfl⟩
  rw [hn] at hb ha hb'
  have i1 : (a : Int) < (n : Int) := by omega
  have i2 : (b : Int) < (n : Int) := by omega
  obtain ⟨x1, hx1⟩ : ∃ x, Lib.compareInt a1 b1 = x := ⟨_, rfl⟩
  obtain ⟨x2, hx2⟩ : ∃ x, Lib.compareInt b2 a2 = x := ⟨_, rfl⟩
  obtain ⟨x3, hx3⟩ : ∃ x, Lib.compareInt (b : Int) (a : Int) = x := ⟨_, rfl⟩
  have H1 := Hid.mk' (fun W => cmpI a1 b1 W)
  have H2 := Hid.mk' (fun W => cmpI b2 a2 W)
  have H3 := Hid.mk' (fun W => cmpI (b : Int) (a : Int) W)
  rw [hx1] at H1
  rw [hx2] at H2
  rw [hx3] at H3
  rw [hx1, hx2, hx3]
  obtain ⟨r, hr'⟩ : ∃ r, or3 x1 x2 x3 = r := ⟨_, rfl⟩
  rw [hr']
  have HO := Hid.mk' (fun g W h0 h1 h2 => or_three g x1 x2 x3 r hr'.symm W h0 h1 h2)
  have hbl : bl < W.heap.size := World.block_lt_of_cell? W _ hb
  clear hr hca hcb ea eb hx1 hx2 hx3 hr' hn
  go_enter Tryd.func56, Tryd.ntmps56
  go_wp2_with fail
  go_region_held3 (fun w' => w'.cell? ⟨bl, 0, none⟩ = some (.slice (some ⟨g, o, none⟩) n zc) ∧ w'.cell? ⟨g, o + a * 4, none⟩ = some (.int .i64 a1) ∧ w'.cell? ⟨g, o + a * 4 + 1, none⟩ = some (.int .i64 a2) ∧ w'.cell? ⟨g, o + b * 4, none⟩ = some (.int .i64 b1) ∧ w'.cell? ⟨g, o + b * 4 + 1, none⟩ = some (.int .i64 b2)) (go_keep) (first
    | (go_at_call_of 58 (Value.int .i64 a1); refine (H1.out _).mono ?_; rintro e w1 ⟨rfl, hw1⟩; rw [hw1]; clear hw1 w1)
    | (go_at_call_of 58 (Value.int .i64 b2); refine (H2.out _).mono ?_; rintro e w1 ⟨rfl, hw1⟩; rw [hw1]; clear hw1 w1)
    | (go_at_call_of 58 (Value.int .i64 (b : Int)); refine (H3.out _).mono ?_; rintro e w1 ⟨rfl, hw1⟩; rw [hw1]; clear hw1 w1)
    | (go_at_call 57; refine (HO.out _ _ (World.cell?_alloc_new _ _ _ _) (World.cell?_alloc_new _ _ _ _) (World.cell?_alloc_new _ _ _ _)).mono ?_; rintro e w1 ⟨rfl, hw1⟩; rw [hw1]; clear hw1 w1))
  go_wp2
  go_ret
  exact ⟨rfl, 1, #[_], by rw [alloc_eq_grow]; rfl⟩
end Go.Proofs.YtlhiedlpjefbnaaDoor
