/- Package code's writer: lists, a function, a module; Encode, at the chapter's example. -/
import Derived.Test.YtkgjmiadgfcbnaaGreatDoorCdE2
namespace Go.Proofs.YtkgjmiadgfcbnaaGreatDoor
set_option linter.unusedVariables false
set_option linter.unusedSimpArgs false
open Go.RowKit

set_option maxHeartbeats 1000000 in
set_option maxRecDepth 100000 in
theorem wlistV_nil {B wb : Nat} {v : Value} {l : List UInt8} (w : World) (h : Wt w B wb v l) (hl : l.length ≤ 900) (hB : B ≤ w.heap.size) :
    Calls Tryz.prog 61 #[.pointer (some ⟨wb, 0, none⟩), .slice none 0 0, .func (.func 62) #[.pointer (some ⟨wb, 0, none⟩)] #[]] w fun e w' => Wrt B wb (l ++ [0]) w e w' := by
  have HP := Hid.mk' (wnum_small 0 0 rfl (by decide) w h (by omega) hB)
  clear h
  go_enter Tryz.func61, Tryz.ntmps61
  go_wp2_with fail
  refine HP.out.mono ?_
  rintro e w1 ⟨rfl, hW, hF⟩
  go_wp2
  go_loop [14] (fun v => v = .int .i64 0) (fun v => 0)
  case atStart => exact rfl
  case round =>
    subst hrel
    go_wp2
    exact bodyPost_ret (v := .tuple #[]) (results_none rfl _ _ _) rfl ⟨rfl, hW, hF⟩
set_option maxHeartbeats 1000000 in
set_option maxRecDepth 100000 in
theorem wlistT_nil {B wb : Nat} {v : Value} {l : List UInt8} (w : World) (h : Wt w B wb v l) (hl : l.length ≤ 900) (hB : B ≤ w.heap.size) :
    Calls Tryz.prog 65 #[.pointer (some ⟨wb, 0, none⟩), .slice none 0 0, .func (.func 66) #[.pointer (some ⟨wb, 0, none⟩)] #[]] w fun e w' => Wrt B wb (l ++ [0]) w e w' := by
  have HP := Hid.mk' (wnum_small 0 0 rfl (by decide) w h (by omega) hB)
  clear h
  go_enter Tryz.func65, Tryz.ntmps65
  go_wp2_with fail
  refine HP.out.mono ?_
  rintro e w1 ⟨rfl, hW, hF⟩
  go_wp2
  go_loop [14] (fun v => v = .int .i64 0) (fun v => 0)
  case atStart => exact rfl
  case round =>
    subst hrel
    go_wp2
    exact bodyPost_ret (v := .tuple #[]) (results_none rfl _ _ _) rfl ⟨rfl, hW, hF⟩
set_option maxHeartbeats 1000000 in
set_option maxRecDepth 100000 in
theorem wlistC_nil {B wb : Nat} {v : Value} {l : List UInt8} (w : World) (h : Wt w B wb v l) (hl : l.length ≤ 900) (hB : B ≤ w.heap.size) :
    Calls Tryz.prog 67 #[.pointer (some ⟨wb, 0, none⟩), .slice none 0 0, .func (.func 68) #[.pointer (some ⟨wb, 0, none⟩)] #[]] w fun e w' => Wrt B wb (l ++ [0]) w e w' := by
  have HP := Hid.mk' (wnum_small 0 0 rfl (by decide) w h (by omega) hB)
  clear h
  go_enter Tryz.func67, Tryz.ntmps67
  go_wp2_with fail
  refine HP.out.mono ?_
  rintro e w1 ⟨rfl, hW, hF⟩
  go_wp2
  go_loop [14] (fun v => v = .int .i64 0) (fun v => 0)
  case atStart => exact rfl
  case round =>
    subst hrel
    go_wp2
    exact bodyPost_ret (v := .tuple #[]) (results_none rfl _ _ _) rfl ⟨rfl, hW, hF⟩
/-- The example's code. -/
def exC : Nat → List UInt8
  | 0 => []
  | 1 => [0, 0, 0]
  | _ => [0, 0, 0, 34, 0]
def exO : Nat → Nat
  | 0 => 0
  | _ => 34
def exRow : Array Value := #[.int .i64 0, .int .i64 0, .int .i64 0, .int .i64 0, .int .i64 0, .int .i64 34, .int .i64 0, .int .i64 0, .int .i64 0, .int .i64 0]
theorem exRow_get (i k : Nat) (hi : i < 2) (hk : k < 5) : exRow[i * 5 + k]? = some (.int .i64 (if k = 0 then (exO i : Int) else 0)) := by
  have h1 : i = 0 ∨ i = 1 := by omega
  have h2 : k = 0 ∨ k = 1 ∨ k = 2 ∨ k = 3 ∨ k = 4 := by omega
  rcases h1 with rfl | rfl <;> rcases h2 with rfl | rfl | rfl | rfl | rfl <;> rfl
theorem exC_step (i : Nat) (hi : i < 2) (l : List UInt8) : (l ++ 2 :: exC i) ++ (UInt8.ofNat (exO i)) :: List.replicate (letsOf (exO i)).length 0 = l ++ 2 :: exC (i + 1) := by
  have h1 : i = 0 ∨ i = 1 := by omega
  rcases h1 with rfl | rfl <;> simp [exC, exO, letsOf, lets]
set_option maxHeartbeats 2000000 in
set_option maxRecDepth 100000 in
theorem wlistI_ex {B wb gi c : Nat} {v : Value} {l : List UInt8} (w : World) (h : Wt w B wb v l) (hl : l.length ≤ 700) (hB : B ≤ w.heap.size) (hL : LaidL w) (hr : 1 ≠ wb) (hg : 1 < B) (hx : w.heap[gi]? = some (.cells exRow 35 (0, 0))) (hgi : gi ≠ wb) :
    Calls Tryz.prog 63 #[.pointer (some ⟨wb, 0, none⟩), .slice (some ⟨gi, 0, none⟩) 2 c, .func (.func 64) #[.pointer (some ⟨wb, 0, none⟩)] #[]] w fun e w' => Wrt B wb (l ++ 2 :: exC 2) w e w' := by
  have HP := Hid.mk' (wnum_small 2 2 rfl (by decide) w h (by omega) hB)
  have HI : Hid (∀ i v' W, i < 2 → Wt W B wb v' (l ++ 2 :: exC i) → Fo B wb w W → Calls Tryz.prog 64 #[.pointer (some ⟨wb, 0, none⟩), .agg #[.int .i64 (exO i : Int), .int .i64 0, .int .i64 0, .int .i64 0, .int .i64 0]] W fun e w' => Wrt B wb (l ++ 2 :: exC (i + 1)) W e w') := Hid.mk' (fun i v' W hi hW hF => by
    have h1 : i = 0 ∨ i = 1 := by omega
    have hll : (l ++ 2 :: exC i).length ≤ 800 := by
      rcases h1 with rfl | rfl <;> simp [exC] <;> omega
    rw [← exC_step i hi l]
    exact winstr0 (UInt8.ofNat (exO i)) (exO i) (by rcases h1 with rfl | rfl <;> rfl) (by rcases h1 with rfl | rfl <;> decide) W hW hll (Nat.le_trans hB hF.size) (hL.fo hF hg hr) hr hg)
  have HX := Hid.mk' hx
  have HG := Hid.mk' hgi
  clear h hL hx
  go_enter Tryz.func63, Tryz.ntmps63
  go_wp2_with fail
  refine HP.out.mono ?_
  rintro e w1 ⟨rfl, ⟨v1, hW⟩, hF⟩
  have HW1 : Hid (Wt w1 B wb v1 (l ++ 2 :: exC 0)) := Hid.mk' hW
  have HF1 := Hid.mk' hF
  clear hW hF
  go_wp2
  go_loopw [14] (fun iv wr => ∃ (i : Nat) (v' : Value), iv = .int .i64 (i : Int) ∧ i ≤ 2 ∧ Hid (Wt wr B wb v' (l ++ 2 :: exC i)) ∧ Hid (Fo B wb w wr)) (fun iv wr => 2 - (intOf iv).toNat)
  case atStart => exact ⟨0, v1, rfl, by omega, HW1, HF1⟩
  case round =>
    obtain ⟨i, v', rfl, hi, HW, HF⟩ := hrel
    by_cases hlt : i < 2
    · have hb := HF.out.box HG.out (by decide) HX.out
      have e0 : wr.cell? ⟨gi, i * 5, none⟩ = some (.int .i64 (exO i : Int)) := by
        have := (cell_row _ gi (i * 5 + 0) _ _ hb).trans (exRow_get i 0 hlt (by omega))
        simpa using this
      have e1 : wr.cell? ⟨gi, i * 5 + 1, none⟩ = some (.int .i64 0) := (cell_row _ gi (i * 5 + 1) _ _ hb).trans (exRow_get i 1 hlt (by omega))
      have e2 : wr.cell? ⟨gi, i * 5 + 2, none⟩ = some (.int .i64 0) := (cell_row _ gi (i * 5 + 2) _ _ hb).trans (exRow_get i 2 hlt (by omega))
      have e3 : wr.cell? ⟨gi, i * 5 + 3, none⟩ = some (.int .i64 0) := (cell_row _ gi (i * 5 + 3) _ _ hb).trans (exRow_get i 3 hlt (by omega))
      have e4 : wr.cell? ⟨gi, i * 5 + 4, none⟩ = some (.int .i64 0) := (cell_row _ gi (i * 5 + 4) _ _ hb).trans (exRow_get i 4 hlt (by omega))
      have i1 : (i : Int) < 2 := by omega
      have HN : Hid (∀ W, Below wr.heap.size wr W → Calls Tryz.prog 64 #[.pointer (some ⟨wb, 0, none⟩), .agg #[.int .i64 (exO i : Int), .int .i64 0, .int .i64 0, .int .i64 0, .int .i64 0]] W fun e w' => Wrt B wb (l ++ 2 :: exC (i + 1)) W e w') := Hid.mk' (fun W hb => HI.out i v' W hlt (HW.out.below hb) (HF.out.trans (Fo.of_below hb)))
      obtain ⟨zo, hzo⟩ : ∃ zo : Int, (exO i : Int) = zo := ⟨_, rfl⟩
      rw [hzo] at e0 HN
      clear hb hzo
      go_wp2_with fail
      refine (HN.out _ lay_below).mono ?_
      rintro e w4 ⟨rfl, ⟨v4, hW4⟩, hF4⟩
      have HW4 := Hid.mk' hW4
      have HF4 := Hid.mk' ((HF.out.trans (Fo.of_below lay_below)).trans hF4)
      clear hW4 hF4
      go_wp2
      go_roundw
      case rel => exact ⟨i + 1, v4, by go_num, hlt, HW4, HF4⟩
      case measure => simp [intOf]; omega
    · obtain rfl : i = 2 := by omega
      go_wp2
      exact bodyPost_ret (v := .tuple #[]) (results_none rfl _ _ _) rfl ⟨rfl, ⟨_, HW.out⟩, HF.out⟩
end Go.Proofs.YtkgjmiadgfcbnaaGreatDoor
