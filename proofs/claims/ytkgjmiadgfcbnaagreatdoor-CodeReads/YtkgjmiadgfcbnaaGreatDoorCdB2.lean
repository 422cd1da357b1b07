/- Package code: small parts of Show. -/
import Derived.Test.YtkgjmiadgfcbnaaGreatDoorCdB1
import Derived.Test.YtkgjmiadgfcbnaaGreatDoorCdF
import Derived.Test.YtkgjmiadgfcbnaaGreatDoorShelf
namespace Go.Proofs.YtkgjmiadgfcbnaaGreatDoor
set_option linter.unusedVariables false
set_option linter.unusedSimpArgs false
open Go.RowKit

set_option maxHeartbeats 1000000 in
theorem itoa_small (i : Nat) (h : i < 2) (w : World) : Calls Tryz.prog 19 #[.int .i64 (i : Int)] w fun e w' => e = .returned (.string (Sb [UInt8.ofNat (48 + i)])) ∧ w' = w := by
  have hd : (⟨(Lib.decDigits i).toArray⟩ : ByteArray) = Sb [UInt8.ofNat (48 + i)] := by
    have h1 : i = 0 ∨ i = 1 := by omega
    rcases h1 with rfl | rfl <;> simp [Lib.decDigits, Sb]
  have HS := Hid.mk' (fun W => Tryz.internal_strconv_small i (by omega) W)
  rw [hd] at HS
  obtain ⟨s, hs⟩ : ∃ s, Sb [UInt8.ofNat (48 + i)] = s := ⟨_, rfl⟩
  rw [hs] at HS ⊢
  clear hd hs
  have i0 : (0 : Int) ≤ (i : Int) := by omega
  have i1 : (i : Int) < 100 := by omega
  have HF : Hid (∀ W, Calls Tryz.prog 70 #[.int .i64 (i : Int), .int .i64 10] W fun e w' => e = .returned (.string s) ∧ w' = W) := Hid.mk' (fun W => by
    go_enter Tryz.func70, Tryz.ntmps70
    go_wp2_with (go_at_call 83; refine (HS.out _).mono ?_; rintro e w1 ⟨rfl, hw1⟩; rw [hw1]; clear hw1 w1)
    go_ret
    exact ⟨rfl, rfl⟩)
  have HG : Hid (∀ W, Calls Tryz.prog 41 #[.int .i64 (i : Int)] W fun e w' => e = .returned (.string s) ∧ w' = W) := Hid.mk' (fun W => by
    go_enter Tryz.func41, Tryz.ntmps41
    go_wp2_with (go_at_call 70; refine (HF.out _).mono ?_; rintro e w1 ⟨rfl, hw1⟩; rw [hw1]; clear hw1 w1)
    go_ret
    exact ⟨rfl, rfl⟩)
  go_enter Tryz.func19, Tryz.ntmps19
  go_wp2_with (go_at_call 41; refine (HG.out _).mono ?_; rintro e w1 ⟨rfl, hw1⟩; rw [hw1]; clear hw1 w1)
  go_ret
  exact ⟨rfl, rfl⟩
def shw : UInt8 → List UInt8
  | 114 => [114, 48]
  | _ => [48]
set_option maxHeartbeats 1000000 in
theorem shown_ex (a : Value) (c : UInt8) (hc : c = 114 ∨ c = 110) (w : World) : Calls Tryz.prog 25 #[a, .int .i32 (c.toNat : Int), .int .i64 0] w fun e w' => e = .returned (.string (Sb (shw c))) ∧ w' = w := by
  have HI := Hid.mk' (fun W => itoa_small 0 (by decide) W)
  rcases hc with rfl | rfl
  · go_enter Tryz.func25, Tryz.ntmps25
    go_wp2_with (go_at_call 19; refine (HI.out _).mono ?_; rintro e w1 ⟨rfl, hw1⟩; rw [hw1]; clear hw1 w1)
    go_ret
    exact ⟨rfl, rfl⟩
  · go_enter Tryz.func25, Tryz.ntmps25
    go_wp2_with (go_at_call 19; refine (HI.out _).mono ?_; rintro e w1 ⟨rfl, hw1⟩; rw [hw1]; clear hw1 w1)
    go_ret
    exact ⟨rfl, rfl⟩
/-- The names that the example needs lie there. -/
def nmE : Nat → List UInt8
  | 0 => [76, 111, 97, 100]
  | _ => [82, 101, 116, 117, 114, 110]
def LaidNm (w : World) : Prop := w.cell? ⟨0, 0, none⟩ = some (.string (Sb (nmE 0))) ∧ w.cell? ⟨0, 34, none⟩ = some (.string (Sb (nmE 1)))
set_option maxHeartbeats 1000000 in
theorem name_ex (i : Nat) (z : Int) (hz : (i = 0 ∧ z = 0) ∨ (i = 1 ∧ z = 34)) (w : World) (h : Hid (LaidNm w)) : Calls Tryz.prog 22 #[.int .i64 z] w fun e w' => e = .returned (.string (Sb (nmE i))) ∧ w' = w := by
  have HI := Hid.mk' (fun W => isOp_any z W)
  obtain ⟨c0, c1⟩ := h.out
  rcases hz with ⟨rfl, rfl⟩ | ⟨rfl, rfl⟩
  · rw [decide_eq_true (by decide)] at HI
    go_enter Tryz.func22, Tryz.ntmps22
    go_wp2_with (go_at_call 21; refine (HI.out _).mono ?_; rintro e w1 ⟨rfl, hw1⟩; rw [hw1]; clear hw1 w1)
    go_ret
    exact ⟨rfl, rfl⟩
  · rw [decide_eq_true (by decide)] at HI
    go_enter Tryz.func22, Tryz.ntmps22
    go_wp2_with (go_at_call 21; refine (HI.out _).mono ?_; rintro e w1 ⟨rfl, hw1⟩; rw [hw1]; clear hw1 w1)
    go_ret
    exact ⟨rfl, rfl⟩
end Go.Proofs.YtkgjmiadgfcbnaaGreatDoor
