/- The chapter's examples walk. -/
import Derived.Test.YtopdogpcachonaaGreatDoorLAw
namespace Go.Proofs.YtopdogpcachonaaGreatDoor
set_option linter.unusedVariables false
open Go.RowKit Go.Shelf
theorem row_cell {W : World} {B n : Nat} {g c : Nat} {xs : List Value} (h : W.ownsRow B 31 7 (.slice (some ⟨g, 0, none⟩) n c) n xs) (j : Nat) (v : Value) (hv : xs[j]? = some v) : W.cell? ⟨g, j, none⟩ = some v := by
  have q := h.cells (g := g) rfl j v hv
  have e : (⟨g, 0, none⟩ : Addr).add j = ⟨g, j, none⟩ := by unfold Addr.add; split <;> simp_all
  rw [e] at q
  exact q
theorem own_cap {W : World} {B n : Nat} {g c : Nat} {xs : List Value} (h : W.ownsRow B 31 7 (.slice (some ⟨g, 0, none⟩) n c) n xs) : n ≤ c := by
  rcases h.2 with ⟨h0, _⟩ | ⟨g', cap, cur, e, _, _, hn, _⟩
  · cases h0
  · cases e; exact hn
set_option maxHeartbeats 4000000 in
set_option maxRecDepth 100000 in
theorem awake_l (w : World) (hl : LaidN w) : Calls Tryz.prog 5 #[] w fun e w' => e = .returned (.bool true) ∧ Below w.heap.size w w' := by
  have H1 := Hid.mk' (scan1 w hl)
  have H2 := Hid.mk' (fun W => scan2 W)
  have H3 := Hid.mk' (fun W => scan3 W)
  have q1 : (FloatKind.f64.format.order 4609434218613702656 4609434218613702656 == some Ordering.eq) = true := by decide
  clear hl
  go_enter Tryz.func5, Tryz.ntmps5
  go_wp2_with fail
  refine H1.out.mono ?_
  rintro e w1 ⟨⟨v1, rfl, o1⟩, b1⟩
  go_wp2_with fail
  refine (H2.out _).mono ?_
  rintro e w2 ⟨⟨v2, rfl, o2⟩, b2⟩
  go_wp2_with fail
  refine (H3.out _).mono ?_
  rintro e w3 ⟨rfl, b3⟩
  have o1' := own_below (own_below o1 b2) b3
  have o2' := own_below o2 b3
  obtain ⟨a1, c1, rfl, _⟩ := own_slice' o1'
  obtain ⟨g1, rfl⟩ := own_some o1' (by decide)
  obtain ⟨a2, c2, rfl, _⟩ := own_slice' o2'
  obtain ⟨g2, rfl⟩ := own_some o2' (by decide)
  have k1 := own_cap o1'
  have k2 := own_cap o2'
  have x8 := row_cell o1' 8 (.string ⟨#[43, 61]⟩) rfl
  have x13 := row_cell o1' 13 (.bool true) rfl
  have x17 := row_cell o1' 17 (.float .f64 4609434218613702656) rfl
  have y0 := row_cell o2' 0 (.int .i64 7) rfl
  have y21 := row_cell o2' 21 (.int .i64 9) rfl
  have HB : Hid (Below w.heap.size w w3) := Hid.mk' ((b1.trans (b2.mono b1.size)).trans (b3.mono (Nat.le_trans b1.size b2.size)))
  clear o1 o2 o1' o2' b1 b2 b3
  go_wp2
  go_ret
  exact ⟨rfl, HB.out⟩
end Go.Proofs.YtopdogpcachonaaGreatDoor
