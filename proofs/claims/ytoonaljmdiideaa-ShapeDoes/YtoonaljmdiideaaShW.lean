/- Package shape: slices.Grow, slices.Concat of numbers of keys. -/
import Derived.Test.YtoonaljmdiideaaShM
namespace Go.Proofs.Ytoonaljmdiideaa
set_option linter.unusedVariables false
set_option linter.unusedSimpArgs false
open Go.RowKit Go.Maps Go.ChangeShapes

set_option maxHeartbeats 1000000 in
set_option maxRecDepth 100000 in
theorem grow32 (n : Nat) (w : World) (h0 : 1 ≤ n) (h1 : n ≤ 100000) :
    Calls Try.prog 68 #[.slice none 0 0, .int .i64 (n : Nat)] w fun e w' => ∃ a c, e = .returned (.slice a 0 c) ∧ w'.ownsRow w.heap.size 21 1 (.slice a 0 c) 0 [] ∧ Below w.heap.size w w' := by
  obtain ⟨i0, hif, hz0, hz1, hz2⟩ := sh_parts sh_info32
  have hrz := Lib.run_append_grow_zeros (P := Try.prog) w 58 3 58 21 i0 (.int .i32 0) .i64 .i64 Try.underlying58 Try.underlying3 hif hz0 none 0 0 [] (run_firstCells_none _ _ _ _ _) n (by omega) (by omega) (by omega) (by omega) (by rw [hz2]; omega) (growslice_fits (by omega) (by rw [hz2]; omega))
  rw [Nat.zero_add] at hrz
  have hGn : n ≤ grownCap w n 0 21 := grownCap_ge w _ _ _
  have hGm := grownCap_le_maxLen w n 0 21 (by unfold maxLen; omega)
  obtain ⟨G, hG⟩ : ∃ G, grownCap w n 0 21 = G := ⟨_, rfl⟩
  rw [hG] at hrz hGn hGm
  obtain ⟨A, hA⟩ : ∃ A, (([] : List Value).toArray ++ Builtin.zeroCells (Value.int .i32 0).cells n ++ Builtin.zeroCells (Value.int .i32 0).cells (G - n)) = A := ⟨_, rfl⟩
  have HA : Hid (A.size = G * 1) := Hid.mk' (by rw [← hA]; simp [Builtin.zeroCells, Value.cells]; omega)
  rw [hA] at hrz
  have HM := Hid.mk' hGm
  have hG63 : G ≤ 9223372036854775807 := by unfold maxLen at hGm; omega
  have j1 : ¬ (n : Int) < 0 := by omega
  have j2 : (n : Int) > 0 := by omega
  clear hG hA hif hz0 hz1 hz2 hGm
  go_enter Try.func68, Try.ntmps68
  go_wp2_with (at_builtin; refine Lib.wpList_append_run _ rfl _ _ _ _ rfl _ _ rfl rfl _ _ hrz ?_)
  go_ret
  refine ⟨_, _, rfl, ?_, ?_⟩
  · exact World.ownsRow_made w.drew A G (Nat.le_refl _) HM.out HA.out
  · exact (Below.refl _ _).drew.alloc (Nat.le_refl _) _
/-- One row of numbers onto another. -/
theorem app32 {w : World} {B B' n : Nat} {v u : Value} {xs l : List Int} (hv : w.ownsRow B 21 1 v n (iC xs)) (hu : w.ownsRow B' 21 1 u l.length (iC l)) (hs : n + l.length ≤ 100000) (hB : B ≤ w.heap.size) :
    ∃ v' w', (Builtin.append_ #[58, 58] 58 #[v, u]).run Try.prog w = .ok v' w' ∧ w'.ownsRow B 21 1 v' (n + l.length) (iC (xs ++ l)) ∧ Below B w w' := by
  obtain ⟨i0, hif, hz0, hz1, hz2⟩ := sh_parts sh_info32
  rcases hu.2 with ⟨rfl, hl⟩ | ⟨g, cap, cur, rfl, hBg, hg, hcap, _, _, hcur⟩
  · have e := List.length_eq_zero_iff.1 hl
    subst e
    refine ⟨v, w, run_append_owned_none (w := w) B 58 58 21 i0 1 Try.underlying58 hif v n _ hv, ?_, Below.refl _ _⟩
    simpa using hv
  · obtain ⟨v', w', hrun, r1, r2, _⟩ := run_append_own_at (P := Try.prog) w B 58 58 21 i0 (.int .i32 0) 1 4 Try.underlying58 hif hz0 hz1 hz2 rfl (by decide) v n (iC xs) hv ⟨g, 0, none⟩ l.length cap (iC l) (by simp [iC]) (fun j u hj => hu.cells rfl j u hj) (fun u hu' => by
      obtain ⟨x, _, rfl⟩ := List.mem_map.1 hu'
      rfl) (by unfold maxLen; omega) (by omega) hB
    refine ⟨v', w', hrun, by rw [iC_append]; exact r1, (Below.refl _ _).grown r2 hB (fun j hj => (hv.lt j hj).1)⟩
set_option maxHeartbeats 4000000 in
set_option maxRecDepth 100000 in
theorem concat32 (pb B : Nat) (v1 v2 : Value) (l1 l2 : List Int) (w : World) (hB : B ≤ w.heap.size) (c1 : w.cell? ⟨pb, 0, none⟩ = some v1) (c2 : w.cell? ⟨pb, 1, none⟩ = some v2) (h1 : w.ownsRow B 21 1 v1 l1.length (iC l1)) (h2 : w.ownsRow B 21 1 v2 l2.length (iC l2)) (hl : l1.length + l2.length ≤ 100000) (hp : 1 ≤ l2.length) :
    Calls Try.prog 61 #[.slice (some ⟨pb, 0, none⟩) 2 2] w fun e w' => ∃ v, e = .returned v ∧ w'.ownsRow w.heap.size 21 1 v (l1.length + l2.length) (iC (l1 ++ l2)) ∧ Below w.heap.size w w' := by
  obtain ⟨a1, x1, e1, _⟩ := own_slice' h1
  obtain ⟨a2, x2, e2, _⟩ := own_slice' h2
  obtain ⟨m1, hm1⟩ : ∃ m, l1.length = m := ⟨_, rfl⟩
  obtain ⟨m2, hm2⟩ : ∃ m, l2.length = m := ⟨_, rfl⟩
  rw [hm1] at e1
  rw [hm2] at e2
  have H1 := Hid.mk' h1
  have H2 := Hid.mk' h2
  have HE1 := Hid.mk' e1
  have HE2 := Hid.mk' e2
  subst e1 e2
  have HG := Hid.mk' (fun W => grow32 (m1 + m2) W (by omega) (by omega))
  obtain ⟨M, hM⟩ : ∃ M, m1 + m2 = M := ⟨_, rfl⟩
  rw [hM] at HG
  have HCAST : Hid ((m1 : Int) + (m2 : Int) = (M : Int)) := Hid.mk' (by omega)
  have HM : Hid (l1.length = m1 ∧ l2.length = m2 ∧ m1 + m2 ≤ 100000) := Hid.mk' ⟨hm1, hm2, by omega⟩
  have pbl := World.block_lt_of_cell? w _ c1
  have HC : Hid (∀ W, Below w.heap.size w W → W.cell? ⟨pb, 0, none⟩ = some (.slice a1 m1 x1) ∧ W.cell? ⟨pb, 1, none⟩ = some (.slice a2 m2 x2)) := Hid.mk' (fun W hW => ⟨(hW.cell (p := ⟨pb, 0, none⟩) pbl).trans c1, (hW.cell (p := ⟨pb, 1, none⟩) pbl).trans c2⟩)
  rw [hm1, hm2]
  clear h1 h2 hl hp hm1 hm2 pbl hB hM
  go_enter Try.func61, Try.ntmps61
  go_wp2_with fail
  go_loop [3, 11] (fun v3 v11 => (v11 = .int .i64 0 ∧ v3 = .int .i64 0) ∨ (v11 = .int .i64 1 ∧ v3 = .int .i64 (m1 : Int)) ∨ (v11 = .int .i64 2 ∧ v3 = .int .i64 (M : Int))) (fun _ v => 2 - (intOf v).toNat)
  case atStart => exact .inl ⟨rfl, rfl⟩
  case round =>
    have hmm := HM.out.2.2
    rcases hrel with ⟨rfl, rfl⟩ | ⟨rfl, rfl⟩ | ⟨rfl, rfl⟩
    · have i1 : ¬ (m1 : Int) < 0 := by omega
      go_wp2
      go_round
      case rel => exact .inr (.inl ⟨rfl, rfl⟩)
      case measure => decide
    · have i1 : ¬ (m1 : Int) + (m2 : Int) < 0 := by omega
      go_wp2
      go_round
      case rel => exact .inr (.inr ⟨rfl, by rw [← HCAST.out]⟩)
      case measure => decide
    · clear hmm c1 c2
      go_wp2_with fail
      refine (HG.out _).mono ?_
      rintro e w2 ⟨ga, gc, rfl, hown, b2⟩
      have HO : Hid (w2.ownsRow w.heap.size 21 1 (.slice ga 0 gc) ([] : List Int).length (iC [])) := Hid.mk' hown
      have HB2 := Hid.mk' b2
      clear hown b2
      go_wp2_with fail
      go_loopw [6, 27] (fun v6 v27 wr => ∃ L : List Int, ((v27 = .int .i64 0 ∧ Hid (L = [])) ∨ (v27 = .int .i64 1 ∧ Hid (L = l1)) ∨ (v27 = .int .i64 2 ∧ Hid (L = l1 ++ l2))) ∧ Hid (wr.ownsRow w.heap.size 21 1 v6 L.length (iC L) ∧ Below w.heap.size w wr)) (fun _ v wr => 2 - (intOf v).toNat)
      case atStart => exact ⟨[], .inl ⟨rfl, Hid.mk' rfl⟩, Hid.mk' ⟨HO.out, HB2.out⟩⟩
      case round =>
        obtain ⟨L, hL, HJ⟩ := hrel
        obtain ⟨c1, c2⟩ := HC.out wr HJ.out.2
        have hsz := HJ.out.2.size
        obtain ⟨ya, yc, hv6, _⟩ := own_slice' HJ.out.1
        subst hv6
        rcases hL with ⟨rfl, HL⟩ | ⟨rfl, HL⟩ | ⟨rfl, HL⟩
        · obtain rfl := HL.out
          obtain ⟨v', w', hrun, ho, hb⟩ := app32 HJ.out.1 (own_below H1.out HJ.out.2) (by have := HM.out; simp; omega) HJ.out.2.size
          have HN : Hid (w'.ownsRow w.heap.size 21 1 v' l1.length (iC l1) ∧ Below w.heap.size w w') := Hid.mk' ⟨by simpa using ho, HJ.out.2.trans hb⟩
          clear ho hb
          go_wp2_with (at_builtin; refine Lib.wpList_append_run _ rfl _ _ _ _ rfl _ _ rfl rfl _ _ hrun ?_)
          go_roundw
          case rel => exact ⟨l1, .inr (.inl ⟨rfl, Hid.mk' rfl⟩), HN⟩
          case measure => decide
        · obtain rfl := HL.out
          obtain ⟨v', w', hrun, ho, hb⟩ := app32 HJ.out.1 (own_below H2.out HJ.out.2) (by have := HM.out; omega) HJ.out.2.size
          have HN : Hid (w'.ownsRow w.heap.size 21 1 v' (L ++ l2).length (iC (L ++ l2)) ∧ Below w.heap.size w w') := Hid.mk' ⟨by rw [List.length_append]; exact ho, HJ.out.2.trans hb⟩
          clear ho hb
          go_wp2_with (at_builtin; refine Lib.wpList_append_run _ rfl _ _ _ _ rfl _ _ rfl rfl _ _ hrun ?_)
          go_roundw
          case rel => exact ⟨L ++ l2, .inr (.inr ⟨rfl, Hid.mk' rfl⟩), HN⟩
          case measure => decide
        · obtain rfl := HL.out
          go_wp2
          go_ret
          exact ⟨_, rfl, by have := HJ.out.1; rw [List.length_append] at this; rw [← HM.out.1, ← HM.out.2.1]; simpa using this, HJ.out.2⟩
end Go.Proofs.Ytoonaljmdiideaa
