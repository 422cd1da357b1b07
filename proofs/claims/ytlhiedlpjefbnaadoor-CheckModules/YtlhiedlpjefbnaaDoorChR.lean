/- The chapter's examples. -/
import Derived.Test.YtlhiedlpjefbnaaDoorChQ
namespace Go.Proofs.YtlhiedlpjefbnaaDoor
set_option linter.unusedVariables false
set_option linter.unusedSimpArgs false
open Go.RowKit Go.Shelf

theorem RdE.of_block {α : Type} {cs : α → List Value} {sz : Nat} (hcs : ∀ x, (cs x).length = sz) {w : World} {g c : Nat} {t : TypeId} {l : List α} (hb : w.heap[g]? = some (.cells (l.flatMap cs).toArray t (0, 0))) (hle : l.length ≤ c) (hcl : c * (sz * 8) ≤ 140737488351232) : RdE cs sz w (some ⟨g, 0, none⟩) c l :=
  ⟨hle, hcl, (fun h => by cases h), .inr ⟨g, 0, rfl, (Array.getElem?_eq_some_iff.1 hb).1, fun j hj k u hk hu => by
    rw [cell_row _ _ _ _ _ hb, Nat.zero_add, List.getElem?_toArray, flat_get' hcs l j k hj hk]
    exact hu⟩⟩
theorem RdE.none {α : Type} {cs : α → List Value} {sz : Nat} (w : World) : RdE cs sz w .none 0 ([] : List α) := ⟨Nat.le_refl _, by omega, fun _ => rfl, .inl rfl⟩
def ex2F : Fun := ⟨⟨#[]⟩, 0, false, false, 1, [], [⟨0, 0, 0, 0, 0⟩, ⟨34, 0, 0, 0, 0⟩], [], []⟩
theorem ins_len' (x : Ins) : x.cs.length = 5 := rfl
theorem fw_len (x : FW) : x.cs.length = 9 := rfl
theorem ex2_ok : fnP [ex2F] 0 ex2F = none := by decide +kernel
theorem ex1_no : fnP [exF] 0 exF = some 0 := by decide +kernel
theorem chk_ok {f : Fun} {g k : Nat} {z : Int} (h : Chk [f] g k z) (hf : fnP [f] 0 f = .none) : z = 0 := by
  rcases h with ⟨h, _⟩ | ⟨_, ⟨_, _, h, _⟩ | ⟨hg, _, h, _⟩⟩
  · simp at h
  · exact h
  · simp at hg
    subst hg
    rw [show [f].getD 0 noFun = f from rfl, hf] at h
    cases h
theorem chk_no {f : Fun} {g k : Nat} {z : Int} (h : Chk [f] g k z) (hf : fnP [f] 0 f = some 0) : k = 0 ∧ z = 120 := by
  rcases h with ⟨h, _⟩ | ⟨_, ⟨_, _, _, h⟩ | ⟨hg, hz, h, _⟩⟩
  · simp at h
  · have := h 0 (by simp)
    rw [show [f].getD 0 noFun = f from rfl, hf] at this
    cases this
  · simp at hg
    subst hg
    rw [show [f].getD 0 noFun = f from rfl, hf] at h
    simp at h
    exact ⟨h.symm, hz⟩
theorem fine_ex2 : Fine' ex2F := ⟨by decide, by decide, by decide, fun c hc => by cases hc⟩
theorem fine_ex : Fine' exF := ⟨by decide, by decide, by decide, fun c hc => by cases hc⟩
def q2 (bc : Nat) : FW := ⟨ex2F, .none, 0, some ⟨bc, 0, .none⟩, 2, .none, 0, .none, 0⟩
def q1 (bc : Nat) : FW := ⟨exF, .none, 0, some ⟨bc, 0, .none⟩, 2, .none, 0, .none, 0⟩
theorem md_ex2 {w : World} {bc bm : Nat} (hc : w.heap[bc]? = some (.cells (ex2F.code.flatMap Ins.cs).toArray 49 (0, 0))) (hm : w.heap[bm]? = some (.cells ([q2 bc].flatMap FW.cs).toArray 38 (0, 0))) : Md w (some ⟨bm, 0, .none⟩) 1 [q2 bc] :=
  ⟨RdE.of_block fw_len hm (by simp) (by omega), fun q hq => by rw [List.mem_singleton.1 hq]; exact ⟨RdE.none w, RdE.of_block ins_len' hc (c := 2) (Nat.le_refl _) (by omega), RdE.none w, RdE.none w⟩, fun q hq => by rw [List.mem_singleton.1 hq]; exact fine_ex2⟩
theorem md_ex1 {w : World} {bc bm : Nat} (hc : w.heap[bc]? = some (.cells (ex2F.code.flatMap Ins.cs).toArray 49 (0, 0))) (hm : w.heap[bm]? = some (.cells ([q1 bc].flatMap FW.cs).toArray 38 (0, 0))) : Md w (some ⟨bm, 0, .none⟩) 1 [q1 bc] :=
  ⟨RdE.of_block fw_len hm (by simp) (by omega), fun q hq => by rw [List.mem_singleton.1 hq]; exact ⟨RdE.none w, (RdE.of_block ins_len' hc (c := 2) (Nat.le_refl _) (by omega)).take 1 (by decide), RdE.none w, RdE.none w⟩, fun q hq => by rw [List.mem_singleton.1 hq]; exact fine_ex⟩
theorem check_ex2 {w : World} {bc bm : Nat} (hl : LaidL w) (hc : w.heap[bc]? = some (.cells #[.int .i64 0, .int .i64 0, .int .i64 0, .int .i64 0, .int .i64 0, .int .i64 34, .int .i64 0, .int .i64 0, .int .i64 0, .int .i64 0] 49 (0, 0)))
    (hm : w.heap[bm]? = some (.cells #[.string ⟨#[]⟩, .int .i64 0, .bool false, .bool false, .int .i64 1, .slice .none 0 0, .slice (some ⟨bc, 0, .none⟩) 2 2, .slice .none 0 0, .slice .none 0 0] 38 (0, 0))) :
    Calls Tryd.prog 7 #[.agg #[.slice (some ⟨bm, 0, .none⟩) 1 1]] w fun e w' => ∃ g k : Nat, e = .returned (.tuple #[.int .i64 g, .int .i64 k, .int .i64 0]) ∧ Below w.heap.size w w' := by
  refine (check_any w (md_ex2 hc hm) hl).mono ?_
  rintro e w' ⟨V, rfl, g, k, z, rfl, hC, hb⟩
  rw [chk_ok hC ex2_ok]
  exact ⟨g, k, rfl, hb⟩
theorem check_ex1 {w : World} {bc bm : Nat} (hl : LaidL w) (hc : w.heap[bc]? = some (.cells #[.int .i64 0, .int .i64 0, .int .i64 0, .int .i64 0, .int .i64 0, .int .i64 34, .int .i64 0, .int .i64 0, .int .i64 0, .int .i64 0] 49 (0, 0)))
    (hm : w.heap[bm]? = some (.cells #[.string ⟨#[]⟩, .int .i64 0, .bool false, .bool false, .int .i64 1, .slice .none 0 0, .slice (some ⟨bc, 0, .none⟩) 1 2, .slice .none 0 0, .slice .none 0 0] 38 (0, 0))) :
    Calls Tryd.prog 7 #[.agg #[.slice (some ⟨bm, 0, .none⟩) 1 1]] w fun e w' => ∃ g : Nat, e = .returned (.tuple #[.int .i64 g, .int .i64 0, .int .i64 120]) ∧ Below w.heap.size w w' := by
  refine (check_any w (md_ex1 hc hm) hl).mono ?_
  rintro e w' ⟨V, rfl, g, k, z, rfl, hC, hb⟩
  obtain ⟨rfl, rfl⟩ := chk_no hC ex1_no
  exact ⟨g, rfl, hb⟩
set_option maxHeartbeats 2000000 in
set_option maxRecDepth 100000 in
theorem awake_any (w : World) (hl : LaidL w) : Calls Tryd.prog 5 #[] w fun e w' => e = .returned (.bool true) ∧ Below w.heap.size w w' := by
  obtain ⟨bc, hbc⟩ : ∃ bc, w.heap.size = bc := ⟨_, rfl⟩
  obtain ⟨W3, hW3⟩ : ∃ W3, ((w.alloc (.cells #[.int .i64 0, .int .i64 0, .int .i64 0, .int .i64 0, .int .i64 0, .int .i64 34, .int .i64 0, .int .i64 0, .int .i64 0, .int .i64 0] 49)).alloc (.cells #[.string ⟨#[]⟩, .int .i64 0, .bool false, .bool false, .int .i64 1, .slice .none 0 0, .slice (some ⟨bc, 0, .none⟩) 2 2, .slice .none 0 0, .slice .none 0 0] 38)).alloc (.cells #[.string ⟨#[]⟩, .int .i64 0, .bool false, .bool false, .int .i64 1, .slice .none 0 0, .slice (some ⟨bc, 0, .none⟩) 2 2, .slice .none 0 0, .slice .none 0 0] 38) = W3 := ⟨_, rfl⟩
  have b3 : Below w.heap.size w W3 := by rw [← hW3]; exact ((lay_below).alloc (by simp) _).alloc (by simp only [World.size_alloc]; omega) _
  have qc : W3.heap[bc]? = some (.cells #[.int .i64 0, .int .i64 0, .int .i64 0, .int .i64 0, .int .i64 0, .int .i64 34, .int .i64 0, .int .i64 0, .int .i64 0, .int .i64 0] 49 (0, 0)) := by
    rw [← hW3]
    exact at_old (by simp only [World.size_alloc]; omega) (at_old (by simp only [World.size_alloc]; omega) (at_new hbc))
  obtain ⟨bf, hbf⟩ : ∃ bf, bc + 1 = bf := ⟨_, rfl⟩
  obtain ⟨bm, hbm⟩ : ∃ bm, bf + 1 = bm := ⟨_, rfl⟩
  have qf : W3.heap[bf]? = some (.cells #[.string ⟨#[]⟩, .int .i64 0, .bool false, .bool false, .int .i64 1, .slice .none 0 0, .slice (some ⟨bc, 0, .none⟩) 2 2, .slice .none 0 0, .slice .none 0 0] 38 (0, 0)) := by
    rw [← hW3]
    exact at_old (by simp only [World.size_alloc]; omega) (at_new (by simp only [World.size_alloc]; omega))
  have qm : W3.heap[bm]? = some (.cells #[.string ⟨#[]⟩, .int .i64 0, .bool false, .bool false, .int .i64 1, .slice .none 0 0, .slice (some ⟨bc, 0, .none⟩) 2 2, .slice .none 0 0, .slice .none 0 0] 38 (0, 0)) := by
    rw [← hW3]
    exact at_new (by simp only [World.size_alloc]; omega)
  have HC1 := Hid.mk' (check_ex2 (hl.below' b3) qc qm)
  have HQC := Hid.mk' qc
  have HQF := Hid.mk' qf
  have HL3 := Hid.mk' (hl.below' b3)
  have HL0 := Hid.mk' hl
  have HB3 := Hid.mk' b3
  have HH3 := Hid.mk' hW3
  have hfc : bc ≠ bf := by omega
  have hge : bc ≤ bf := by omega
  have HNE := Hid.mk' (And.intro hfc hge)
  clear hl b3 qc qf qm hW3 hfc hge
  go_enter Tryd.func5, Tryd.ntmps5
  go_wp2_with fail
  rw [HH3.out]
  refine HC1.out.mono ?_
  rintro e w4 ⟨g4, k4, rfl, b4⟩
  have qf4 := (b4.block bf (Array.getElem?_eq_some_iff.1 HQF.out).1).trans HQF.out
  have qc4 := (b4.block bc (Array.getElem?_eq_some_iff.1 HQC.out).1).trans HQC.out
  have f6 : w4.cell? ⟨bf, 6, .none⟩ = some (.slice (some ⟨bc, 0, .none⟩) 2 2) := (cell_row _ _ 6 _ _ qf4).trans rfl
  have z6 := thaw_row _ _ _ _ qf4 6
  have HB4 := Hid.mk' (HB3.out.trans (b4.mono HB3.out.size))
  have HL4 := Hid.mk' (HL3.out.below' b4)
  obtain ⟨W5, hW5⟩ : ∃ W5, w4.setCell ⟨bf, 6, .none⟩ (.slice (some ⟨bc, 0, .none⟩) 1 2) = W5 := ⟨_, rfl⟩
  have qf5 : W5.heap[bf]? = some (.cells #[.string ⟨#[]⟩, .int .i64 0, .bool false, .bool false, .int .i64 1, .slice .none 0 0, .slice (some ⟨bc, 0, .none⟩) 1 2, .slice .none 0 0, .slice .none 0 0] 38 (0, 0)) := by rw [← hW5]; exact set_blk _ qf4
  have qc5 : W5.heap[bc]? = some (.cells #[.int .i64 0, .int .i64 0, .int .i64 0, .int .i64 0, .int .i64 0, .int .i64 34, .int .i64 0, .int .i64 0, .int .i64 0, .int .i64 0] 49 (0, 0)) := by rw [← hW5]; exact (Below.heap_setCell _ _ _ _ HNE.out.1).trans qc4
  have B5 : Below bc w W5 := by rw [← hW5]; have := HB4.out; rw [hbc] at this; exact this.setCell HNE.out.2 _
  have hl5 : LaidL W5 := HL0.out.below' (by rw [hbc]; exact B5)
  obtain ⟨W6, hW6⟩ : ∃ W6, W5.alloc (.cells #[.string ⟨#[]⟩, .int .i64 0, .bool false, .bool false, .int .i64 1, .slice .none 0 0, .slice (some ⟨bc, 0, .none⟩) 1 2, .slice .none 0 0, .slice .none 0 0] 38) = W6 := ⟨_, rfl⟩
  have b6 : Below W5.heap.size W5 W6 := by rw [← hW6]; exact lay_below
  have qm6 : W6.heap[W5.heap.size]? = some (.cells #[.string ⟨#[]⟩, .int .i64 0, .bool false, .bool false, .int .i64 1, .slice .none 0 0, .slice (some ⟨bc, 0, .none⟩) 1 2, .slice .none 0 0, .slice .none 0 0] 38 (0, 0)) := by rw [← hW6]; exact box_new
  have qc6 := (b6.block bc (Array.getElem?_eq_some_iff.1 qc5).1).trans qc5
  have qf6 := (b6.block bf (Array.getElem?_eq_some_iff.1 qf5).1).trans qf5
  have hsw : bc ≤ W5.heap.size := by have := B5.size; omega
  have HB6 : Hid (Below bc w W6) := Hid.mk' (B5.trans (b6.mono hsw))
  have HC6 := Hid.mk' (check_ex1 (hl5.below' b6) qc6 qm6)
  have HQC6 := Hid.mk' qc6
  have HQF6 := Hid.mk' qf6
  have HL6 := Hid.mk' (hl5.below' b6)
  have g0 : W5.cell? ⟨bf, 0, .none⟩ = _ := (cell_row _ _ 0 _ _ qf5).trans rfl
  have g1 : W5.cell? ⟨bf, 1, .none⟩ = _ := (cell_row _ _ 1 _ _ qf5).trans rfl
  have g2 : W5.cell? ⟨bf, 2, .none⟩ = _ := (cell_row _ _ 2 _ _ qf5).trans rfl
  have g3 : W5.cell? ⟨bf, 3, .none⟩ = _ := (cell_row _ _ 3 _ _ qf5).trans rfl
  have g4' : W5.cell? ⟨bf, 4, .none⟩ = _ := (cell_row _ _ 4 _ _ qf5).trans rfl
  have g5 : W5.cell? ⟨bf, 5, .none⟩ = _ := (cell_row _ _ 5 _ _ qf5).trans rfl
  have g6 : W5.cell? ⟨bf, 6, .none⟩ = _ := (cell_row _ _ 6 _ _ qf5).trans rfl
  have g7 : W5.cell? ⟨bf, 7, .none⟩ = _ := (cell_row _ _ 7 _ _ qf5).trans rfl
  have g8 : W5.cell? ⟨bf, 8, .none⟩ = _ := (cell_row _ _ 8 _ _ qf5).trans rfl
  simp at g0 g1 g2 g3 g4' g5 g6 g7 g8
  have HH5 := Hid.mk' hW5
  have HH6 := Hid.mk' hW6
  clear b4 qf4 qc4 qf5 qc5 B5 hl5 b6 qm6 qc6 qf6 hW5 hW6 hsw
  go_upto_region 4 with fail
  rw [HH5.out]
  go_wp2_with fail
  rw [HH6.out]
  refine HC6.out.mono ?_
  rintro e w7 ⟨g9, rfl, b7⟩
  have qf7 := (b7.block bf (Array.getElem?_eq_some_iff.1 HQF6.out).1).trans HQF6.out
  have qc7 := (b7.block bc (Array.getElem?_eq_some_iff.1 HQC6.out).1).trans HQC6.out
  have B7 := HB6.out.trans (b7.mono (by have := HB6.out.size; omega))
  have hl7 := HL6.out.below' b7
  have HR : Hid (∀ W, Below w7.heap.size w7 W → Calls Tryd.prog 9 #[.agg (exC (some ⟨bc, 0, .none⟩) 2)] W fun e w' => ∃ br, e = .returned (.slice (some ⟨br, 0, .none⟩) 1 1) ∧ w'.cell? ⟨br, 0, .none⟩ = some (.bool true) ∧ Below W.heap.size W w') := Hid.mk' (fun W hW => reach_ex bc 0 2 W (hl7.below' hW) (fun k hk => by
    have hq := (hW.block bc (Array.getElem?_eq_some_iff.1 qc7).1).trans qc7
    rw [cell_row _ _ _ _ _ hq]
    match k, hk with
    | 0, _ => rfl
    | 1, _ => rfl
    | 2, _ => rfl
    | 3, _ => rfl
    | 4, _ => rfl))
  unfold exC at HR
  have HF7 : Hid (∀ W, Below w7.heap.size w7 W → ∀ k, W.cell? ⟨bf, k, .none⟩ = _) := Hid.mk' (fun W hW k => cell_row _ _ k _ _ ((hW.block bf (Array.getElem?_eq_some_iff.1 qf7).1).trans qf7))
  have HB7 := Hid.mk' B7
  have r0 := Below.refl w7.heap.size w7
  have k0 := HF7.out _ r0 0
  have k1 := HF7.out _ r0 1
  have k2 := HF7.out _ r0 2
  have k3 := HF7.out _ r0 3
  have k4' := HF7.out _ r0 4
  have k5 := HF7.out _ r0 5
  have k6 := HF7.out _ r0 6
  have k7 := HF7.out _ r0 7
  have k8 := HF7.out _ r0 8
  simp at k0 k1 k2 k3 k4' k5 k6 k7 k8
  clear g0 g1 g2 g3 g4' g5 g6 g7 g8 b7 qf7 qc7 B7 hl7 r0 f6 z6
  go_wp2_with fail
  refine (HR.out _ (Below.refl _ _)).mono ?_
  rintro e w8 ⟨br, rfl, hbr, b8⟩
  have HB8 := Hid.mk' b8
  have j0 := HF7.out _ b8 0
  have j1 := HF7.out _ b8 1
  have j2 := HF7.out _ b8 2
  have j3 := HF7.out _ b8 3
  have j4 := HF7.out _ b8 4
  have j5 := HF7.out _ b8 5
  have j6 := HF7.out _ b8 6
  have j7 := HF7.out _ b8 7
  have j8 := HF7.out _ b8 8
  simp at j0 j1 j2 j3 j4 j5 j6 j7 j8
  clear b8 hbr k0 k1 k2 k3 k4' k5 k6 k7 k8
  go_wp2_with fail
  refine (HR.out _ HB8.out).mono ?_
  rintro e w9 ⟨br2, rfl, hbr, b9⟩
  have HB9 := Hid.mk' b9
  clear b9 j0 j1 j2 j3 j4 j5 j6 j7 j8
  go_wp2
  go_ret
  refine ⟨rfl, ?_⟩
  have s7 : bc ≤ w7.heap.size := by have := HB7.out.size; omega
  have := (HB7.out.trans (HB8.out.mono s7)).trans (HB9.out.mono (Nat.le_trans s7 HB8.out.size))
  first | exact this | (rw [hbc]; exact this)
end Go.Proofs.YtlhiedlpjefbnaaDoor
