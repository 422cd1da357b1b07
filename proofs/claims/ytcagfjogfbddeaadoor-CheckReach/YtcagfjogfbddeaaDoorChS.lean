/- The chapter's examples. CheckParts: few, the plain half. -/
import Derived.Test.YtcagfjogfbddeaaDoorChQ
namespace Go.Proofs.YtcagfjogfbddeaaDoor
set_option linter.unusedVariables false
set_option linter.unusedSimpArgs false
open Go.RowKit Go.Shelf

theorem RdE.of_block {α : Type} {cs : α → List Value} {sz : Nat} (hcs : ∀ x, (cs x).length = sz) {w : World} {g c : Nat} {t : TypeId} {l : List α} (hb : w.heap[g]? = some (.cells (l.flatMap cs).toArray t (0, 0))) (hle : l.length ≤ c) (hcl : c * (sz * 8) ≤ 140737488351232) : RdE cs sz w (some ⟨g, 0, none⟩) c l :=
  ⟨hle, hcl, (fun h => by cases h), .inr ⟨g, 0, rfl, (Array.getElem?_eq_some_iff.1 hb).1, fun j hj k u hk hu => by
    rw [cell_row _ _ _ _ _ hb, Nat.zero_add, List.getElem?_toArray, flat_get' hcs l j k hj hk]
    exact hu⟩⟩
theorem RdE.none {α : Type} {cs : α → List Value} {sz : Nat} (w : World) : RdE cs sz w .none 0 ([] : List α) := ⟨Nat.le_refl _, by omega, fun _ => rfl, .inl rfl⟩
def ex2F : Fun := ⟨⟨#[]⟩, 0, false, false, 1, [], [⟨0, 0, 0, 0, 0⟩, ⟨34, 0, 0, 0, 0⟩], [], []⟩
theorem ins_len' (x : Ins) : x.cs.length = 5 := rfl
theorem fw_len (x : FW) : x.cs.length = 9 := rfl
theorem ex2_ok : fnP [ex2F] 0 ex2F = none := by decide +kernel
theorem ex1_no : fnP [exF] 0 exF = some 0 := by decide +kernel
theorem chk_ok {f : Fun} {g k : Nat} {z : Int} (h : Chk [f] g k z) (hf : fnP [f] 0 f = .none) : z = 0 := by
  rcases h with ⟨h, _⟩ | ⟨_, ⟨_, _, h, _⟩ | ⟨hg, _, h, _⟩⟩
  · simp at h
  · exact h
  · simp at hg
    subst hg
    rw [show [f].getD 0 noFun = f from rfl, hf] at h
    cases h
theorem chk_no {f : Fun} {g k : Nat} {z : Int} (h : Chk [f] g k z) (hf : fnP [f] 0 f = some 0) : k = 0 ∧ z = 120 := by
  rcases h with ⟨h, _⟩ | ⟨_, ⟨_, _, _, h⟩ | ⟨hg, hz, h, _⟩⟩
  · simp at h
  · have := h 0 (by simp)
    rw [show [f].getD 0 noFun = f from rfl, hf] at this
    cases this
  · simp at hg
    subst hg
    rw [show [f].getD 0 noFun = f from rfl, hf] at h
    simp at h
    exact ⟨h.symm, hz⟩
theorem fine_ex2 : Fine' ex2F := ⟨by decide, by decide, by decide, fun c hc => by cases hc⟩
theorem fine_ex : Fine' exF := ⟨by decide, by decide, by decide, fun c hc => by cases hc⟩
def q2 (bc : Nat) : FW := ⟨ex2F, .none, 0, some ⟨bc, 0, .none⟩, 2, .none, 0, .none, 0⟩
def q1 (bc : Nat) : FW := ⟨exF, .none, 0, some ⟨bc, 0, .none⟩, 2, .none, 0, .none, 0⟩
theorem md_ex2 {w : World} {bc bm : Nat} (hc : w.heap[bc]? = some (.cells (ex2F.code.flatMap Ins.cs).toArray 44 (0, 0))) (hm : w.heap[bm]? = some (.cells ([q2 bc].flatMap FW.cs).toArray 28 (0, 0))) : Md w (some ⟨bm, 0, .none⟩) 1 [q2 bc] :=
  ⟨RdE.of_block fw_len hm (by simp) (by omega), fun q hq => by rw [List.mem_singleton.1 hq]; exact ⟨RdE.none w, RdE.of_block ins_len' hc (c := 2) (Nat.le_refl _) (by omega), RdE.none w, RdE.none w⟩, fun q hq => by rw [List.mem_singleton.1 hq]; exact fine_ex2⟩
theorem md_ex1 {w : World} {bc bm : Nat} (hc : w.heap[bc]? = some (.cells (ex2F.code.flatMap Ins.cs).toArray 44 (0, 0))) (hm : w.heap[bm]? = some (.cells ([q1 bc].flatMap FW.cs).toArray 28 (0, 0))) : Md w (some ⟨bm, 0, .none⟩) 1 [q1 bc] :=
  ⟨RdE.of_block fw_len hm (by simp) (by omega), fun q hq => by rw [List.mem_singleton.1 hq]; exact ⟨RdE.none w, (RdE.of_block ins_len' hc (c := 2) (Nat.le_refl _) (by omega)).take 1 (by decide), RdE.none w, RdE.none w⟩, fun q hq => by rw [List.mem_singleton.1 hq]; exact fine_ex⟩
theorem check_ex2 {w : World} {bc bm : Nat} (hl : LaidL w) (hc : w.heap[bc]? = some (.cells #[.int .i64 0, .int .i64 0, .int .i64 0, .int .i64 0, .int .i64 0, .int .i64 34, .int .i64 0, .int .i64 0, .int .i64 0, .int .i64 0] 44 (0, 0)))
    (hm : w.heap[bm]? = some (.cells #[.string ⟨#[]⟩, .int .i64 0, .bool false, .bool false, .int .i64 1, .slice .none 0 0, .slice (some ⟨bc, 0, .none⟩) 2 2, .slice .none 0 0, .slice .none 0 0] 28 (0, 0))) :
    Calls Tryd.prog 10 #[.agg #[.slice (some ⟨bm, 0, .none⟩) 1 1]] w fun e w' => ∃ g k : Nat, e = .returned (.tuple #[.int .i64 g, .int .i64 k, .int .i64 0]) ∧ Below w.heap.size w w' := by
  refine (check_any w (md_ex2 hc hm) hl).mono ?_
  rintro e w' ⟨V, rfl, g, k, z, rfl, hC, hb⟩
  rw [chk_ok hC ex2_ok]
  exact ⟨g, k, rfl, hb⟩
theorem check_ex1 {w : World} {bc bm : Nat} (hl : LaidL w) (hc : w.heap[bc]? = some (.cells #[.int .i64 0, .int .i64 0, .int .i64 0, .int .i64 0, .int .i64 0, .int .i64 34, .int .i64 0, .int .i64 0, .int .i64 0, .int .i64 0] 44 (0, 0)))
    (hm : w.heap[bm]? = some (.cells #[.string ⟨#[]⟩, .int .i64 0, .bool false, .bool false, .int .i64 1, .slice .none 0 0, .slice (some ⟨bc, 0, .none⟩) 1 2, .slice .none 0 0, .slice .none 0 0] 28 (0, 0))) :
    Calls Tryd.prog 10 #[.agg #[.slice (some ⟨bm, 0, .none⟩) 1 1]] w fun e w' => ∃ g : Nat, e = .returned (.tuple #[.int .i64 g, .int .i64 0, .int .i64 120]) ∧ Below w.heap.size w w' := by
  refine (check_any w (md_ex1 hc hm) hl).mono ?_
  rintro e w' ⟨V, rfl, g, k, z, rfl, hC, hb⟩
  obtain ⟨rfl, rfl⟩ := chk_no hC ex1_no
  exact ⟨g, rfl, hb⟩
set_option maxHeartbeats 2000000 in
set_option maxRecDepth 100000 in
theorem awake_any (w : World) (hl : LaidL w) : Calls Tryd.prog 4 #[] w fun e w' => e = .returned (.bool true) ∧ Below w.heap.size w w' := by
  obtain ⟨bc, hbc⟩ : ∃ bc, w.heap.size = bc := ⟨_, rfl⟩
  obtain ⟨W3, hW3⟩ : ∃ W3, ((w.alloc (.cells #[.int .i64 0, .int .i64 0, .int .i64 0, .int .i64 0, .int .i64 0, .int .i64 34, .int .i64 0, .int .i64 0, .int .i64 0, .int .i64 0] 44)).alloc (.cells #[.string ⟨#[]⟩, .int .i64 0, .bool false, .bool false, .int .i64 1, .slice .none 0 0, .slice (some ⟨bc, 0, .none⟩) 2 2, .slice .none 0 0, .slice .none 0 0] 28)).alloc (.cells #[.string ⟨#[]⟩, .int .i64 0, .bool false, .bool false, .int .i64 1, .slice .none 0 0, .slice (some ⟨bc, 0, .none⟩) 2 2, .slice .none 0 0, .slice .none 0 0] 28) = W3 := ⟨_, rfl⟩
  have b3 : Below w.heap.size w W3 := by rw [← hW3]; exact ((lay_below).alloc (by simp) _).alloc (by simp only [World.size_alloc]; omega) _
  have qc : W3.heap[bc]? = some (.cells #[.int .i64 0, .int .i64 0, .int .i64 0, .int .i64 0, .int .i64 0, .int .i64 34, .int .i64 0, .int .i64 0, .int .i64 0, .int .i64 0] 44 (0, 0)) := by
    rw [← hW3]
    exact at_old (by simp only [World.size_alloc]; omega) (at_old (by simp only [World.size_alloc]; omega) (at_new hbc))
  obtain ⟨bf, hbf⟩ : ∃ bf, bc + 1 = bf := ⟨_, rfl⟩
  obtain ⟨bm, hbm⟩ : ∃ bm, bf + 1 = bm := ⟨_, rfl⟩
  have qf : W3.heap[bf]? = some (.cells #[.string ⟨#[]⟩, .int .i64 0, .bool false, .bool false, .int .i64 1, .slice .none 0 0, .slice (some ⟨bc, 0, .none⟩) 2 2, .slice .none 0 0, .slice .none 0 0] 28 (0, 0)) := by
    rw [← hW3]
    exact at_old (by simp only [World.size_alloc]; omega) (at_new (by simp only [World.size_alloc]; omega))
  have qm : W3.heap[bm]? = some (.cells #[.string ⟨#[]⟩, .int .i64 0, .bool false, .bool false, .int .i64 1, .slice .none 0 0, .slice (some ⟨bc, 0, .none⟩) 2 2, .slice .none 0 0, .slice .none 0 0] 28 (0, 0)) := by
    rw [← hW3]
    exact at_new (by simp only [World.size_alloc]; omega)
  have HC1 := Hid.mk' (check_ex2 (hl.below' b3) qc qm)
  have HQC := Hid.mk' qc
  have HQF := Hid.mk' qf
  have HL3 := Hid.mk' (hl.below' b3)
  have HL0 := Hid.mk' hl
  have HB3 := Hid.mk' b3
  have HH3 := Hid.mk' hW3
  have hfc : bc ≠ bf := by omega
  have hge : bc ≤ bf := by omega
  have HNE := Hid.mk' (And.intro hfc hge)
  clear hl b3 qc qf qm hW3 hfc hge
  go_enter Tryd.func4, Tryd.ntmps4
  go_wp2_with fail
  rw [HH3.out]
  refine HC1.out.mono ?_
  rintro e w4 ⟨g4, k4, rfl, b4⟩
  have qf4 := (b4.block bf (Array.getElem?_eq_some_iff.1 HQF.out).1).trans HQF.out
  have qc4 := (b4.block bc (Array.getElem?_eq_some_iff.1 HQC.out).1).trans HQC.out
  have f6 : w4.cell? ⟨bf, 6, .none⟩ = some (.slice (some ⟨bc, 0, .none⟩) 2 2) := (cell_row _ _ 6 _ _ qf4).trans rfl
  have z6 := thaw_row _ _ _ _ qf4 6
  have HB4 := Hid.mk' (HB3.out.trans (b4.mono HB3.out.size))
  have HL4 := Hid.mk' (HL3.out.below' b4)
  obtain ⟨W5, hW5⟩ : ∃ W5, w4.setCell ⟨bf, 6, .none⟩ (.slice (some ⟨bc, 0, .none⟩) 1 2) = W5 := ⟨_, rfl⟩
  have qf5 : W5.heap[bf]? = some (.cells #[.string ⟨#[]⟩, .int .i64 0, .bool false, .bool false, .int .i64 1, .slice .none 0 0, .slice (some ⟨bc, 0, .none⟩) 1 2, .slice .none 0 0, .slice .none 0 0] 28 (0, 0)) := by rw [← hW5]; exact set_blk _ qf4
  have qc5 : W5.heap[bc]? = some (.cells #[.int .i64 0, .int .i64 0, .int .i64 0, .int .i64 0, .int .i64 0, .int .i64 34, .int .i64 0, .int .i64 0, .int .i64 0, .int .i64 0] 44 (0, 0)) := by rw [← hW5]; exact (Below.heap_setCell _ _ _ _ HNE.out.1).trans qc4
  have B5 : Below bc w W5 := by rw [← hW5]; have := HB4.out; rw [hbc] at this; exact this.setCell HNE.out.2 _
  have hl5 : LaidL W5 := HL0.out.below' (by rw [hbc]; exact B5)
  obtain ⟨W6, hW6⟩ : ∃ W6, W5.alloc (.cells #[.string ⟨#[]⟩, .int .i64 0, .bool false, .bool false, .int .i64 1, .slice .none 0 0, .slice (some ⟨bc, 0, .none⟩) 1 2, .slice .none 0 0, .slice .none 0 0] 28) = W6 := ⟨_, rfl⟩
  have b6 : Below W5.heap.size W5 W6 := by rw [← hW6]; exact lay_below
  have qm6 : W6.heap[W5.heap.size]? = some (.cells #[.string ⟨#[]⟩, .int .i64 0, .bool false, .bool false, .int .i64 1, .slice .none 0 0, .slice (some ⟨bc, 0, .none⟩) 1 2, .slice .none 0 0, .slice .none 0 0] 28 (0, 0)) := by rw [← hW6]; exact box_new
  have qc6 := (b6.block bc (Array.getElem?_eq_some_iff.1 qc5).1).trans qc5
  have qf6 := (b6.block bf (Array.getElem?_eq_some_iff.1 qf5).1).trans qf5
  have hsw : bc ≤ W5.heap.size := by have := B5.size; omega
  have HB6 : Hid (Below bc w W6) := Hid.mk' (B5.trans (b6.mono hsw))
  have HC6 := Hid.mk' (check_ex1 (hl5.below' b6) qc6 qm6)
  have HQC6 := Hid.mk' qc6
  have HQF6 := Hid.mk' qf6
  have HL6 := Hid.mk' (hl5.below' b6)
  have g0 : W5.cell? ⟨bf, 0, .none⟩ = _ := (cell_row _ _ 0 _ _ qf5).trans rfl
  have g1 : W5.cell? ⟨bf, 1, .none⟩ = _ := (cell_row _ _ 1 _ _ qf5).trans rfl
  have g2 : W5.cell? ⟨bf, 2, .none⟩ = _ := (cell_row _ _ 2 _ _ qf5).trans rfl
  have g3 : W5.cell? ⟨bf, 3, .none⟩ = _ := (cell_row _ _ 3 _ _ qf5).trans rfl
  have g4' : W5.cell? ⟨bf, 4, .none⟩ = _ := (cell_row _ _ 4 _ _ qf5).trans rfl
  have g5 : W5.cell? ⟨bf, 5, .none⟩ = _ := (cell_row _ _ 5 _ _ qf5).trans rfl
  have g6 : W5.cell? ⟨bf, 6, .none⟩ = _ := (cell_row _ _ 6 _ _ qf5).trans rfl
  have g7 : W5.cell? ⟨bf, 7, .none⟩ = _ := (cell_row _ _ 7 _ _ qf5).trans rfl
  have g8 : W5.cell? ⟨bf, 8, .none⟩ = _ := (cell_row _ _ 8 _ _ qf5).trans rfl
  simp at g0 g1 g2 g3 g4' g5 g6 g7 g8
  have HH5 := Hid.mk' hW5
  have HH6 := Hid.mk' hW6
  clear b4 qf4 qc4 qf5 qc5 B5 hl5 b6 qm6 qc6 qf6 hW5 hW6 hsw
  go_upto_region 4 with fail
  rw [HH5.out]
  go_wp2_with fail
  rw [HH6.out]
  refine HC6.out.mono ?_
  rintro e w7 ⟨g9, rfl, b7⟩
  have qf7 := (b7.block bf (Array.getElem?_eq_some_iff.1 HQF6.out).1).trans HQF6.out
  have qc7 := (b7.block bc (Array.getElem?_eq_some_iff.1 HQC6.out).1).trans HQC6.out
  have B7 := HB6.out.trans (b7.mono (by have := HB6.out.size; omega))
  have hl7 := HL6.out.below' b7
  have HR : Hid (∀ W, Below w7.heap.size w7 W → Calls Tryd.prog 6 #[.agg (exC (some ⟨bc, 0, .none⟩) 2)] W fun e w' => ∃ br, e = .returned (.slice (some ⟨br, 0, .none⟩) 1 1) ∧ w'.cell? ⟨br, 0, .none⟩ = some (.bool true) ∧ Below W.heap.size W w') := Hid.mk' (fun W hW => reach_ex bc 0 2 W (hl7.below' hW) (fun k hk => by
    have hq := (hW.block bc (Array.getElem?_eq_some_iff.1 qc7).1).trans qc7
    rw [cell_row _ _ _ _ _ hq]
    match k, hk with
    | 0, _ => rfl
    | 1, _ => rfl
    | 2, _ => rfl
    | 3, _ => rfl
    | 4, _ => rfl))
  unfold exC at HR
  have HF7 : Hid (∀ W, Below w7.heap.size w7 W → ∀ k, W.cell? ⟨bf, k, .none⟩ = _) := Hid.mk' (fun W hW k => cell_row _ _ k _ _ ((hW.block bf (Array.getElem?_eq_some_iff.1 qf7).1).trans qf7))
  have HB7 := Hid.mk' B7
  have r0 := Below.refl w7.heap.size w7
  have k0 := HF7.out _ r0 0
  have k1 := HF7.out _ r0 1
  have k2 := HF7.out _ r0 2
  have k3 := HF7.out _ r0 3
  have k4' := HF7.out _ r0 4
  have k5 := HF7.out _ r0 5
  have k6 := HF7.out _ r0 6
  have k7 := HF7.out _ r0 7
  have k8 := HF7.out _ r0 8
  simp at k0 k1 k2 k3 k4' k5 k6 k7 k8
  clear g0 g1 g2 g3 g4' g5 g6 g7 g8 b7 qf7 qc7 B7 hl7 r0 f6 z6
  go_wp2_with fail
  refine (HR.out _ (Below.refl _ _)).mono ?_
  rintro e w8 ⟨br, rfl, hbr, b8⟩
  have HB8 := Hid.mk' b8
  have j0 := HF7.out _ b8 0
  have j1 := HF7.out _ b8 1
  have j2 := HF7.out _ b8 2
  have j3 := HF7.out _ b8 3
  have j4 := HF7.out _ b8 4
  have j5 := HF7.out _ b8 5
  have j6 := HF7.out _ b8 6
  have j7 := HF7.out _ b8 7
  have j8 := HF7.out _ b8 8
  simp at j0 j1 j2 j3 j4 j5 j6 j7 j8
  clear b8 hbr k0 k1 k2 k3 k4' k5 k6 k7 k8
  go_wp2_with fail
  refine (HR.out _ HB8.out).mono ?_
  rintro e w9 ⟨br2, rfl, hbr, b9⟩
  have HB9 := Hid.mk' b9
  clear b9 j0 j1 j2 j3 j4 j5 j6 j7 j8
  go_wp2
  go_ret
  refine ⟨rfl, ?_⟩
  have s7 : bc ≤ w7.heap.size := by have := HB7.out.size; omega
  have := (HB7.out.trans (HB8.out.mono s7)).trans (HB9.out.mono (Nat.le_trans s7 HB8.out.size))
  first | exact this | (rw [hbc]; exact this)
end Go.Proofs.YtcagfjogfbddeaaDoor

namespace Go.Proofs.YtcagfjogfbddeaaDoor
set_option linter.unusedVariables false
set_option linter.unusedSimpArgs false
open Go.RowKit Go.Shelf

def isB (v : Value) : Prop := ∃ b, v = .bool b
set_option maxHeartbeats 2000000 in
set_option maxRecDepth 100000 in
theorem few_any {a : Option Addr} {c : Nat} {qs : List FW} (w : World) (hm : Md w a c qs) :
    Calls Tryd.prog 5 #[.agg #[.slice a qs.length c]] w fun e w' => ∃ v, e = .returned v ∧ isB v ∧ Below w.heap.size w w' := by
  have hle := hm.r.le
  have hcl : c * (9 * 8) ≤ 140737488351232 := hm.r.cle
  have HM := Hid.mk' hm
  obtain ⟨N, hN⟩ : ∃ N, qs.length = N := ⟨_, rfl⟩
  rw [hN] at hle ⊢
  have HN := Hid.mk' hN
  have HB0 : Hid (Below w.heap.size w (w.alloc (.cells #[.slice a N c] 33))) := Hid.mk' lay_below
  clear hm hN
  go_enter Tryd.func5, Tryd.ntmps5
  go_wp2_with fail
  go_loopw [3, 12] (fun v3 iv wr => ∃ (i : Nat) (z : Int), v3 = .int .i64 z ∧ iv = .int .i64 (i : Int) ∧ i ≤ N ∧ Hid (Below w.heap.size w wr)) (fun v3 iv wr => N - (intOf iv).toNat)
  case atStart => exact ⟨0, _, rfl, rfl, Nat.zero_le _, HB0⟩
  case round =>
    obtain ⟨i, z, rfl, rfl, hi, HBW⟩ := hrel
    by_cases hlt : i < N
    · have hlq : i < qs.length := by rw [HN.out]; exact hlt
      obtain ⟨g, o, rfl, hg, hc⟩ := ((HM.out).below HBW.out).r.at i hlq
      have i1 : (i : Int) < (N : Int) := by omega
      have i2 : (i : Int) < 140737488351232 := by omega
      have hrd := ((HM.out).below HBW.out).q _ (List.getElem_mem hlq)
      generalize qs[i] = q at hc hrd
      have h1 := hrd.c.le
      have h1' : q.xc * (4 * 8) ≤ 140737488351232 := hrd.c.cle
      have h2 := hrd.i.le
      have h2' : q.yc * (5 * 8) ≤ 140737488351232 := hrd.i.cle
      have h3 := hrd.t.le
      have h3' : q.zc * (4 * 8) ≤ 140737488351232 := hrd.t.cle
      have h4 := hrd.p.le
      have h4' : q.uc * (2 * 8) ≤ 140737488351232 := hrd.p.cle
      obtain ⟨⟨f1, f2, f3, f4, f5, cs, is, ts, us⟩, xa, xc, ya, yc, za, zc, ua, uc⟩ := q
      simp only [FW.cs] at hc
      dsimp only at hc h1 h1' h2 h2' h3 h3' h4 h4'
      obtain ⟨m1, hm1⟩ : ∃ m, cs.length = m := ⟨_, rfl⟩
      obtain ⟨m2, hm2⟩ : ∃ m, is.length = m := ⟨_, rfl⟩
      obtain ⟨m3, hm3⟩ : ∃ m, ts.length = m := ⟨_, rfl⟩
      obtain ⟨m4, hm4⟩ : ∃ m, us.length = m := ⟨_, rfl⟩
      rw [hm1, hm2, hm3, hm4] at hc
      rw [hm1] at h1
      rw [hm2] at h2
      rw [hm3] at h3
      rw [hm4] at h4
      have d0 := hc 0 (.string f1) (by omega) rfl
      have d1 := hc 1 (.int .i64 f2) (by omega) rfl
      have d2 := hc 2 (.bool f3) (by omega) rfl
      have d3 := hc 3 (.bool f4) (by omega) rfl
      have d4 := hc 4 (.int .i64 f5) (by omega) rfl
      have d5 := hc 5 (.slice xa m1 xc) (by omega) rfl
      have d6 := hc 6 (.slice ya m2 yc) (by omega) rfl
      have d7 := hc 7 (.slice za m3 zc) (by omega) rfl
      have d8 := hc 8 (.slice ua m4 uc) (by omega) rfl
      simp only [Nat.add_zero] at d0
      have k1 : (m1 : Int) ≤ 4398046510976 := by omega
      have k2 : (m2 : Int) ≤ 4398046510976 := by omega
      have k3 : (m3 : Int) ≤ 4398046510976 := by omega
      have k4 : (m4 : Int) ≤ 8796093021952 := by omega
      have HBn : Hid (Below w.heap.size w (wr.alloc (.cells #[.string f1, .int .i64 f2, .bool f3, .bool f4, .int .i64 f5, .slice xa m1 xc, .slice ya m2 yc, .slice za m3 zc, .slice ua m4 uc] 28))) := Hid.mk' (HBW.out.trans ((lay_below).mono HBW.out.size))
      have HLT := Hid.mk' hlt
      clear hc hrd hm1 hm2 hm3 hm4 h1 h1' h2 h2' h3 h3' h4 h4' hcl hle hi hlt hg
      go_wp2
      exact ⟨⟨i + 1, _, rfl, by go_num, HLT.out, HBn⟩, meas_up' N i HLT.out⟩
    · have i1 : ¬ (i : Int) < (N : Int) := by omega
      go_wp2
      go_ret
      exact ⟨_, rfl, ⟨_, rfl⟩, HBW.out⟩
/-- Only Closure names a function. -/
theorem letz_f (op : Int) (h : op ≠ 15) : ∀ c ∈ letz op, c ≠ 102 := by
  have key : ∀ k : Fin 50, k.val ≠ 15 → ∀ c ∈ lets.getD k.val [], c ≠ 102 := by decide +kernel
  intro c hc
  unfold letz at hc
  split at hc
  · rename_i ho
    exact key ⟨min op.toNat 49, by omega⟩ (by dsimp only; omega) c hc
  · cases hc
theorem opn_f {nf nf' : Nat} {f : Fun} {c : UInt8} {n : Int} (h : c ≠ 102) : opnB nf f c n = opnB nf' f c n := by
  simp only [opnB, if_neg h]
theorem opk_f {nf nf' : Nat} {f : Fun} {L : List UInt8} {i : Ins} {k : Nat} (h : ∀ c ∈ L, c ≠ 102) : opkB nf f L i k = opkB nf' f L i k := by
  unfold opkB
  split
  · rename_i hk
    rw [opn_f (nf' := nf')]
    refine h _ ?_
    rw [List.getD_eq_getElem?_getD, List.getElem?_eq_getElem hk]
    exact List.getElem_mem _
  · rfl
theorem ins_take {fs : List Fun} {m : Nat} (hm : fs.length = m + 1) {f : Fun} {k : Nat} {i : Ins} (hi : insB fs f k i = true) (hn : ¬ (i.op = 15 ∧ i.b = (m : Int))) : insB (fs.take m) f k i = true := by
  have hl : (fs.take m).length = m := by simp; omega
  unfold insB at hi ⊢
  simp only [Bool.and_eq_true] at hi ⊢
  obtain ⟨h1, h2, h3, h4⟩ := hi
  refine ⟨h1, ?_, ?_, h4⟩
  · by_cases ho : i.op = 15
    · have eL : letz i.op = [114, 102] := by rw [ho]; rfl
      rw [eL] at h2 ⊢
      unfold opsB at h2 ⊢
      simp only [Bool.and_eq_true] at h2 ⊢
      obtain ⟨⟨⟨a0, a1⟩, a2⟩, a3⟩ := h2
      refine ⟨⟨⟨?_, ?_⟩, ?_⟩, ?_⟩
      · simpa [opkB, opnB] using a0
      · simp [opkB, opnB, madB, opx, hm] at a1
        simp [opkB, opnB, madB, opx, hl]
        have : ¬ i.b = (m : Int) := fun e => hn ⟨ho, e⟩
        omega
      · simpa [opkB] using a2
      · simpa [opkB] using a3
    · have hf := letz_f i.op ho
      unfold opsB at h2 ⊢
      rw [opk_f (nf' := fs.length) (k := 0) hf, opk_f (nf' := fs.length) (k := 1) hf, opk_f (nf' := fs.length) (k := 2) hf, opk_f (nf' := fs.length) (k := 3) hf]
      exact h2
  · unfold allB at h3 ⊢
    by_cases ho : i.op = 15
    · rw [if_neg (by omega), if_neg (by omega), if_neg (by omega), if_pos ho] at h3 ⊢
      have eL : letz i.op = [114, 102] := by rw [ho]; rfl
      rw [eL] at h2
      unfold opsB at h2
      simp only [Bool.and_eq_true] at h2
      obtain ⟨⟨⟨a0, a1⟩, a2⟩, a3⟩ := h2
      simp [opkB, opnB, madB, opx, hm] at a1
      have : ¬ i.b = (m : Int) := fun e => hn ⟨ho, e⟩
      have hb : i.b.toNat < m := by omega
      have e : (fs.take m).getD i.b.toNat noFun = fs.getD i.b.toNat noFun := by
        rw [List.getD_eq_getElem?_getD, List.getD_eq_getElem?_getD, List.getElem?_take_of_lt hb]
      rw [e]
      exact h3
    · simpa [ho] using h3
theorem fw_all {fs : List Fun} {f : Fun} : fwI fs f = f.code.length ↔ ∀ j, j < f.code.length → insB fs f j (insAt f j) = true := by
  constructor
  · intro h j hj
    unfold fwI at h
    have : (f.code.zipIdx.findIdx fun p => !insB fs f p.2 p.1) = f.code.zipIdx.length := by simpa using h
    rw [List.findIdx_eq_length] at this
    have := this (f.code[j], j) (by
      rw [List.mem_iff_getElem]
      exact ⟨j, by simpa using hj, by simp⟩)
    have hg : insAt f j = f.code[j] := by simp [insAt, List.getD_eq_getElem?_getD, List.getElem?_eq_getElem hj]
    rw [hg]
    simpa using this
  · exact fun h => fwI_eq (Nat.le_refl _) h (fun h => absurd h (Nat.lt_irrefl _))
theorem insAt_mem {f : Fun} {j : Nat} (hj : j < f.code.length) : insAt f j ∈ f.code := by
  have hg : insAt f j = f.code[j] := by simp [insAt, List.getD_eq_getElem?_getD, List.getElem?_eq_getElem hj]
  rw [hg]
  exact List.getElem_mem _
theorem fnP_none {fs : List Fun} {n : Nat} {f : Fun} (h : fnP fs n f = none) : (!headB f || (decide ((n : Int) = 0) && !scrB f)) = false ∧ fwI fs f = f.code.length ∧ (!trsB f || !nesB f.tries) = false := by
  unfold fnP at h
  split at h
  · cases h
  · rename_i h1
    split at h
    · cases h
    · rename_i h2
      split at h
      · cases h
      · rename_i h3
        have hb : fwI fs f ≤ f.code.length := by
          unfold fwI
          have := List.findIdx_le_length (xs := f.code.zipIdx) (p := fun p => !insB fs f p.2 p.1)
          simpa using this
        exact ⟨by simpa using h1, by omega, by simpa using h3⟩
theorem fnP_mk {fs : List Fun} {n : Nat} {f : Fun} (h1 : (!headB f || (decide ((n : Int) = 0) && !scrB f)) = false) (h2 : fwI fs f = f.code.length) (h3 : (!trsB f || !nesB f.tries) = false) : fnP fs n f = none := by
  unfold fnP
  rw [h1, h2, h3]
  simp
/-- A module that is taken is taken without its last function, if no other one makes that one. -/
theorem parts_plain {fs : List Fun} {m g k : Nat} {z : Int} (hm : fs.length = m + 1) (h1 : 1 ≤ m) (hok : ∀ n, n < fs.length → fnP fs n (fs.getD n noFun) = none) (hb : ¬ 20000 < fs.length)
    (hno : ∀ n, n < m → ∀ i ∈ (fs.getD n noFun).code, ¬ (i.op = 15 ∧ i.b = (m : Int))) (hC : Chk (fs.take m) g k z) : z = 0 := by
  have hl : (fs.take m).length = m := by simp; omega
  have hall : ∀ n, n < m → fnP (fs.take m) n ((fs.take m).getD n noFun) = none := fun n hn => by
    have e : (fs.take m).getD n noFun = fs.getD n noFun := by rw [List.getD_eq_getElem?_getD, List.getD_eq_getElem?_getD, List.getElem?_take_of_lt hn]
    rw [e]
    obtain ⟨a1, a2, a3⟩ := fnP_none (hok n (by omega))
    refine fnP_mk a1 (fw_all.2 fun j hj => ins_take hm (fw_all.1 a2 j hj) (hno n hn _ ?_)) a3
    exact insAt_mem hj
  rcases hC with ⟨h, _⟩ | ⟨_, ⟨_, _, h, _⟩ | ⟨hg, _, h, _⟩⟩
  · omega
  · exact h
  · rw [hall g (by omega)] at h
    cases h
end Go.Proofs.YtcagfjogfbddeaaDoor
