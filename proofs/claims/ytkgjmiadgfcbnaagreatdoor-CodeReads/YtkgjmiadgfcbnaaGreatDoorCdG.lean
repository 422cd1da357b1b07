/- Package code's reader: lists of constants, instructions, tries and captures. -/
import Derived.Test.YtkgjmiadgfcbnaaGreatDoorCdF
namespace Go.Proofs.YtkgjmiadgfcbnaaGreatDoor
set_option linter.unusedVariables false
set_option linter.unusedSimpArgs false
open Go.RowKit

theorem Fr.grown {rb : Nat} {w X Y : World} {v : Option Nat} (h : Fr rb w X) (hg : X.grownBy Y v) (hv : ∀ k, v = some k → w.heap.size ≤ k) : Fr rb w Y :=
  ⟨hg.os.trans h.os, hg.tape.trans h.tape, hg.output.trans h.output, Nat.le_trans h.size hg.size, fun j ob hj ho => by
    have hlt := (Array.getElem?_eq_some_iff.1 ho).1
    have h1 := h.same j ob hj ho
    exact (hg.block j (Array.getElem?_eq_some_iff.1 h1).1 (fun e => by have := hv j e.symm; omega)).trans h1⟩
theorem Rc.grown {rb g : Nat} {X Y : World} {L : List UInt8} {v : Option Nat} (h : Rc X rb g L) (hg : X.grownBy Y v) (h1 : v ≠ some rb) (h2 : v ≠ some g) : Rc Y rb g L := by
  obtain ⟨o, c, h⟩ := h
  refine ⟨o, c, (hg.block rb h.lt (Ne.symm h1)).trans h.blk, fun j hj => ?_, h.le, h.cle, h.ne, Nat.lt_of_lt_of_le h.glt hg.size⟩
  rw [World.cell?_of_block (w := X) (hg.block g h.glt (Ne.symm h2))]
  exact h.bs j hj
theorem own_fr {rb B : Nat} {X Y : World} {e : TypeId} {sz : Nat} {v : Value} {n : Nat} {xs : List Value} (h : X.ownsRow B e sz v n xs) (hf : Fr rb X Y) (hr : rb < B) : Y.ownsRow B e sz v n xs := by
  refine ⟨h.1, ?_⟩
  rcases h.2 with hn | ⟨g, cap, cur, rfl, hB, hg, rest⟩
  · exact .inl hn
  · exact .inr ⟨g, cap, cur, rfl, hB, hf.same _ _ (by omega) hg, rest⟩
theorem own_ge {B : Nat} {X : World} {e : TypeId} {sz : Nat} {v : Value} {n : Nat} {xs : List Value} (h : X.ownsRow B e sz v n xs) : ∀ k, v.ownBlock = some k → B ≤ k := by
  rcases h.2 with ⟨rfl, hn⟩ | ⟨g, cap, cur, rfl, hB, hg, rest⟩
  · intro k hk; simp [Value.ownBlock] at hk
  · intro k hk; simp [Value.ownBlock] at hk; omega
theorem row_cells {w : World} {c : Array Value} {t : TypeId} : ∀ (j : Nat) (u : Value), c.toList[j]? = some u → (w.alloc (.cells c t)).cell? (Addr.add ⟨w.heap.size, 0, none⟩ j) = some u := fun j u hu => by
  rw [Addr.add_lit, cell_row _ _ _ _ _ box_new]
  simpa using hu
/-- The list that grows. -/
structure Lg {α : Type} (p : List UInt8 → Option (α × List UInt8)) (cs : α → List Value) (e : TypeId) (sz N rb g : Nat) (L1 : List UInt8) (w wr : World) (v : Value) (els : List α) (R : List UInt8) : Prop where
  own : wr.ownsRow w.heap.size e sz v els.length (els.flatMap cs)
  say : lst p N L1 = (lst p (N - els.length) R).map fun y => (els ++ y.1, y.2)
  rc : Rc wr rb g R
  fr : Fr rb w wr
  few : els.length + R.length ≤ L1.length
theorem infoV : (Tryz.prog.info? 83).map (fun i => (i.zero, i.size, i.bytes)) = some (some (.agg #[.int .i64 0, .float .f64 0, .string ⟨#[]⟩, .int .i64 0]), 4, 40) := by kernel_rfl
set_option maxHeartbeats 2000000 in
set_option maxRecDepth 100000 in
theorem listV_any {rb g : Nat} {L : List UInt8} (w : World) (h : Rc w rb g L) (hL : L.length ≤ 5000) (hl : LaidL w) (hr : 1 ≠ rb) :
    Calls Tryz.prog 46 #[.pointer (some ⟨rb, 0, none⟩), .func (.func 47) #[.pointer (some ⟨rb, 0, none⟩)] #[]] w fun e w' => Rds (lstP constP) rb g (fun W xs v => W.ownsRow w.heap.size 83 4 v xs.length (xs.flatMap Cst.cs)) L w e w' := by
  obtain ⟨i0, hi, hz0, hz1, hz2⟩ := info_parts infoV
  have HRL := Hid.mk' hr
  have HL0 := Hid.mk' hl
  have HN := Hid.mk' (number_any w h)
  have HM := Hid.mk' (fun L' W (hR : Rc W rb g L') (hl : LaidL W) => constant_any W hR)
  have HLT := Hid.mk' (And.intro h.lt h.glt)
  clear h hl hr
  go_enter Tryz.func46, Tryz.ntmps46
  go_wp2_with fail
  refine HN.out.mono ?_
  rintro e w1 (⟨N, L1, v1, p1, rfl, rfl, hR, hF⟩ | ⟨p1, rfl, hF⟩)
  · have HP : Hid (lstP constP L = lst constP N L1) := Hid.mk' (by unfold lstP; rw [p1]; rfl)
    have hlt := numP_lt p1
    have hlen := numP_len p1
    have HS : Hid (Lg constP Cst.cs 83 4 N rb g L1 w w1 (.slice none 0 0) [] L1) := Hid.mk' ⟨World.ownsRow_nil _ _ _ _, by simp, hR, hF, by simp⟩
    clear hR hF p1
    go_wp2
    go_loopw [5, 8] (fun v iv wr => ∃ (els : List Cst) (R : List UInt8), iv = .int .i64 (els.length : Int) ∧ els.length ≤ N ∧ Hid (Lg constP Cst.cs 83 4 N rb g L1 w wr v els R)) (fun v iv wr => N - (intOf iv).toNat)
    case atStart => exact ⟨[], L1, rfl, by simp, HS⟩
    case round =>
      obtain ⟨els, R, rfl, hle, HG⟩ := hrel
      have hfew := HG.out.few
      by_cases hlt2 : els.length < N
      · have i1 : (els.length : Int) < (N : Int) := by omega
        have HM1 := Hid.mk' (HM.out R wr HG.out.rc (HL0.out.fr HG.out.fr HRL.out))
        obtain ⟨nn, hnn⟩ : ∃ nn, els.length = nn := ⟨_, rfl⟩
        simp only [hnn] at i1 hfew ⊢
        have HNN := Hid.mk' hnn
        clear hnn
        go_wp2_with fail
        refine HM1.out.mono ?_
        rintro e w2 (⟨x, L2, v2, p2, rfl, rfl, hR, hF⟩ | ⟨p2, rfl, hF⟩)
        · have hO := own_fr HG.out.own hF HLT.out.1
          have HF2 := Hid.mk' (HG.out.fr.trans hF)
          have HR2 := Hid.mk' hR
          have HP2 := Hid.mk' p2
          have HO := Hid.mk' hO
          have HE := Hid.mk' (eats_const _ _ _ p2)
          obtain ⟨a, b, c, d⟩ := x
          simp only [Cst.cs]
          obtain ⟨w3, hw3⟩ : ∃ w3, w2.alloc (.cells #[.int .i64 a, .float .f64 b, .string c, .int .i64 d] 83) = w3 := ⟨_, rfl⟩
          have hb3 : Below w2.heap.size w2 w3 := by rw [← hw3]; exact lay_below
          have hC3 : ∀ (j : Nat) (u : Value), ([.int .i64 a, .float .f64 b, .string c, .int .i64 d] : List Value)[j]? = some u → w3.cell? (Addr.add ⟨w2.heap.size, 0, none⟩ j) = some u := by rw [← hw3]; exact row_cells
          have HC3 := Hid.mk' hC3
          have HB3 := Hid.mk' hb3
          have HO3 := Hid.mk' (own_below hO hb3)
          have HZ : Hid (w.heap.size ≤ w3.heap.size) := Hid.mk' (Nat.le_trans HF2.out.size hb3.size)
          obtain ⟨b2, hb2⟩ : ∃ b2, w2.heap.size = b2 := ⟨_, rfl⟩
          rw [hb2] at HC3
          simp only [HNN.out] at HO3
          clear hO hF hR p2 hC3 hb3
          go_wp2_with (at_builtin; refine wpList_append_own_at _ rfl _ _ 38 rfl w.heap.size 83 i0 (.agg #[.int .i64 0, .float .f64 0, .string ⟨#[]⟩, .int .i64 0]) 4 40 Tryz.underlying38 hi hz0 hz1 hz2 rfl (by decide) _ _ _ rfl HO3.out ⟨b2, 0, none⟩ 1 1 [.int .i64 a, .float .f64 b, .string c, .int .i64 d] rfl rfl HC3.out ?c2 (by unfold maxLen; omega) (by omega) HZ.out ?_)
          case c2 =>
            intro u hu
            simp only [List.mem_cons, List.not_mem_nil, or_false] at hu
            rcases hu with rfl | rfl | rfl | rfl <;> rfl
          intro v' w4 ho4 hg4 _ hblk
          have hk := own_ge HO3.out
          have HG4 : Hid (Lg constP Cst.cs 83 4 N rb g L1 w w4 v' (els ++ [⟨a, b, c, d⟩]) L2) := Hid.mk' ⟨by
              rw [List.length_append, List.flatMap_append, HNN.out]
              simpa [Cst.cs] using ho4, by
              rw [HG.out.say, show N - els.length = (N - (els ++ [(⟨a, b, c, d⟩ : Cst)]).length) + 1 by have := HNN.out; simp; omega, lst_snoc, HP2.out]
              simp only [Option.bind_some, Option.map_map]
              congr 1
              funext y
              simp, (HR2.out.below HB3.out).grown hg4 (fun q => by have := hk _ q; have := HLT.out; omega) (fun q => by have := hk _ q; have := HLT.out; omega), (HF2.out.trans (Fr.of_below HB3.out)).grown hg4 hk, by
              have := HE.out
              have := HNN.out
              simp
              omega⟩
          clear ho4 hg4 hblk hk HO3 HC3 HZ HO
          go_wp2
          go_roundw
          case rel => exact ⟨els ++ [⟨a, b, c, d⟩], L2, by rw [List.length_append, HNN.out]; go_num, by have := HNN.out; simp; omega, HG4⟩
          case measure => simp [intOf]; omega
        · go_wp2
          refine ⟨rfl, .inr ⟨?_, rfl, HG.out.fr.trans hF⟩⟩
          rw [HP.out, HG.out.say, HNN.out, show N - nn = (N - nn - 1) + 1 by omega, lst_snoc, p2]
          rfl
      · have i1 : ¬ (els.length : Int) < (N : Int) := by omega
        obtain ⟨nn, hnn⟩ : ∃ nn, els.length = nn := ⟨_, rfl⟩
        simp only [hnn] at i1 hfew ⊢
        have HNN := Hid.mk' hnn
        clear hnn
        go_wp2
        go_ret
        refine .inl ⟨els, R, _, ?_, rfl, HG.out.own, HG.out.rc, HG.out.fr⟩
        rw [HP.out, HG.out.say, show N - els.length = 0 by have := HNN.out; omega]
        simp [lst]
  · go_wp2
    refine ⟨rfl, .inr ⟨?_, rfl, hF⟩⟩
    unfold lstP
    rw [p1]
    rfl
theorem infoI : (Tryz.prog.info? 35).map (fun i => (i.zero, i.size, i.bytes)) = some (some (.agg #[.int .i64 0, .int .i64 0, .int .i64 0, .int .i64 0, .int .i64 0]), 5, 40) := by kernel_rfl
set_option maxHeartbeats 2000000 in
set_option maxRecDepth 100000 in
theorem listI_any {rb g : Nat} {L : List UInt8} (w : World) (h : Rc w rb g L) (hL : L.length ≤ 5000) (hl : LaidL w) (hr : 1 ≠ rb) :
    Calls Tryz.prog 48 #[.pointer (some ⟨rb, 0, none⟩), .func (.func 49) #[.pointer (some ⟨rb, 0, none⟩)] #[]] w fun e w' => Rds (lstP insP) rb g (fun W xs v => W.ownsRow w.heap.size 35 5 v xs.length (xs.flatMap Ins.cs)) L w e w' := by
  obtain ⟨i0, hi, hz0, hz1, hz2⟩ := info_parts infoI
  have HRL := Hid.mk' hr
  have HL0 := Hid.mk' hl
  have HN := Hid.mk' (number_any w h)
  have HM := Hid.mk' (fun L' W (hR : Rc W rb g L') (hl : LaidL W) => instruction_any W hR (Hid.mk' hl) HRL.out)
  have HLT := Hid.mk' (And.intro h.lt h.glt)
  clear h hl hr
  go_enter Tryz.func48, Tryz.ntmps48
  go_wp2_with fail
  refine HN.out.mono ?_
  rintro e w1 (⟨N, L1, v1, p1, rfl, rfl, hR, hF⟩ | ⟨p1, rfl, hF⟩)
  · have HP : Hid (lstP insP L = lst insP N L1) := Hid.mk' (by unfold lstP; rw [p1]; rfl)
    have hlt := numP_lt p1
    have hlen := numP_len p1
    have HS : Hid (Lg insP Ins.cs 35 5 N rb g L1 w w1 (.slice none 0 0) [] L1) := Hid.mk' ⟨World.ownsRow_nil _ _ _ _, by simp, hR, hF, by simp⟩
    clear hR hF p1
    go_wp2
    go_loopw [5, 8] (fun v iv wr => ∃ (els : List Ins) (R : List UInt8), iv = .int .i64 (els.length : Int) ∧ els.length ≤ N ∧ Hid (Lg insP Ins.cs 35 5 N rb g L1 w wr v els R)) (fun v iv wr => N - (intOf iv).toNat)
    case atStart => exact ⟨[], L1, rfl, by simp, HS⟩
    case round =>
      obtain ⟨els, R, rfl, hle, HG⟩ := hrel
      have hfew := HG.out.few
      by_cases hlt2 : els.length < N
      · have i1 : (els.length : Int) < (N : Int) := by omega
        have HM1 := Hid.mk' (HM.out R wr HG.out.rc (HL0.out.fr HG.out.fr HRL.out))
        obtain ⟨nn, hnn⟩ : ∃ nn, els.length = nn := ⟨_, rfl⟩
        simp only [hnn] at i1 hfew ⊢
        have HNN := Hid.mk' hnn
        clear hnn
        go_wp2_with fail
        refine HM1.out.mono ?_
        rintro e w2 (⟨x, L2, v2, p2, rfl, rfl, hR, hF⟩ | ⟨p2, rfl, hF⟩)
        · have hO := own_fr HG.out.own hF HLT.out.1
          have HF2 := Hid.mk' (HG.out.fr.trans hF)
          have HR2 := Hid.mk' hR
          have HP2 := Hid.mk' p2
          have HO := Hid.mk' hO
          have HE := Hid.mk' (eats_ins _ _ _ p2)
          obtain ⟨a, b, c, d, f⟩ := x
          simp only [Ins.cs]
          obtain ⟨w3, hw3⟩ : ∃ w3, w2.alloc (.cells #[.int .i64 a, .int .i64 b, .int .i64 c, .int .i64 d, .int .i64 f] 35) = w3 := ⟨_, rfl⟩
          have hb3 : Below w2.heap.size w2 w3 := by rw [← hw3]; exact lay_below
          have hC3 : ∀ (j : Nat) (u : Value), ([.int .i64 a, .int .i64 b, .int .i64 c, .int .i64 d, .int .i64 f] : List Value)[j]? = some u → w3.cell? (Addr.add ⟨w2.heap.size, 0, none⟩ j) = some u := by rw [← hw3]; exact row_cells
          have HC3 := Hid.mk' hC3
          have HB3 := Hid.mk' hb3
          have HO3 := Hid.mk' (own_below hO hb3)
          have HZ : Hid (w.heap.size ≤ w3.heap.size) := Hid.mk' (Nat.le_trans HF2.out.size hb3.size)
          obtain ⟨b2, hb2⟩ : ∃ b2, w2.heap.size = b2 := ⟨_, rfl⟩
          rw [hb2] at HC3
          simp only [HNN.out] at HO3
          clear hO hF hR p2 hC3 hb3
          go_wp2_with (at_builtin; refine wpList_append_own_at _ rfl _ _ 36 rfl w.heap.size 35 i0 (.agg #[.int .i64 0, .int .i64 0, .int .i64 0, .int .i64 0, .int .i64 0]) 5 40 Tryz.underlying36 hi hz0 hz1 hz2 rfl (by decide) _ _ _ rfl HO3.out ⟨b2, 0, none⟩ 1 1 [.int .i64 a, .int .i64 b, .int .i64 c, .int .i64 d, .int .i64 f] rfl rfl HC3.out ?c2 (by unfold maxLen; omega) (by omega) HZ.out ?_)
          case c2 =>
            intro u hu
            simp only [List.mem_cons, List.not_mem_nil, or_false] at hu
            rcases hu with rfl | rfl | rfl | rfl | rfl <;> rfl
          intro v' w4 ho4 hg4 _ hblk
          have hk := own_ge HO3.out
          have HG4 : Hid (Lg insP Ins.cs 35 5 N rb g L1 w w4 v' (els ++ [⟨a, b, c, d, f⟩]) L2) := Hid.mk' ⟨by
              rw [List.length_append, List.flatMap_append, HNN.out]
              simpa [Ins.cs] using ho4, by
              rw [HG.out.say, show N - els.length = (N - (els ++ [(⟨a, b, c, d, f⟩ : Ins)]).length) + 1 by have := HNN.out; simp; omega, lst_snoc, HP2.out]
              simp only [Option.bind_some, Option.map_map]
              congr 1
              funext y
              simp, (HR2.out.below HB3.out).grown hg4 (fun q => by have := hk _ q; have := HLT.out; omega) (fun q => by have := hk _ q; have := HLT.out; omega), (HF2.out.trans (Fr.of_below HB3.out)).grown hg4 hk, by
              have := HE.out
              have := HNN.out
              simp
              omega⟩
          clear ho4 hg4 hblk hk HO3 HC3 HZ HO
          go_wp2
          go_roundw
          case rel => exact ⟨els ++ [⟨a, b, c, d, f⟩], L2, by rw [List.length_append, HNN.out]; go_num, by have := HNN.out; simp; omega, HG4⟩
          case measure => simp [intOf]; omega
        · go_wp2
          refine ⟨rfl, .inr ⟨?_, rfl, HG.out.fr.trans hF⟩⟩
          rw [HP.out, HG.out.say, HNN.out, show N - nn = (N - nn - 1) + 1 by omega, lst_snoc, p2]
          rfl
      · have i1 : ¬ (els.length : Int) < (N : Int) := by omega
        obtain ⟨nn, hnn⟩ : ∃ nn, els.length = nn := ⟨_, rfl⟩
        simp only [hnn] at i1 hfew ⊢
        have HNN := Hid.mk' hnn
        clear hnn
        go_wp2
        go_ret
        refine .inl ⟨els, R, _, ?_, rfl, HG.out.own, HG.out.rc, HG.out.fr⟩
        rw [HP.out, HG.out.say, show N - els.length = 0 by have := HNN.out; omega]
        simp [lst]
  · go_wp2
    refine ⟨rfl, .inr ⟨?_, rfl, hF⟩⟩
    unfold lstP
    rw [p1]
    rfl
theorem infoT : (Tryz.prog.info? 87).map (fun i => (i.zero, i.size, i.bytes)) = some (some (.agg #[.int .i64 0, .int .i64 0, .int .i64 0, .int .i64 0]), 4, 32) := by kernel_rfl
set_option maxHeartbeats 2000000 in
set_option maxRecDepth 100000 in
theorem listT_any {rb g : Nat} {L : List UInt8} (w : World) (h : Rc w rb g L) (hL : L.length ≤ 5000) (hl : LaidL w) (hr : 1 ≠ rb) :
    Calls Tryz.prog 50 #[.pointer (some ⟨rb, 0, none⟩), .func (.func 51) #[.pointer (some ⟨rb, 0, none⟩)] #[]] w fun e w' => Rds (lstP triP) rb g (fun W xs v => W.ownsRow w.heap.size 87 4 v xs.length (xs.flatMap Tri.cs)) L w e w' := by
  obtain ⟨i0, hi, hz0, hz1, hz2⟩ := info_parts infoT
  have HRL := Hid.mk' hr
  have HL0 := Hid.mk' hl
  have HN := Hid.mk' (number_any w h)
  have HM := Hid.mk' (fun L' W (hR : Rc W rb g L') (hl : LaidL W) => attempt_any W hR)
  have HLT := Hid.mk' (And.intro h.lt h.glt)
  clear h hl hr
  go_enter Tryz.func50, Tryz.ntmps50
  go_wp2_with fail
  refine HN.out.mono ?_
  rintro e w1 (⟨N, L1, v1, p1, rfl, rfl, hR, hF⟩ | ⟨p1, rfl, hF⟩)
  · have HP : Hid (lstP triP L = lst triP N L1) := Hid.mk' (by unfold lstP; rw [p1]; rfl)
    have hlt := numP_lt p1
    have hlen := numP_len p1
    have HS : Hid (Lg triP Tri.cs 87 4 N rb g L1 w w1 (.slice none 0 0) [] L1) := Hid.mk' ⟨World.ownsRow_nil _ _ _ _, by simp, hR, hF, by simp⟩
    clear hR hF p1
    go_wp2
    go_loopw [5, 8] (fun v iv wr => ∃ (els : List Tri) (R : List UInt8), iv = .int .i64 (els.length : Int) ∧ els.length ≤ N ∧ Hid (Lg triP Tri.cs 87 4 N rb g L1 w wr v els R)) (fun v iv wr => N - (intOf iv).toNat)
    case atStart => exact ⟨[], L1, rfl, by simp, HS⟩
    case round =>
      obtain ⟨els, R, rfl, hle, HG⟩ := hrel
      have hfew := HG.out.few
      by_cases hlt2 : els.length < N
      · have i1 : (els.length : Int) < (N : Int) := by omega
        have HM1 := Hid.mk' (HM.out R wr HG.out.rc (HL0.out.fr HG.out.fr HRL.out))
        obtain ⟨nn, hnn⟩ : ∃ nn, els.length = nn := ⟨_, rfl⟩
        simp only [hnn] at i1 hfew ⊢
        have HNN := Hid.mk' hnn
        clear hnn
        go_wp2_with fail
        refine HM1.out.mono ?_
        rintro e w2 (⟨x, L2, v2, p2, rfl, rfl, hR, hF⟩ | ⟨p2, rfl, hF⟩)
        · have hO := own_fr HG.out.own hF HLT.out.1
          have HF2 := Hid.mk' (HG.out.fr.trans hF)
          have HR2 := Hid.mk' hR
          have HP2 := Hid.mk' p2
          have HO := Hid.mk' hO
          have HE := Hid.mk' (eats_tri _ _ _ p2)
          obtain ⟨a, b, c, d⟩ := x
          simp only [Tri.cs]
          obtain ⟨w3, hw3⟩ : ∃ w3, w2.alloc (.cells #[.int .i64 a, .int .i64 b, .int .i64 c, .int .i64 d] 87) = w3 := ⟨_, rfl⟩
          have hb3 : Below w2.heap.size w2 w3 := by rw [← hw3]; exact lay_below
          have hC3 : ∀ (j : Nat) (u : Value), ([.int .i64 a, .int .i64 b, .int .i64 c, .int .i64 d] : List Value)[j]? = some u → w3.cell? (Addr.add ⟨w2.heap.size, 0, none⟩ j) = some u := by rw [← hw3]; exact row_cells
          have HC3 := Hid.mk' hC3
          have HB3 := Hid.mk' hb3
          have HO3 := Hid.mk' (own_below hO hb3)
          have HZ : Hid (w.heap.size ≤ w3.heap.size) := Hid.mk' (Nat.le_trans HF2.out.size hb3.size)
          obtain ⟨b2, hb2⟩ : ∃ b2, w2.heap.size = b2 := ⟨_, rfl⟩
          rw [hb2] at HC3
          simp only [HNN.out] at HO3
          clear hO hF hR p2 hC3 hb3
          go_wp2_with (at_builtin; refine wpList_append_own_at _ rfl _ _ 39 rfl w.heap.size 87 i0 (.agg #[.int .i64 0, .int .i64 0, .int .i64 0, .int .i64 0]) 4 32 Tryz.underlying39 hi hz0 hz1 hz2 rfl (by decide) _ _ _ rfl HO3.out ⟨b2, 0, none⟩ 1 1 [.int .i64 a, .int .i64 b, .int .i64 c, .int .i64 d] rfl rfl HC3.out ?c2 (by unfold maxLen; omega) (by omega) HZ.out ?_)
          case c2 =>
            intro u hu
            simp only [List.mem_cons, List.not_mem_nil, or_false] at hu
            rcases hu with rfl | rfl | rfl | rfl <;> rfl
          intro v' w4 ho4 hg4 _ hblk
          have hk := own_ge HO3.out
          have HG4 : Hid (Lg triP Tri.cs 87 4 N rb g L1 w w4 v' (els ++ [⟨a, b, c, d⟩]) L2) := Hid.mk' ⟨by
              rw [List.length_append, List.flatMap_append, HNN.out]
              simpa [Tri.cs] using ho4, by
              rw [HG.out.say, show N - els.length = (N - (els ++ [(⟨a, b, c, d⟩ : Tri)]).length) + 1 by have := HNN.out; simp; omega, lst_snoc, HP2.out]
              simp only [Option.bind_some, Option.map_map]
              congr 1
              funext y
              simp, (HR2.out.below HB3.out).grown hg4 (fun q => by have := hk _ q; have := HLT.out; omega) (fun q => by have := hk _ q; have := HLT.out; omega), (HF2.out.trans (Fr.of_below HB3.out)).grown hg4 hk, by
              have := HE.out
              have := HNN.out
              simp
              omega⟩
          clear ho4 hg4 hblk hk HO3 HC3 HZ HO
          go_wp2
          go_roundw
          case rel => exact ⟨els ++ [⟨a, b, c, d⟩], L2, by rw [List.length_append, HNN.out]; go_num, by have := HNN.out; simp; omega, HG4⟩
          case measure => simp [intOf]; omega
        · go_wp2
          refine ⟨rfl, .inr ⟨?_, rfl, HG.out.fr.trans hF⟩⟩
          rw [HP.out, HG.out.say, HNN.out, show N - nn = (N - nn - 1) + 1 by omega, lst_snoc, p2]
          rfl
      · have i1 : ¬ (els.length : Int) < (N : Int) := by omega
        obtain ⟨nn, hnn⟩ : ∃ nn, els.length = nn := ⟨_, rfl⟩
        simp only [hnn] at i1 hfew ⊢
        have HNN := Hid.mk' hnn
        clear hnn
        go_wp2
        go_ret
        refine .inl ⟨els, R, _, ?_, rfl, HG.out.own, HG.out.rc, HG.out.fr⟩
        rw [HP.out, HG.out.say, show N - els.length = 0 by have := HNN.out; omega]
        simp [lst]
  · go_wp2
    refine ⟨rfl, .inr ⟨?_, rfl, hF⟩⟩
    unfold lstP
    rw [p1]
    rfl
theorem infoC : (Tryz.prog.info? 89).map (fun i => (i.zero, i.size, i.bytes)) = some (some (.agg #[.bool false, .int .i64 0]), 2, 16) := by kernel_rfl
set_option maxHeartbeats 2000000 in
set_option maxRecDepth 100000 in
theorem listC_any {rb g : Nat} {L : List UInt8} (w : World) (h : Rc w rb g L) (hL : L.length ≤ 5000) (hl : LaidL w) (hr : 1 ≠ rb) :
    Calls Tryz.prog 52 #[.pointer (some ⟨rb, 0, none⟩), .func (.func 53) #[.pointer (some ⟨rb, 0, none⟩)] #[]] w fun e w' => Rds (lstP capP) rb g (fun W xs v => W.ownsRow w.heap.size 89 2 v xs.length (xs.flatMap Cap.cs)) L w e w' := by
  obtain ⟨i0, hi, hz0, hz1, hz2⟩ := info_parts infoC
  have HRL := Hid.mk' hr
  have HL0 := Hid.mk' hl
  have HN := Hid.mk' (number_any w h)
  have HM := Hid.mk' (fun L' W (hR : Rc W rb g L') (hl : LaidL W) => capture_any W hR)
  have HLT := Hid.mk' (And.intro h.lt h.glt)
  clear h hl hr
  go_enter Tryz.func52, Tryz.ntmps52
  go_wp2_with fail
  refine HN.out.mono ?_
  rintro e w1 (⟨N, L1, v1, p1, rfl, rfl, hR, hF⟩ | ⟨p1, rfl, hF⟩)
  · have HP : Hid (lstP capP L = lst capP N L1) := Hid.mk' (by unfold lstP; rw [p1]; rfl)
    have hlt := numP_lt p1
    have hlen := numP_len p1
    have HS : Hid (Lg capP Cap.cs 89 2 N rb g L1 w w1 (.slice none 0 0) [] L1) := Hid.mk' ⟨World.ownsRow_nil _ _ _ _, by simp, hR, hF, by simp⟩
    clear hR hF p1
    go_wp2
    go_loopw [5, 8] (fun v iv wr => ∃ (els : List Cap) (R : List UInt8), iv = .int .i64 (els.length : Int) ∧ els.length ≤ N ∧ Hid (Lg capP Cap.cs 89 2 N rb g L1 w wr v els R)) (fun v iv wr => N - (intOf iv).toNat)
    case atStart => exact ⟨[], L1, rfl, by simp, HS⟩
    case round =>
      obtain ⟨els, R, rfl, hle, HG⟩ := hrel
      have hfew := HG.out.few
      by_cases hlt2 : els.length < N
      · have i1 : (els.length : Int) < (N : Int) := by omega
        have HM1 := Hid.mk' (HM.out R wr HG.out.rc (HL0.out.fr HG.out.fr HRL.out))
        obtain ⟨nn, hnn⟩ : ∃ nn, els.length = nn := ⟨_, rfl⟩
        simp only [hnn] at i1 hfew ⊢
        have HNN := Hid.mk' hnn
        clear hnn
        go_wp2_with fail
        refine HM1.out.mono ?_
        rintro e w2 (⟨x, L2, v2, p2, rfl, rfl, hR, hF⟩ | ⟨p2, rfl, hF⟩)
        · have hO := own_fr HG.out.own hF HLT.out.1
          have HF2 := Hid.mk' (HG.out.fr.trans hF)
          have HR2 := Hid.mk' hR
          have HP2 := Hid.mk' p2
          have HO := Hid.mk' hO
          have HE := Hid.mk' (eats_cap _ _ _ p2)
          obtain ⟨a, b⟩ := x
          simp only [Cap.cs]
          obtain ⟨w3, hw3⟩ : ∃ w3, w2.alloc (.cells #[.bool a, .int .i64 b] 89) = w3 := ⟨_, rfl⟩
          have hb3 : Below w2.heap.size w2 w3 := by rw [← hw3]; exact lay_below
          have hC3 : ∀ (j : Nat) (u : Value), ([.bool a, .int .i64 b] : List Value)[j]? = some u → w3.cell? (Addr.add ⟨w2.heap.size, 0, none⟩ j) = some u := by rw [← hw3]; exact row_cells
          have HC3 := Hid.mk' hC3
          have HB3 := Hid.mk' hb3
          have HO3 := Hid.mk' (own_below hO hb3)
          have HZ : Hid (w.heap.size ≤ w3.heap.size) := Hid.mk' (Nat.le_trans HF2.out.size hb3.size)
          obtain ⟨b2, hb2⟩ : ∃ b2, w2.heap.size = b2 := ⟨_, rfl⟩
          rw [hb2] at HC3
          simp only [HNN.out] at HO3
          clear hO hF hR p2 hC3 hb3
          go_wp2_with (at_builtin; refine wpList_append_own_at _ rfl _ _ 40 rfl w.heap.size 89 i0 (.agg #[.bool false, .int .i64 0]) 2 16 Tryz.underlying40 hi hz0 hz1 hz2 rfl (by decide) _ _ _ rfl HO3.out ⟨b2, 0, none⟩ 1 1 [.bool a, .int .i64 b] rfl rfl HC3.out ?c2 (by unfold maxLen; omega) (by omega) HZ.out ?_)
          case c2 =>
            intro u hu
            simp only [List.mem_cons, List.not_mem_nil, or_false] at hu
            rcases hu with rfl | rfl <;> rfl
          intro v' w4 ho4 hg4 _ hblk
          have hk := own_ge HO3.out
          have HG4 : Hid (Lg capP Cap.cs 89 2 N rb g L1 w w4 v' (els ++ [⟨a, b⟩]) L2) := Hid.mk' ⟨by
              rw [List.length_append, List.flatMap_append, HNN.out]
              simpa [Cap.cs] using ho4, by
              rw [HG.out.say, show N - els.length = (N - (els ++ [(⟨a, b⟩ : Cap)]).length) + 1 by have := HNN.out; simp; omega, lst_snoc, HP2.out]
              simp only [Option.bind_some, Option.map_map]
              congr 1
              funext y
              simp, (HR2.out.below HB3.out).grown hg4 (fun q => by have := hk _ q; have := HLT.out; omega) (fun q => by have := hk _ q; have := HLT.out; omega), (HF2.out.trans (Fr.of_below HB3.out)).grown hg4 hk, by
              have := HE.out
              have := HNN.out
              simp
              omega⟩
          clear ho4 hg4 hblk hk HO3 HC3 HZ HO
          go_wp2
          go_roundw
          case rel => exact ⟨els ++ [⟨a, b⟩], L2, by rw [List.length_append, HNN.out]; go_num, by have := HNN.out; simp; omega, HG4⟩
          case measure => simp [intOf]; omega
        · go_wp2
          refine ⟨rfl, .inr ⟨?_, rfl, HG.out.fr.trans hF⟩⟩
          rw [HP.out, HG.out.say, HNN.out, show N - nn = (N - nn - 1) + 1 by omega, lst_snoc, p2]
          rfl
      · have i1 : ¬ (els.length : Int) < (N : Int) := by omega
        obtain ⟨nn, hnn⟩ : ∃ nn, els.length = nn := ⟨_, rfl⟩
        simp only [hnn] at i1 hfew ⊢
        have HNN := Hid.mk' hnn
        clear hnn
        go_wp2
        go_ret
        refine .inl ⟨els, R, _, ?_, rfl, HG.out.own, HG.out.rc, HG.out.fr⟩
        rw [HP.out, HG.out.say, show N - els.length = 0 by have := HNN.out; omega]
        simp [lst]
  · go_wp2
    refine ⟨rfl, .inr ⟨?_, rfl, hF⟩⟩
    unfold lstP
    rw [p1]
    rfl
end Go.Proofs.YtkgjmiadgfcbnaaGreatDoor
