/- Package heap: a fast object made a dictionary. -/
import Derived.Test.YtmgngbhkgmkggaaGreatDoorHpO
import Derived.Test.YtmgngbhkgmkggaaGreatDoorHpU
namespace Go.Proofs.YtmgngbhkgmkggaaGreatDoor
set_option linter.unusedVariables false
set_option linter.unusedSimpArgs false
open Go.RowKit Go.Shelf Go.Maps Go.ChangeShapes
attribute [local go_sem] Oper.semAt_some

theorem hp_new {X : World} {k : Nat} {ob : Obj} (h : X.heap.size = k) : (X.alloc ob).heap[k]? = some ob := sh_new h
theorem hp_old {X : World} {k : Nat} {ob : Obj} {v : Option Obj} (h : k < X.heap.size) (hv : X.heap[k]? = v) : (X.alloc ob).heap[k]? = v := sh_old h hv
theorem hp_drew {X : World} {k : Nat} {v : Option Obj} (h : X.heap[k]? = v) : X.drew.heap[k]? = v := h
theorem hp_region_only {n : Nat} {P : Program} {c : Code} {K : Act → World → Prop} {Q : Exit → Act → World → Prop} {a : Act} {w : World} (h : c.wp P (Exit.then K (fun _ _ _ => False)) a w) : c.wp P (Exit.then K Q) a w := (wpIn_wide (n := n)).1 (wpIn_mono ((wpIn_wide (n := n)).2 h) (fun e a w q => by cases e <;> first | exact q | exact q.elim))
theorem hp_cdrew {X : World} {p : Addr} {v : Option Value} (h : X.cell? p = v) : X.drew.cell? p = v := h
theorem mkm_run (m : Nat) (W : World) : (Instr.makeMap 157 (some (.int .i64 (m : Int)))).run Tryz.prog W = .ok (.map (some W.heap.size)) (W.alloc (Obj.map #[] 0)) := by
  simp [Instr.makeMap, run_underlying Tryz.underlying157, asInt, asIntOf, Result.andThen]
/-- A map that is new. -/
theorem map_new {V : World} {mb : Nat} (h : V.heap[mb]? = some (Obj.map #[] 0)) : V.ownsMap Tryz.prog 31 (plainElem Tryz.prog 3) mb 0 (.map [] : DataW Unit) := by
  have h0 := World.ownsMap_made (H := Unit) V Tryz.prog 31 (plainElem Tryz.prog 3)
  obtain ⟨es, clock, he, rest⟩ := h0
  have e1 : (V.alloc (Obj.map #[] 0)).heap[V.heap.size]? = some (Obj.map #[] 0) := World.alloc_heap_new _ _
  rw [e1] at he
  cases he
  exact ⟨_, _, h, rest⟩
theorem DI.own {w0 : World} {db mb rb m B' : Nat} (h1 : db < B') (h2 : mb < B') (h3 : rb < B') (h4 : w0.heap.size ≤ B') : OwnFrom B' (fun (pre : List (ByteArray × Int)) V => DI w0 db mb rb m (pre.map (·.1)) V) := by
  intro pre A A' row h hg hr
  have keep : ∀ (k : Nat) (o : Obj), k < B' → A.heap[k]? = some o → A'.heap[k]? = some o := fun k o hk ho => (hg.block k (Array.getElem?_eq_some_iff.1 ho).1 (fun e => by have := (hr k e.symm).1; omega)).trans ho
  obtain ⟨cur, c1, c2⟩ := h.r
  obtain ⟨D, ⟨es, cl, m1, m3⟩, m2⟩ := h.mm
  exact ⟨keep _ _ h1 h.d, ⟨cur, keep _ _ h3 c1, c2⟩, ⟨D, ⟨es, cl, keep _ _ h2 m1, m3⟩, m2⟩, h.bl.trans ((Below.refl _ _).grown hg h.bl.size (fun k hk => by have := (hr k hk).1; omega)), h.ge⟩
theorem DI.base {w W1 V : World} {db mb rb m : Nat} {ts : List ByteArray} (h : DI W1 db mb rb m ts V) (hb : Below w.heap.size w W1) : DI w db mb rb m ts V :=
  ⟨h.d, h.r, h.mm, hb.trans (h.bl.mono hb.size), ⟨Nat.le_trans hb.size h.ge.1, Nat.le_trans hb.size h.ge.2.1, Nat.le_trans hb.size h.ge.2.2⟩⟩
theorem blk_own {b B' : Nat} {o : Obj} (h1 : b < B') : OwnFrom B' (fun (pre : List (ByteArray × Int)) V => V.heap[b]? = some o) := by
  intro pre A A' row h hg hr
  exact (hg.block b (Array.getElem?_eq_some_iff.1 h).1 (fun e => by have := (hr b e.symm).1; omega)).trans h
section
variable {B g : Nat} {ks : List ByteArray} {ln : List Int} {fs : List (List Int)} {ws : List ((Int × Int × Int) × Int)} {w w' : World}
theorem tt_seq {C : List (Nat × Obj)} {n : Nat} {w1 w2 : World} (tb sb i : Nat) (X : List Nat) (L : List (ByteArray × Int)) (h : TT B g ks ln fs ws C w1) (hb : Below w1.heap.size w1 w2) (hX : ∀ b ∈ X, w1.heap.size ≤ b ∧ b < w2.heap.size ∧ b ≠ tb ∧ b ≠ sb) (hi : i < fs.length) (hL : tells ks ln (fs.getD i []) L) (hll : L.length < 1000) (hll2 : ks.length < 100000) (ht : w2.cell? ⟨tb, 0, none⟩ = some (.pointer (some ⟨g, 0, none⟩))) (hsb : w2.cell? ⟨sb, 0, none⟩ = some (.int .i64 (i : Nat))) :
    SeqX n Tryz.prog 173 #[.pointer (some ⟨tb, 0, none⟩), .pointer (some ⟨sb, 0, none⟩)] encK X (fun xs => xs = L) (fun pre => pre <+: L) (fun l => l <+: L) w2 := by
  obtain ⟨mn, mw, lb, vk, vs, vl, fv, Dn, Dw, h1, h2, h3, h4⟩ := h
  obtain ⟨l1, l2, l3, l4, l5, l6, l7⟩ := h1.lts
  refine each_stops n tb sb i X L w2 (h1.below hb) (fun b hb => ?_) (fun b hb => (hX b hb).2) (by omega) hL hll hll2 ht hsb
  have hb2 := (hX b hb).1
  refine ⟨by omega, by omega, by omega, by omega, fun e => ?_, fun e => ?_, fun e => ?_, fun j hj e => ?_⟩
  · have := l5 _ e.symm; omega
  · have := l6 _ e.symm; omega
  · have := l7 _ e.symm; omega
  · have := ((h1.f j hj).lt _ e.symm).2; omega
set_option maxHeartbeats 8000000 in
set_option maxRecDepth 100000 in
theorem fdict {C : List (Nat × Obj)} (fb sb i m c : Nat) (L : List (ByteArray × Int)) (w : World) (h : TT B g ks ln fs ws C w) (hq : w.heap[fb]? = some (Fobj g (i : Nat) (.slice (some ⟨sb, 0, none⟩) m c))) (hsl : ∀ j, j < m → w.cell? ⟨sb, j * 5, none⟩ = some (.int .i64 0) ∧ w.cell? ⟨sb, j * 5 + 1, none⟩ = some (.float .f64 0) ∧ w.cell? ⟨sb, j * 5 + 2, none⟩ = some (.string ⟨#[]⟩) ∧ w.cell? ⟨sb, j * 5 + 3, none⟩ = some (.int .i64 0) ∧ w.cell? ⟨sb, j * 5 + 4, none⟩ = some (.pointer none)) (hi : i < fs.length) (hL : tells ks ln (fs.getD i []) L) (hm : L.length = m) (hm0 : 0 < m) (hll : m < 1000) (hll2 : ks.length < 100000) (hnd : (L.map (·.1)).Nodup) (hz : ∀ x ∈ L, x.1.size ≤ maxLen) :
    Calls Tryz.prog 154 #[.pointer (some ⟨fb, 0, none⟩)] w fun e w' => ∃ db mb rb, e = .returned (.pointer (some ⟨db, 0, none⟩)) ∧ DI w db mb rb m (L.map (·.1)) w' := by
  obtain ⟨W1, hW1⟩ : ∃ W1, w.alloc (.cells #[.pointer (some ⟨fb, 0, none⟩)] 116) = W1 := ⟨_, rfl⟩
  have b1 : Below w.heap.size w W1 := by rw [← hW1]; exact (Below.refl _ _).alloc (Nat.le_refl _) _
  have q1 : W1.heap[w.heap.size]? = some (.cells #[.pointer (some ⟨fb, 0, none⟩)] 116 (0, 0)) := by rw [← hW1]; exact World.alloc_heap_new _ _
  obtain ⟨x0, hx0⟩ : ∃ x, w.heap.size = x := ⟨_, rfl⟩
  rw [hx0] at q1
  obtain ⟨ie, hie, he0, he1, he2⟩ := sh_parts hp_infoE
  have mk1 : ∀ W : World, (Instr.makeSlice 158 (.int .i64 0) (.int .i64 (m : Int))).run Tryz.prog W = .ok (.slice (some ⟨W.heap.size, 0, none⟩) 0 m) (W.alloc (.cells (madeCells #[.string ⟨#[]⟩, .int .i64 0, .int .i64 0, .int .i64 0, .float .f64 0, .string ⟨#[]⟩, .int .i64 0, .pointer none] (m * 8)) 156)) := fun W => by
    have hh := run_make (P := Tryz.prog) (w := W) 158 156 ie (.agg #[.string ⟨#[]⟩, .int .i64 0, .int .i64 0, .int .i64 0, .float .f64 0, .string ⟨#[]⟩, .int .i64 0, .pointer none]) Tryz.underlying158 hie he0 .i64 .i64 0 (m : Int) (by omega) (by omega) (by rw [he2]; omega) (by omega)
    simp only [Int.toNat_natCast, Int.toNat_zero, he1] at hh
    exact hh
  obtain ⟨A1, hA1⟩ : ∃ A, madeCells #[.string ⟨#[]⟩, .int .i64 0, .int .i64 0, .int .i64 0, .float .f64 0, .string ⟨#[]⟩, .int .i64 0, .pointer none] (m * 8) = A := ⟨_, rfl⟩
  rw [hA1] at mk1
  have HA2 : Hid (A1.size = m * 8) := Hid.mk' (by rw [← hA1]; exact size_madeCells _ _)
  have HCE : Hid (∀ W, Below W1.heap.size W1 W → W.cell? ⟨x0, 0, none⟩ = some (.pointer (some ⟨fb, 0, none⟩)) ∧ W.cell? ⟨fb, 0, none⟩ = some (.pointer (some ⟨g, 0, none⟩)) ∧ W.cell? ⟨fb, 1, none⟩ = some (.int .i64 (i : Nat)) ∧ W.cell? ⟨fb, 2, none⟩ = some (.slice (some ⟨sb, 0, none⟩) m c)) := Hid.mk' (fun W hW => by
    have B : Below w.heap.size w W := b1.trans (hW.mono b1.size)
    obtain ⟨a0, a1, a2, _⟩ := Fobj.cells ((B.block fb (Array.getElem?_eq_some_iff.1 hq).1).trans hq)
    have e := (hW.block x0 (Array.getElem?_eq_some_iff.1 q1).1).trans q1
    exact ⟨by simp [World.cell?, e], a0, a1, a2⟩)
  have HSL : Hid (∀ W, Below W1.heap.size W1 W → ∀ j, j < m → W.cell? ⟨sb, j * 5, none⟩ = some (.int .i64 0) ∧ W.cell? ⟨sb, j * 5 + 1, none⟩ = some (.float .f64 0) ∧ W.cell? ⟨sb, j * 5 + 2, none⟩ = some (.string ⟨#[]⟩) ∧ W.cell? ⟨sb, j * 5 + 3, none⟩ = some (.int .i64 0) ∧ W.cell? ⟨sb, j * 5 + 4, none⟩ = some (.pointer none)) := Hid.mk' (fun W hW j hj => by
    have B : Below w.heap.size w W := b1.trans (hW.mono b1.size)
    obtain ⟨a0, a1, a2, a3, a4⟩ := hsl j hj
    exact ⟨(B.cell (p := ⟨sb, j * 5, none⟩) (World.block_lt_of_cell? w _ a0)).trans a0, (B.cell (p := ⟨sb, j * 5 + 1, none⟩) (World.block_lt_of_cell? w _ a1)).trans a1, (B.cell (p := ⟨sb, j * 5 + 2, none⟩) (World.block_lt_of_cell? w _ a2)).trans a2, (B.cell (p := ⟨sb, j * 5 + 3, none⟩) (World.block_lt_of_cell? w _ a3)).trans a3, (B.cell (p := ⟨sb, j * 5 + 4, none⟩) (World.block_lt_of_cell? w _ a4)).trans a4⟩)
  have HT1 := Hid.mk' (h.below b1)
  have HB1 := Hid.mk' b1
  have HH1 := Hid.mk' hW1
  have HL := Hid.mk' hL
  have HLM := Hid.mk' hm
  have HND := Hid.mk' hnd
  have HZ := Hid.mk' hz
  obtain ⟨y0, y1, y2, y3⟩ := HCE.out W1 (Below.refl _ _)
  obtain ⟨s1, hs1⟩ : ∃ s1, W1.heap.size = s1 := ⟨_, rfl⟩
  clear h hq hsl hL hm hnd hz b1 q1 hW1 hA1
  refine (callsIn_wide (n := 8)).1 ?_
  refine callsIn_of_wp_marks Tryz.func154 rfl trivial ?_ rfl
  refine wpIn_wide.2 ?_
  simp only [Tryz.ntmps154, List.size_toArray, List.length_cons, List.length_nil, Nat.reduceAdd, Nat.reduceSub, Array.replicate_succ, Array.replicate_zero, List.push_toArray, List.append_toArray, List.nil_append, List.cons_append]
  go_upto_region 1 with fail
  rw [HH1.out]
  go_cut [3, 11, 17, 19] from 6 (fun v3 v11 v17 v19 wc => ∃ dbx db mb rb, v3 = .pointer (some ⟨dbx, 0, none⟩) ∧ v11 = .map (some mb) ∧ v17 = .slice (some ⟨rb, 0, none⟩) 0 m ∧ v19 = .pointer (some ⟨db, 0, none⟩) ∧ Hid (DI W1 db mb rb m [] wc ∧ wc.heap[dbx]? = some (.cells #[.pointer (some ⟨db, 0, none⟩)] 96 (0, 0)) ∧ W1.heap.size ≤ dbx))
  case first =>
    refine hp_region_only (n := 0) ?_
    have mkm := mkm_run m
    have hy0 := y0
    have hy3 := y3
    have l1 : x0 < W1.heap.size := World.block_lt_of_cell? W1 _ y0
    have l2 : fb < W1.heap.size := World.block_lt_of_cell? W1 _ y3
    go_region_held3 (fun w' => w'.cell? ⟨x0, 0, none⟩ = some (.pointer (some ⟨fb, 0, none⟩)) ∧ w'.cell? ⟨fb, 2, none⟩ = some (.slice (some ⟨sb, 0, none⟩) m c)) (repeat' (first | assumption | exact hy0 | exact hy3 | refine And.intro ?_ ?_ | refine hp_cdrew ?_ | refine al_cell _ ?_ | (refine (World.cell?_setCell_other (by simp <;> omega)).trans ?_))) (fail)
    all_goals
      clear hy0 hy3 mkm mk1 y0 y1 y2 y3 l1 l2
      go_wp2_with fail
      go_meet
      refine ⟨_, _, _, _, rfl, rfl, rfl, rfl, Hid.mk' ⟨⟨?_, ⟨A1, ?_, HA2.out⟩, ⟨_, map_new ?_, plOk_nil⟩, ?_, ?_⟩, ?_, ?_⟩⟩
      · refine hp_drew ?_
        repeat' (first | exact hp_new (by simp only [World.size_alloc, hs1]) | refine hp_old (by simp only [World.size_alloc, hs1]; omega) ?_)
      · refine hp_drew ?_
        repeat' (first | exact hp_new (by simp only [World.size_alloc, hs1]) | refine hp_old (by simp only [World.size_alloc, hs1]; omega) ?_)
      · refine hp_drew ?_
        repeat' (first | exact hp_new (by simp only [World.size_alloc, hs1]) | refine hp_old (by simp only [World.size_alloc, hs1]; omega) ?_)
      · refine Below.drew ?_
        repeat' (first | exact Below.refl _ _ | refine Below.alloc ?_ (by first | exact Nat.le_refl _ | (simp only [World.size_alloc]; omega)) _)
      · exact ⟨by omega, by omega, by omega⟩
      · refine hp_drew ?_
        repeat' (first | exact hp_new (by simp only [World.size_alloc, hs1]) | refine hp_old (by simp only [World.size_alloc, hs1]; omega) ?_)
      · omega
  case rest =>
    obtain ⟨dbx, db, mb, rb, rfl, rfl, rfl, rfl, HDI⟩ := hcut
    clear y0 y1 y2 y3 mk1
    generalize wc = Wd at *
    obtain ⟨y0, y1, y2, y3⟩ := HCE.out Wd HDI.out.1.bl
    have HEA := Hid.mk' (each_any g i Wd.drew)
    go_upto_region 2 with fail
    go_cut [28] from 20 (fun v28 w2 => v28 = .func (.func 173) #[] #[.pointer (some ⟨Wd.heap.size, 0, none⟩), .pointer (some ⟨Wd.heap.size + 1, 0, none⟩)] ∧ w2 = (Wd.drew.alloc (.cells #[.pointer (some ⟨g, 0, none⟩)] 63)).alloc (.cells #[.int .i64 (i : Nat)] 3))
    case first =>
      refine hp_region_only (n := 0) ?_
      go_region_held3 (fun w' => w'.cell? ⟨x0, 0, none⟩ = some (.pointer (some ⟨fb, 0, none⟩)) ∧ w'.cell? ⟨fb, 0, none⟩ = some (.pointer (some ⟨g, 0, none⟩)) ∧ w'.cell? ⟨fb, 1, none⟩ = some (.int .i64 (i : Nat))) (go_keep) (first | (go_at_call 161; refine HEA.out.mono ?_; rintro e w3 ⟨rfl, hw3⟩; have HW3 := Hid.mk' hw3; have B3 : Below W1.heap.size W1 w3 := (by rw [hw3]; exact ((HDI.out.1.bl.drew).alloc HDI.out.1.bl.size _).alloc (by have := HDI.out.1.bl.size; simp <;> omega) _); obtain ⟨z0, z1, z2, z3⟩ := HCE.out w3 B3; clear hw3 B3))
      all_goals
        go_wp2_with fail
        go_meet
        exact ⟨rfl, HW3.out⟩
    case rest =>
      obtain ⟨rfl, hw2⟩ := hcut
      have hdi := HDI.out.1
      have hge := hdi.ge
      obtain ⟨W2, hW2⟩ : ∃ W2, (Wd.drew.alloc (.cells #[.pointer (some ⟨g, 0, none⟩)] 63)).alloc (.cells #[.int .i64 (i : Nat)] 3) = W2 := ⟨_, rfl⟩
      have b2 : Below Wd.heap.size Wd W2 := by rw [← hW2]; exact (((Below.refl _ _).drew).alloc (Nat.le_refl _) _).alloc (by simp) _
      have q3 : W2.heap[Wd.heap.size]? = some (.cells #[.pointer (some ⟨g, 0, none⟩)] 63 (0, 0)) := by rw [← hW2]; exact sh_old (by simp) (sh_new rfl)
      have q4 : W2.heap[Wd.heap.size + 1]? = some (.cells #[.int .i64 (i : Nat)] 3 (0, 0)) := by rw [← hW2]; exact sh_new (by simp)
      have z2 : W2.heap.size = Wd.heap.size + 2 := by rw [← hW2]; simp
      obtain ⟨cur0, cr1, _⟩ := hdi.r
      obtain ⟨D0, mp1, _⟩ := hdi.mm
      have hlt : db < Wd.heap.size ∧ mb < Wd.heap.size ∧ rb < Wd.heap.size ∧ dbx < Wd.heap.size := ⟨(Array.getElem?_eq_some_iff.1 hdi.d).1, mp1.lt, (Array.getElem?_eq_some_iff.1 cr1).1, (Array.getElem?_eq_some_iff.1 HDI.out.2.1).1⟩
      have HSQ := Hid.mk' (fun n => tt_seq (n := n) (Wd.heap.size) (Wd.heap.size + 1) i [db, mb, rb] L HT1.out (hdi.bl.trans (b2.mono hdi.bl.size)) (fun b hb => by simp at hb; omega) hi HL.out (by have := HLM.out; omega) hll2 (by simp [World.cell?, q3]) (by simp [World.cell?, q4]))
      have HI0 : Hid (DI W1 db mb rb m [] W2 ∧ W2.heap[dbx]? = some (.cells #[.pointer (some ⟨db, 0, none⟩)] 96 (0, 0))) := Hid.mk' ⟨hdi.below b2, (b2.block dbx hlt.2.2.2).trans HDI.out.2.1⟩
      have hx1 : dbx ≠ db := by
        intro e
        have h1 := HDI.out.2.1
        rw [e, hdi.d] at h1
        cases h1
      have hx2 : dbx ≠ mb := by
        intro e
        obtain ⟨es, cl, mp2, _⟩ := mp1
        have h1 := HDI.out.2.1
        rw [e, mp2] at h1
        cases h1
      have hx3 : dbx ≠ rb := by
        intro e
        have h1 := HDI.out.2.1
        rw [e, cr1] at h1
        cases h1
      have HDX := Hid.mk' (And.intro hx1 (And.intro hx2 hx3))
      clear hx1 hx2 hx3
      have HLT := Hid.mk' hlt
      have HZ2 := Hid.mk' z2
      have HGE : Hid (W1.heap.size ≤ Wd.heap.size) := Hid.mk' hdi.bl.size
      rw [hw2, hW2]
      clear y0 y1 y2 y3 hdi hge hW2 hw2 b2 q3 q4 z2 cr1 mp1 hlt
      obtain ⟨d0, hd0⟩ : ∃ d0, Wd.heap.size = d0 := ⟨_, rfl⟩
      rw [hd0] at HSQ HLT HZ2 HGE
      simp only [hd0]
      go_wp2_with fail
      refine (wpIn_wide (n := 8)).1 ?_
      refine range_x (α := ByteArray × Int) (by omega) (gf := 173) (lb := #[.pointer (some ⟨d0, 0, none⟩), .pointer (some ⟨d0 + 1, 0, none⟩)]) rfl (enters_of Tryz.func173 (by kernel_rfl) rfl)
        (HSQ.out (8 - 1)) (fun b hb => by have := HLT.out; have := HZ2.out; simp at hb; omega) (Below.refl _ _) (fun _ => rfl)
        (fun pre V => DI W1 db mb rb m (pre.map (·.1)) V ∧ V.heap[dbx]? = some (.cells #[.pointer (some ⟨db, 0, none⟩)] 96 (0, 0))) (fun _ _ _ => False) (OwnFrom.and (DI.own (by have := HLT.out; have := HZ2.out; omega) (by have := HLT.out; have := HZ2.out; omega) (by have := HLT.out; have := HZ2.out; omega) (by have := HZ2.out; have := HGE.out; omega)) (blk_own (by have := HLT.out; have := HZ2.out; omega)))
        (fun cd s A C row hs hgr hr => hs) HI0.out ?round1 ?done1 ?stop1
      case round1 =>
        intro l pre y V hV hlt
        obtain ⟨ys, yf⟩ := y
        simp only [encK]
        have HPL : Hid (pre.length < m) := Hid.mk' (by have h1 := hlt.length_le; rw [List.length_append] at h1; have := HLM.out; simp at h1; omega)
        have HNO : Hid (ys ∉ pre.map (·.1)) := Hid.mk' (fun hmem => by
          have h1 := (hlt.map (·.1)).sublist.nodup HND.out
          rw [List.map_append] at h1
          exact (List.nodup_append.1 h1).2.2 _ hmem _ (by simp) rfl)
        have HSZ : Hid (ys.size ≤ maxLen ∧ ∀ t ∈ pre.map (·.1), t.size ≤ maxLen) := Hid.mk' ⟨HZ.out (ys, yf) (hlt.subset (by simp)), fun t ht => by
          obtain ⟨z, hz, rfl⟩ := List.mem_map.1 ht
          exact HZ.out z (hlt.subset (List.mem_append_left _ hz))⟩
        clear hV hlt
        gi_wp2
        refine ⟨(Below.refl _ _).alloc (Nat.le_refl _) _, fun Wb hWb hkeep hsz => ?_⟩
        obtain ⟨_, _, k0, k1⟩ := pair_facts (hkeep _ _ (World.alloc_heap_new _ _) rfl)
        obtain ⟨y0, y1, y2, y3⟩ := HCE.out Wb hWb.1.bl
        obtain ⟨a0, a1, a2, a3, a4⟩ := HSL.out Wb hWb.1.bl pre.length HPL.out
        obtain ⟨_, _, _, e1⟩ := pair_facts hWb.1.d
        have e0 : Wb.cell? ⟨dbx, 0, none⟩ = some (.pointer (some ⟨db, 0, none⟩)) := by simp [World.cell?, hWb.2]
        have HLY := Hid.mk' (fun U (hU : Below Wb.heap.size Wb U) => lay_any W1 db mb rb m (pre.map (·.1)) ys yf U (hWb.1.below hU) (by rw [List.length_map]; exact HPL.out) hll HSZ.out.1 HSZ.out.2 HNO.out)
        have HBX : Hid (Wb.heap[dbx]? = some (.cells #[.pointer (some ⟨db, 0, none⟩)] 96 (0, 0))) := Hid.mk' hWb.2
        have zp : (pre.length : Int) < (m : Int) := by have := HPL.out; omega
        rw [List.length_map] at e1
        unfold eC zslot zv at HLY
        simp only [List.cons_append, List.nil_append] at HLY
        generalize hpl : pre.length = pl at *
        have hmx : Tryz.prog.follows .mixedOrders = true := by kernel_rfl
        clear hWb hkeep hsz hpl
        gi_wp2_with fail
        refine region_last (L := 15) rfl rfl hmx (by kernel_rfl) (by kernel_rfl) (by kernel_rfl) ?_
        simp only [List.setIfInBounds_toArray, List.set_cons_succ, List.set_cons_zero, mute]
        iterate 16 (quiet_step_in (fail))
        refine wpQuietIn_nil ?_
        rintro Wq ⟨nq, rfl⟩
        unfold Oper.wpIn
        go_simp
        refine ⟨trivial, (CallsIn.inRound l (callsIn_wide.2 (HLY.out _ (below_drewN (Below.refl _ _) _)))).mono ?_⟩
        rintro e V2 ⟨rfl, d2, s2⟩
        have s3 : Sv [db, mb, rb] Wb V2 := (Sv.of_below (below_drewN (Below.refl Wb.heap.size Wb) nq)).trans' s2
        have HS3 := Hid.mk' s3
        have HD3 : Hid (DI W1 db mb rb m ((pre ++ [(ys, yf)]).map (·.1)) V2 ∧ V2.heap[dbx]? = some (.cells #[.pointer (some ⟨db, 0, none⟩)] 96 (0, 0))) := Hid.mk' ⟨by rw [List.map_append]; exact d2, s3.all _ _ (by simp [HDX.out.1, HDX.out.2.1, HDX.out.2.2]) HBX.out⟩
        clear d2 s2 s3 k0 k1 y0 y1 y2 y3 a0 a1 a2 a3 a4 e0 e1
        gi_wp2
        exact ⟨HS3.out, HD3.out⟩
      case stop1 =>
        rintro E cd pre V hE h hx hK
        exact hx.elim
      case done1 =>
        rintro E xs V hE rfl hV hK
        have e0 : V.cell? ⟨dbx, 0, none⟩ = some (.pointer (some ⟨db, 0, none⟩)) := by simp [World.cell?, hV.2]
        have HV := Hid.mk' hV.1
        have hE2 : d0 + 2 ≤ E := by have := HZ2.out; omega
        clear hV
        go_wp2
        refine ⟨by simp, .inl ⟨_, _, rfl, run_takeDeferred hK, ?_⟩⟩
        refine ⟨.pointer (some ⟨db, 0, none⟩), by simp [results, Tryz.results154, go_sem], db, mb, rb, rfl, ?_⟩
        exact DI.base ((DI.own (B' := d0 + 2) (by have := HLT.out; omega) (by have := HLT.out; omega) (by have := HLT.out; omega) (by have := HGE.out; omega)).putObj _ HV.out hE2 hK rfl) HB1.out
end
end Go.Proofs.YtmgngbhkgmkggaaGreatDoor
