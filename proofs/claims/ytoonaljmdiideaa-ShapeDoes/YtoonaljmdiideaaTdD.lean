/- ShapeDoes: what lies when the walk begins, and an operation's block. ShapeDoes: the law's walk. -/
import Derived.Test.YtoonaljmdiideaaTdE
import Derived.Test.YtoonaljmdiideaaShU
import Derived.Deep.CutRange
namespace Go.Proofs.Ytoonaljmdiideaa
set_option linter.unusedVariables false
set_option linter.unusedSimpArgs false
open Go.RowKit Go.Maps Go.ChangeShapes
def opO (o : OpR) : Obj := .cells #[.int .i64 o.kd, .int .i64 o.si, .string o.s, .int .i64 o.z, .int .i64 o.f, .int .i64 o.c] 33 (0, 0)
def opL : Option (Nat × OpR) → List (Nat × Obj)
  | none => []
  | some x => [(x.1, opO x.2)]
theorem two_init {B g mn mw lb rb : Nat} {vs vL : Value} {w3 w4 : World} (hT : T1 [] B g mn mw lb (.slice none 0 0) vs (.slice none 0 0) [] [] [[]] [(lb, .slice none 0 0)] 0 (.map []) (.map []) w3) (hR : R1 w3.heap.size rb vL (.slice none 0 0) [.slice none 0 0] [[]] [] w4) (hb : Below w3.heap.size w3 w4) : Two B g rb [[]] [] w4 := by
  have hB : B ≤ w3.heap.size := by have := hT.ge.1; have := hT.lts.1; omega
  have hR' : R1 B rb vL (.slice none 0 0) [.slice none 0 0] [[]] [] w4 := ⟨Nat.le_trans hB hR.ge, hR.row, own_base hR.l hB, fun i hi => own_base (hR.s i hi) hB, own_base hR.m hB⟩
  refine ⟨⟨mn, mw, .slice none 0 0, vs, [], [(lb, .slice none 0 0, [])], [[]], [(lb, .slice none 0 0)], [], .map [], .map [], vL, .slice none 0 0, [.slice none 0 0], [], ofB w4 (rBs rb vL (.slice none 0 0) [.slice none 0 0]), ⟨fun q hq => ?_, List.pairwise_singleton _ _, fun i hi => ?_, rfl, Nat.zero_lt_one⟩, numOk_nil, wayOk_nil, hR', rfl, ?_, fun b hb => ?_⟩, fun p hp => by cases hp⟩
  · obtain rfl := List.mem_singleton.1 hq
    refine hT.turn (Sv.below hb) (fun b hb => by cases hb) (fun p hp => ?_)
    obtain ⟨a, c⟩ := ofB_mem.1 hp
    refine ⟨c, .inr ?_⟩
    rcases rBs_mem a with e | e | e | ⟨v, hv, e⟩
    · rw [e]; exact hR.ge
    · exact (hR.l.lt _ e).1
    · cases e
    · rw [List.mem_singleton.1 hv] at e; cases e
  · obtain rfl : i = 0 := by simp at hi; omega
    exact ⟨_, List.mem_singleton.2 rfl, rfl, Nat.le_refl _⟩
  · refine ⟨rfl, rfl, Nat.zero_lt_one, (fun a b k h => by simp at h), (fun t ht => by cases ht), fun r hr => ?_, fun r hr x hx => ?_, fun i hi => ?_, (fun p hp => by cases hp), (fun x hx => by cases hx), (fun i n k f tt h => by cases h), (fun i n k f h => by simp at h), fun l hl => ?_, ⟨by decide, (fun x hx => by cases hx)⟩, rfl, rfl, Nat.le_refl _, (by show 1 ≤ 100000; decide), fun l hl => ?_⟩
    · rw [List.mem_singleton.1 hr]; exact Nat.zero_le _
    · rw [List.mem_singleton.1 hr] at hx; cases hx
    · obtain rfl : i = 0 := by simp at hi; omega
      exact ⟨_, List.mem_singleton.2 rfl, rfl, rfl, Nat.le_refl _, fun j x hx => by simp at hx⟩
    · rw [List.mem_singleton.1 hl]
      exact ⟨by decide, fun x hx => by cases hx⟩
    · rw [List.mem_singleton.1 hl]
      exact List.Pairwise.nil
  · obtain ⟨ob, ho⟩ := hR'.blocks b hb
    exact ⟨ob, ofB_mem.2 ⟨hb, ho⟩⟩
theorem op_cells {w : World} {bo : Nat} {o : OpR} (h1 : w.heap[bo]? = some (opO o)) : w.cell? ⟨bo, 0, none⟩ = some (.int .i64 o.kd) ∧ w.cell? ⟨bo, 1, none⟩ = some (.int .i64 o.si) ∧ w.cell? ⟨bo, 2, none⟩ = some (.string o.s) ∧ w.cell? ⟨bo, 3, none⟩ = some (.int .i64 o.z) ∧ w.cell? ⟨bo, 4, none⟩ = some (.int .i64 o.f) ∧ w.cell? ⟨bo, 5, none⟩ = some (.int .i64 o.c) := by
  unfold opO at h1
  refine ⟨?_, ?_, ?_, ?_, ?_, ?_⟩ <;> simp [World.cell?, h1]
end Go.Proofs.Ytoonaljmdiideaa

namespace Go.Proofs.Ytoonaljmdiideaa
set_option linter.unusedVariables false
set_option linter.unusedSimpArgs false
open Go.RowKit Go.Maps Go.ChangeShapes
/-- What each round keeps. -/
def SJ (w0 : World) (B g rb : Nat) (ob : Option (Nat × OpR)) (w : World) : Prop := ∃ S, Two B g rb S (opL ob) w ∧ Below w0.heap.size w0 w ∧ w0.heap.size ≤ B
section
variable {w0 w w' : World} {B g rb : Nat} {ob : Option (Nat × OpR)}
theorem SJ.bl (h : SJ w0 B g rb ob w) : Below w0.heap.size w0 w := by
  obtain ⟨S, _, h, _⟩ := h
  exact h
theorem SJ.below (h : SJ w0 B g rb ob w) (hb : Below w.heap.size w w') : SJ w0 B g rb ob w' := by
  obtain ⟨S, h1, h2, h3⟩ := h
  exact ⟨S, h1.below hb, h2.trans (hb.mono h2.size), h3⟩
theorem SJ.box (h : SJ w0 B g rb none w) (o : OpR) : SJ w0 B g rb (some (w.heap.size, o)) (w.alloc (opO o)) := by
  obtain ⟨S, h1, h2, h3⟩ := h
  have hb : Below w.heap.size w (w.alloc (opO o)) := sh_lay
  exact ⟨S, h1.cons hb w.heap.size (opO o) (Nat.le_refl _) (World.alloc_heap_new _ _) (fr_kind _ _ _ (by decide) (by decide) (by decide) (by decide) (by decide)), h2.trans (hb.mono h2.size), h3⟩
theorem SJ.drop (h : SJ w0 B g rb ob w) : SJ w0 B g rb none w := by
  obtain ⟨S, h1, h2, h3⟩ := h
  exact ⟨S, h1.sub (fun p hp => by cases hp), h2, h3⟩
theorem SJ.obox {bo : Nat} {o : OpR} (h : SJ w0 B g rb (some (bo, o)) w) : w.heap[bo]? = some (opO o) := by
  obtain ⟨S, h1, h2, h3⟩ := h
  exact h1.c (bo, opO o) (List.mem_singleton.2 rfl)
theorem SJ.cells (h : SJ w0 B g rb ob w) : ∃ n a c, n ≤ 100000 ∧ w.cell? ⟨rb, 0, none⟩ = some (.slice a n c) ∧ ∀ W, Below w.heap.size w W → Calls Try.prog 13 #[.pointer (some ⟨g, 0, none⟩)] W fun e w' => e = .returned (.int .i64 (n : Nat)) ∧ w' = W := by
  obtain ⟨S, h1, h2, h3⟩ := h
  obtain ⟨a, c, c0, c1, _⟩ := h1.rows
  exact ⟨S.length, a, c, c1, c0, fun W hW => two_len W (h1.below hW)⟩
/-- Both Adds, or both Changes. -/
def ThenS (w0 : World) (B g rb : Nat) (bo : Nat) (o : OpR) (F : Nat) (e : Ending) (w1 : World) : Prop :=
  ∃ x er : Int, e = .returned (.tuple #[.int .i64 x, .int .i64 er]) ∧ w1.heap[bo]? = some (opO o) ∧ ∀ W : World, Below w1.heap.size w1 W → Calls Try.prog F #[.pointer (some ⟨rb, 0, none⟩), .int .i64 o.si, .agg #[.string o.s, .int .i64 o.z], .int .i64 o.f] W fun e2 w2 => e2 = .returned (.tuple #[.int .i64 x, .int .i64 er]) ∧ SJ w0 B g rb (some (bo, o)) w2
theorem thenS_of {bo F : Nat} {o : OpR} {S : List (List SlR)} {e : Ending} {w1 : World} (h2 : Below w0.heap.size w0 w) (h3 : w0.heap.size ≤ B) (hT : Then B g rb S (opL (some (bo, o))) F o.si o.s o.z o.f w e w1) : ThenS w0 B g rb bo o F e w1 := by
  obtain ⟨x, er, he, hb, hD, hR⟩ := hT
  refine ⟨x, er, he, hD (bo, opO o) (List.mem_singleton.2 rfl), fun W hW => (hR W hW).mono ?_⟩
  rintro e2 w2 ⟨rfl, hb2, S', hS, hT2⟩
  exact ⟨rfl, S', hT2, h2.trans ((hb.trans hb2).mono h3), h3⟩
theorem sj_add {bo : Nat} {o : OpR} (h : SJ w0 B g rb (some (bo, o)) w) (ho : o.ok) : Calls Try.prog 11 #[.pointer (some ⟨g, 0, none⟩), .int .i64 o.si, .agg #[.string o.s, .int .i64 o.z], .int .i64 o.f] w fun e w1 => ThenS w0 B g rb bo o 12 e w1 := by
  obtain ⟨S, h1, h2, h3⟩ := h
  exact (two_add o.si o.s o.z o.f w h1 ho.1 (wf_bareZ ho.2)).mono fun e w1 h => thenS_of h2 h3 h
theorem sj_chg {bo : Nat} {o : OpR} (h : SJ w0 B g rb (some (bo, o)) w) (ho : o.ok) : Calls Try.prog 9 #[.pointer (some ⟨g, 0, none⟩), .int .i64 o.si, .agg #[.string o.s, .int .i64 o.z], .int .i64 o.f] w fun e w1 => ThenS w0 B g rb bo o 10 e w1 := by
  obtain ⟨S, h1, h2, h3⟩ := h
  exact (two_chg o.si o.s o.z o.f w h1 ho.1 (wf_bareZ ho.2)).mono fun e w1 h => thenS_of h2 h3 h
end
set_option maxHeartbeats 8000000 in
set_option maxRecDepth 100000 in
theorem does_all (a : Option Addr) (c : Nat) (l : List OpR) (w : World) (hr : RdE OpR.cs 6 w a c l) (hok : ∀ o ∈ l, o.ok) :
    Calls Try.prog 3 #[.slice a l.length c] w fun e w' => e = .returned (.bool true) ∧ Below w.heap.size w w' := by
  have hcl : c * (6 * 8) ≤ 140737488351232 := hr.cle
  have hle := hr.le
  have HR : Hid (∀ W, Below w.heap.size w W → RdE OpR.cs 6 W a c l) := Hid.mk' (fun W hW => hr.below hW)
  have HFW : Hid (∀ W, Below w.heap.size w W → Calls Try.prog 6 #[.slice a l.length c] W fun e w' => ∃ b, e = .returned (.bool b) ∧ Below W.heap.size W w') := Hid.mk' (fun W hW => sfew_any a c l W (hr.below hW))
  have HOK := Hid.mk' hok
  obtain ⟨N, hN⟩ : ∃ N, l.length = N := ⟨_, rfl⟩
  have HN := Hid.mk' hN
  rw [hN] at hle HFW ⊢
  have HAW := Hid.mk' (awake14 w)
  have HNN : Hid (N * 48 ≤ 140737488351232) := Hid.mk' (by omega)
  clear hr hok hN hle hcl
  go_enter Try.func3, Try.ntmps3
  go_wp2_with fail
  refine HAW.out.mono ?_
  rintro e w1 ⟨rfl, b1⟩
  have HB1 := Hid.mk' b1
  clear b1
  go_wp2_with fail
  refine (HFW.out _ HB1.out).mono ?_
  rintro e w2 ⟨bb, rfl, b2⟩
  have HB2 := Hid.mk' (HB1.out.trans (b2.mono HB1.out.size))
  clear b2
  cases bb with
  | false =>
    go_wp2
    go_ret
    exact ⟨rfl, HB2.out⟩
  | true =>
  go_wp2_with fail
  refine (shnew_any w2).mono ?_
  rintro e w3 ⟨g, mn, mw, lb, vs, rfl, hT3, b3⟩
  have HT3 := Hid.mk' hT3
  have HB3 := Hid.mk' b3
  clear hT3 b3
  go_wp2_with fail
  refine (rnew_any w3).mono ?_
  rintro e w4 ⟨rb, vL, rfl, hR4, b4⟩
  obtain ⟨B, hB⟩ : ∃ B, w2.heap.size = B := ⟨_, rfl⟩
  have HJ4 : Hid (SJ w B g rb none w4) := Hid.mk' ⟨[[]], by rw [← hB]; exact two_init HT3.out hR4 b4, HB2.out.trans ((HB3.out.trans (b4.mono HB3.out.size)).mono HB2.out.size), by rw [← hB]; exact HB2.out.size⟩
  clear hR4 b4 hB HT3 HB3 HB2 HB1 HAW HFW
  go_wp2_with fail
  go_loopw [23] (fun v23 wr => ∃ i : Nat, v23 = .int .i64 (i : Int) ∧ i ≤ N ∧ Hid (SJ w B g rb none wr)) (fun v23 wr => N - (intOf v23).toNat)
  case atStart => exact ⟨0, rfl, Nat.zero_le _, HJ4⟩
  case round =>
    obtain ⟨i, rfl, hi, HJ⟩ := hrel
    clear HJ4
    by_cases hlt : i < N
    · have hlq : i < l.length := by rw [HN.out]; exact hlt
      obtain ⟨gl, ol, rfl, hgl, hc⟩ := (HR.out wr HJ.out.bl).at i hlq
      have i1 : (i : Int) < (N : Int) := by omega
      have i2 : (i : Int) < 140737488351232 := by have := HNN.out; omega
      have hoq := HOK.out _ (List.getElem_mem hlq)
      generalize l[i] = q at hc hoq
      have HL := Hid.mk' (HJ.out.box q)
      have HOQ := Hid.mk' hoq
      obtain ⟨kd, si, s, z, f, cc⟩ := q
      simp only [OpR.cs] at hc
      have d0 := hc 0 (.int .i64 kd) (by omega) rfl
      have d1 := hc 1 (.int .i64 si) (by omega) rfl
      have d2 := hc 2 (.string s) (by omega) rfl
      have d3 := hc 3 (.int .i64 z) (by omega) rfl
      have d4 := hc 4 (.int .i64 f) (by omega) rfl
      have d5 := hc 5 (.int .i64 cc) (by omega) rfl
      simp only [Nat.add_zero] at d0
      have HLT := Hid.mk' hlt
      have HI2 := Hid.mk' i2
      clear hc hi hlt hlq hgl hoq HJ
      obtain ⟨bo, hbo⟩ : ∃ bo, wr.heap.size = bo := ⟨_, rfl⟩
      obtain ⟨W1, hW1⟩ : ∃ W1, wr.alloc (.cells #[.int .i64 kd, .int .i64 si, .string s, .int .i64 z, .int .i64 f, .int .i64 cc] 33) = W1 := ⟨_, rfl⟩
      have HL1 : Hid (SJ w B g rb (some (bo, ⟨kd, si, s, z, f, cc⟩)) W1) := Hid.mk' (by rw [← hW1, ← hbo]; exact HL.out)
      clear HL
      go_upto_region 11 with fail
      (try rw [hW1])
      (try rw [hbo])
      clear hW1 d0 d1 d2 d3 d4 d5 i1 i2
      obtain ⟨o0, o1, o2, o3, o4, o5⟩ := op_cells HL1.out.obox
      go_upto_if 29 with fail
      go_cut [7, 8, 9, 10] from 30 to 73 (fun v7 v8 v9 v10 wd => ∃ x er : Int, v7 = .int .i64 x ∧ v8 = .int .i64 x ∧ v9 = .int .i64 er ∧ v10 = .int .i64 er ∧ Hid (SJ w B g rb (some (bo, ⟨kd, si, s, z, f, cc⟩)) wd))
      case first =>
        skip
        by_cases k1 : kd = 1
        · subst k1
          have HA := Hid.mk' (fun (W : World) (hW : Below W1.heap.size W1 W) => sj_chg (HL1.out.below hW) HOQ.out)
          dsimp only at HA
          refine wp_cond_true rfl ?_
          go_upto_region 13 with fail
          go_wp2_with fail
          refine (HA.out _ (Below.refl _ _)).mono ?_
          rintro e w5 ⟨x, er, rfl, hop, hth⟩
          have HTH := Hid.mk' hth
          dsimp only at HTH
          obtain ⟨p0, p1, p2, p3, p4, p5⟩ := op_cells hop
          clear hop hth o0 o1 o2 o3 o4 o5
          go_upto_region 14 with fail
          go_wp2_with fail
          refine (HTH.out _ (Below.refl _ _)).mono ?_
          rintro e w6 ⟨rfl, hJ⟩
          have HJ := Hid.mk' hJ
          clear hJ p0 p1 p2 p3 p4 p5
          go_wp2
          go_meet
          exact ⟨x, er, rfl, rfl, rfl, rfl, HJ⟩
        · have e1 : (kd == 1) = false := by simpa using k1
          clear k1
          have HA := Hid.mk' (fun (W : World) (hW : Below W1.heap.size W1 W) => sj_add (HL1.out.below hW) HOQ.out)
          dsimp only at HA
          refine wp_cond_false (congrArg Value.bool e1) ?_
          clear e1
          go_upto_region 15 with fail
          go_wp2_with fail
          refine (HA.out _ (Below.refl _ _)).mono ?_
          rintro e w5 ⟨x, er, rfl, hop, hth⟩
          have HTH := Hid.mk' hth
          dsimp only at HTH
          obtain ⟨p0, p1, p2, p3, p4, p5⟩ := op_cells hop
          clear hop hth o0 o1 o2 o3 o4 o5
          go_upto_region 16 with fail
          go_wp2_with fail
          refine (HTH.out _ (Below.refl _ _)).mono ?_
          rintro e w6 ⟨rfl, hJ⟩
          have HJ := Hid.mk' hJ
          clear hJ p0 p1 p2 p3 p4 p5
          go_wp2
          go_meet
          exact ⟨x, er, rfl, rfl, rfl, rfl, HJ⟩
      case rest =>
        obtain ⟨x, er, rfl, rfl, rfl, rfl, HJ⟩ := hcut
        obtain ⟨n, na, nc, hn, c0, hL⟩ := HJ.out.cells
        have HLN := Hid.mk' (fun k => hL (wc.drewN k) (below_drewN (Below.refl _ _) k))
        clear o0 o1 o2 o3 o4 o5 hL
        go_upto_region 17 with fail
        go_quiet ((go_at_call 13; refine Calls.quiet_of_same (HLN.out _)))
        have HJ2 := Hid.mk' ((HJ.out.below (below_drewN (Below.refl _ _) nq)).drop)
        have i2 := HI2.out
        clear c0
        go_wp2
        go_roundw
        case rel => exact ⟨i + 1, by go_num, HLT.out, HJ2⟩
        case measure => exact sh_meas N i HLT.out
    · have i1 : ¬ (i : Int) < (N : Int) := by omega
      clear hlt hi
      obtain ⟨S, hT, hb, hB⟩ := HJ.out
      have HT := Hid.mk' hT
      have HB := Hid.mk' hb
      have HLE : Hid (w.heap.size ≤ B) := Hid.mk' hB
      obtain ⟨n, hn⟩ : ∃ n, S.length = n := ⟨_, rfl⟩
      have HSN := Hid.mk' hn
      clear hT hb hB hn HJ
      go_wp2_with fail
      go_loopw [11] (fun v11 wr => ∃ s : Int, v11 = .int .i64 s ∧ (-1 ≤ s ∧ s ≤ (n : Int) + 1) ∧ Hid (Two B g rb S [] wr ∧ Below w.heap.size w wr)) (fun v11 wr => ((n : Int) + 1 - intOf v11).toNat)
      case atStart => exact ⟨-1, rfl, by omega, Hid.mk' ⟨HT.out, HB.out⟩⟩
      case round =>
        obtain ⟨s, rfl, hs, HJ⟩ := hrel
        obtain ⟨na, nc, c0, cl, _⟩ := HJ.out.1.rows
        rw [HSN.out] at c0 cl
        have s0 : s < 200000 := by omega
        by_cases hsn : s ≤ (n : Int)
        · have e1 : decide (s ≤ (n : Int)) = true := decide_eq_true hsn
          have HTD := Hid.mk' (told_any s wr HJ.out.1)
          have HSB : Hid (-1 ≤ s ∧ s ≤ (n : Int)) := Hid.mk' ⟨hs.1, hsn⟩
          clear cl hsn
          go_wp2_with fail
          refine HTD.out.mono ?_
          rintro e w5 ⟨rfl, b5⟩
          have HJ2 : Hid (Two B g rb S [] w5 ∧ Below w.heap.size w w5) := Hid.mk' ⟨HJ.out.1.below b5, HJ.out.2.trans (b5.mono HJ.out.2.size)⟩
          clear c0 b5
          go_wp2
          go_roundw
          case rel => exact ⟨s + 1, by go_num, by have := HSB.out; omega, HJ2⟩
          case measure =>
            have := HSB.out
            show ((n : Int) + 1 - (s + 1)).toNat < ((n : Int) + 1 - s).toNat
            omega
        · have e1 : decide (s ≤ (n : Int)) = false := decide_eq_false hsn
          have HBF := Hid.mk' HJ.out.2
          clear cl hsn hs HJ
          go_wp2
          go_ret
          exact ⟨rfl, HBF.out⟩
end Go.Proofs.Ytoonaljmdiideaa
