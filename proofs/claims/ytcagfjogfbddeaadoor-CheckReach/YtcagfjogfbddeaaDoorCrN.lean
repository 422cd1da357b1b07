/- Package check: Targets. Package check: Targets, walked. Package check: Targets: its iterator. -/
import Derived.Test.YtcagfjogfbddeaaDoorCrE
import Derived.Test.YtcagfjogfbddeaaDoorChQ
import Derived.Test.YtcagfjogfbddeaaDoorKRng2
namespace Go.Proofs.YtcagfjogfbddeaaDoor
set_option linter.unusedVariables false
set_option linter.unusedSimpArgs false
open Go.RowKit Go.Shelf

/-- Instructions and their targets, of the first k. -/
def tgL (f : Fun) (k : Nat) : List (Nat × Int) := (List.range k).filterMap fun i => (tgO (insAt f i)).map fun z => (i, z)
theorem tgL_succ (f : Fun) (k : Nat) : tgL f (k + 1) = tgL f k ++ (match tgO (insAt f k) with | some z => [(k, z)] | none => []) := by
  unfold tgL
  rw [List.range_succ, List.filterMap_append]
  congr 1
  cases h : tgO (insAt f k) <;> simp [h]
theorem tgL_len (f : Fun) : ∀ k, (tgL f k).length ≤ k
  | 0 => by simp [tgL]
  | k + 1 => by
    have := tgL_len f k
    rw [tgL_succ, List.length_append]
    cases tgO (insAt f k) <;> simp <;> omega
def jc (l : List (Nat × Int)) : List Value := l.flatMap fun p => [.int .i64 (p.1 : Int), .int .i64 p.2]
theorem jc_append (a b : List (Nat × Int)) : jc (a ++ b) = jc a ++ jc b := by simp [jc]
theorem jc_len (l : List (Nat × Int)) : (jc l).length = l.length * 2 := by
  induction l with
  | nil => rfl
  | cons p r ih => show (jc r).length + 2 = _; rw [ih, List.length_cons]; omega
theorem jc_get (l : List (Nat × Int)) (j : Nat) (h : j < l.length) : (jc l)[j * 2]? = some (.int .i64 (l[j].1 : Int)) ∧ (jc l)[j * 2 + 1]? = some (.int .i64 l[j].2) := by
  induction l generalizing j with
  | nil => simp at h
  | cons p r ih =>
    have e : jc (p :: r) = .int .i64 (p.1 : Int) :: .int .i64 p.2 :: jc r := rfl
    cases j with
    | zero => rw [e]; exact ⟨rfl, rfl⟩
    | succ j =>
      have := ih j (by simpa using h)
      rw [e, show (j + 1) * 2 = j * 2 + 1 + 1 from by omega]
      simpa using this
theorem infoJ : (Tryd.prog.info? 66).map (fun i => (i.zero, i.size, i.bytes)) = some (some (.agg #[.int .i64 0, .int .i64 0]), 2, 16) := by kernel_rfl
theorem ib_find (c : UInt8) : ∀ l : List UInt8, Lib.indexByte l c = if l.findIdx (fun b => decide (b = c)) < l.length then (l.findIdx (fun b => decide (b = c)) : Int) else -1
  | [] => by simp [Lib.indexByte]
  | b :: l => by
    have ih := ib_find c l
    unfold Lib.indexByte
    rw [ih, List.findIdx_cons]
    by_cases h : b = c
    · simp [h]
    · have hb : (b == c) = false := by simp [h]
      rw [hb]
      simp only [h, decide_false, cond_false, List.length_cons, Bool.false_eq_true, if_false]
      generalize l.findIdx (fun b => decide (b = c)) = d
      by_cases hl : d < l.length
      · simp only [if_pos hl]
        have t : (((d : Nat) : Int) == -1) = false := by simp
        rw [t, if_neg (by simp), if_pos (show d + 1 < l.length + 1 by omega)]
        rfl
      · simp only [if_neg hl]
        have t : ((-1 : Int) == -1) = true := rfl
        rw [t, if_pos rfl, if_neg (show ¬ d + 1 < l.length + 1 by omega)]
theorem ib_tg (op : Int) : Lib.indexByte (Sb (letz op)).data.toList 116 = if tgK op < (letz op).length then (tgK op : Int) else -1 := by
  rw [Sb_list]
  exact ib_find 116 (letz op)
/-- What was gathered. -/
structure Tg (W1 w : World) (ba : Nat) (vj : Value) (l : List (Nat × Int)) : Prop where
  bl : Below W1.heap.size W1 w
  bx : w.heap[ba]? = some (.cells #[vj] 60 (0, 0))
  own : w.ownsRow W1.heap.size 66 2 vj l.length (jc l)
  ge : W1.heap.size ≤ ba
theorem Tg.below {W1 w w' : World} {ba : Nat} {vj : Value} {l : List (Nat × Int)} (h : Tg W1 w ba vj l) (hb : Below w.heap.size w w') : Tg W1 w' ba vj l :=
  ⟨h.bl.trans (hb.mono h.bl.size), (hb.block _ (Array.getElem?_eq_some_iff.1 h.bx).1).trans h.bx, own_below h.own hb, h.ge⟩
theorem Tg.app {W1 w X w5 : World} {ba : Nat} {vj v5 : Value} {l : List (Nat × Int)} {k : Nat} {z : Int} (h : Tg W1 w ba vj l) (hX : Below w.heap.size w X) (o5 : w5.ownsRow W1.heap.size 66 2 v5 (l.length + 1) (jc l ++ [.int .i64 (k : Int), .int .i64 z])) (g5 : X.grownBy w5 vj.ownBlock) :
    Tg W1 (w5.setCell ⟨ba, 0, none⟩ v5) ba v5 (l ++ [(k, z)]) ∧ w5.cell? ⟨ba, 0, none⟩ = some vj ∧ w5.frozen? ⟨ba, 0, none⟩ = false := by
  have hx := h.below hX
  have hb := (g5.block _ (Array.getElem?_eq_some_iff.1 hx.bx).1 (blk_ne hx.own hx.bx (fun c fz e => by cases e))).trans hx.bx
  refine ⟨⟨(hx.bl.grown g5 hx.bl.size (fun k hk => (hx.own.lt k hk).1)).setCell h.ge _, set_blk _ hb, ?_, h.ge⟩, (cell_row _ _ 0 _ _ hb).trans rfl, thaw_row _ _ _ _ hb 0⟩
  have e1 : (l ++ [(k, z)]).length = l.length + 1 := by simp
  have e2 : jc (l ++ [(k, z)]) = jc l ++ [.int .i64 (k : Int), .int .i64 z] := by rw [jc_append]; rfl
  rw [e1, e2]
  refine ⟨o5.1, ?_⟩
  rcases o5.2 with hn | ⟨g, cap, cur, rfl, hB, hg, rest⟩
  · exact .inl hn
  · exact .inr ⟨g, cap, cur, rfl, hB, (Below.heap_setCell _ _ _ _ (show g ≠ ba from fun e => by rw [e, hb] at hg; cases hg)).trans hg, rest⟩
end Go.Proofs.YtcagfjogfbddeaaDoor

namespace Go.Proofs.YtcagfjogfbddeaaDoor
set_option linter.unusedVariables false
set_option linter.unusedSimpArgs false
open Go.RowKit Go.Shelf

theorem ix4 (ia ib ic id : Int) (W : World) : (Instr.index 63 (.agg #[.int .i64 ia, .int .i64 ib, .int .i64 ic, .int .i64 id]) (.int .i64 0)).run Tryd.prog W = .ok (.int .i64 ia) W ∧ (Instr.index 63 (.agg #[.int .i64 ia, .int .i64 ib, .int .i64 ic, .int .i64 id]) (.int .i64 1)).run Tryd.prog W = .ok (.int .i64 ib) W ∧ (Instr.index 63 (.agg #[.int .i64 ia, .int .i64 ib, .int .i64 ic, .int .i64 id]) (.int .i64 2)).run Tryd.prog W = .ok (.int .i64 ic) W ∧ (Instr.index 63 (.agg #[.int .i64 ia, .int .i64 ib, .int .i64 ic, .int .i64 id]) (.int .i64 3)).run Tryd.prog W = .ok (.int .i64 id) W :=
  ⟨by kernel_rfl, by kernel_rfl, by kernel_rfl, by kernel_rfl⟩
set_option maxHeartbeats 4000000 in
set_option maxRecDepth 100000 in
theorem targets_any (q : FW) (w : World) (hr : RdE Ins.cs 5 w q.ya q.yc q.f.code) (hl : LaidL w) :
    Calls Tryd.prog 9 #[.agg q.cs.toArray] w fun e w' => ∃ ba, e = .returned (.func (.func 22) #[] #[.pointer (some ⟨ba, 0, none⟩)]) ∧ w.heap.size ≤ ba ∧ ∃ vj, w'.heap[ba]? = some (.cells #[vj] 60 (0, 0)) ∧ w'.ownsRow w.heap.size 66 2 vj (tgL q.f q.f.code.length).length (jc (tgL q.f q.f.code.length)) ∧ Below w.heap.size w w' := by
  obtain ⟨i0, hif, hz0, hz1, hz2⟩ := info_parts infoJ
  have hile := hr.le
  have hicl : q.yc * (5 * 8) ≤ 140737488351232 := hr.cle
  have HRD := Hid.mk' hr
  obtain ⟨f, hf⟩ : ∃ f, q.f = f := ⟨_, rfl⟩
  obtain ⟨n, hn⟩ : ∃ n, q.f.code.length = n := ⟨_, rfl⟩
  have HN : Hid (f.code.length = n) := Hid.mk' (by rw [← hf]; exact hn)
  rw [hn] at hile
  rw [hn]
  simp only [hf]
  rw [hf] at HRD
  obtain ⟨⟨f1, f2, f3, f4, f5, cs, is, ts, us⟩, xa, xc, ya, yc, za, zc, ua, uc⟩ := q
  simp only [FW.cs]
  dsimp only at hile hicl HRD hn hf
  obtain ⟨m1, hm1⟩ : ∃ m, cs.length = m := ⟨_, rfl⟩
  obtain ⟨m3, hm3⟩ : ∃ m, ts.length = m := ⟨_, rfl⟩
  obtain ⟨m4, hm4⟩ : ∃ m, us.length = m := ⟨_, rfl⟩
  rw [hn, hm1, hm3, hm4]
  obtain ⟨W1, hW1⟩ : ∃ W1, w.alloc (.cells #[.string f1, .int .i64 f2, .bool f3, .bool f4, .int .i64 f5, .slice xa m1 xc, .slice ya n yc, .slice za m3 zc, .slice ua m4 uc] 28) = W1 := ⟨_, rfl⟩
  have b1 : Below w.heap.size w W1 := by rw [← hW1]; exact lay_below
  have q1 : W1.heap[w.heap.size]? = some (.cells #[.string f1, .int .i64 f2, .bool f3, .bool f4, .int .i64 f5, .slice xa m1 xc, .slice ya n yc, .slice za m3 zc, .slice ua m4 uc] 28 (0, 0)) := by rw [← hW1]; exact box_new
  obtain ⟨b0, hb0⟩ : ∃ b0, w.heap.size = b0 := ⟨_, rfl⟩
  have HS0 := Hid.mk' hb0
  rw [hb0] at q1
  have s1 : W1.heap.size = b0 + 1 := by rw [← hW1, ← hb0]; simp
  obtain ⟨W2, hW2⟩ : ∃ W2, W1.alloc (.cells #[.slice none 0 0] 60) = W2 := ⟨_, rfl⟩
  have b2 : Below W1.heap.size W1 W2 := by rw [← hW2]; exact lay_below
  have q2 : W2.heap[b0 + 1]? = some (.cells #[.slice none 0 0] 60 (0, 0)) := by rw [← s1, ← hW2]; exact box_new
  have HTG : Hid (Tg W1 W2 (b0 + 1) (.slice none 0 0) (tgL f 0)) := Hid.mk' ⟨b2, q2, World.ownsRow_nil _ _ _ _, by omega⟩
  have HH : Hid ((w.alloc (.cells #[.string f1, .int .i64 f2, .bool f3, .bool f4, .int .i64 f5, .slice xa m1 xc, .slice ya n yc, .slice za m3 zc, .slice ua m4 uc] 28)).alloc (.cells #[.slice none 0 0] 60) = W2) := Hid.mk' (by rw [hW1]; exact hW2)
  have hb1 : b0 < W1.heap.size := by omega
  have HCF : Hid (∀ W, Below W1.heap.size W1 W → W.cell? ⟨b0, 6, none⟩ = some (.slice ya n yc)) := Hid.mk' (fun W hW => (hW.cell (p := ⟨b0, 6, none⟩) hb1).trans ((cell_row _ _ 6 _ _ q1).trans rfl))
  have HR1 := Hid.mk' (HRD.out.below b1)
  have HL1 := Hid.mk' (hl.below' b1)
  have HB1 := Hid.mk' b1
  have HNB : Hid ((n : Int) < 3600000000000) := Hid.mk' (by omega)
  have hmf : ∀ (fn : Fn) (first cap : Array Value) (w : World), (Instr.makeFunc fn first cap).run Tryd.prog w = .ok (.func fn first cap) w := fun _ _ _ _ => rfl
  obtain ⟨ba, hba⟩ : ∃ ba, b0 + 1 = ba := ⟨_, rfl⟩
  rw [hba] at HTG
  have HSB : Hid (W1.heap.size = ba) := Hid.mk' (by omega)
  have a6 := HCF.out W2 b2
  clear hr hl b1 q1 b2 q2 hb1 hm1 hm3 hm4 hile hicl hn hf hW1 hW2 s1
  go_enter Tryd.func9, Tryd.ntmps9
  go_upto_region 2 with fail
  rw [HH.out]
  (try rw [hba])
  clear HH
  go_wp2_with fail
  clear a6
  go_loopw [10] (fun iv wr => ∃ i : Nat, iv = .int .i64 (i : Int) ∧ i ≤ n ∧ Hid (∃ vj, Tg W1 wr ba vj (tgL f i))) (fun iv wr => n - (intOf iv).toNat)
  case atStart => exact ⟨0, rfl, Nat.zero_le _, Hid.mk' ⟨_, HTG.out⟩⟩
  case round =>
    obtain ⟨i, rfl, hi, HT⟩ := hrel
    obtain ⟨vj, hT⟩ := HT.out
    by_cases hlt : i < n
    · have hil : i < f.code.length := by rw [HN.out]; exact hlt
      have hia : insAt f i = f.code[i] := by simp [insAt, List.getD_eq_getElem?_getD, List.getElem?_eq_getElem hil]
      obtain ⟨g, o, rfl, hg, hc⟩ := (HR1.out.below hT.bl).at i hil
      rw [← hia] at hc
      obtain ⟨ii, hii⟩ : ∃ ii, insAt f i = ii := ⟨_, rfl⟩
      have HII := Hid.mk' hii
      rw [hii] at hc
      obtain ⟨op, ia, ib, ic, id⟩ := ii
      have d0 := hc 0 (.int .i64 op) (by omega) rfl
      have d1 := hc 1 (.int .i64 ia) (by omega) rfl
      have d2 := hc 2 (.int .i64 ib) (by omega) rfl
      have d3 := hc 3 (.int .i64 ic) (by omega) rfl
      have d4 := hc 4 (.int .i64 id) (by omega) rfl
      simp only [Nat.add_zero] at d0
      have i1 : (i : Int) < (n : Int) := by omega
      have i2 : (i : Int) < 3600000000000 := by have := HNB.out; omega
      obtain ⟨W5, hW5⟩ : ∃ W5, wr.alloc (.cells #[.int .i64 op, .int .i64 ia, .int .i64 ib, .int .i64 ic, .int .i64 id] 44) = W5 := ⟨_, rfl⟩
      have b5 : Below wr.heap.size wr W5 := by rw [← hW5]; exact lay_below
      have q5 : W5.heap[wr.heap.size]? = some (.cells #[.int .i64 op, .int .i64 ia, .int .i64 ib, .int .i64 ic, .int .i64 id] 44 (0, 0)) := by rw [← hW5]; exact box_new
      obtain ⟨x5, hx5⟩ : ∃ x, wr.heap.size = x := ⟨_, rfl⟩
      rw [hx5] at q5
      have e0 : W5.cell? ⟨x5, 0, none⟩ = some (.int .i64 op) := (cell_row _ _ 0 _ _ q5).trans rfl
      have e1 : W5.cell? ⟨x5, 1, none⟩ = some (.int .i64 ia) := (cell_row _ _ 1 _ _ q5).trans rfl
      have e2 : W5.cell? ⟨x5, 2, none⟩ = some (.int .i64 ib) := (cell_row _ _ 2 _ _ q5).trans rfl
      have e3 : W5.cell? ⟨x5, 3, none⟩ = some (.int .i64 ic) := (cell_row _ _ 3 _ _ q5).trans rfl
      have e4 : W5.cell? ⟨x5, 4, none⟩ = some (.int .i64 id) := (cell_row _ _ 4 _ _ q5).trans rfl
      have hT5 := hT.below b5
      have HT5 := Hid.mk' hT5
      have ca : W5.cell? ⟨ba, 0, none⟩ = some vj := (cell_row _ _ 0 _ _ hT5.bx).trans rfl
      have HOP := Hid.mk' (operandsZ op W5 (Hid.mk' (HL1.out.below' hT5.bl)))
      have HIX : Hid (∀ W, Calls Tryd.prog 19 #[.string (Sb (letz op)), .int .u8 116] W fun e w' => e = .returned (.int .i64 (if tgK op < (letz op).length then (tgK op : Int) else -1)) ∧ w' = W) := Hid.mk' (fun W => by
        have h := Tryd.strings_IndexByte (Sb (letz op)) 116 W
        rw [← ib_tg]
        exact h)
      have HLT := Hid.mk' hlt
      obtain ⟨S, hS⟩ : ∃ S, Sb (letz op) = S := ⟨_, rfl⟩
      rw [hS] at HIX HOP
      obtain ⟨ya', yc', hv, _⟩ := own_slice' hT5.own
      obtain ⟨l, hlE⟩ : ∃ l, (tgL f i).length = l := ⟨_, rfl⟩
      have HLE := Hid.mk' hlE
      have HLB : Hid (l ≤ 3600000000000) := Hid.mk' (by have := tgL_len f i; have := HNB.out; omega)
      rw [hlE] at hv
      subst hv
      have l5a : ba < W5.heap.size := (Array.getElem?_eq_some_iff.1 hT5.bx).1
      have l5x : x5 < W5.heap.size := (Array.getElem?_eq_some_iff.1 q5).1
      clear hil hia hg hc hii b5 q5 hT hT5 hS hlE hi hlt
      by_cases htk : tgK op < (letz op).length
      · rw [if_pos htk] at HIX
        have hk4 : tgK op < 4 := Nat.lt_of_lt_of_le htk (letz_len op)
        obtain ⟨tk, htkE⟩ : ∃ tk, tgK op = tk := ⟨_, rfl⟩
        obtain ⟨tv, htv⟩ : ∃ tv, opx ⟨op, ia, ib, ic, id⟩ tk = tv := ⟨_, rfl⟩
        have HNX : Hid (tgL f (i + 1) = tgL f i ++ [(i, tv)]) := Hid.mk' (by
          rw [tgL_succ, HII.out]
          unfold tgO
          dsimp only
          rw [if_pos htk, htkE, htv])
        rw [htkE] at HIX hk4
        have hix : ∀ W, (Instr.index 63 (.agg #[.int .i64 ia, .int .i64 ib, .int .i64 ic, .int .i64 id]) (.int .i64 (tk : Int))).run Tryd.prog W = .ok (.int .i64 tv) W := fun W => by
          rw [← htv]
          have : tk = 0 ∨ tk = 1 ∨ tk = 2 ∨ tk = 3 := by omega
          rcases this with rfl | rfl | rfl | rfl
          · exact (ix4 ia ib ic id W).1
          · exact (ix4 ia ib ic id W).2.1
          · exact (ix4 ia ib ic id W).2.2.1
          · exact (ix4 ia ib ic id W).2.2.2
        have HOD := Hid.mk' (fun W => opnds_any W op ia ib ic id)
        have HAPP : Hid (∀ (X w6 : World) (v6 : Value), Below W5.heap.size W5 X → w6.ownsRow W1.heap.size 66 2 v6 (l + 1) (jc (tgL f i) ++ [.int .i64 (i : Int), .int .i64 tv]) → X.grownBy w6 (Value.slice ya' l yc').ownBlock →
            Tg W1 (w6.setCell ⟨ba, 0, none⟩ v6) ba v6 (tgL f (i + 1)) ∧ w6.cell? ⟨ba, 0, none⟩ = some (.slice ya' l yc') ∧ w6.frozen? ⟨ba, 0, none⟩ = false) := Hid.mk' (fun X w6 v6 hX o6 g6 => by
          rw [HNX.out]
          exact HT5.out.app hX (by rw [HLE.out]; exact o6) g6)
        have HOW : Hid (W5.ownsRow W1.heap.size 66 2 (.slice ya' l yc') l (jc (tgL f i))) := Hid.mk' (by have h := HT5.out.own; rwa [HLE.out] at h)
        have HSZ : Hid (W1.heap.size ≤ W5.heap.size) := Hid.mk' HT5.out.bl.size
        have htk0 : (0 : Int) ≤ (tk : Int) := by omega
        clear htk hk4 htkE htv
        go_upto_region 7 with (first
          | (go_at_call 20; refine HOP.out.mono ?_; rintro e w6 ⟨rfl, hw6⟩; rw [hw6]; clear hw6 w6)
          | (go_at_call 19; refine (HIX.out _).mono ?_; rintro e w6 ⟨rfl, hw6⟩; rw [hw6]; clear hw6 w6))
        clear d0 d1 d2 d3 d4 i1 htk0
        go_region_law (first
          | (refine step_call1' rfl 21 (.tmp 23) 44 rfl (enters_of Tryd.func21 (by kernel_rfl) rfl) _ rfl (HOD.out _) ?_; rintro e w6 ⟨rfl, b6⟩; refine ⟨_, rfl, ?_⟩; have B6 : Below W5.heap.size W5 w6 := drewC b6; have c6 := (B6.cell (p := ⟨ba, 0, none⟩) l5a).trans ca; have s6 := Nat.lt_of_lt_of_le l5a B6.size)
          | (refine step_app rfl (.tmp 21) (.tmp 28) 60 rfl W1.heap.size 66 i0 (.agg #[.int .i64 0, .int .i64 0]) 2 16 Tryd.underlying60 hif hz0 hz1 hz2 rfl (by decide) _ _ _ rfl (own_alloc' HOW.out B6) _ 1 1 _ rfl (by rfl) (cells_new _ _ _) (by simp [Value.oneCell']) (by have := HLB.out; unfold maxLen; omega) (by have := HLB.out; omega) (Nat.le_trans HSZ.out (B6.alloc B6.size _).size) ?_; intro v7 w7 o7 g7 hl7; have hh := HAPP.out _ _ _ (B6.alloc B6.size _) o7 g7; obtain ⟨hl, k7, z7⟩ := hh; have HN7 := Hid.mk' hl; obtain ⟨y7, c7, hv7, _⟩ := own_slice' o7; subst hv7; clear hl g7 hl7 o7))
        all_goals
          clear B6 b6 c6 s6
          go_wp2
          exact ⟨⟨i + 1, by go_num, HLT.out, Hid.mk' ⟨_, HN7.out⟩⟩, meas_up' n i HLT.out⟩
      · rw [if_neg htk] at HIX
        have HNX : Hid (tgL f (i + 1) = tgL f i) := Hid.mk' (by
          rw [tgL_succ, HII.out]
          unfold tgO
          dsimp only
          rw [if_neg htk, List.append_nil])
        clear htk
        go_wp2_with (first
          | (go_at_call 20; refine HOP.out.mono ?_; rintro e w6 ⟨rfl, hw6⟩; rw [hw6]; clear hw6 w6)
          | (go_at_call 19; refine (HIX.out _).mono ?_; rintro e w6 ⟨rfl, hw6⟩; rw [hw6]; clear hw6 w6))
        exact ⟨⟨i + 1, by go_num, HLT.out, Hid.mk' ⟨_, by rw [HNX.out]; exact HT5.out⟩⟩, meas_up' n i HLT.out⟩
    · have i1 : ¬ (i : Int) < (n : Int) := by omega
      obtain rfl : i = n := by omega
      have HTT := Hid.mk' hT
      clear hT hlt hi
      go_wp2
      go_ret
      exact ⟨ba, rfl, by have := HSB.out; have := HB1.out.size; have := HS0.out; omega, vj, HTT.out.bx, by have h := HTT.out.own; have h1 := HB1.out.size; exact ⟨h.1, h.2.imp id (fun ⟨g, cap, cur, a, b, c⟩ => ⟨g, cap, cur, a, by have := HS0.out; omega, c⟩)⟩, by have h := HB1.out.trans (HTT.out.bl.mono HB1.out.size); first | exact h | (rw [← hb0]; exact h)⟩
end Go.Proofs.YtcagfjogfbddeaaDoor

namespace Go.Proofs.YtcagfjogfbddeaaDoor
set_option linter.unusedVariables false
set_option linter.unusedSimpArgs false
open Go.RowKit Go.Shelf
attribute [local go_sem] Oper.semAt_some

theorem kn_cell {Bk : Nat} {W W' : World} (h : KN Bk W W') {k j : Nat} {v : Value} (hne : k ≠ Bk) (hc : W.cell? ⟨k, j, none⟩ = some v) : W'.cell? ⟨k, j, none⟩ = some v := by
  have hlt : k < W.heap.size := World.block_lt_of_cell? W _ hc
  have h1 : W.heap[k]? = some W.heap[k] := Array.getElem?_eq_getElem hlt
  have h2 := h.same k _ hne h1
  have e : W'.cell? ⟨k, j, none⟩ = W.cell? ⟨k, j, none⟩ := by
    simp only [World.cell?, h1, h2]
  rw [e]
  exact hc
def encJ (p : Nat × Int) : Array Value := #[.int .i64 (p.1 : Int), .int .i64 p.2]
/-- Jumps in memory, aside from a block. -/
def RdJ (Bk : Nat) (W : World) (vj : Value) (L : List (Nat × Int)) : Prop := ∃ a c, vj = .slice a L.length c ∧ L.length < 100000000000000 ∧ ∀ (j : Nat) (h : j < L.length), ∃ g, a = some ⟨g, 0, none⟩ ∧ g ≠ Bk ∧ W.cell? ⟨g, j * 2, none⟩ = some (.int .i64 (L[j].1 : Int)) ∧ W.cell? ⟨g, j * 2 + 1, none⟩ = some (.int .i64 L[j].2)
theorem RdJ.of {Bk B : Nat} {W : World} {vj : Value} {L : List (Nat × Int)} (h : W.ownsRow B 66 2 vj L.length (jc L)) (hl : L.length < 100000000000000) (hne : some Bk ≠ vj.ownBlock) : RdJ Bk W vj L := by
  obtain ⟨a, c, hv, _⟩ := own_slice' h
  refine ⟨a, c, hv, hl, fun j hj => ?_⟩
  subst hv
  obtain ⟨g, rfl⟩ := own_some h (by omega)
  refine ⟨g, rfl, fun e => hne (by rw [← e]; rfl), ?_, ?_⟩
  · have := h.cells (g := g) rfl (j * 2) _ (jc_get L j hj).1
    rw [Addr.add_lit] at this
    simpa using this
  · have := h.cells (g := g) rfl (j * 2 + 1) _ (jc_get L j hj).2
    rw [Addr.add_lit] at this
    simpa using this
theorem RdJ.keep {Bk : Nat} {W W' : World} {vj : Value} {L : List (Nat × Int)} (h : RdJ Bk W vj L) (hk : KN Bk W W') : RdJ Bk W' vj L := by
  obtain ⟨a, c, hv, hl, hc⟩ := h
  refine ⟨a, c, hv, hl, fun j hj => ?_⟩
  obtain ⟨g, ha, hg, h1, h2⟩ := hc j hj
  exact ⟨g, ha, hg, kn_cell hk hg h1, kn_cell hk hg h2⟩
set_option maxRecDepth 100000 in
set_option maxHeartbeats 2000000 in
theorem targets1_in (n l Bk ba : Nat) (L : List (Nat × Int)) (encs : Nat × Int → Array Value) (hE : ∀ x ∈ L, encs x = encJ x) (J Jx : List (Nat × Int) → World → Prop) (W : World) (hJ : OwnFrom W.heap.size J) (vj : Value) (ck : W.cell? ⟨ba, 0, none⟩ = some vj) (hrd : RdJ Bk W vj L)
    (hY : ∀ pre x W1, J pre W1 → pre.length < L.length → YieldAt Fence.wide (n - 1) Tryd.prog l (encs x) W1 fun e W' =>
      (e = .returned (.bool true) ∧ J (pre ++ [x]) W' ∧ KN Bk W1 W') ∨ (e = .returned (.bool false) ∧ Jx (pre ++ [x]) W' ∧ KF W.heap.size W1 W')) (h0 : J [] W) :
    CallsIn Fence.wide n Tryd.prog 22 #[.func (.yield l) #[] #[], .pointer (some ⟨ba, 0, none⟩)] W fun e W' => (∃ v, e = .returned v) ∧ ((∃ xs, xs = L ∧ J xs W') ∨ (∃ pre, pre <+: L ∧ Jx pre W')) := by
  have HRD := Hid.mk' hrd
  obtain ⟨a, c, hv, hl, _⟩ := hrd
  subst hv
  obtain ⟨ln, hln⟩ : ∃ ln, L.length = ln := ⟨_, rfl⟩
  have HLN := Hid.mk' hln
  rw [hln] at ck hl
  have HY := Hid.mk' hY
  have HEE := Hid.mk' hE
  have HJ0 := Hid.mk' h0
  have HJJ := Hid.mk' hJ
  have HLL := Hid.mk' hl
  clear hE hY h0 hJ hln hl
  refine callsIn_of_wp Tryd.func22 rfl trivial ?_ rfl
  simp only [Tryd.ntmps22, List.size_toArray, List.length_cons, List.length_nil, Nat.reduceAdd, Nat.reduceSub, Array.replicate_succ, Array.replicate_zero, List.push_toArray, List.append_toArray, List.nil_append, List.cons_append]
  gi_wp2_with fail
  clear ck
  gi_loopw [7] (fun v wr => ∃ (j : Nat), v = .int .i64 j ∧ j ≤ ln ∧ Hid (KN Bk W wr) ∧ Hid (J (L.take j) wr)) (fun v _ => ln - (intOf v).toNat)
  case atStart => exact ⟨0, rfl, Nat.zero_le _, Hid.mk' (KN.refl _ _), HJ0⟩
  case round =>
    obtain ⟨j, rfl, hj, HKN, HJ2⟩ := hrel
    by_cases hlt : j < ln
    · have hjl : j < L.length := by rw [HLN.out]; exact hlt
      obtain ⟨a', c', hv', _, hcc⟩ := HRD.out.keep HKN.out
      simp only [Value.slice.injEq] at hv'
      obtain ⟨rfl, _, rfl⟩ := hv'
      obtain ⟨g, rfl, hgB, d0, d1⟩ := hcc j hjl
      obtain ⟨x, hx⟩ : ∃ x, L[j] = x := ⟨_, rfl⟩
      rw [hx] at d0 d1
      have HTK : Hid (L.take (j + 1) = L.take j ++ [x]) := Hid.mk' (by rw [List.take_succ_eq_append_getElem hjl, hx])
      have HMM : Hid (x ∈ L) := Hid.mk' (by rw [← hx]; exact List.getElem_mem hjl)
      obtain ⟨xa, xt⟩ := x
      dsimp only at d0 d1
      obtain ⟨W5, hW5⟩ : ∃ W5, wr.alloc (.cells #[.int .i64 (xa : Int), .int .i64 xt] 66) = W5 := ⟨_, rfl⟩
      have b5 : Below wr.heap.size wr W5 := by rw [← hW5]; exact lay_below
      have q5 : W5.heap[wr.heap.size]? = some (.cells #[.int .i64 (xa : Int), .int .i64 xt] 66 (0, 0)) := by rw [← hW5]; exact box_new
      obtain ⟨x5, hx5⟩ : ∃ x, wr.heap.size = x := ⟨_, rfl⟩
      rw [hx5] at q5
      have e0 : W5.cell? ⟨x5, 0, none⟩ = some (.int .i64 (xa : Int)) := (cell_row _ _ 0 _ _ q5).trans rfl
      have e1 : W5.cell? ⟨x5, 1, none⟩ = some (.int .i64 xt) := (cell_row _ _ 1 _ _ q5).trans rfl
      obtain ⟨fn, tmps, assign, body, hy, hR⟩ := HY.out (L.take j) (xa, xt) W5 (OwnFrom.below HJJ.out HJ2.out b5) (by rw [List.length_take]; omega)
      rw [HEE.out _ HMM.out] at hy
      simp only [encJ] at hy
      have HR := Hid.mk' hR
      have HK5 : Hid (KN Bk W W5) := Hid.mk' (HKN.out.trans (KN.of_below b5))
      have zj : (j : Int) < (ln : Int) := by omega
      have zk : (j : Int) < 100000000000000 := by have := HLL.out; omega
      have HJT := Hid.mk' hlt
      have HPX : Hid (L.take j ++ [(xa, xt)] <+: L) := Hid.mk' (by rw [← HTK.out]; exact List.take_prefix _ _)
      clear hjl hcc hgB hx b5 q5 hR hj hlt
      gi_wp2
      refine ⟨fun h => (by cases h), HR.out.mono ?_⟩
      rintro e W3 (⟨rfl, hJ3, hk3⟩ | ⟨rfl, hJx3, _⟩)
      · have HJ3 : Hid (J (L.take (j + 1)) W3) := Hid.mk' (by rw [HTK.out]; exact hJ3)
        have HK3 := Hid.mk' (HK5.out.trans hk3)
        clear hJ3 hk3 d0 d1 e0 e1 hy
        gi_wp2
        go_roundw
        case rel => exact ⟨j + 1, by go_num, HJT.out, HK3, HJ3⟩
        case measure => exact meas_up' ln j HJT.out
      · clear d0 d1 e0 e1 hy
        gi_wp2
        exact bodyPost_ret (v := .tuple #[]) (results_none rfl _ _ _) rfl ⟨⟨_, rfl⟩, .inr ⟨_, HPX.out, hJx3⟩⟩
    · have zj : ¬ (j : Int) < (ln : Int) := by omega
      have HJF : Hid (J L wr) := Hid.mk' (by have h := HJ2.out; rwa [List.take_of_length_le (by have := HLN.out; omega)] at h)
      clear hlt hj
      gi_wp2
      go_end0
      exact ⟨⟨_, rfl⟩, .inl (by first | exact HJF.out | exact ⟨_, rfl, HJF.out⟩)⟩
theorem targets_stops (n ba Bk : Nat) (w : World) (L : List (Nat × Int)) (encs : Nat × Int → Array Value) (hE : ∀ x ∈ L, encs x = encJ x) (vj : Value) (ck : w.cell? ⟨ba, 0, none⟩ = some vj) (hrd : RdJ Bk w vj L) :
    SeqO (α := Nat × Int) n Tryd.prog 22 #[.pointer (some ⟨ba, 0, none⟩)] encs Bk (fun xs => xs = L) (fun pre => pre <+: L) L.length w := by
  intro l J Jx W hW hJ _ hY h0
  exact targets1_in n l Bk ba L encs hE J Jx W hJ vj ((hW.cell (p := ⟨ba, 0, none⟩) (World.block_lt_of_cell? w _ ck)).trans ck) (hrd.keep (KN.of_below hW)) hY h0
end Go.Proofs.YtcagfjogfbddeaaDoor
