/- Package check: the checker made. -/
import Derived.Test.YtcagfjogfbddeaaDoorChC
import Derived.Maps.AppendAt
import Derived.Deep.RegionHeld3
import Derived.Shelf.Abstract
import Derived.Deep.CutBlock
namespace Go.Proofs.YtcagfjogfbddeaaDoor
set_option linter.unusedVariables false
set_option linter.unusedSimpArgs false
open Go.RowKit

theorem step_call0 {P : Program} {ops : Array Oper} {o : Oper} {a : Act} {w : World} {K : Act → World → Prop} {Q : Exit → Act → World → Prop} {E : Prop}
    (hg : o.guard = none) (f : FuncId) (hop : o.op = Op.call { callee := Callee.value (Operand.func f), args := #[], argTypes := #[] })
    (he : ∀ args w, (callFunc f args).run P w = .ok (.enter f args) w) {R : Ending → World → Prop} (hC : Calls P f #[] w R)
    (hK : ∀ e w', R e w' → ∃ v, e = .returned v ∧ K (a.put o.dst v) w') :
    if Region.wanted o (yielded ops a.tmps) = true then Oper.wp P o a w K Q else E := by
  have hw : Region.wanted o (yielded ops a.tmps) = true := by simp [Region.wanted, hg]
  rw [if_pos hw]
  unfold Oper.wp
  have hf : a.eval (Operand.func f) = .func (.func f) #[] #[] := rfl
  simp [execOp, hop, resolve, invoke, Deferred.ofValue, hf, he]
  rw [Oper.upon_enter]
  exact hC.mono (fun e w' h => by obtain ⟨v, rfl, hk⟩ := hK e w' h; exact hk)
theorem step_call1' {P : Program} {ops : Array Oper} {o : Oper} {a : Act} {w : World} {K : Act → World → Prop} {Q : Exit → Act → World → Prop} {E : Prop}
    (hg : o.guard = none) (f : FuncId) (x : Operand) (t : TypeId) (hop : o.op = Op.call { callee := Callee.value (Operand.func f), args := #[x], argTypes := #[t] })
    (he : ∀ args w, (callFunc f args).run P w = .ok (.enter f args) w) (vx : Value) (hx : a.eval x = vx) {R : Ending → World → Prop} (hC : Calls P f #[vx] w R)
    (hK : ∀ e w', R e w' → ∃ v, e = .returned v ∧ K (a.put o.dst v) w') :
    if Region.wanted o (yielded ops a.tmps) = true then Oper.wp P o a w K Q else E := by
  have hw : Region.wanted o (yielded ops a.tmps) = true := by simp [Region.wanted, hg]
  rw [if_pos hw]
  unfold Oper.wp
  have hf : a.eval (Operand.func f) = .func (.func f) #[] #[] := rfl
  simp [execOp, hop, resolve, invoke, Deferred.ofValue, hx, hf, he]
  rw [Oper.upon_enter]
  exact hC.mono (fun e w' h => by obtain ⟨v, rfl, hk⟩ := hK e w' h; exact hk)
def noFW : FW := ⟨noFun, none, 0, none, 0, none, 0, none, 0⟩
def needs (qs : List FW) : List Need := qs.map fun q => needOf q.f.caps
theorem infoNd : (Tryd.prog.info? 81).map (fun i => (i.zero, i.size, i.bytes)) = some (some (.agg #[.int .i64 0, .int .i64 0, .int .i64 0]), 3, 24) := by kernel_rfl
theorem drewC {X w1 : World} {k : Nat} (h : Below (X.drewN k).heap.size (X.drewN k) w1) : Below X.heap.size X w1 := (kept_drewN _ 0 _ _).1.trans h
/-- The checker as it is made. -/
structure NW (w wr : World) (B b0 cb mp : Nat) (a : Option Addr) (n c : Nat) (vn : Value) (ns : List Need) (q : FW) : Prop where
  bl : Below B w wr
  hB : B ≤ wr.heap.size
  bB : B ≤ cb
  m0 : wr.heap[b0]? = some (.cells #[.slice a n c] 33 (0, 0))
  ck : Ck wr cb a n c vn mp q
  km : KM wr mp
  own : wr.ownsRow B 81 3 vn ns.length (ns.flatMap Need.cs)
/-- append onto a row that the call owns, as one step of a region that draws its order, with where it lies then. -/
theorem step_app {P : Program} {ops : Array Oper} {o : Oper} {a : Act} {w : World} {K : Act → World → Prop} {Q : Exit → Act → World → Prop} {E : Prop}
    (hg : o.guard = none) (s x : Operand) (t : TypeId) (hop : o.op = Op.call { callee := Callee.builtin Builtin.append, args := #[s, x], argTypes := #[t, t] })
    (base : Nat) (e : TypeId) (i : TypeInfo) (z : Value) (size bytes : Nat) (h1 : P.underlying t = some (.slice e)) (h2 : P.info? e = some i) (h3 : i.zero = some z) (h4 : i.size = size) (h5 : i.bytes = bytes) (h6 : z.cells.size = size) (h7 : 0 < size)
    (v : Value) (n : Nat) (xs : List Value) (hs : a.eval s = v) (hown : w.ownsRow base e size v n xs)
    (ad : Addr) (m c : Nat) (news : List Value) (hx : a.eval x = .slice (some ad) m c) (hn : news.length = m * size) (hc : ∀ j u, news[j]? = some u → w.cell? (ad.add j) = some u) (h1c : ∀ u ∈ news, u.oneCell' = true)
    (b1 : n + m ≤ maxLen) (b2 : (n + m) * bytes ≤ 140737488355328) (hbase : base ≤ w.heap.size)
    (hK : ∀ v' w', w'.ownsRow base e size v' (n + m) (xs ++ news) → w.grownBy w' v.ownBlock → (v'.ownBlock = v.ownBlock ∨ v'.ownBlock = some w.heap.size) → K (a.put o.dst v') w') :
    if Region.wanted o (yielded ops a.tmps) = true then Oper.wp P o a w K Q else E := by
  have hw : Region.wanted o (yielded ops a.tmps) = true := by simp [Region.wanted, hg]
  rw [if_pos hw]
  obtain ⟨v', w', hrun, r1, r2, _, r3⟩ := run_append_own_at (P := P) w base t o.type e i z size bytes h1 h2 h3 h4 h5 h6 h7 v n xs hown ad m c news hn hc h1c b1 b2 hbase
  unfold Oper.wp
  simp [execOp, hop, resolve, invoke, builtin, hs, hx, hrun, Result.andThen]
  exact hK v' w' r1 r2 r3
theorem blk_ne {w : World} {B k : Nat} {e : TypeId} {sz : Nat} {v : Value} {n : Nat} {xs : List Value} {ob : Obj} (h : w.ownsRow B e sz v n xs) (hb : w.heap[k]? = some ob) (hne : ∀ c fz, ob ≠ .cells c e fz) : some k ≠ v.ownBlock := fun q => by
  obtain ⟨c, fz, h1⟩ := kind_own h k q.symm
  rw [hb] at h1
  exact hne c fz (Option.some.inj h1)
/-- What stands behind an append to the needs. -/
structure N7 (w w7 : World) (B b0 cb mp : Nat) (a : Option Addr) (n c : Nat) (vn : Value) (q : FW) : Prop where
  bl : Below B w w7
  hB : B ≤ w7.heap.size
  m0 : w7.heap[b0]? = some (.cells #[.slice a n c] 33 (0, 0))
  ck : Ck w7 cb a n c vn mp q
  km : KM w7 mp
theorem NW.app {w wr w6 w7 : World} {B b0 cb mp : Nat} {a : Option Addr} {n c : Nat} {vn : Value} {ns : List Need} {q : FW} {ob : Obj} (h : NW w wr B b0 cb mp a n c vn ns q) (b6 : Below wr.heap.size wr w6) (g7 : (w6.alloc ob).grownBy w7 vn.ownBlock) : N7 w w7 B b0 cb mp a n c vn q := by
  have b6' : Below wr.heap.size wr (w6.alloc ob) := b6.alloc b6.size _
  have hm0 := h.m0
  have hck := h.ck.blk
  have hkm := h.km
  have l0 := (Array.getElem?_eq_some_iff.1 hm0).1
  have lc := h.ck.lt
  have s6 := b6'.size
  have hlt := fun k (hk : vn.ownBlock = some k) => (h.own.lt k hk)
  refine ⟨(h.bl.trans (b6'.mono h.hB)).grown g7 (Nat.le_trans h.hB s6) (fun k hk => (hlt k hk).1), Nat.le_trans h.hB (Nat.le_trans s6 g7.size), ?_, ⟨?_⟩, ?_⟩
  · rw [g7.block b0 (by omega) (blk_ne h.own hm0 (fun c fz e => by cases e)), b6'.block b0 l0]
    exact hm0
  · rw [g7.block cb (by omega) (blk_ne h.own hck (fun c fz e => by cases e)), b6'.block cb lc]
    exact hck
  · have h6 := hkm.below b6'
    have hl := h6.lt
    obtain ⟨D, k, ⟨es, clock, he, rest⟩, ht⟩ := h6
    refine ⟨D, k, ⟨es, clock, ?_, rest⟩, ht⟩
    rw [g7.block mp hl (blk_ne (own_below h.own b6') he (fun c fz e => by cases e))]
    exact he
theorem Ck.need {w : World} {cb : Nat} {a : Option Addr} {n c : Nat} {vn v : Value} {mp : Nat} {q : FW} (h : Ck w cb a n c vn mp q) : Ck (w.setCell ⟨cb, 1, none⟩ v) cb a n c v mp q := ⟨set_blk _ h.blk⟩
theorem NW.next {w w7 : World} {B b0 cb mp : Nat} {a : Option Addr} {n c : Nat} {vn v7 : Value} {ns : List Need} {q : FW} (h : N7 w w7 B b0 cb mp a n c vn q) (hb : B ≤ cb) (ho : w7.ownsRow B 81 3 v7 ns.length (ns.flatMap Need.cs)) : NW w (w7.setCell ⟨cb, 1, none⟩ v7) B b0 cb mp a n c v7 ns q := by
  have hck := h.ck.blk
  refine ⟨h.bl.setCell hb _, by simpa using h.hB, hb, ?_, h.ck.need, ?_, ?_⟩
  · rw [Below.heap_setCell _ _ _ _ (show b0 ≠ cb from fun e => by have := h.m0; rw [e, hck] at this; cases this)]
    exact h.m0
  · obtain ⟨D, k, ⟨es, clock, he, rest⟩, ht⟩ := h.km
    refine ⟨D, k, ⟨es, clock, ?_, rest⟩, ht⟩
    rw [Below.heap_setCell _ _ _ _ (show mp ≠ cb from fun e => by rw [e, hck] at he; cases he)]
    exact he
  · refine ⟨ho.1, ?_⟩
    rcases ho.2 with hn | ⟨g, cap, cur, rfl, hB, hg, rest⟩
    · exact .inl hn
    · refine .inr ⟨g, cap, cur, rfl, hB, ?_, rest⟩
      rw [Below.heap_setCell _ _ _ _ (show g ≠ cb from fun e => by rw [e, hck] at hg; cases hg)]
      exact hg
theorem own_alloc' {w w6 : World} {B : Nat} {e : TypeId} {sz : Nat} {v : Value} {n : Nat} {xs : List Value} {ob : Obj} (h : w.ownsRow B e sz v n xs) (b6 : Below w.heap.size w w6) : (w6.alloc ob).ownsRow B e sz v n xs := own_below h (b6.alloc b6.size _)
set_option maxHeartbeats 2000000 in
set_option maxRecDepth 100000 in
theorem newChecker_any (a : Option Addr) (c : Nat) (qs : List FW) (w : World) (h : Md w a c qs) : Calls Tryd.prog 23 #[.agg #[.slice a qs.length c]] w fun e w' => ∃ cb, e = .returned (.pointer (some ⟨cb, 0, none⟩)) ∧ ∃ mp vn b0, NW w w' w.heap.size b0 cb mp a qs.length c vn (needs qs) noFW := by
  obtain ⟨i0, hif, hz0, hz1, hz2⟩ := info_parts infoNd
  have hle := h.r.le
  have hcl : c * (9 * 8) ≤ 140737488351232 := h.r.cle
  have HR := Hid.mk' h
  obtain ⟨n, hn⟩ : ∃ n, qs.length = n := ⟨_, rfl⟩
  rw [hn] at hle ⊢
  have HK := Hid.mk' (fun W => kinds_any W)
  obtain ⟨W1, hW1⟩ : ∃ W1, w.alloc (.cells #[.slice a n c] 33) = W1 := ⟨_, rfl⟩
  have b1 : Below w.heap.size w W1 := by rw [← hW1]; exact lay_below
  have q1 : W1.heap[w.heap.size]? = some (.cells #[.slice a n c] 33 (0, 0)) := by rw [← hW1]; exact box_new
  have s1 : W1.heap.size = w.heap.size + 1 := by rw [← hW1]; simp
  obtain ⟨b0, hb0⟩ : ∃ b0, w.heap.size = b0 := ⟨_, rfl⟩
  rw [hb0] at q1 s1 b1
  have A0 : W1.cell? ⟨b0, 0, none⟩ = some (.slice a n c) := (cell_row _ _ 0 _ _ q1).trans rfl
  have HQ1 := Hid.mk' q1
  have HB1 := Hid.mk' b1
  have HN := Hid.mk' hn
  have hb1 : b0 < W1.heap.size := by omega
  have HB0 := Hid.mk' hb0
  clear h hn b1 q1 s1
  go_enter Tryd.func23, Tryd.ntmps23
  go_upto_region 1 with fail
  go_cut [3] from 6 (fun v3 wc => ∃ cb mp, v3 = .pointer (some ⟨cb, 0, none⟩) ∧ Hid (NW w wc b0 b0 cb mp a n c (.slice none 0 0) [] noFW))
  case first =>
    go_region_law (first | (refine step_call0 rfl 30 rfl (enters_of Tryd.func30 (by kernel_rfl) rfl) (HK.out _) ?_; rintro e w2 ⟨mp, rfl, hmp, hK2, hb2⟩; refine ⟨_, rfl, ?_⟩; have b2 : Below W1.heap.size W1 w2 := drewC hb2; have A2 := (b2.cell (p := ⟨b0, 0, none⟩) hb1).trans A0))
    all_goals
      have HF : Hid (NW w (w2.alloc (.cells #[.slice a n c, .slice none 0 0, .map (some mp), .string ⟨#[]⟩, .int .i64 0, .bool false, .bool false, .int .i64 0, .slice none 0 0, .slice none 0 0, .slice none 0 0, .slice none 0 0] 79)) b0 b0 w2.heap.size mp a n c (.slice none 0 0) [] noFW) := Hid.mk' (by
        have s2 := b2.size
        exact ⟨(HB1.out.trans (b2.mono (by omega))).alloc (by omega) _, by simp; omega, by omega, by rw [(lay_below).block _ (by omega), b2.block _ hb1]; exact HQ1.out, ⟨box_new⟩, hK2.below lay_below, World.ownsRow_nil _ _ _ _⟩)
      clear hb2 b2 hK2 hmp A2
      go_wp2_with fail
      go_meet
      exact ⟨_, mp, rfl, HF⟩
  case rest =>
    obtain ⟨cb, mp, rfl, HG0⟩ := hcut
    have A1 : wc.cell? ⟨b0, 0, none⟩ = some (.slice a n c) := (cell_row _ _ 0 _ _ HG0.out.m0).trans rfl
    clear A0 hW1 HQ1 hb1
    go_wp2_with fail
    go_loopw [14] (fun iv wr => ∃ (i : Nat) (vn : Value), iv = .int .i64 (i : Int) ∧ i ≤ n ∧ Hid (NW w wr b0 b0 cb mp a n c vn (needs (qs.take i)) noFW)) (fun iv wr => n - (intOf iv).toNat)
    case atStart => exact ⟨0, _, rfl, Nat.zero_le _, HG0⟩
    case round =>
      obtain ⟨i, vn, rfl, hi, HG⟩ := hrel
      have hbw : Below w.heap.size w wr := by rw [hb0]; exact HG.out.bl
      by_cases hlt : i < n
      · have hlq : i < qs.length := by rw [HN.out]; exact hlt
        obtain ⟨g, o, rfl, hg, hc⟩ := ((HR.out).below hbw).r.at i hlq
        have i1 : (i : Int) < (n : Int) := by omega
        have i2 : (i : Int) < 140737488351232 := by omega
        have HS : Hid (needs (qs.take (i + 1)) = needs (qs.take i) ++ [needOf qs[i].f.caps]) := Hid.mk' (by unfold needs; rw [take_snoc' qs i hlq, List.map_append]; rfl)
        have HL : Hid ((needs (qs.take i)).length = i) := Hid.mk' (by simp [needs]; omega)
        have hrd := ((HR.out).below hbw).q _ (List.getElem_mem hlq)
        have hck := HG.out.ck
        obtain ⟨va, vc, hv, _⟩ := own_slice' HG.out.own
        rw [HL.out] at hv
        subst hv
        generalize qs[i] = q at hc HS hrd
        obtain ⟨⟨f1, f2, f3, f4, f5, cs, is, ts, us⟩, xa, xc, ya, yc, za, zc, ua, uc⟩ := q
        have hpd := hrd.p
        simp only [FW.cs] at hc
        dsimp only at hc HS hpd
        obtain ⟨m1, hm1⟩ : ∃ m, cs.length = m := ⟨_, rfl⟩
        obtain ⟨m2, hm2⟩ : ∃ m, is.length = m := ⟨_, rfl⟩
        obtain ⟨m3, hm3⟩ : ∃ m, ts.length = m := ⟨_, rfl⟩
        obtain ⟨m4, hm4⟩ : ∃ m, us.length = m := ⟨_, rfl⟩
        rw [hm1, hm2, hm3, hm4] at hc
        have d0 := hc 0 (.string f1) (by omega) rfl
        have d1 := hc 1 (.int .i64 f2) (by omega) rfl
        have d2 := hc 2 (.bool f3) (by omega) rfl
        have d3 := hc 3 (.bool f4) (by omega) rfl
        have d4 := hc 4 (.int .i64 f5) (by omega) rfl
        have d5 := hc 5 (.slice xa m1 xc) (by omega) rfl
        have d6 := hc 6 (.slice ya m2 yc) (by omega) rfl
        have d7 := hc 7 (.slice za m3 zc) (by omega) rfl
        have d8 := hc 8 (.slice ua m4 uc) (by omega) rfl
        simp only [Nat.add_zero] at d0
        obtain ⟨W5, hW5⟩ : ∃ W5, wr.alloc (.cells #[.string f1, .int .i64 f2, .bool f3, .bool f4, .int .i64 f5, .slice xa m1 xc, .slice ya m2 yc, .slice za m3 zc, .slice ua m4 uc] 28) = W5 := ⟨_, rfl⟩
        have b5 : Below wr.heap.size wr W5 := by rw [← hW5]; exact lay_below
        have q5 : W5.heap[wr.heap.size]? = some (.cells #[.string f1, .int .i64 f2, .bool f3, .bool f4, .int .i64 f5, .slice xa m1 xc, .slice ya m2 yc, .slice za m3 zc, .slice ua m4 uc] 28 (0, 0)) := by rw [← hW5]; exact box_new
        have s5 : wr.heap.size < W5.heap.size := by rw [← hW5]; simp
        have k5 : W5.cell? ⟨cb, 1, none⟩ = some (.slice va i vc) := ((hck.below b5).cell 1).trans rfl
        have z5 : W5.frozen? ⟨cb, 1, none⟩ = false := thaw_row _ _ _ _ (hck.below b5).blk 1
        have l5 : cb < W5.heap.size := (hck.below b5).lt
        obtain ⟨bf, hbf⟩ : ∃ bf, wr.heap.size = bf := ⟨_, rfl⟩
        rw [hbf] at q5 s5
        have e8 : W5.cell? ⟨bf, 8, none⟩ = some (.slice ua m4 uc) := (cell_row _ _ 8 _ _ q5).trans rfl
        obtain ⟨nd, hnd⟩ : ∃ nd, needOf us = nd := ⟨_, rfl⟩
        rw [hnd] at HS
        have HND : Hid (∀ W, W.heap = W5.heap → Calls Tryd.prog 31 #[.slice ua m4 uc] W fun e w' => e = .returned (.agg nd.cs.toArray) ∧ Below W.heap.size W w') := Hid.mk' (fun W hW => by
          have := needOf_any ua uc us W ⟨hpd.le, hpd.cle, hpd.nil, by rcases (hpd.below b5).here with h | ⟨g, o, h1, h2, h3⟩; exact .inl h; exact .inr ⟨g, o, h1, by rw [hW]; exact h2, fun j hj k u hk hu => by have := h3 j hj k u hk hu; unfold World.cell? at this ⊢; rw [hW]; exact this⟩⟩
          rw [hm4, hnd] at this
          exact this)
        obtain ⟨n1, n2, n3⟩ := nd
        simp only [Need.cs] at HND
        have HOW : Hid (W5.ownsRow b0 81 3 (.slice va i vc) i ((needs (qs.take i)).flatMap Need.cs)) := Hid.mk' (by have := own_below HG.out.own b5; rw [HL.out] at this; exact this)
        have HB5 := Hid.mk' b5
        have HB0' : Hid (b0 ≤ W5.heap.size) := Hid.mk' (Nat.le_trans HG.out.hB (by omega))
        clear hc hrd hpd hck hm1 hm2 hm3 hm4 hnd q5 b5
        go_upto_region 5 with fail
        go_region_law (first
          | (refine step_call1' rfl 31 (.tmp 24) 26 rfl (enters_of Tryd.func31 (by kernel_rfl) rfl) _ rfl (HND.out _ rfl) ?_; rintro e w6 ⟨rfl, b6⟩; refine ⟨_, rfl, ?_⟩; have B6 : Below W5.heap.size W5 w6 := drewC b6; have k6 := (B6.cell (p := ⟨cb, 1, none⟩) l5).trans k5; have s6 := Nat.le_trans HB0'.out B6.size; have l6 := Nat.lt_of_lt_of_le l5 B6.size)
          | (refine step_app rfl (.tmp 22) (.tmp 26) 77 rfl b0 81 i0 (.agg #[.int .i64 0, .int .i64 0, .int .i64 0]) 3 24 Tryd.underlying77 hif hz0 hz1 hz2 rfl (by decide) _ _ _ rfl (own_alloc' HOW.out B6) _ 1 1 _ rfl (by rfl) (cells_new _ _ _) (by simp [Value.oneCell']) (by unfold maxLen; omega) (by omega) (by simp; omega) ?_; intro v7 w7 o7 g7 hl7; obtain ⟨y7, c7, hv7, _⟩ := own_slice' o7; subst hv7; have H7 := HG.out.app (HB5.out.trans (B6.mono (HB5.out.size))) g7; have k7 := (H7.ck.cell 1).trans rfl; have z7 := thaw_row _ _ _ _ H7.ck.blk 1))
        all_goals
          have HN7 : Hid (NW w (w7.setCell ⟨cb, 1, none⟩ (.slice y7 (i + 1) c7)) b0 b0 cb mp (some ⟨g, o, none⟩) n c (.slice y7 (i + 1) c7) (needs (qs.take (i + 1))) noFW) := Hid.mk' (NW.next H7 HG.out.bB (by
            rw [HS.out, List.length_append, HL.out, List.flatMap_append]
            exact o7))
          clear o7 g7 hl7 H7 b6 B6 k6 s6 HOW
          go_wp2
          exact ⟨⟨i + 1, _, by go_num, hlt, HN7⟩, meas_up' n i hlt⟩
      · have i1 : ¬ (i : Int) < (n : Int) := by omega
        have hin : qs.take i = qs := List.take_of_length_le (by rw [HN.out]; omega)
        rw [hin] at HG
        go_wp2
        go_ret
        exact ⟨cb, rfl, mp, vn, b0, HG.out⟩
end Go.Proofs.YtcagfjogfbddeaaDoor
