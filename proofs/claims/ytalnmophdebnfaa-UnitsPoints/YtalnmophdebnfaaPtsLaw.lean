/- UnitsPoints: the walk. -/
import Derived.Test.YtalnmophdebnfaaAwake
import Derived.Test.YtalnmophdebnfaaRPts
import Derived.Test.YtalnmophdebnfaaPoint
import Derived.Test.YtalnmophdebnfaaBack0
import Derived.Shelf.RegionOpen
import Derived.RegionIn
namespace Go.Proofs.Ytalnmophdebnfaa
set_option linter.unusedVariables false
open Go.RowKit Go.Shelf
attribute [local go_sem] Oper.semAt_some

def CellsKept (W W' : World) : Prop := ∀ (k : Nat) (c : Array Value) (t : TypeId) (fz : Nat × Nat), W.heap[k]? = some (Obj.cells c t fz) → W'.heap[k]? = some (Obj.cells c t fz)
theorem equalIn_nil (W : World) (d f : Nat) (b : Value) : (Op.equalIn (d + 1) 52 (.func (.func f) #[] #[b]) .nilFunc).run Try.prog W = .ok false W := by
  simp [Op.equalIn, run_underlying Try.underlying52]
theorem eql_nil (W : World) (f : Nat) (b : Value) : (binOp .eql 52 (.func (.func f) #[] #[b]) .nilFunc).run Try.prog W = .ok (.bool false) W := by
  simp only [binOp]
  simp [Op.equal, Op.maxDepth, equalIn_nil W 9999 f b]
theorem CellsKept.of_grown {W W' : World} {row : Option Nat} (hg : W.grownBy W' row) (hr : ∀ r, row = some r → ∃ o : Obj, W.heap[r]? = some o ∧ o.isCells = false) : CellsKept W W' := by
  intro k c t fz hk
  rw [hg.block k (Array.getElem?_eq_some_iff.1 hk).1]
  · exact hk
  · intro e
    obtain ⟨o, ho, hc⟩ := hr k e.symm
    rw [hk] at ho
    cases ho
    cases hc
theorem CellsKept.of_below {W W' : World} (h : Below W.heap.size W W') : CellsKept W W' := fun k c t fz hk => (h.block k (Array.getElem?_eq_some_iff.1 hk).1).trans hk
theorem CellsKept.boxed {W W' : World} (h : CellsKept W W') {B : Nat} {t : TypeId} {v : Value} (hb : Boxed W B t v) : Boxed W' B t v := h _ _ _ _ hb
theorem CellsKept.own {W W' : World} (h : CellsKept W W') {B : Nat} {e : TypeId} {sz : Nat} {v : Value} {n : Nat} {xs : List Value} (ho : W.ownsRow B e sz v n xs) : W'.ownsRow B e sz v n xs := by
  refine ⟨ho.1, ?_⟩
  rcases ho.2 with hn | ⟨g, cap, cur, rfl, hB, hg, rest⟩
  · exact .inl hn
  · exact .inr ⟨g, cap, cur, rfl, hB, h _ _ _ _ hg, rest⟩

/-- What lies when the loops go over the code points. -/
structure PL (s : ByteArray) (w : World) (n0 Ba Br Bs : Nat) (va vr : Value) (W : World) : Prop where
  b4 : Boxed W w.heap.size 4 (.bool false)
  ba : Boxed W Ba 47 va
  br : Boxed W Br 48 vr
  bs : Boxed W Bs 22 (.string s)
  oa : W.ownsRow n0 3 1 va (pts s).length (ac (pts s))
  or : W.ownsRow n0 21 1 vr (pts s).length (rc (pts s))
  be : Below w.heap.size w W
  la : ∀ g, va.ownBlock = some g → g < Ba
  lr : ∀ g, vr.ownBlock = some g → g < Ba
theorem PL.kept {s : ByteArray} {w : World} {n0 Ba Br Bs : Nat} {va vr : Value} {W W' : World} (h : PL s w n0 Ba Br Bs va vr W) (k : CellsKept W W') (b : Below w.heap.size w W') : PL s w n0 Ba Br Bs va vr W' :=
  ⟨k.boxed h.b4, k.boxed h.ba, k.boxed h.br, k.boxed h.bs, k.own h.oa, k.own h.or, b, h.la, h.lr⟩
theorem PL.setBox {s : ByteArray} {w : World} {n0 Ba Br Bs : Nat} {va vr : Value} {W : World} (h : PL s w n0 Ba Br Bs va vr W) (B : Nat) (v : Value) (h1 : w.heap.size < B) (h2 : Ba < B) (h3 : Br < B) (h4 : Bs < B) : PL s w n0 Ba Br Bs va vr (W.setCell ⟨B, 0, none⟩ v) :=
  ⟨h.b4.other (by omega) _, h.ba.other (by omega) _, h.br.other (by omega) _, h.bs.other (by omega) _,
    h.oa.kept (grownBy_setCell' W B v) (.inr (fun e => by have := h.la B e; omega)), h.or.kept (grownBy_setCell' W B v) (.inr (fun e => by have := h.lr B e; omega)),
    h.be.setCell (p := ⟨B, 0, none⟩) (by simp only; omega) _, h.la, h.lr⟩
theorem PL.below {s : ByteArray} {w : World} {n0 Ba Br Bs : Nat} {va vr : Value} {W W' : World} (h : PL s w n0 Ba Br Bs va vr W) (b : Below W.heap.size W W') : PL s w n0 Ba Br Bs va vr W' :=
  h.kept (CellsKept.of_below b) (h.be.trans (b.mono h.be.size))
theorem PL.ownFrom {β : Type} {s : ByteArray} {w : World} {n0 Ba Br Bs : Nat} {va vr : Value} {B : Nat} (hB : w.heap.size ≤ B) : OwnFrom B (fun (_ : β) W => PL s w n0 Ba Br Bs va vr W) :=
  fun _ W W' row hs hg hr => hs.kept (CellsKept.of_grown hg (fun r e => (hr r e).2)) (hs.be.grown hg hs.be.size (fun k e => Nat.le_trans hB (hr k e).1))

/-- A code point as a round is handed it. -/
def capx (x : Nat × Nat) : Nat × Nat := (x.1, cap21 x.2)
theorem capx_pts (s : ByteArray) : (pts s).map capx = pts s := by
  have : ∀ l : List (Nat × Nat), (∀ x ∈ l, x.2 ≤ 1114111) → l.map capx = l := by
    intro l
    induction l with
    | nil => intro _; rfl
    | cons x l ih =>
      intro h
      have e : capx x = x := by
        have := h x (List.mem_cons_self ..)
        unfold capx cap21
        rw [show min x.2 1114111 = x.2 from by omega]
      rw [List.map_cons, e, ih (fun y hy => h y (List.mem_cons_of_mem _ hy))]
  exact this _ (pts_le s)
theorem pre_cap (s : ByteArray) (q : List (Nat × Nat)) (h : q <+: pts s) : q.map capx <+: pts s := by
  obtain ⟨r, hr⟩ := h
  refine ⟨r.map capx, ?_⟩
  rw [← List.map_append, hr, capx_pts]
def backB (l : List (Nat × Nat)) : List UInt8 := l.flatMap fun x => pb (cap21 x.2)
theorem backB_snoc (l : List (Nat × Nat)) (x : Nat × Nat) : backB (l ++ [x]) = backB l ++ pb (cap21 x.2) := by simp [backB]
theorem backB_len (l : List (Nat × Nat)) : (backB l).length ≤ 4 * l.length := by
  induction l with
  | nil => simp [backB]
  | cons x r ih =>
    have h4 := (pb_length (cap21 x.2)).2
    have : backB (x :: r) = pb (cap21 x.2) ++ backB r := rfl
    rw [this, List.length_append, List.length_cons]
    omega
theorem add_str (a b : List UInt8) (W : World) (h : a.length + b.length ≤ 9223372036854775807) : (Op.stringOp .add ⟨a.toArray⟩ ⟨b.toArray⟩).run Try.prog W = .ok (.string ⟨(a ++ b).toArray⟩) W := by
  rw [run_string_add_sum W _ _ (by simpa [ByteArray.size] using h)]
  rw [ByteArray.mk_append_mk]
theorem back_pts (s : ByteArray) : backB (pts s) = ebs s := by
  have h : ∀ l : List (Nat × Nat), (∀ x ∈ l, x.2 ≤ 1114111) → backB l = (l.map (·.2)).flatMap pb := by
    intro l
    induction l with
    | nil => intro _; rfl
    | cons x l ih =>
      intro h
      have e : cap21 x.2 = x.2 := by have := h x (List.mem_cons_self ..); unfold cap21; omega
      have e2 : backB (x :: l) = pb (cap21 x.2) ++ backB l := rfl
      rw [e2, e, ih (fun y hy => h y (List.mem_cons_of_mem _ hy))]
      rfl
  rw [h _ (pts_le s), flat_pb, pts_runes0, pu_runes _ (uns_lt s), mkB_uns]

theorem rc_get' (l : List (Nat × Nat)) (k : Nat) (h : k < l.length) : (rc l)[k]? = some (.int .i32 (l[k].2 : Nat)) := by simp [rc, h]
theorem ac_get' (l : List (Nat × Nat)) (k : Nat) (h : k < l.length) : (ac l)[k]? = some (.int .i64 (l[k].1 : Nat)) := by simp [ac, h]
theorem pre_last (s : ByteArray) (pre : List (Nat × Nat)) (x : Nat × Nat) (h : (pre ++ [x]).map capx <+: pts s) (hlt : pre.length < (pts s).length) : capx x = (pts s)[pre.length] := by
  obtain ⟨r, hr⟩ := h
  have e : (pts s)[pre.length]? = some (capx x) := by
    rw [← hr, List.map_append, List.append_assoc, List.getElem?_append_right (by simp)]
    simp
  rw [List.getElem?_eq_getElem hlt] at e
  exact (Option.some.inj e).symm
theorem pre_next (s : ByteArray) (pre : List (Nat × Nat)) (x : Nat × Nat) (h : pre.map capx <+: pts s) (hlt : pre.length < (pts s).length) (hx : capx x = (pts s)[pre.length]) : (pre ++ [x]).map capx <+: pts s := by
  obtain ⟨r, hr⟩ := h
  have hlen : (pre.map capx).length = pre.length := by simp
  have hd : (pts s).drop pre.length = r := by rw [← hr, List.drop_append_of_le_length (by omega), List.drop_of_length_le (by omega), List.nil_append]
  rw [List.drop_eq_getElem_cons hlt] at hd
  refine ⟨(pts s).drop (pre.length + 1), ?_⟩
  rw [List.map_append, List.append_assoc]
  simp only [List.map_cons, List.map_nil, List.cons_append, List.nil_append]
  rw [hx, hd, hr]

/-- What lies between two rounds of the second loop. -/
structure PI (s : ByteArray) (L : World → Prop) (D Bk Bb : Nat) (pre : List (Nat × Nat)) (V : World) : Prop where
  pr : pre.map capx <+: pts s
  pl : L V
  k : Boxed V Bk 3 (.int .i64 (pre.length : Nat))
  bb : Boxed V Bb 22 (.string ⟨(backB pre).toArray⟩)
  d : V.heap[D]? = some (.deferred (some []))
theorem PI.ownFrom {s : ByteArray} {L : World → Prop} {D Bk Bb B : Nat} (hL : OwnFrom B (fun (_ : Unit) W => L W)) (hD : D < B) : OwnFrom B (fun pre V => PI s L D Bk Bb pre V) :=
  fun _ V V' row h hg hr => by
    have ck := CellsKept.of_grown hg (fun r e => (hr r e).2)
    refine ⟨h.pr, hL () V V' row h.pl hg hr, ck.boxed h.k, ck.boxed h.bb, ?_⟩
    rw [hg.block D (Array.getElem?_eq_some_iff.1 h.d).1]
    · exact h.d
    · intro e; have := (hr D e.symm).1; omega

theorem region_only {F : Fence} {n : Nat} {P : Program} {c : Code} {K : Act → World → Prop} {Q : Exit → Act → World → Prop} {a : Act} {w : World} (h : c.wpIn F n P (Exit.then K (fun _ _ _ => False)) a w) : c.wpIn F n P (Exit.then K Q) a w :=
  wpIn_mono h (fun e a w hq => by cases e <;> first | exact hq | exact hq.elim)
theorem below_of_drew {V V1 : World} (h : Below V.drew.heap.size V.drew V1) : Below V.heap.size V V1 := ⟨h.os, h.tape, h.output, h.size, h.block⟩
theorem pi_end {s : ByteArray} {w : World} {n0 Ba Br Bs D Bk B : Nat} {va vr : Value} {pre : List (Nat × Nat)} {x : Nat × Nat} {V V1 : World} (hI : PI s (PL s w n0 Ba Br Bs va vr) D Bk (Bk + 1) pre V) (bV : Below V.heap.size V V1)
    (h1 : w.heap.size < Bk) (h2 : Ba < Bk) (h3 : Br < Bk) (h4 : Bs < Bk) (hy : (pre ++ [x]).map capx <+: pts s) :
    KeepsFrom B V ((V1.setCell ⟨Bk + 1, 0, none⟩ (.string ⟨(backB (pre ++ [x])).toArray⟩)).setCell ⟨Bk, 0, none⟩ (.int .i64 ((pre.length : Int) + 1))) ∧
    KBox Bs V ((V1.setCell ⟨Bk + 1, 0, none⟩ (.string ⟨(backB (pre ++ [x])).toArray⟩)).setCell ⟨Bk, 0, none⟩ (.int .i64 ((pre.length : Int) + 1))) ∧
    PI s (PL s w n0 Ba Br Bs va vr) D Bk (Bk + 1) (pre ++ [x]) ((V1.setCell ⟨Bk + 1, 0, none⟩ (.string ⟨(backB (pre ++ [x])).toArray⟩)).setCell ⟨Bk, 0, none⟩ (.int .i64 ((pre.length : Int) + 1))) := by
  have p1 := ((hI.pl.below bV).setBox (Bk + 1) (.string ⟨(backB (pre ++ [x])).toArray⟩) (by omega) (by omega) (by omega) (by omega)).setBox Bk (.int .i64 ((pre.length : Int) + 1)) h1 h2 h3 h4
  have ck := CellsKept.of_below bV
  have kV : KeepsOthers V V1 := ⟨bV.size, fun k o hk ho => (bV.block k (Array.getElem?_eq_some_iff.1 hk).1).trans hk⟩
  have kk := (kV.trans (KeepsOthers.setCell V1 ⟨Bk + 1, 0, none⟩ (.string ⟨(backB (pre ++ [x])).toArray⟩))).trans (KeepsOthers.setCell _ ⟨Bk, 0, none⟩ (.int .i64 ((pre.length : Int) + 1)))
  refine ⟨kk.from B, ?_, hy, p1, ?_, ?_, kk.same D _ hI.d rfl⟩
  · exact Eq.trans p1.bs hI.pl.bs.symm
  · have hb := ((ck.boxed hI.k).other (show Bk ≠ Bk + 1 by omega) (.string ⟨(backB (pre ++ [x])).toArray⟩)).set (.int .i64 ((pre.length : Int) + 1))
    have e : (((pre ++ [x]).length : Nat) : Int) = (pre.length : Int) + 1 := by simp
    rw [e]
    exact hb
  · exact ((ck.boxed hI.bb).set (.string ⟨(backB (pre ++ [x])).toArray⟩)).other (by omega) _

theorem leave_true {s : ByteArray} {w : World} {n0 Ba Br Bs D D2 Bk n : Nat} {va vr : Value} {V : World} {tmps : Array Value} (hI : PI s (PL s w n0 Ba Br Bs va vr) D Bk (Bk + 1) (pts s) V) (hK3 : V.heap[D2]? = some (.deferred (some [])))
    (h1 : w.heap.size < D) (h2 : w.heap.size < D2) (h3 : D < D2) (ht : tmps[4]? = some (.pointer (some ⟨w.heap.size, 0, none⟩)) := by rfl) :
    bodyPostM Fence.wide n Try.prog Try.f7 (fun e w' => e = .returned (.bool true) ∧ Below w.heap.size w w') Exit.ret { tmps := tmps, defers := [{ target := .collected D2, args := #[] }, { target := .collected D, args := #[] }] } (V.setCell ⟨w.heap.size, 0, none⟩ (.bool true)).drew := by
  have ko := KeepsOthers.setCell V ⟨w.heap.size, 0, none⟩ (.bool true)
  have k3 : (V.setCell ⟨w.heap.size, 0, none⟩ (.bool true)).drew.heap[D2]? = some (.deferred (some [])) := ko.same D2 _ hK3 rfl
  have kd : ((V.setCell ⟨w.heap.size, 0, none⟩ (.bool true)).drew.putObj D2 (.deferred none)).heap[D]? = some (.deferred (some [])) := by
    rw [World.putObj_heap_other (by omega)]
    exact ko.same D _ hI.d rfl
  have hbx : Boxed (((V.setCell ⟨w.heap.size, 0, none⟩ (.bool true)).drew.putObj D2 (.deferred none)).putObj D (.deferred none)) w.heap.size 4 (.bool true) := by
    show (((V.setCell ⟨w.heap.size, 0, none⟩ (.bool true)).drew.putObj D2 (.deferred none)).putObj D (.deferred none)).heap[w.heap.size]? = _
    rw [World.putObj_heap_other (by omega), World.putObj_heap_other (by omega)]
    exact hI.pl.b4.set (.bool true)
  refine ⟨by simp, .inl ⟨_, _, rfl, run_takeDeferred k3, ?_⟩⟩
  refine ⟨by simp, .inl ⟨_, _, rfl, run_takeDeferred kd, ?_⟩⟩
  have hc := hbx.cell
  refine ⟨.bool true, ?_, rfl, ?_⟩
  · simp [results, Try.results7, go_sem, ht, hc]
  · exact ((hI.pl.be.setCell (p := ⟨w.heap.size, 0, none⟩) (Nat.le_refl _) _).drew.trans (belowK_b (w := w) (Nat.le_refl _) _ D2 _ _ (by omega) k3 rfl rfl)).trans (belowK_b (w := w) (Nat.le_refl _) _ D _ _ (by omega) kd rfl rfl)

set_option maxRecDepth 100000 in
set_option maxHeartbeats 4000000 in
theorem points_small (s : ByteArray) (r : Int) (w : World) (hbig : (s.size : Int) ≤ 4000) (bs : List UInt8)
    (HP : Hid (∀ W, Calls Try.prog 28 #[.int .i32 r] W fun e w' => e = .returned (.string ⟨bs.toArray⟩) ∧ Below W.heap.size W w'))
    (HQ : Hid (∀ W, Calls Try.prog 30 #[.int .i32 r] W fun e w' => ∃ v, e = .returned v ∧ Below W.heap.size W w' ∧ Calls Try.prog 29 #[v] w' fun e w'' => e = .returned (.string ⟨bs.toArray⟩) ∧ Below w'.heap.size w' w'')) :
    Calls Try.prog 7 #[.string s, .int .i32 r] w fun e w' => e = .returned (.bool true) ∧ Below w.heap.size w w' := by
  have hs : (s.size : Int) ≤ 1048576 := by omega
  refine (callsIn_wide (n := 3)).1 ?_
  refine callsIn_of_wp_marks Try.func7 rfl trivial ?_ rfl
  simp only [Try.ntmps7, List.size_toArray, List.length_cons, List.length_nil, Nat.reduceAdd, Nat.reduceSub, Array.replicate_succ, Array.replicate_zero, List.push_toArray, List.append_toArray, List.nil_append, List.cons_append]
  gi_wp2_with fail
  refine ⟨trivial, (callsIn_wide.2 (awake_any _)).mono ?_⟩
  rintro e w1 ⟨rfl, b1⟩
  gi_wp2_with fail
  refine ⟨trivial, (callsIn_wide.2 (HP.out _)).mono ?_⟩
  rintro e w2 ⟨rfl, b2⟩
  gi_wp2_with fail
  refine ⟨trivial, (callsIn_wide.2 (HQ.out _)).mono ?_⟩
  rintro e w3 ⟨v3, rfl, b3, HM⟩
  have HM' := Hid.mk' HM
  clear HM
  gi_wp2_with fail
  refine ⟨trivial, (callsIn_wide.2 HM'.out).mono ?_⟩
  rintro e w4 ⟨rfl, b4⟩
  gi_wp2_with fail
  refine ⟨trivial, (callsIn_wide.2 (rpoints_any s _ hs)).mono ?_⟩
  rintro e w5 ⟨va, vr, rfl, oa, or, b5⟩
  obtain ⟨xa, ca, rfl⟩ := own_slice' oa |>.imp fun _ h => h.imp fun _ h => h.1
  obtain ⟨xr, cr, rfl⟩ := own_slice' or |>.imp fun _ h => h.imp fun _ h => h.1
  have bR := Boxed.new w 4 (.bool false)
  have b15 : Below (w.heap.size + 1) (w.alloc (.cells #[.bool false] 4)) w5 := by
    have e : (w.alloc (.cells #[.bool false] 4)).heap.size = w.heap.size + 1 := by simp
    rw [← e]
    exact (((b1.trans (b2.mono b1.size)).trans (b3.mono (Nat.le_trans b1.size b2.size))).trans (b4.mono (Nat.le_trans b1.size (Nat.le_trans b2.size b3.size)))).trans (b5.mono (Nat.le_trans b1.size (Nat.le_trans b2.size (Nat.le_trans b3.size b4.size))))
  have bR5 : Boxed w5 w.heap.size 4 (.bool false) := (b15.block w.heap.size (by omega)).trans bR
  have hb5 : Below w.heap.size w w5 := ((Below.refl _ w).alloc (Nat.le_refl _) _).trans (b15.mono (by omega))
  clear b1 b2 b3 b4 b5 b15 bR HP HQ HM'
  have hnil := eql_nil
  gi_wp2_with (refine ⟨trivial, ?_⟩; gi_at_call 32; refine (callsIn_wide.2 (points_in _ _)).mono ?_; rintro e w6 ⟨rfl, hw6⟩; rw [hw6]; clear hw6 w6)
  obtain ⟨W5, hW5⟩ : ∃ W5, ((w5.alloc (.cells #[.slice xa (pts s).length ca] 47)).alloc (.cells #[.slice xr (pts s).length cr] 48)).alloc (.cells #[.string s] 22) = W5 := ⟨_, rfl⟩
  have hsz5 : W5.heap.size = w5.heap.size + 1 + 1 + 1 := by rw [← hW5]; simp
  have hPL : PL s w w4.heap.size w5.heap.size (w5.heap.size + 1) (w5.heap.size + 1 + 1) (.slice xa (pts s).length ca) (.slice xr (pts s).length cr) W5 := by
    have n1 := Boxed.new w5 47 (.slice xa (pts s).length ca)
    have n2 := Boxed.new (w5.alloc (.cells #[.slice xa (pts s).length ca] 47)) 48 (.slice xr (pts s).length cr)
    have n3 := Boxed.new ((w5.alloc (.cells #[.slice xa (pts s).length ca] 47)).alloc (.cells #[.slice xr (pts s).length cr] 48)) 22 (.string s)
    rw [World.size_alloc] at n2
    rw [World.size_alloc, World.size_alloc] at n3
    rw [← hW5]
    exact ⟨((bR5.alloc _).alloc _).alloc _, (n1.alloc _).alloc _, n2.alloc _, n3, ((oa.alloc _).alloc _).alloc _, ((or.alloc _).alloc _).alloc _, ((hb5.alloc hb5.size _).alloc (by have := hb5.size; simp; omega) _).alloc (by have := hb5.size; simp; omega) _, fun g hg => (oa.lt g hg).2, fun g hg => (or.lt g hg).2⟩
  have hle5 : w.heap.size ≤ w5.heap.size := hb5.size
  rw [hW5]
  clear hW5 bR5 hb5 oa or
  refine wpIn_rangeFunc_ownG rfl (by omega) (gf := 49) (lb := #[.pointer (some ⟨w5.heap.size + 1 + 1, 0, none⟩)]) rfl trivial (enters_of Try.func49 (by kernel_rfl) rfl)
    (points_stops (3 - 1) (by omega) (w5.heap.size + 1 + 1) s hs W5 (by omega) hPL.bs) KBox.trans (KBox.put (by omega)) (Below.refl _ _) (fun _ => rfl)
    (fun pre W => PL s w w4.heap.size w5.heap.size (w5.heap.size + 1) (w5.heap.size + 1 + 1) (.slice xa (pts s).length ca) (.slice xr (pts s).length cr) W)
    (fun c pre W => c = .exit 0 ∧ PL s w w4.heap.size w5.heap.size (w5.heap.size + 1) (w5.heap.size + 1 + 1) (.slice xa (pts s).length ca) (.slice xr (pts s).length cr) W)
    (PL.ownFrom (by omega))
    (fun c q A B row hs' hg hr => ⟨hs'.1, PL.ownFrom (β := Unit) (B := W5.heap.size) (by omega) () A B row hs'.2 hg hr⟩)
    hPL
    (fun x => { tmps := #[Value.string s, Value.int .i32 r, undef, undef, Value.pointer (some ⟨w.heap.size, 0, none⟩), Value.pointer (some ⟨w5.heap.size, 0, none⟩), Value.pointer (some ⟨w5.heap.size + 1, 0, none⟩), Value.func (Fn.func 49) #[] #[Value.pointer (some ⟨w5.heap.size + 1 + 1, 0, none⟩)], undef, undef, undef, undef, Value.bool true, Value.bool false, Value.string s, Value.int .i64 (s.size : Int), Value.bool (decide ((4000 : Int) < (s.size : Int))), Value.int .i32 r, Value.string ⟨bs.toArray⟩, Value.int .i32 r, v3, Value.string ⟨bs.toArray⟩, Value.bool false, Value.tuple #[Value.slice xa (pts s).length ca, Value.slice xr (pts s).length cr], Value.string s, Value.tuple #[Value.slice xa (pts s).length ca, Value.slice xr (pts s).length cr], Value.slice xa (pts s).length ca, Value.slice xr (pts s).length cr, Value.string s, Value.func (Fn.func 49) #[] #[Value.pointer (some ⟨w5.heap.size + 1 + 1, 0, none⟩)], Value.func (Fn.func 49) #[] #[Value.pointer (some ⟨w5.heap.size + 1 + 1, 0, none⟩)], Value.bool false, Value.func (Fn.func 49) #[] #[Value.pointer (some ⟨w5.heap.size + 1 + 1, 0, none⟩)], Value.int .i64 (x.1 : Int), Value.int .i32 (cap21 x.2 : Int), undef, undef, undef, undef, undef, undef, undef, undef, undef, undef, undef, undef, undef, undef, undef, undef, undef, undef, undef, undef, undef, undef, undef, undef, undef, undef, undef, undef, undef, undef, undef, undef, undef, undef, undef, undef, undef, undef, undef], defers := [] }) ?assign ?body ?done ?stop
  case assign =>
    intro l x W K hK
    simp only [encP]
    gi_wp2
    exact hK
  case body =>
    rintro l pre x W hP hlt
    gi_wp2
    exact ⟨KeepsFrom.refl _ _, rfl, hP⟩
  case done =>
    rintro D ys W hD hys hP hK
    gi_wp2
    have hW2 : w.heap.size ≤ W.heap.size := hP.be.size
    have hDl : D < W.heap.size := (Array.getElem?_eq_some_iff.1 hK).1
    have hBsl : w5.heap.size + 1 + 1 < W.heap.size := hP.bs.lt
    obtain ⟨W2, hW2e⟩ : ∃ W2, (W.alloc (.cells #[.int .i64 0] 3)).alloc (.cells #[.string ⟨#[]⟩] 22) = W2 := ⟨_, rfl⟩
    have hsz2 : W2.heap.size = W.heap.size + 1 + 1 := by rw [← hW2e]; simp
    have hbel2 : Below W.heap.size W W2 := by rw [← hW2e]; exact ((Below.refl _ W).alloc (Nat.le_refl _) _).alloc (by simp) _
    have hP2 := hP.below hbel2
    have hk2 : Boxed W2 W.heap.size 3 (.int .i64 0) := by rw [← hW2e]; exact (Boxed.new W 3 (.int .i64 0)).alloc _
    have hbb2 : Boxed W2 (W.heap.size + 1) 22 (.string ⟨#[]⟩) := by
      have n2 := Boxed.new (W.alloc (.cells #[.int .i64 0] 3)) 22 (.string ⟨#[]⟩)
      rw [World.size_alloc, hW2e] at n2
      exact n2
    have hK2 : W2.heap[D]? = some (.deferred (some [])) := (hbel2.block D hDl).trans hK
    rw [hW2e]
    clear hW2e hK hP hPL
    refine wpIn_rangeFunc_ownG rfl (by omega) (gf := 49) (lb := #[.pointer (some ⟨w5.heap.size + 1 + 1, 0, none⟩)]) rfl trivial (enters_of Try.func49 (by kernel_rfl) rfl)
      (points_stops (3 - 1) (by omega) (w5.heap.size + 1 + 1) s hs W2 (by omega) hP2.bs) KBox.trans (KBox.put (by omega)) (Below.refl _ _) (fun _ => rfl)
      (fun pre V => PI s (PL s w w4.heap.size w5.heap.size (w5.heap.size + 1) (w5.heap.size + 1 + 1) (.slice xa (pts s).length ca) (.slice xr (pts s).length cr)) D W.heap.size (W.heap.size + 1) pre V)
      (fun c pre V => ¬ (pre.map capx <+: pts s))
      (PI.ownFrom (PL.ownFrom (β := Unit) (by omega)) (by omega))
      (fun c q A B row hs' hg hr => hs')
      ⟨by simp, hP2, hk2, hbb2, hK2⟩
      (fun x => { tmps := #[Value.string s, Value.int .i32 r, undef, undef, Value.pointer (some ⟨w.heap.size, 0, none⟩), Value.pointer (some ⟨w5.heap.size, 0, none⟩), Value.pointer (some ⟨w5.heap.size + 1, 0, none⟩), Value.func (Fn.func 49) #[] #[Value.pointer (some ⟨w5.heap.size + 1 + 1, 0, none⟩)], Value.pointer (some ⟨W.heap.size, 0, none⟩), Value.pointer (some ⟨W.heap.size + 1, 0, none⟩), Value.int .i64 (x.1 : Int), Value.int .i32 (cap21 x.2 : Int), Value.bool true, Value.bool false, Value.string s, Value.int .i64 (s.size : Int), Value.bool (decide ((4000 : Int) < (s.size : Int))), Value.int .i32 r, Value.string ⟨bs.toArray⟩, Value.int .i32 r, v3, Value.string ⟨bs.toArray⟩, Value.bool false, Value.tuple #[Value.slice xa (pts s).length ca, Value.slice xr (pts s).length cr], Value.string s, Value.tuple #[Value.slice xa (pts s).length ca, Value.slice xr (pts s).length cr], Value.slice xa (pts s).length ca, Value.slice xr (pts s).length cr, Value.string s, Value.func (Fn.func 49) #[] #[Value.pointer (some ⟨w5.heap.size + 1 + 1, 0, none⟩)], Value.func (Fn.func 49) #[] #[Value.pointer (some ⟨w5.heap.size + 1 + 1, 0, none⟩)], Value.bool false, Value.func (Fn.func 49) #[] #[Value.pointer (some ⟨w5.heap.size + 1 + 1, 0, none⟩)], undef, undef, Value.func (Fn.func 49) #[] #[Value.pointer (some ⟨w5.heap.size + 1 + 1, 0, none⟩)], Value.int .i64 (x.1 : Int), Value.int .i32 (cap21 x.2 : Int), undef, undef, undef, undef, undef, undef, undef, undef, undef, undef, undef, undef, undef, undef, undef, undef, undef, undef, undef, undef, undef, undef, undef, undef, undef, undef, undef, undef, undef, undef, undef, undef, undef, undef, undef, undef], defers := [] }) ?assign2 ?body2 ?done2 ?stop2
    case assign2 =>
      intro l x V K hK
      simp only [encP]
      gi_wp2
      exact hK
    case body2 =>
      rintro l pre x V hI hlt
      have hkc := hI.k.cell
      have hkf := hI.k.frozen
      have hbc := hI.bb.cell
      have hbf := hI.bb.frozen
      have hac := hI.pl.ba.cell
      have hrc := hI.pl.br.cell
      have h4c := hI.pl.b4.cell
      have h4f := hI.pl.b4.frozen
      obtain ⟨ga, rfl⟩ := own_some hI.pl.oa (by omega)
      obtain ⟨gr, rfl⟩ := own_some hI.pl.or (by omega)
      have hea := own_cell hI.pl.oa (ac_get' (pts s) pre.length hlt)
      have her := own_cell hI.pl.or (rc_get' (pts s) pre.length hlt)
      obtain ⟨z1, hz1⟩ : ∃ z : Int, (x.1 : Int) = z := ⟨_, rfl⟩
      obtain ⟨z2, hz2⟩ : ∃ z : Int, (cap21 x.2 : Int) = z := ⟨_, rfl⟩
      obtain ⟨q1, hq1⟩ : ∃ z : Int, ((pts s)[pre.length].1 : Int) = z := ⟨_, rfl⟩
      obtain ⟨q2, hq2⟩ : ∃ z : Int, ((pts s)[pre.length].2 : Int) = z := ⟨_, rfl⟩
      rw [hq1] at hea
      rw [hq2] at her
      have HPt := Hid.mk' (fun W => point_any (cap21 x.2) (cap21_le _) W)
      rw [hz2] at HPt
      have HNo : Hid (¬ (z1 = q1 ∧ z2 = q2) → ¬ ((pre ++ [x]).map capx <+: pts s)) := by
        intro hne hpre
        have e := pre_last s pre x hpre hlt
        apply hne
        rw [← hz1, ← hz2, ← hq1, ← hq2, ← e]
        exact ⟨rfl, rfl⟩
      have HYes : Hid (z1 = q1 → z2 = q2 → (pre ++ [x]).map capx <+: pts s) := by
        intro h1 h2
        refine pre_next s pre x hI.pr hlt ?_
        rw [← hz1, ← hq1] at h1
        rw [← hz2, ← hq2] at h2
        exact Prod.ext (by simp only [capx]; omega) (by simp only [capx]; omega)
      simp only [hz1, hz2]
      clear hz1 hz2 hq1 hq2
      have i1 : (pre.length : Int) < ((pts s).length : Int) := by omega
      by_cases e1 : z1 = q1
      · subst e1
        by_cases e2 : z2 = q2
        · subst e2
          have HY := Hid.mk' (HYes.out rfl rfl)
          clear HYes HNo
          have hblt : W.heap.size + 1 < V.heap.size := hI.bb.lt
          have hklt : W.heap.size < V.heap.size := hI.k.lt
          have hadd : ∀ W : World, (Op.stringOp .add ⟨(backB pre).toArray⟩ ⟨(pb (cap21 x.2)).toArray⟩).run Try.prog W = .ok (.string ⟨(backB (pre ++ [x])).toArray⟩) W := fun W => by
            have h1 := backB_len pre
            have h2 := (pb_length (cap21 x.2)).2
            have h3 := pts_length s
            rw [backB_snoc, add_str _ _ W (by omega)]
          have hpb : (pre.length : Int) ≤ 1048576 := by have := pts_length s; omega
          have hmx : Try.prog.follows .mixedOrders = true := by kernel_rfl
          gi_wp2
          gi_region_with_o (first | (gi_at_call 28; refine (CallsIn.inRound l (callsIn_wide.2 (HPt.out _))).mono ?_; rintro e V1 ⟨rfl, bV⟩; have hbc1 := (bV.cell (p := ⟨W.heap.size + 1, 0, none⟩) hblt).trans hbc; have hbf1 := (bV.frozen (p := ⟨W.heap.size + 1, 0, none⟩) hblt).trans hbf; have hkc1 := (bV.cell (p := ⟨W.heap.size, 0, none⟩) hklt).trans hkc; have hkf1 := (bV.frozen (p := ⟨W.heap.size, 0, none⟩) hklt).trans hkf) | (refine ⟨trivial, ?_⟩; gi_at_call 28; refine (CallsIn.inRound l (callsIn_wide.2 (HPt.out _))).mono ?_; rintro e V1 ⟨rfl, bV⟩; have hbc1 := (bV.cell (p := ⟨W.heap.size + 1, 0, none⟩) hblt).trans hbc; have hbf1 := (bV.frozen (p := ⟨W.heap.size + 1, 0, none⟩) hblt).trans hbf; have hkc1 := (bV.cell (p := ⟨W.heap.size, 0, none⟩) hklt).trans hkc; have hkf1 := (bV.frozen (p := ⟨W.heap.size, 0, none⟩) hklt).trans hkf))
          all_goals gi_wp2
          all_goals exact pi_end hI (below_of_drew bV) (by omega) (by omega) (by omega) (by omega) HY.out
        · have n2 : (z2 != q2) = true := by simp [e2]
          have HN := Hid.mk' (HNo.out (fun h => e2 h.2))
          clear HNo HYes e2
          gi_wp2
          exact ⟨(KeepsOthers.setCell _ _ _).from _, HN.out⟩
      · have n1 : (z1 != q1) = true := by simp [e1]
        have HN := Hid.mk' (HNo.out (fun h => e1 h.1))
        clear HNo HYes e1
        gi_wp2
        exact ⟨(KeepsOthers.setCell _ _ _).from _, HN.out⟩
    case done2 =>
      rintro D2 ys2 V hD2 rfl hI hK3
      have hkc := hI.k.cell
      have hbc := hI.bb.cell
      have hrc := hI.pl.br.cell
      have h4c := hI.pl.b4.cell
      have h4f := hI.pl.b4.frozen
      have hmx : Try.prog.follows .mixedOrders = true := by kernel_rfl
      have HB := Hid.mk' (show (⟨(backB (pts s)).toArray⟩ : ByteArray) = evenS s from by rw [back_pts]; apply ByteArray.ext; apply Array.ext'; rw [evenS_bytes])
      rw [HB.out] at hbc
      gi_wp2
      refine region_only ?_
      gi_region_with_o (first | (gi_at_call 18; refine (callsIn_wide.2 (reven_any s _ hs)).mono ?_; rintro e V1 ⟨rfl, hV1⟩; rw [hV1]; clear hV1 V1) | (refine ⟨trivial, ?_⟩; gi_at_call 18; refine (callsIn_wide.2 (reven_any s _ hs)).mono ?_; rintro e V1 ⟨rfl, hV1⟩; rw [hV1]; clear hV1 V1))
      all_goals gi_wp2
      all_goals exact leave_true hI hK3 (by omega) (by omega) (by omega)
    case stop2 =>
      rintro D2 c q V hD2 hq hx hK3
      exact absurd (pre_cap s q hq) hx
  case stop =>
    rintro D c pre0 W hD hpre ⟨rfl, hP⟩ hK
    gi_wp2
    have hW2 : w.heap.size ≤ W.heap.size := hP.be.size
    have hDl : D < W.heap.size := (Array.getElem?_eq_some_iff.1 hK).1
    have hBsl : w5.heap.size + 1 + 1 < W.heap.size := hP.bs.lt
    obtain ⟨W2, hW2e⟩ : ∃ W2, (W.alloc (.cells #[.int .i64 0] 3)).alloc (.cells #[.string ⟨#[]⟩] 22) = W2 := ⟨_, rfl⟩
    have hsz2 : W2.heap.size = W.heap.size + 1 + 1 := by rw [← hW2e]; simp
    have hbel2 : Below W.heap.size W W2 := by rw [← hW2e]; exact ((Below.refl _ W).alloc (Nat.le_refl _) _).alloc (by simp) _
    have hP2 := hP.below hbel2
    have hk2 : Boxed W2 W.heap.size 3 (.int .i64 0) := by rw [← hW2e]; exact (Boxed.new W 3 (.int .i64 0)).alloc _
    have hbb2 : Boxed W2 (W.heap.size + 1) 22 (.string ⟨#[]⟩) := by
      have n2 := Boxed.new (W.alloc (.cells #[.int .i64 0] 3)) 22 (.string ⟨#[]⟩)
      rw [World.size_alloc, hW2e] at n2
      exact n2
    have hK2 : W2.heap[D]? = some (.deferred (some [])) := (hbel2.block D hDl).trans hK
    rw [hW2e]
    clear hW2e hK hP hPL
    refine wpIn_rangeFunc_ownG rfl (by omega) (gf := 49) (lb := #[.pointer (some ⟨w5.heap.size + 1 + 1, 0, none⟩)]) rfl trivial (enters_of Try.func49 (by kernel_rfl) rfl)
      (points_stops (3 - 1) (by omega) (w5.heap.size + 1 + 1) s hs W2 (by omega) hP2.bs) KBox.trans (KBox.put (by omega)) (Below.refl _ _) (fun _ => rfl)
      (fun pre V => PI s (PL s w w4.heap.size w5.heap.size (w5.heap.size + 1) (w5.heap.size + 1 + 1) (.slice xa (pts s).length ca) (.slice xr (pts s).length cr)) D W.heap.size (W.heap.size + 1) pre V)
      (fun c pre V => ¬ (pre.map capx <+: pts s))
      (PI.ownFrom (PL.ownFrom (β := Unit) (by omega)) (by omega))
      (fun c q A B row hs' hg hr => hs')
      ⟨by simp, hP2, hk2, hbb2, hK2⟩
      (fun x => { tmps := #[Value.string s, Value.int .i32 r, undef, undef, Value.pointer (some ⟨w.heap.size, 0, none⟩), Value.pointer (some ⟨w5.heap.size, 0, none⟩), Value.pointer (some ⟨w5.heap.size + 1, 0, none⟩), Value.func (Fn.func 49) #[] #[Value.pointer (some ⟨w5.heap.size + 1 + 1, 0, none⟩)], Value.pointer (some ⟨W.heap.size, 0, none⟩), Value.pointer (some ⟨W.heap.size + 1, 0, none⟩), Value.int .i64 (x.1 : Int), Value.int .i32 (cap21 x.2 : Int), Value.bool true, Value.bool false, Value.string s, Value.int .i64 (s.size : Int), Value.bool (decide ((4000 : Int) < (s.size : Int))), Value.int .i32 r, Value.string ⟨bs.toArray⟩, Value.int .i32 r, v3, Value.string ⟨bs.toArray⟩, Value.bool false, Value.tuple #[Value.slice xa (pts s).length ca, Value.slice xr (pts s).length cr], Value.string s, Value.tuple #[Value.slice xa (pts s).length ca, Value.slice xr (pts s).length cr], Value.slice xa (pts s).length ca, Value.slice xr (pts s).length cr, Value.string s, Value.func (Fn.func 49) #[] #[Value.pointer (some ⟨w5.heap.size + 1 + 1, 0, none⟩)], Value.func (Fn.func 49) #[] #[Value.pointer (some ⟨w5.heap.size + 1 + 1, 0, none⟩)], Value.bool false, Value.func (Fn.func 49) #[] #[Value.pointer (some ⟨w5.heap.size + 1 + 1, 0, none⟩)], undef, undef, Value.func (Fn.func 49) #[] #[Value.pointer (some ⟨w5.heap.size + 1 + 1, 0, none⟩)], Value.int .i64 (x.1 : Int), Value.int .i32 (cap21 x.2 : Int), undef, undef, undef, undef, undef, undef, undef, undef, undef, undef, undef, undef, undef, undef, undef, undef, undef, undef, undef, undef, undef, undef, undef, undef, undef, undef, undef, undef, undef, undef, undef, undef, undef, undef, undef, undef], defers := [] }) ?assign2 ?body2 ?done2 ?stop2
    case assign2 =>
      intro l x V K hK
      simp only [encP]
      gi_wp2
      exact hK
    case body2 =>
      rintro l pre x V hI hlt
      have hkc := hI.k.cell
      have hkf := hI.k.frozen
      have hbc := hI.bb.cell
      have hbf := hI.bb.frozen
      have hac := hI.pl.ba.cell
      have hrc := hI.pl.br.cell
      have h4c := hI.pl.b4.cell
      have h4f := hI.pl.b4.frozen
      obtain ⟨ga, rfl⟩ := own_some hI.pl.oa (by omega)
      obtain ⟨gr, rfl⟩ := own_some hI.pl.or (by omega)
      have hea := own_cell hI.pl.oa (ac_get' (pts s) pre.length hlt)
      have her := own_cell hI.pl.or (rc_get' (pts s) pre.length hlt)
      obtain ⟨z1, hz1⟩ : ∃ z : Int, (x.1 : Int) = z := ⟨_, rfl⟩
      obtain ⟨z2, hz2⟩ : ∃ z : Int, (cap21 x.2 : Int) = z := ⟨_, rfl⟩
      obtain ⟨q1, hq1⟩ : ∃ z : Int, ((pts s)[pre.length].1 : Int) = z := ⟨_, rfl⟩
      obtain ⟨q2, hq2⟩ : ∃ z : Int, ((pts s)[pre.length].2 : Int) = z := ⟨_, rfl⟩
      rw [hq1] at hea
      rw [hq2] at her
      have HPt := Hid.mk' (fun W => point_any (cap21 x.2) (cap21_le _) W)
      rw [hz2] at HPt
      have HNo : Hid (¬ (z1 = q1 ∧ z2 = q2) → ¬ ((pre ++ [x]).map capx <+: pts s)) := by
        intro hne hpre
        have e := pre_last s pre x hpre hlt
        apply hne
        rw [← hz1, ← hz2, ← hq1, ← hq2, ← e]
        exact ⟨rfl, rfl⟩
      have HYes : Hid (z1 = q1 → z2 = q2 → (pre ++ [x]).map capx <+: pts s) := by
        intro h1 h2
        refine pre_next s pre x hI.pr hlt ?_
        rw [← hz1, ← hq1] at h1
        rw [← hz2, ← hq2] at h2
        exact Prod.ext (by simp only [capx]; omega) (by simp only [capx]; omega)
      simp only [hz1, hz2]
      clear hz1 hz2 hq1 hq2
      have i1 : (pre.length : Int) < ((pts s).length : Int) := by omega
      by_cases e1 : z1 = q1
      · subst e1
        by_cases e2 : z2 = q2
        · subst e2
          have HY := Hid.mk' (HYes.out rfl rfl)
          clear HYes HNo
          have hblt : W.heap.size + 1 < V.heap.size := hI.bb.lt
          have hklt : W.heap.size < V.heap.size := hI.k.lt
          have hadd : ∀ W : World, (Op.stringOp .add ⟨(backB pre).toArray⟩ ⟨(pb (cap21 x.2)).toArray⟩).run Try.prog W = .ok (.string ⟨(backB (pre ++ [x])).toArray⟩) W := fun W => by
            have h1 := backB_len pre
            have h2 := (pb_length (cap21 x.2)).2
            have h3 := pts_length s
            rw [backB_snoc, add_str _ _ W (by omega)]
          have hpb : (pre.length : Int) ≤ 1048576 := by have := pts_length s; omega
          have hmx : Try.prog.follows .mixedOrders = true := by kernel_rfl
          gi_wp2
          gi_region_with_o (first | (gi_at_call 28; refine (CallsIn.inRound l (callsIn_wide.2 (HPt.out _))).mono ?_; rintro e V1 ⟨rfl, bV⟩; have hbc1 := (bV.cell (p := ⟨W.heap.size + 1, 0, none⟩) hblt).trans hbc; have hbf1 := (bV.frozen (p := ⟨W.heap.size + 1, 0, none⟩) hblt).trans hbf; have hkc1 := (bV.cell (p := ⟨W.heap.size, 0, none⟩) hklt).trans hkc; have hkf1 := (bV.frozen (p := ⟨W.heap.size, 0, none⟩) hklt).trans hkf) | (refine ⟨trivial, ?_⟩; gi_at_call 28; refine (CallsIn.inRound l (callsIn_wide.2 (HPt.out _))).mono ?_; rintro e V1 ⟨rfl, bV⟩; have hbc1 := (bV.cell (p := ⟨W.heap.size + 1, 0, none⟩) hblt).trans hbc; have hbf1 := (bV.frozen (p := ⟨W.heap.size + 1, 0, none⟩) hblt).trans hbf; have hkc1 := (bV.cell (p := ⟨W.heap.size, 0, none⟩) hklt).trans hkc; have hkf1 := (bV.frozen (p := ⟨W.heap.size, 0, none⟩) hklt).trans hkf))
          all_goals gi_wp2
          all_goals exact pi_end hI (below_of_drew bV) (by omega) (by omega) (by omega) (by omega) HY.out
        · have n2 : (z2 != q2) = true := by simp [e2]
          have HN := Hid.mk' (HNo.out (fun h => e2 h.2))
          clear HNo HYes e2
          gi_wp2
          exact ⟨(KeepsOthers.setCell _ _ _).from _, HN.out⟩
      · have n1 : (z1 != q1) = true := by simp [e1]
        have HN := Hid.mk' (HNo.out (fun h => e1 h.1))
        clear HNo HYes e1
        gi_wp2
        exact ⟨(KeepsOthers.setCell _ _ _).from _, HN.out⟩
    case done2 =>
      rintro D2 ys2 V hD2 rfl hI hK3
      have hkc := hI.k.cell
      have hbc := hI.bb.cell
      have hrc := hI.pl.br.cell
      have h4c := hI.pl.b4.cell
      have h4f := hI.pl.b4.frozen
      have hmx : Try.prog.follows .mixedOrders = true := by kernel_rfl
      have HB := Hid.mk' (show (⟨(backB (pts s)).toArray⟩ : ByteArray) = evenS s from by rw [back_pts]; apply ByteArray.ext; apply Array.ext'; rw [evenS_bytes])
      rw [HB.out] at hbc
      gi_wp2
      refine region_only ?_
      gi_region_with_o (first | (gi_at_call 18; refine (callsIn_wide.2 (reven_any s _ hs)).mono ?_; rintro e V1 ⟨rfl, hV1⟩; rw [hV1]; clear hV1 V1) | (refine ⟨trivial, ?_⟩; gi_at_call 18; refine (callsIn_wide.2 (reven_any s _ hs)).mono ?_; rintro e V1 ⟨rfl, hV1⟩; rw [hV1]; clear hV1 V1))
      all_goals gi_wp2
      all_goals exact leave_true hI hK3 (by omega) (by omega) (by omega)
    case stop2 =>
      rintro D2 c q V hD2 hq hx hK3
      exact absurd (pre_cap s q hq) hx

end Go.Proofs.Ytalnmophdebnfaa
