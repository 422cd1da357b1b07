/- keys.Table: New, isMade, Intern of a new text, plain facts of the map. -/
import Derived.Test.YtcjpoabknlpopaaDoorKOrd
import Derived.Maps.OwnSet
import Derived.Maps.Views
import Derived.MapViews
import Derived.DeepKeys4
import Derived.Lib.SmallJoins
import Derived.ChangeSame
import Derived.ShutString
import Derived.LaidEql
namespace Go.Proofs.YtcjpoabknlpopaaDoor
set_option linter.unusedVariables false
open Go.RowKit Go.Maps Go.ChangeShapes

theorem infoS : (Tryd.prog.info? 23).map (fun i => (i.zero, i.size, i.bytes)) = some (some (.string ⟨#[]⟩), 1, 16) := by kernel_rfl
theorem keyLaid : laidOutB Tryd.prog = true := by kernel_rfl
theorem keyRow : (25 : TypeId) < Tryd.prog.types.size := of_decide_eq_true (by kernel_rfl)
theorem keyDeep : Tryd.prog.keyTypeAt (Tryd.prog.types.size + 1) 25 = true := by kernel_rfl
theorem keyWide : (match Tryd.prog.underlying 25 with | some (.array _ _) | some (.struct _) => true | _ => false) = true := by rw [Tryd.underlying25]
set_option maxRecDepth 100000 in
theorem keyLaw : Keyed Tryd.prog 25 := Keyed.of_law (deep_law_laid keyLaid (m := 3) (by omega) keyRow (by kernel_rfl) keyWide)
theorem keyFormed {c0 c1 : Value} : (Value.agg #[c0, c1]).formed Tryd.prog 25 = true := by
  have h : Tryd.prog.cellsOf 25 = 2 := by kernel_rfl
  simp [Value.formed, Tryd.underlying25, h]
/-- What a text reads as, as a key. -/
def kl (s : ByteArray) : Lit := (DataW.agg [.lit (.string s.data.toList), .lit (.int .i64 0)] : DataW Unit).asKey
set_option maxRecDepth 100000 in
theorem key_mk (s : ByteArray) (h : s.size ≤ maxLen) : keyOf Tryd.prog 25 (.agg #[.string s, .int .i64 0]) = some (kl s) := by
  have w : World := default
  have hd : DataW.Trod (H := Unit) (fun _ => ()) Tryd.prog w 0 (fun _ => false) false 25 (.agg #[.string s, .int .i64 0]) (.agg [.lit (.string s.data.toList), .lit (.int .i64 0)]) ([] ++ []) :=
    Joins.shut_agg2 (y0 := (.lit (.string s.data.toList), [])) (y1 := (.lit (.int .i64 0), [])) Tryd.underlying25 (by kernel_rfl) (by kernel_rfl) (by obtain ⟨n, hn⟩ := ChangeMaps.shut_string (enc := fun _ => ()) (w := w) (base := 0) (sp := fun _ => false) (held := false) Tryd.underlying23 (s := s) h; exact ⟨n, hn⟩) ⟨1, trod_int_mk 0 Tryd.underlying3 (by decide)⟩
  exact (keyOf_asKey keyDeep keyWide keyFormed hd).1
theorem kl_inj {s s' : ByteArray} (h : s.size ≤ maxLen) (h' : s'.size ≤ maxLen) (e : kl s = kl s') : s = s' := by
  have := keyLaw.inj (key_mk s h) (e ▸ key_mk s' h')
  simpa using this

/-- The map tells each text's number. -/
structure MapOk (D : DataW Unit) (ts : List ByteArray) : Prop where
  isMap : IsMap D
  yes : ∀ (i : Nat) (s : ByteArray), ts[i]? = some s → has D (kl s) = true ∧ D.atKey (kl s) (.lit (.int .i64 0)) = .lit (.int .i64 i)
  no : ∀ s : ByteArray, s.size ≤ maxLen → s ∉ ts → has D (kl s) = false
theorem mapOk_nil : MapOk (.map []) [] := ⟨isMap_empty, fun i s h => by simp at h, fun s _ _ => rfl⟩
theorem MapOk.put {D : DataW Unit} {ts : List ByteArray} (h : MapOk D ts) (s : ByteArray) (hs : s.size ≤ maxLen) (hz : ∀ t ∈ ts, t.size ≤ maxLen) (hn : s ∉ ts) : MapOk (D.put (kl s) (.lit (.int .i64 (ts.length : Nat)))) (ts ++ [s]) := by
  have hk : WideAt.IsKeyLit (kl s) := keyLaw.key (key_mk s hs)
  refine ⟨h.isMap.put _ _, fun i t ht => ?_, fun t ht hnt => ?_⟩
  · rw [List.getElem?_append] at ht
    split at ht
    · have hm : t ∈ ts := List.mem_of_getElem? ht
      have hne : kl t ≠ kl s := fun e => hn (kl_inj (hz t hm) hs e ▸ hm)
      rw [has_put_other hne, atKey_put_other hne]
      exact h.yes i t ht
    · rename_i hi
      have hi2 : i = ts.length := by
        rcases Nat.lt_or_ge (i - ts.length) 1 with h1 | h1
        · omega
        · rw [List.getElem?_eq_none (by simpa using h1)] at ht; cases ht
      subst hi2
      simp at ht
      subst ht
      exact ⟨has_put_same h.isMap hk _, atKey_put_same h.isMap hk _ _⟩
  · simp at hnt
    have hne : kl t ≠ kl s := fun e => hnt.2 (kl_inj ht hs e)
    rw [has_put_other hne]
    exact h.no t ht hnt.1

/-- The cells of texts. -/
def sC (ts : List ByteArray) : List Value := ts.map Value.string
theorem sC_append (a b : List ByteArray) : sC (a ++ b) = sC a ++ sC b := by simp [sC]

/-- A table in memory. -/
structure Tab (B g mb : Nat) (vt vs : Value) (ts ss : List ByteArray) (D : DataW Unit) (w : World) : Prop where
  gB : B ≤ g
  mB : B ≤ mb
  row : w.heap[g]? = some (.cells #[.pointer (some ⟨g, 0, none⟩), .map (some mb), vt, vs] 58 (0, 0))
  t : w.ownsRow B 23 1 vt ts.length (sC ts)
  s : w.ownsRow B 23 1 vs ss.length (sC ss)
  m : w.ownsMap Tryd.prog 25 (plainElem Tryd.prog 3) mb ts.length D
  ok : MapOk D ts
  ap : Apart vt vs
theorem Tab.cell {B g mb : Nat} {vt vs : Value} {ts ss : List ByteArray} {D : DataW Unit} {w : World} (h : Tab B g mb vt vs ts ss D w) : w.cell? ⟨g, 0, none⟩ = some (.pointer (some ⟨g, 0, none⟩)) ∧ w.cell? ⟨g, 1, none⟩ = some (.map (some mb)) ∧ w.cell? ⟨g, 2, none⟩ = some vt ∧ w.cell? ⟨g, 3, none⟩ = some vs := by
  have e : ∀ o, w.cell? ⟨g, o, none⟩ = (#[.pointer (some ⟨g, 0, none⟩), .map (some mb), vt, vs] : Array Value)[o]? := fun o => cell_of_row _ g o _ 58 (0, 0) h.row
  exact ⟨e 0, e 1, e 2, e 3⟩
theorem Tab.frozen {B g mb : Nat} {vt vs : Value} {ts ss : List ByteArray} {D : DataW Unit} {w : World} (h : Tab B g mb vt vs ts ss D w) (o : Nat) : w.frozen? ⟨g, o, none⟩ = false := by
  simp [World.frozen?, h.row]
theorem Tab.lt {B g mb : Nat} {vt vs : Value} {ts ss : List ByteArray} {D : DataW Unit} {w : World} (h : Tab B g mb vt vs ts ss D w) : g < w.heap.size ∧ mb < w.heap.size := ⟨(Array.getElem?_eq_some_iff.1 h.row).1, h.m.lt⟩

theorem eqIn_self (W : World) (d : Nat) (a : Addr) : (Op.equalIn (d + 1) 37 (.pointer (some a)) (.pointer (some a))).run Tryd.prog W = .ok true W := by
  simp [Op.equalIn, run_underlying Tryd.underlying37, Tryd.sizeOf58, run_sameAddr_same]
theorem eql_self (W : World) (a : Addr) : (binOp .eql 37 (.pointer (some a)) (.pointer (some a))).run Tryd.prog W = .ok (.bool true) W := by
  simp only [binOp]
  simp [Op.equal, Op.maxDepth, eqIn_self W 9999 a]
theorem eqIn_no (W : World) (d : Nat) (a : Addr) : (Op.equalIn (d + 1) 37 (.pointer none) (.pointer (some a))).run Tryd.prog W = .ok false W := by
  simp [Op.equalIn, run_underlying Tryd.underlying37]
theorem eql_no (W : World) (a : Addr) : (binOp .eql 37 (.pointer none) (.pointer (some a))).run Tryd.prog W = .ok (.bool false) W := by
  simp only [binOp]
  simp [Op.equal, Op.maxDepth, eqIn_no W 9999 a]

set_option maxHeartbeats 400000 in
set_option maxRecDepth 100000 in
theorem isMade_yes {B g mb : Nat} {vt vs : Value} {ts ss : List ByteArray} {D : DataW Unit} (w : World) (h : Tab B g mb vt vs ts ss D w) :
    Calls Tryd.prog 29 #[.pointer (some ⟨g, 0, none⟩)] w fun e w' => e = .returned (.bool true) ∧ w' = w := by
  obtain ⟨c0, c1, c2, c3⟩ := h.cell
  clear h
  go_enter Tryd.func29, Tryd.ntmps29
  have he := eql_self
  go_wp2
  go_ret
  exact ⟨rfl, rfl⟩

set_option maxHeartbeats 1000000 in
theorem new_any (w : World) :
    Calls Tryd.prog 14 #[] w fun e w' => ∃ g mb, e = .returned (.pointer (some ⟨g, 0, none⟩)) ∧ Tab w.heap.size g mb (.slice none 0 0) (.slice none 0 0) [] [] (.map []) w' ∧ Below w.heap.size w w' := by
  have hmm := @run_makeMap Tryd.prog
  go_enter Tryd.func14, Tryd.ntmps14
  go_wp2
  go_ret
  refine ⟨w.heap.size + 1, w.heap.size, rfl, ⟨by omega, Nat.le_refl _, ?_, World.ownsRow_nil _ _ _ _, World.ownsRow_nil _ _ _ _, ?_, mapOk_nil, apart_nil _⟩, ?_⟩
  · exact heap_alloc2_new w _ _
  · exact (World.ownsMap_made w _ _ _).alloc _
  · exact ((Below.refl _ _).alloc (Nat.le_refl _) _).alloc (by simp) _

/-- append onto a row that the call owns, as one step of a region that draws its order, with where it lies then. -/
theorem step_append_own_at {P : Program} {ops : Array Oper} {o : Oper} {a : Act} {w : World} {K : Act → World → Prop} {Q : Exit → Act → World → Prop} {E : Prop}
    (hg : o.guard = none) (s x : Operand) (t : TypeId) (hop : o.op = Op.call { callee := Callee.builtin Builtin.append, args := #[s, x], argTypes := #[t, t] })
    (base : Nat) (e : TypeId) (i : TypeInfo) (z : Value) (size bytes : Nat) (h1 : P.underlying t = some (.slice e)) (h2 : P.info? e = some i) (h3 : i.zero = some z) (h4 : i.size = size) (h5 : i.bytes = bytes) (h6 : z.cells.size = size) (h7 : 0 < size)
    (v : Value) (n : Nat) (xs : List Value) (hs : a.eval s = v) (hown : w.ownsRow base e size v n xs)
    (ad : Addr) (m c : Nat) (news : List Value) (hx : a.eval x = .slice (some ad) m c) (hn : news.length = m * size) (hc : ∀ j u, news[j]? = some u → w.cell? (ad.add j) = some u) (h1c : ∀ u ∈ news, u.oneCell' = true)
    (b1 : n + m ≤ maxLen) (b2 : (n + m) * bytes ≤ 140737488355328) (hbase : base ≤ w.heap.size)
    (hK : ∀ v' w', w'.ownsRow base e size v' (n + m) (xs ++ news) → w.grownBy w' v.ownBlock → (v'.ownBlock = v.ownBlock ∨ v'.ownBlock = some w.heap.size) → K (a.put o.dst v') w') :
    if Region.wanted o (yielded ops a.tmps) = true then Oper.wp P o a w K Q else E := by
  have hw : Region.wanted o (yielded ops a.tmps) = true := by simp [Region.wanted, hg]
  rw [if_pos hw]
  obtain ⟨v', w', hrun, r1, r2, _, r3⟩ := run_append_own_at (P := P) w base t o.type e i z size bytes h1 h2 h3 h4 h5 h6 h7 v n xs hown ad m c news hn hc h1c b1 b2 hbase
  unfold Oper.wp
  simp [execOp, hop, resolve, invoke, builtin, hs, hx, hrun, Result.andThen]
  exact hK v' w' r1 r2 r3

theorem zeroI (w : World) : (zeroValue 3).run Tryd.prog w = .ok (.int .i64 0) w := by kernel_rfl

theorem own_map_below {w w' : World} {b n : Nat} {D : DataW Unit} (h : w.ownsMap Tryd.prog 25 (plainElem Tryd.prog 3) b n D) (hb : Below w.heap.size w w') : w'.ownsMap Tryd.prog 25 (plainElem Tryd.prog 3) b n D := by
  have hl := h.lt
  obtain ⟨es, clock, he, rest⟩ := h
  exact ⟨es, clock, (hb.block b hl).trans he, rest⟩
theorem look_no {w : World} {b n : Nat} {D : DataW Unit} {key : Value} {k : Lit} (h : w.ownsMap Tryd.prog 25 (plainElem Tryd.prog 3) b n D) (hk : keyOf Tryd.prog 25 key = some k) (hh : has D k = false) :
    (Instr.lookup 55 (.map (some b)) key true).run Tryd.prog w = .ok (.tuple #[.int .i64 0, .bool false]) w := by
  obtain ⟨v, ps, hrun, hv⟩ := h.look_ok keyLaw Tryd.underlying55 (zeroI w) (plainElem_int Tryd.underlying3 (by decide)) hk
  rw [atKey_of_not_has hh] at hv
  obtain ⟨a, rfl, ha, _⟩ := plainElem_int_inv Tryd.underlying3 hv
  simp at ha
  rw [hrun, hh, ← ha.1]
theorem look_yes {w : World} {b n : Nat} {D : DataW Unit} {key : Value} {k : Lit} {i : Int} (h : w.ownsMap Tryd.prog 25 (plainElem Tryd.prog 3) b n D) (hk : keyOf Tryd.prog 25 key = some k) (hh : has D k = true) (hi : D.atKey k (.lit (.int .i64 0)) = .lit (.int .i64 i)) :
    (Instr.lookup 55 (.map (some b)) key true).run Tryd.prog w = .ok (.tuple #[.int .i64 i, .bool true]) w := by
  obtain ⟨v, ps, hrun, hv⟩ := h.look_ok keyLaw Tryd.underlying55 (zeroI w) (plainElem_int Tryd.underlying3 (by decide)) hk
  rw [hi] at hv
  obtain ⟨a, rfl, ha, _⟩ := plainElem_int_inv Tryd.underlying3 hv
  simp at ha
  rw [hrun, hh, ← ha.1]

theorem grown_cell {w w' : World} {row : Option Nat} (h : w.grownBy w' row) {p : Addr} (hp : p.block < w.heap.size) (hne : some p.block ≠ row) : w'.cell? p = w.cell? p := by
  unfold World.cell?
  rw [h.block _ hp hne]
theorem grown_frozen {w w' : World} {row : Option Nat} (h : w.grownBy w' row) {p : Addr} (hp : p.block < w.heap.size) (hne : some p.block ≠ row) : w'.frozen? p = w.frozen? p := by
  unfold World.frozen?
  rw [h.block _ hp hne]
theorem own_ne_map {w : World} {B b n m sz : Nat} {e : TypeId} {v : Value} {xs : List Value} {D : DataW Unit} (h : w.ownsRow B e sz v n xs) (hm : w.ownsMap Tryd.prog 25 (plainElem Tryd.prog 3) b m D) : ∀ r, v.ownBlock = some r → some b ≠ some r := by
  intro r hr e
  cases e
  rcases h.2 with ⟨rfl, _⟩ | ⟨g, cap, cur, rfl, _, hg, _⟩
  · cases hr
  · simp [Value.ownBlock] at hr
    subst hr
    obtain ⟨es, clock, he, _⟩ := hm
    rw [hg] at he
    cases he

set_option maxHeartbeats 4000000 in
set_option maxRecDepth 100000 in
theorem intern_new {B g mb : Nat} {vt vs : Value} {ts ss : List ByteArray} {D : DataW Unit} (s : ByteArray) (w : World) (h : Tab B g mb vt vs ts ss D w) (hs : (s.size : Int) ≤ 140737488351232) (hno : evenS s ∉ ts) (hn : (ts.length : Int) * 16 + 16 ≤ 140737488351232) :
    Calls Tryd.prog 15 #[.pointer (some ⟨g, 0, none⟩), .string s] w fun e w' => e = .returned (.int .i64 ts.length) ∧ Below B w w' := by
  obtain ⟨i0, hi, hz0, hz1, hz2⟩ := info_parts infoS
  obtain ⟨c0, c1, c2, c3⟩ := h.cell
  have hes : (evenS s).size ≤ maxLen := by rw [even_size']; unfold maxLen; omega
  have HM := Hid.mk' (isMade_yes w h)
  have HBr := Hid.mk' (fun W => bare_text s 0 W hs (by omega))
  have HOw := Hid.mk' (fun W => own_any s W hs)
  have hhas : has D (kl (evenS s)) = false := h.ok.no _ hes hno
  have HK := Hid.mk' (key_mk (evenS s) hes)
  have HT := Hid.mk' h
  obtain ⟨q, hq⟩ : ∃ q, evenS s = q := ⟨_, rfl⟩
  rw [hq] at HBr HOw hhas HK
  obtain ⟨xt, ct, rfl⟩ := own_slice' h.t |>.imp fun _ h => h.imp fun _ h => h.1
  have hlt := h.lt
  clear h hq hno hes
  go_enter Tryd.func15, Tryd.ntmps15
  go_wp2_with (first | (go_at_call 29; refine (HM.out).mono ?_; rintro e w1 ⟨rfl, hw1⟩; rw [hw1]; clear hw1 w1) | (go_at_call 16; refine (HBr.out _).mono ?_; rintro e w1 ⟨rfl, b1⟩))
  have s1 := b1.size
  have m1 := own_map_below HT.out.m b1
  have k0 := (b1.cell (p := ⟨g, 0, none⟩) hlt.1).trans c0
  have k1 := (b1.cell (p := ⟨g, 1, none⟩) hlt.1).trans c1
  have k2 := (b1.cell (p := ⟨g, 2, none⟩) hlt.1).trans c2
  have g1 : g < w1.heap.size := by omega
  have hrun : ∀ n, (Instr.lookup 55 (.map (some mb)) (.agg #[.string q, .int .i64 0]) true).run Tryd.prog ((w1.alloc (.cells #[.string q, .int .i64 0] 25)).drewN n) = .ok (.tuple #[.int .i64 0, .bool false]) ((w1.alloc (.cells #[.string q, .int .i64 0] 25)).drewN n) := fun n => look_no (show ((w1.alloc (.cells #[.string q, .int .i64 0] 25)).drewN n).ownsMap Tryd.prog 25 (plainElem Tryd.prog 3) mb ts.length D from m1.alloc _) HK.out hhas
  go_quiet (fail)
  clear hrun
  have HM1 := Hid.mk' m1
  have HH := Hid.mk' hhas
  have hg0 := HT.out.frozen 2
  have fz2 := (b1.frozen (p := ⟨g, 2, none⟩) hlt.1).trans hg0
  have HN := Hid.mk' hn
  have hmb : mb < w1.heap.size := by omega
  have HT1 := Hid.mk' (own_below HT.out.t b1)
  have HS1 := Hid.mk' (own_below HT.out.s b1)
  have hB1 : B ≤ w1.heap.size := Nat.le_trans HT.out.gB (by omega)
  have HB1 := Hid.mk' (b1.mono (show B ≤ w.heap.size from Nat.le_trans HT.out.gB (by omega)))
  clear m1 hhas hn s1 c0 c1 c2 c3 hlt hg0
  go_wp2_with (first | (go_at_call 18; refine (HOw.out _).mono ?_; rintro e w2 ⟨rfl, b2⟩; have d0 := (b2.cell (p := ⟨w1.heap.size, 0, none⟩) (by simp)).trans (World.cell?_alloc_new _ _ _ _); have d1 := (b2.cell (p := ⟨w1.heap.size, 1, none⟩) (by simp)).trans (World.cell?_alloc_new _ _ _ _); have f0 := (b2.frozen (p := ⟨w1.heap.size, 0, none⟩) (by simp)).trans (World.frozen?_alloc_new _ _ _ _); have s2 : w1.heap.size < w2.heap.size := Nat.lt_of_lt_of_le (by simp) b2.size; simp only [List.getElem?_toArray, List.getElem?_cons_zero, List.getElem?_cons_succ] at d0 d1))
  have B2 : Below w1.heap.size w1 w2 := Below.trans (below_drewN ((Below.refl _ _).alloc (Nat.le_refl _) _) _) (b2.mono (by simp))
  have e1 := (B2.cell (p := ⟨g, 1, none⟩) g1).trans k1
  have e2 := (B2.cell (p := ⟨g, 2, none⟩) g1).trans k2
  have z2 := (B2.frozen (p := ⟨g, 2, none⟩) g1).trans fz2
  have m2 : ((w2.setCell ⟨w1.heap.size, 0, none⟩ (.string q)).drew).ownsMap Tryd.prog 25 (plainElem Tryd.prog 3) mb ts.length D := (own_map_below HM1.out B2).setCell (by simp; omega) _
  obtain ⟨w4, hupd, m4, t4⟩ := m2.store keyLaw Tryd.underlying55 (by have := HN.out; unfold maxLen; omega) HK.out (plainElem_int Tryd.underlying3 (a := (ts.length : Int)) (by have := HN.out; simp [Lit.wf, IntKind.min, IntKind.max, IntKind.bits, IntKind.signed]; omega))
  have hne : g ≠ w1.heap.size := by omega
  clear b2 m2 k1 k2 fz2
  have gt := t4.grown
  have B3 : Below w1.heap.size w1 (w2.setCell ⟨w1.heap.size, 0, none⟩ (.string q)).drew := (B2.setCell (by simp) _).drew
  have s3 : w1.heap.size ≤ ((w2.setCell ⟨w1.heap.size, 0, none⟩ (.string q)).drew).heap.size := B3.size
  have s4 : w1.heap.size ≤ w4.heap.size := Nat.le_trans s3 gt.size
  have s2' : w1.heap.size < ((w2.setCell ⟨w1.heap.size, 0, none⟩ (.string q)).drew).heap.size := by simpa [World.setCell] using s2
  have mlt : mb ≠ g := fun e => by
    obtain ⟨es, clock, he, _⟩ := HM1.out
    have := k0
    rw [← e] at this
    simp [World.cell?, he] at this
  have e4 : w4.cell? ⟨g, 2, none⟩ = some (.slice xt ts.length ct) := (grown_cell gt (p := ⟨g, 2, none⟩) (by show g < _; omega) (by simp <;> omega)).trans (by rw [World.cell?_drew, World.cell?_setCell_other _ _ _ _ (by simp <;> omega)]; exact e2)
  have z4 : w4.frozen? ⟨g, 2, none⟩ = false := (grown_frozen gt (p := ⟨g, 2, none⟩) (by show g < _; omega) (by simp <;> omega)).trans (by rw [World.frozen?_drew, World.frozen?_setCell]; exact z2)
  have n4 : w4.cell? ⟨w1.heap.size, 0, none⟩ = some (.string q) := (grown_cell gt (p := ⟨w1.heap.size, 0, none⟩) s2' (by simp <;> omega)).trans (by rw [World.cell?_drew]; exact World.cell?_setCell_same _ _ _ d0)
  have g4 : g < w4.heap.size := by omega
  have l4 : w1.heap.size < w4.heap.size := Nat.lt_of_lt_of_le s2' gt.size
  have o4 := own_other (own_below HT1.out B3) gt (own_ne_map HT1.out HM1.out)
  have B4 : Below B w w4 := (HB1.out.trans (B3.mono hB1)).trans ((Below.refl _ _).grown gt (Nat.le_trans hB1 s3) (fun j hj => by cases hj; exact HT.out.mB))
  have HO4 := Hid.mk' o4
  have HB4 := Hid.mk' B4
  have hgB := HT.out.gB
  have hB4 : B ≤ w4.heap.size := Nat.le_trans hB1 s4
  have hn := HN.out
  have HNE : Hid (∀ r, (Value.slice xt ts.length ct).ownBlock = some r → r ≠ g) := Hid.mk' (fun r hr e => by
    have h1 := HT.out.t; have h2 := HT.out.row
    rcases h1.2 with ⟨e1, _⟩ | ⟨g', cap, cur, e1, _, hg', _⟩
    · rw [e1] at hr; cases hr
    · rw [e1] at hr
      simp [Value.ownBlock] at hr
      subst hr; subst e
      rw [h2] at hg'
      simp at hg')
  go_region
  clear B4 o4 gt B3 hupd t4 m4 e1 e2 z2 B2 s2 s2' s3 hmb mlt d0 d1 f0 k0
  go_wp2_with fail
  go_region_law (refine step_append_own_at rfl (.tmp 44) (.tmp 47) 56 rfl B 23 i0 (.string ⟨#[]⟩) 1 16 Tryd.underlying56 hi hz0 hz1 hz2 rfl (by decide) _ _ _ rfl (World.ownsRow.alloc (show w4.drew.ownsRow _ _ _ _ _ _ from HO4.out) _) _ 1 1 _ rfl (by rfl) (cells_new _ _ _) (by simp [Value.oneCell']) (by unfold maxLen; omega) (by omega) (by simp <;> omega) ?_; intro v5 w5 o5 g5 hl5; have e5 : w5.cell? ⟨g, 2, none⟩ = some (.slice xt ts.length ct) := ((grown_cell g5 (p := ⟨g, 2, none⟩) (by simp <;> omega) (fun e => HNE.out g e.symm rfl)).trans ((((Below.refl w4.heap.size w4).drew).alloc (by simp) _).cell (p := ⟨g, 2, none⟩) g4)).trans e4; have z5 : w5.frozen? ⟨g, 2, none⟩ = false := ((grown_frozen g5 (p := ⟨g, 2, none⟩) (by simp <;> omega) (fun e => HNE.out g e.symm rfl)).trans ((((Below.refl w4.heap.size w4).drew).alloc (by simp) _).frozen (p := ⟨g, 2, none⟩) g4)).trans z4; have x5 : Below B w w5 := (((HB4.out).drew).alloc (by simp <;> omega) _).trans ((Below.refl _ _).grown g5 (by simp <;> omega) (fun k hk => (HO4.out.lt k hk).1)); obtain ⟨y5, c5, hv5, _⟩ := own_slice' o5; subst hv5)
  all_goals
    go_wp2
    go_ret
    exact ⟨rfl, x5.setCell (show B ≤ g from hgB) _⟩

end Go.Proofs.YtcjpoabknlpopaaDoor
