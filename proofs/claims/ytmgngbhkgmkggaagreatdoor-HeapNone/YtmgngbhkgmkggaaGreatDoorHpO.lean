/- Package heap: a dictionary's lay. Package heap: a dictionary's drop of its first key. -/
import Derived.Test.YtmgngbhkgmkggaaGreatDoorHpL
import Derived.Test.YtmgngbhkgmkggaaGreatDoorHpU
import Derived.Deep.MidRow
namespace Go.Proofs.YtmgngbhkgmkggaaGreatDoor
set_option linter.unusedVariables false
set_option linter.unusedSimpArgs false
open Go.RowKit Go.Maps Go.ChangeShapes

/-- The map tells each text's place. -/
structure PlOk (D : DataW Unit) (ts : List ByteArray) : Prop where
  isMap : IsMap D
  yes : ∀ (i : Nat) (s : ByteArray), ts[i]? = some s → has D (kl s) = true ∧ D.atKey (kl s) (.lit (.int .i64 0)) = .lit (.int .i64 i)
  no : ∀ s : ByteArray, s.size ≤ maxLen → s ∉ ts → has D (kl s) = false
theorem plOk_nil : PlOk (.map []) [] := ⟨isMap_empty, fun i s h => by simp at h, fun s _ _ => rfl⟩
theorem PlOk.put {D : DataW Unit} {ts : List ByteArray} (h : PlOk D ts) (s : ByteArray) (hs : s.size ≤ maxLen) (hz : ∀ t ∈ ts, t.size ≤ maxLen) (hn : s ∉ ts) : PlOk (D.put (kl s) (.lit (.int .i64 (ts.length : Nat)))) (ts ++ [s]) := by
  have hk : WideAt.IsKeyLit (kl s) := keyLaw.key (key_mk s hs)
  refine ⟨h.isMap.put _ _, fun i t ht => ?_, fun t ht hnt => ?_⟩
  · rw [List.getElem?_append] at ht
    split at ht
    · have hm : t ∈ ts := List.mem_of_getElem? ht
      have hne : kl t ≠ kl s := fun e => hn (kl_inj (hz t hm) hs e ▸ hm)
      rw [has_put_other hne, atKey_put_other hne]
      exact h.yes i t ht
    · rename_i hi
      have hi2 : i = ts.length := by
        rcases Nat.lt_or_ge (i - ts.length) 1 with h1 | h1
        · omega
        · rw [List.getElem?_eq_none (by simpa using h1)] at ht; cases ht
      subst hi2
      simp at ht
      subst ht
      exact ⟨has_put_same h.isMap hk _, atKey_put_same h.isMap hk _ _⟩
  · simp at hnt
    have hne : kl t ≠ kl s := fun e => hnt.2 (kl_inj ht hs e)
    rw [has_put_other hne]
    exact h.no t ht hnt.1
theorem hp_infoE : (Tryz.prog.info? 156).map (fun i => (i.zero, i.size, i.bytes)) = some (some (.agg #[.string ⟨#[]⟩, .int .i64 0, .int .i64 0, .int .i64 0, .float .f64 0, .string ⟨#[]⟩, .int .i64 0, .pointer none]), 8, 80) := by kernel_rfl
/-- append within a row's room, as one step of a region that draws its order. -/
theorem step_room {P : Program} {ops : Array Oper} {o : Oper} {a : Act} {w : World} {K : Act → World → Prop} {Q : Exit → Act → World → Prop} {E : Prop}
    (hg : o.guard = none) (s x : Operand) (t : TypeId) (hop : o.op = Op.call { callee := Callee.builtin Builtin.append, args := #[s, x], argTypes := #[t, t] }) (hty : o.type = t)
    (e : TypeId) (i : TypeInfo) (size : Nat) (h1 : P.underlying t = some (.slice e)) (h2 : P.info? e = some i) (h4 : i.size = size)
    (g p m : Nat) (hs : a.eval s = .slice (some ⟨g, 0, none⟩) p m) (b : Nat) (news : List Value) (hx : a.eval x = .slice (some ⟨b, 0, none⟩) 1 1) (cur : Array Value) (hgo : w.heap[g]? = some (.cells cur e (0, 0))) (hcs : cur.size = m * size) (hp : p < m) (hbo : w.heap[b]? = some (.cells news.toArray e (0, 0))) (hl : news.length = size) (hone : ∀ u ∈ news, u.oneCell' = true)
    (hK : ∀ cur', cur'.size = m * size → K (a.put o.dst (.slice (some ⟨g, 0, none⟩) (p + 1) m)) (w.setRow g cur')) :
    if Region.wanted o (yielded ops a.tmps) = true then Oper.wp P o a w K Q else E := by
  have hw : Region.wanted o (yielded ops a.tmps) = true := by simp [Region.wanted, hg]
  rw [if_pos hw]
  obtain ⟨cur', hrun, r2, _⟩ := room_run (P := P) (w := w) t e i size h1 h2 h4 g p m cur hgo hcs hp b news hbo hl hone
  unfold Oper.wp
  simp [execOp, hop, resolve, invoke, builtin, hs, hx, hty, hrun, Result.andThen]
  exact hK cur' r2
/-- A dictionary in memory: its texts; what their entries hold is left open. -/
structure DI (w0 : World) (db mb rb m : Nat) (ts : List ByteArray) (V : World) : Prop where
  d : V.heap[db]? = some (.cells #[.map (some mb), .slice (some ⟨rb, 0, none⟩) ts.length m] 160 (0, 0))
  r : ∃ cur, V.heap[rb]? = some (.cells cur 156 (0, 0)) ∧ cur.size = m * 8
  mm : ∃ D, V.ownsMap Tryz.prog 31 (plainElem Tryz.prog 3) mb ts.length D ∧ PlOk D ts
  bl : Below w0.heap.size w0 V
  ge : w0.heap.size ≤ db ∧ w0.heap.size ≤ mb ∧ w0.heap.size ≤ rb
theorem DI.below {w0 V V' : World} {db mb rb m : Nat} {ts : List ByteArray} (h : DI w0 db mb rb m ts V) (hb : Below V.heap.size V V') : DI w0 db mb rb m ts V' := by
  have hs := Sv.below hb
  obtain ⟨cur, c1, c2⟩ := h.r
  obtain ⟨D, m1, m2⟩ := h.mm
  exact ⟨hs.all _ _ (by simp) h.d, ⟨cur, hs.all _ _ (by simp) c1, c2⟩, ⟨D, hs.map m1 (by simp), m2⟩, h.bl.trans (hb.mono h.bl.size), h.ge⟩
theorem DI.ne {w0 V : World} {db mb rb m : Nat} {ts : List ByteArray} (h : DI w0 db mb rb m ts V) : db ≠ mb ∧ db ≠ rb ∧ mb ≠ rb := by
  obtain ⟨cur, c1, c2⟩ := h.r
  obtain ⟨D, ⟨es, cl, m1, _⟩, _⟩ := h.mm
  have d := h.d
  refine ⟨fun e => ?_, fun e => ?_, fun e => ?_⟩
  · subst e; rw [d] at m1; cases m1
  · subst e; rw [d] at c1; cases c1
  · subst e; rw [c1] at m1; cases m1
/-- The cells of an entry. -/
def eC (s : ByteArray) (f : Int) : List Value := [.string s, .int .i64 0, .int .i64 f] ++ zslot
theorem e_cells {W : World} {b : Nat} {s : ByteArray} {f : Int} (h : W.heap[b]? = some (.cells (eC s f).toArray 156 (0, 0))) : W.cell? ⟨b, 0, none⟩ = some (.string s) ∧ W.cell? ⟨b, 1, none⟩ = some (.int .i64 0) ∧ W.cell? ⟨b, 2, none⟩ = some (.int .i64 f) ∧ W.cell? ⟨b, 3, none⟩ = some (.int .i64 0) ∧ W.cell? ⟨b, 4, none⟩ = some (.float .f64 0) ∧ W.cell? ⟨b, 5, none⟩ = some (.string ⟨#[]⟩) ∧ W.cell? ⟨b, 6, none⟩ = some (.int .i64 0) ∧ W.cell? ⟨b, 7, none⟩ = some (.pointer none) := by
  unfold eC zslot zv at h
  refine ⟨?_, ?_, ?_, ?_, ?_, ?_, ?_, ?_⟩ <;> simp [World.cell?, h]
set_option maxHeartbeats 4000000 in
set_option maxRecDepth 100000 in
theorem lay_any (w0 : World) (db mb rb m : Nat) (ts : List ByteArray) (s : ByteArray) (f : Int) (V : World) (h : DI w0 db mb rb m ts V) (hl : ts.length < m) (hm : m < 1000) (hs : s.size ≤ maxLen) (hz : ∀ t ∈ ts, t.size ≤ maxLen) (hno : s ∉ ts) :
    Calls Tryz.prog 85 #[.pointer (some ⟨db, 0, none⟩), .agg (eC s f).toArray] V fun e V' => e = .returned (.tuple #[]) ∧ DI w0 db mb rb m (ts ++ [s]) V' ∧ Sv [db, mb, rb] V V' := by
  obtain ⟨i0, hif, hz0, hz1, hz2⟩ := sh_parts hp_infoE
  obtain ⟨W1, hW1⟩ : ∃ W1, V.alloc (.cells (eC s f).toArray 156) = W1 := ⟨_, rfl⟩
  have b1 : Below V.heap.size V W1 := by rw [← hW1]; exact (Below.refl _ _).alloc (Nat.le_refl _) _
  have q1 : W1.heap[V.heap.size]? = some (.cells (eC s f).toArray 156 (0, 0)) := by rw [← hW1]; exact World.alloc_heap_new _ _
  obtain ⟨x0, hx0⟩ : ∃ x, V.heap.size = x := ⟨_, rfl⟩
  rw [hx0] at q1
  have h1 := h.below b1
  obtain ⟨n1, n2, n3⟩ := h1.ne
  obtain ⟨cur, c1, c2⟩ := h1.r
  obtain ⟨D, m1, m2⟩ := h1.mm
  have hxl : db < x0 ∧ mb < x0 ∧ rb < x0 := by
    obtain ⟨cur', c1', _⟩ := h.r
    obtain ⟨D', m1', _⟩ := h.mm
    exact ⟨by rw [← hx0]; exact (Array.getElem?_eq_some_iff.1 h.d).1, by rw [← hx0]; exact m1'.lt, by rw [← hx0]; exact (Array.getElem?_eq_some_iff.1 c1').1⟩
  have m3 : W1.drew.ownsMap Tryz.prog 31 (plainElem Tryz.prog 3) mb ts.length D := m1
  obtain ⟨w4, hupd, m4, t4⟩ := m3.store keyLaw Tryz.underlying157 (by unfold maxLen; omega) (key_mk s hs) (plainElem_int Tryz.underlying3 (a := (ts.length : Int)) (by simp [Lit.wf, IntKind.min, IntKind.max, IntKind.bits, IntKind.signed]; omega))
  have gt := t4.grown
  have S4 : Sv [mb] W1 w4 := ⟨gt.size, (Sv.grown gt).all⟩
  have d4 := S4.all db _ (by simpa using n1) h1.d
  have r4 := S4.all rb _ (by simpa using fun e : rb = mb => n3 e.symm) c1
  have p4 := S4.all x0 _ (by simp; omega) q1
  obtain ⟨y0, y1, _⟩ := e_cells q1
  obtain ⟨z0, z1, z2, z3, z4, z5, z6, z7⟩ := e_cells p4
  obtain ⟨_, _, k0, k1⟩ := pair_facts h1.d
  obtain ⟨_, f1, _, j1⟩ := pair_facts d4
  obtain ⟨X, hX⟩ : ∃ X, (w4.alloc (.cells #[.string s, .int .i64 0, .int .i64 f, .int .i64 0, .float .f64 0, .string ⟨#[]⟩, .int .i64 0, .pointer none] 156)).drew = X := ⟨_, rfl⟩
  have bX : Below w4.heap.size w4 X := by rw [← hX]; exact ((Below.refl _ _).alloc (Nat.le_refl _) _).drew
  have dX := (bX.block db (Array.getElem?_eq_some_iff.1 d4).1).trans d4
  have rX := (bX.block rb (Array.getElem?_eq_some_iff.1 r4).1).trans r4
  have eX : X.heap[w4.heap.size]? = some (.cells #[.string s, .int .i64 0, .int .i64 f, .int .i64 0, .float .f64 0, .string ⟨#[]⟩, .int .i64 0, .pointer none] 156 (0, 0)) := by rw [← hX]; exact World.alloc_heap_new _ _
  have l1 := al_cell (.cells #[.string s, .int .i64 0, .int .i64 f, .int .i64 0, .float .f64 0, .string ⟨#[]⟩, .int .i64 0, .pointer none] 156) j1
  have HR : Hid (∀ cur', (X.setRow rb cur').cell? ⟨db, 1, none⟩ = some (.slice (some ⟨rb, 0, none⟩) ts.length m) ∧ (X.setRow rb cur').frozen? ⟨db, 1, none⟩ = false) := Hid.mk' (fun cur' => by
    obtain ⟨_, a1, _, a2⟩ := pair_facts ((setRow_sv rb cur').all db _ (by simpa using n2) dX)
    exact ⟨a2, a1⟩)
  have HEND : Hid (∀ cur', cur'.size = m * 8 → DI w0 db mb rb m (ts ++ [s]) ((X.setRow rb cur').setCell ⟨db, 1, none⟩ (.slice (some ⟨rb, 0, none⟩) (ts.length + 1) m)) ∧ Sv [db, mb, rb] V ((X.setRow rb cur').setCell ⟨db, 1, none⟩ (.slice (some ⟨rb, 0, none⟩) (ts.length + 1) m))) := Hid.mk' (fun cur' hc' => by
    have s1 := setRow_sv (w := X) rb cur'
    have s2 := Sv.set (X.setRow rb cur') db 1 (.slice (some ⟨rb, 0, none⟩) (ts.length + 1) m)
    have sA : Sv [db, mb, rb] V ((X.setRow rb cur').setCell ⟨db, 1, none⟩ (.slice (some ⟨rb, 0, none⟩) (ts.length + 1) m)) := ((((Sv.of_below b1).trans' (S4.mono (by simp))).trans' (Sv.of_below bX)).trans' (s1.mono (by simp))).trans' (s2.mono (by simp))
    have mX : X.ownsMap Tryz.prog 31 (plainElem Tryz.prog 3) mb (ts.length + 1) _ := (Sv.below bX).map m4 (by simp)
    have mY := (s1.map mX (by simpa using n3))
    refine ⟨⟨?_, ⟨cur', s2.all rb _ (by simpa using fun e : rb = db => n2 e.symm) (setRow_at rX), hc'⟩, ⟨_, ?_, m2.put s hs hz hno⟩, ?_, h.ge⟩, sA⟩
    · rw [List.length_append]
      have := set_blk2' (j := 1) (v := .slice (some ⟨rb, 0, none⟩) (ts.length + 1) m) (s1.all db _ (by simpa using n2) dX)
      simpa using this
    · rw [List.length_append]
      exact s2.map mY (by simpa using fun e : mb = db => n1 e.symm)
    · refine h.bl.trans ⟨?_, ?_, ?_, sA.size, fun k hk => ?_⟩
      · exact (bX.os.trans gt.os).trans b1.os
      · exact (bX.tape.trans gt.tape).trans b1.tape
      · exact (bX.output.trans gt.output).trans b1.output
      · have hlt : k < V.heap.size := Nat.lt_of_lt_of_le hk h.bl.size
        have := sA.all k _ (by have := h.ge; simp; omega) (Array.getElem?_eq_getElem hlt)
        rw [this, Array.getElem?_eq_getElem hlt])
  have HH1 := Hid.mk' hW1
  have HRX := Hid.mk' rX
  have HEX := Hid.mk' eX
  have HHX := Hid.mk' hX
  have HC2 := Hid.mk' c2
  have HPM : Hid (ts.length < m) := Hid.mk' hl
  have hst := st_float
  generalize ts.length = p at *
  clear h h1 b1 q1 m1 m2 m3 m4 t4 gt S4 d4 r4 p4 c1 c2 bX dX rX eX hW1 hX hz hno n1 n2 n3 hxl hl
  unfold eC zslot zv at HH1 ⊢
  simp only [List.cons_append, List.nil_append] at HH1 ⊢
  go_enter Tryz.func85, Tryz.ntmps85
  go_upto_region 1 with fail
  rw [HH1.out]
  go_region
  clear hupd k0 k1 y0 y1
  go_wp2_with fail
  go_region_law (refine step_room rfl (.tmp 19) (.tmp 21) 158 rfl rfl 156 i0 8 Tryz.underlying158 hif hz1 rb p m rfl w4.heap.size [.string s, .int .i64 0, .int .i64 f, .int .i64 0, .float .f64 0, .string ⟨#[]⟩, .int .i64 0, .pointer none] rfl cur (by rw [HHX.out]; exact HRX.out) HC2.out HPM.out (by rw [HHX.out]; exact HEX.out) rfl (by simp [Value.oneCell']) ?_; intro cur' hc'; obtain ⟨e5, g5⟩ := HR.out cur'; rw [← HHX.out] at e5 g5; have HCC := Hid.mk' hc'; clear hc')
  all_goals
    go_wp2
    go_end0
    have hh := HEND.out cur' HCC.out
    rw [← HHX.out] at hh
    exact ⟨rfl, hh⟩
end Go.Proofs.YtmgngbhkgmkggaaGreatDoor

namespace Go.Proofs.YtmgngbhkgmkggaaGreatDoor
set_option linter.unusedVariables false
set_option linter.unusedSimpArgs false
open Go.RowKit Go.Maps Go.ChangeShapes

theorem sv_set {rb j : Nat} {v : Value} {W X : World} (h : Sv [rb] W X) : Sv [rb] W (X.setCell ⟨rb, j, none⟩ v) := h.trans' (Sv.set X rb j v)
theorem sv_drew {X : List Nat} {W V : World} (h : Sv X W V) : Sv X W V.drew := ⟨h.size, h.all⟩
theorem sv_cells {rb : Nat} {W : World} : ∀ (vs : List Value) (o : Nat) (X : World), Sv [rb] W X → Sv [rb] W (X.setCells rb o vs)
  | [], _, X, h => h
  | v :: r, o, X, h => sv_cells r (o + 1) _ (sv_set h)
theorem bl_cells {rb B : Nat} {W : World} : ∀ (vs : List Value) (o : Nat) (X : World), B ≤ rb → Below B W X → Below B W (X.setCells rb o vs)
  | [], _, X, _, h => h
  | v :: r, o, X, hb, h => bl_cells r (o + 1) _ hb (h.setCell (p := ⟨rb, o, none⟩) hb _)
theorem put_none' {K : Act → World → Prop} {Q : Exit → Act → World → Prop} {a : Act} {d : Option Tmp} {v : Value} {w : World} (hd : d = none) (h : Exit.then K Q .normal a w) : Exit.then K Q .normal (a.put d v) w := by subst hd; exact h
theorem in_store_mid {F : Fence} {n : Nat} {P : Program} {op : Oper} {a : Act} {w : World} {K : Act → World → Prop} {Q : Exit → Act → World → Prop} (ty : TypeId) (x y : Operand) (ho : op.op = .store ty x y)
    (b o : Nat) (cells : Array Value) (hx : a.eval x = .pointer (some ⟨b, o, none⟩)) (hy : a.eval y = .agg cells) (ht : w.there b o cells.size) (hi : (P.info? ty).map (·.size) = some cells.size) (h1 : cells.all (·.oneCell') = true)
    (h : K (a.put op.dst undef) (w.setCells b o cells.toList)) : op.wpIn F n P a w K Q := by
  unfold Oper.wpIn
  refine ⟨by simp [Oper.about, ho], ?_⟩
  rw [Oper.semAt_eq _ _ _ (by rw [ho]; intro c hc; cases hc)]
  unfold execOp
  simp only [ho, hx, hy, Instr.storeAt, Instr.sureAddr, Sem.run_bind, Sem.run_pure, Result.andThen_ok, run_storeVar_mid w b o ty cells ht hi h1]
  exact h
/-- delete, as one step of a region that draws its order. -/
theorem step_del {P : Program} {ops : Array Oper} {o : Oper} {a : Act} {w w' : World} {K : Act → World → Prop} {Q : Exit → Act → World → Prop} {E : Prop}
    (hg : o.guard = none) (m x : Operand) (t k : TypeId) (hop : o.op = Op.call { callee := Callee.builtin Builtin.delete, args := #[m, x], argTypes := #[t, k] }) (ty : TypeId) (hty : o.type = ty) (vm vx : Value) (hm : a.eval m = vm) (hx : a.eval x = vx)
    (hr : (Builtin.delete_ #[t, k] ty #[vm, vx]).run P w = .ok (.tuple #[]) w') (hK : K (a.put o.dst (.tuple #[])) w') :
    if Region.wanted o (yielded ops a.tmps) = true then Oper.wp P o a w K Q else E := by
  have hw : Region.wanted o (yielded ops a.tmps) = true := by simp [Region.wanted, hg]
  rw [if_pos hw]
  unfold Oper.wp
  simp [execOp, hop, resolve, invoke, builtin, hm, hx, hty, hr, Result.andThen]
  exact hK
set_option maxHeartbeats 4000000 in
set_option maxRecDepth 100000 in
theorem drop_first (w0 : World) (db mb rb m : Nat) (ts : List ByteArray) (s : ByteArray) (V : World) (h : DI w0 db mb rb m ts V) (h0 : ts[0]? = some s) (hl : ts.length ≤ 16) (hm : 0 < m) (hs : s.size ≤ maxLen) :
    Calls Tryz.prog 58 #[.pointer (some ⟨db, 0, none⟩), .agg #[.string s, .int .i64 0]] V fun e V' => e = .returned (.tuple #[]) ∧ Below w0.heap.size w0 V' := by
  obtain ⟨W1, hW1⟩ : ∃ W1, V.alloc (.cells #[.string s, .int .i64 0] 31) = W1 := ⟨_, rfl⟩
  have b1 : Below V.heap.size V W1 := by rw [← hW1]; exact (Below.refl _ _).alloc (Nat.le_refl _) _
  have q1 : W1.heap[V.heap.size]? = some (.cells #[.string s, .int .i64 0] 31 (0, 0)) := by rw [← hW1]; exact World.alloc_heap_new _ _
  obtain ⟨x0, hx0⟩ : ∃ x, V.heap.size = x := ⟨_, rfl⟩
  rw [hx0] at q1
  have h1 := h.below b1
  obtain ⟨n1, n2, n3⟩ := h1.ne
  obtain ⟨cur, c1, c2⟩ := h1.r
  obtain ⟨D, m1, m2⟩ := h1.mm
  have hxr : x0 ≠ rb := fun e => by rw [e, c1] at q1; cases q1
  have hxd : x0 ≠ mb := fun e => by
    obtain ⟨es, cl, mp, _⟩ := m1
    rw [e, mp] at q1
    cases q1
  have m3 : ∀ nq, (W1.drewN nq).ownsMap Tryz.prog 31 (plainElem Tryz.prog 3) mb ts.length D := fun _ => m1
  obtain ⟨k, hlook0, hat, _⟩ := (m3 0).lookup_int (q := .i64) keyLaw Tryz.underlying157 Tryz.underlying3 (zero64 _) (key_mk s hs)
  have hk0 : k = 0 := by
    have := (m2.yes 0 s h0).2
    rw [this] at hat
    simpa using hat.symm
  subst hk0
  have hlook : ∀ nq, (Instr.lookup 157 (.map (some mb)) (.agg #[.string s, .int .i64 0]) false).run Tryz.prog (W1.drewN nq) = .ok (.int .i64 0) (W1.drewN nq) := fun nq => by
    obtain ⟨k, hl2, hat2, _⟩ := (m3 nq).lookup_int (q := .i64) keyLaw Tryz.underlying157 Tryz.underlying3 (zero64 _) (key_mk s hs)
    have hk0 : k = 0 := by
      have := (m2.yes 0 s h0).2
      rw [this] at hat2
      simpa using hat2.symm
    subst hk0
    exact hl2
  clear hlook0
  have HTH : Hid (∀ nq, (W1.drewN nq).there rb 0 8) := Hid.mk' (fun nq j hj => by
    show (W1.cell? ⟨rb, 0 + j, none⟩).isSome = true ∧ W1.frozen? ⟨rb, 0 + j, none⟩ = false
    refine ⟨?_, by simp [World.frozen?, c1]⟩
    simp only [World.cell?, c1]
    simp
    omega)
  obtain ⟨_, _, k0, k1⟩ := pair_facts q1
  obtain ⟨_, _, d0, d1⟩ := pair_facts h1.d
  have HQ1 := Hid.mk' q1
  have HM1 := Hid.mk' m1
  have HD1 := Hid.mk' h1.d
  have HBL := Hid.mk' h1.bl
  have HGE := Hid.mk' h1.ge
  have HNE := Hid.mk' (And.intro n1 (And.intro n2 (And.intro n3 (And.intro hxr hxd))))
  have HH1 := Hid.mk' hW1
  have HKM := Hid.mk' (key_mk s hs)
  have hst := st_float
  have zn : 0 < ts.length := (List.getElem?_eq_some_iff.1 h0).1
  have zl : ¬ (ts.length : Int) > 16 := by omega
  generalize ts.length = p at *
  clear h h1 b1 q1 m1 m2 m3 c1 c2 hW1 n1 n2 n3 hxr hxd hat
  go_enter Tryz.func58, Tryz.ntmps58
  go_upto_region 1 with fail
  rw [HH1.out]
  go_cut [14] from 5 (fun v14 wc => v14 = .int .i64 0 ∧ Hid (Sv [rb] W1 wc ∧ Below w0.heap.size w0 wc))
  case first =>
    have hmx : Tryz.prog.follows .mixedOrders = true := by kernel_rfl
    refine (wpIn_wide (n := 0)).1 ?_
    refine region_last (L := 12) rfl rfl hmx (by kernel_rfl) (by kernel_rfl) (by kernel_rfl) ?_
    simp only [List.setIfInBounds_toArray, List.set_cons_succ, List.set_cons_zero, mute]
    iterate 13 (quiet_step_in (fail))
    refine wpQuietIn_nil ?_
    rintro Wq ⟨nq, rfl⟩
    refine in_store_mid 156 (.tmp 16) (.tmp 15) rfl rb 0 #[.string ⟨#[]⟩, .int .i64 0, .int .i64 (-1), .int .i64 0, .float .f64 0, .string ⟨#[]⟩, .int .i64 0, .pointer none] rfl rfl (HTH.out nq) (by kernel_rfl) (by simp [Value.oneCell']) ?_
    refine put_none' rfl ?_
    have hs9 : Sv [rb] W1 ((W1.drewN nq).setCells rb 0 [.string ⟨#[]⟩, .int .i64 0, .int .i64 (-1), .int .i64 0, .float .f64 0, .string ⟨#[]⟩, .int .i64 0, .pointer none]) := sv_cells _ _ _ (Sv.of_below (below_drewN (Below.refl _ _) nq))
    have hb9 : Below w0.heap.size w0 ((W1.drewN nq).setCells rb 0 [.string ⟨#[]⟩, .int .i64 0, .int .i64 (-1), .int .i64 0, .float .f64 0, .string ⟨#[]⟩, .int .i64 0, .pointer none]) := bl_cells _ _ _ HGE.out.2.2 (HBL.out.trans ((below_drewN (Below.refl _ _) nq).mono HBL.out.size))
    have HS9 := Hid.mk' hs9
    have HB9 := Hid.mk' hb9
    clear hs9 hb9 hlook k0 k1 d0 d1
    go_wp2_with fail
    go_meet
    exact ⟨rfl, Hid.mk' ⟨HS9.out, HB9.out⟩⟩
  case rest =>
    obtain ⟨rfl, HWC⟩ := hcut
    clear hlook k0 k1 d0 d1
    obtain ⟨hSv, hBw⟩ := HWC.out
    have m5 : wc.drew.ownsMap Tryz.prog 31 (plainElem Tryz.prog 3) mb p D := hSv.map HM1.out (by simpa using HNE.out.2.2.1)
    obtain ⟨w5, hdel, m6, t6⟩ := m5.drop keyLaw Tryz.underlying157 HKM.out 0
    have gt := t6.grown
    obtain ⟨_, _, k0, k1⟩ := pair_facts (hSv.all x0 _ (by simpa using HNE.out.2.2.2.1) HQ1.out)
    have e1 := hSv.all db _ (by simpa using HNE.out.2.1) HD1.out
    obtain ⟨_, _, d0, d1⟩ := pair_facts e1
    have e2 : w5.heap[db]? = some (.cells #[.map (some mb), .slice (some ⟨rb, 0, none⟩) p m] 160 (0, 0)) := (Sv.grown gt).all db _ (by simpa using HNE.out.1) e1
    obtain ⟨_, _, g0, g1⟩ := pair_facts e2
    have HB5 : Hid (Below w0.heap.size w0 w5) := Hid.mk' (hBw.trans ((Below.refl _ _).drew.trans ((Below.refl _ _).grown gt (by have := hBw.size; simpa using this) (fun k hk => by cases hk; exact HGE.out.2.1))))
    clear hSv hBw m5 m6 t6 gt e1 e2
    have HDE := Hid.mk' hdel
    clear hdel
    go_upto_region 2 with fail
    go_region_law (refine step_del rfl (.tmp 20) (.tmp 21) 157 31 rfl 0 rfl _ _ rfl rfl HDE.out ?_)
    all_goals
      clear k0 k1 d0 d1
      go_wp2
      go_end0
      exact ⟨rfl, HB5.out⟩
end Go.Proofs.YtmgngbhkgmkggaaGreatDoor
