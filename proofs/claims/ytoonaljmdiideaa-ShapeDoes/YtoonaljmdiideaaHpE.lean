/- Package shape: Keys of a shape. -/
import Derived.Test.YtoonaljmdiideaaHpD
import Derived.Laws.MakeOwn
import Derived.OwnWalkIn
namespace Go.Proofs.Ytoonaljmdiideaa
set_option linter.unusedVariables false
set_option linter.unusedSimpArgs false
open Go.RowKit Go.Shelf Go.Maps Go.ChangeShapes
attribute [local go_sem] Oper.semAt_some

theorem wpIn_append_eq {F : Fence} {nF : Nat} {P : Program} {w : World} {ops : Array Oper} {rest : List Oper} {o : Oper} {a : Act} {Q : Exit → Act → World → Prop} (hgd : o.guard = none) (s x : Operand) (t : TypeId)
    (ho : o.op = .call { callee := .builtin .append, args := #[s, x], argTypes := #[t, t] }) (ht : o.type = t) (v u v' : Value) (w' : World) (hs : a.eval s = v) (hx : a.eval x = u) (hr : (Builtin.append_ #[t, t] t #[v, u]).run P w = .ok v' w') (hK : wpListIn F nF P ops Q rest (a.put o.dst v') w') :
    wpListIn F nF P ops Q (o :: rest) a w := by
  refine wpListIn_plain hgd fun K hK' => ?_
  unfold Oper.wpIn
  refine ⟨by simp [Oper.about, ho, resolve, Target.leads, Sem.run_pure], ?_⟩
  rw [Oper.semAt_plain F _ _ (by rw [ho]; intro c hc'; cases hc')]
  simp [execOp, ho, resolve, invoke, builtin, hs, hx, ht, hr, Result.andThen]
  exact hK' _ _ hK
/-- A row of cells that an append fills in place: what is put behind the first p elements. -/
theorem room_run {P : Program} {w : World} (t e : TypeId) (i : TypeInfo) (size : Nat) (ht : P.underlying t = some (.slice e)) (hi : P.info? e = some i) (hsz : i.size = size) (g p m : Nat) (cur : Array Value) (hg : w.heap[g]? = some (.cells cur e (0, 0))) (hcs : cur.size = m * size) (hp : p < m) (b : Nat) (news : List Value) (hb : w.heap[b]? = some (.cells news.toArray e (0, 0))) (hl : news.length = size) (h1 : ∀ u ∈ news, u.oneCell' = true) :
    ∃ cur', (Builtin.append_ #[t, t] t #[.slice (some ⟨g, 0, none⟩) p m, .slice (some ⟨b, 0, none⟩) 1 1]).run P w = .ok (.slice (some ⟨g, 0, none⟩) (p + 1) m) (w.setRow g cur') ∧ cur'.size = m * size ∧ cur'.toList.take ((p + 1) * size) = cur.toList.take (p * size) ++ news := by
  have hm : (p + 1) * size ≤ m * size := Nat.mul_le_mul_right _ hp
  have he : (p + 1) * size = p * size + size := by rw [Nat.add_mul, Nat.one_mul]
  refine ⟨_, run_append_room (w := w) t t e i ht hi g p m cur hg ⟨b, 0, none⟩ 1 1 news (by rw [hl, hsz, Nat.one_mul]) (fun j u hj => ?_) h1 (by omega) (by rw [hsz, hl, hcs]; omega), ?_, ?_⟩
  · rw [Addr.add_lit]
    simp only [Nat.zero_add]
    rw [cell_of_row _ _ _ _ _ _ hb]
    simpa using hj
  · rw [hsz, hl]
    simp only [List.size_toArray, List.length_append, List.length_take, List.length_drop, Array.length_toList, hcs, hl]
    omega
  · rw [hsz, hl, he]
    have hlen : (cur.toList.take (p * size) ++ news).length = p * size + size := by
      rw [List.length_append, List.length_take, Array.length_toList, hcs, hl]; omega
    simp only [List.toList_toArray]
    rw [← hlen, List.take_left']
    rfl
theorem setRow_sv {w : World} (g : Nat) (c : Array Value) : Sv [g] w (w.setRow g c) := ⟨by simp [World.setRow], fun k o hk ho => by
  have hne : k ≠ g := by simpa using hk
  have hne2 : ¬ g = k := fun e => hne e.symm
  simp [World.setRow, Array.getElem?_modify, hne2, ho]⟩
theorem setRow_at {w : World} {g : Nat} {c cur : Array Value} {e : TypeId} {fz : Nat × Nat} (h : w.heap[g]? = some (.cells cur e fz)) : (w.setRow g c).heap[g]? = some (.cells c e fz) := by
  simp [World.setRow, Array.getElem?_modify, h]
theorem hp_kC_len (l : List Kb) : (kC l).length = l.length * 2 := by
  induction l with
  | nil => rfl
  | cons a r ih => simp only [kC, List.flatMap_cons, List.length_append, List.length_cons, List.length_nil] at ih ⊢; omega
/-- What Keys holds behind some rounds. -/
structure KI (w : World) (rb ob m : Nat) (pre : List (Kb × Int)) (V : World) : Prop where
  row : ∃ cur, V.heap[rb]? = some (.cells cur 31 (0, 0)) ∧ cur.size = m * 2 ∧ cur.toList.take (pre.length * 2) = kC (pre.map (·.1))
  box : V.heap[ob]? = some (.cells #[.slice (some ⟨rb, 0, none⟩) pre.length m] 66 (0, 0))
  bl : Below w.heap.size w V
theorem KI.own {w : World} {rb ob m B' : Nat} (h1 : rb < B') (h2 : ob < B') (h3 : w.heap.size ≤ B') : OwnFrom B' (KI w rb ob m) := by
  intro pre A A' row h hg hr
  have keep : ∀ (k : Nat) (o : Obj), k < B' → A.heap[k]? = some o → A'.heap[k]? = some o := fun k o hk ho => (hg.block k (Array.getElem?_eq_some_iff.1 ho).1 (fun e => by have := (hr k e.symm).1; omega)).trans ho
  obtain ⟨cur, c1, c2, c3⟩ := h.row
  exact ⟨⟨cur, keep _ _ h1 c1, c2, c3⟩, keep _ _ h2 h.box, h.bl.trans ((Below.refl _ _).grown hg h.bl.size (fun k hk => by have := (hr k hk).1; omega))⟩
theorem KI.step {w : World} {rb ob m : Nat} {pre : List (Kb × Int)} {x : Kb × Int} {V : World} (h : KI w rb ob m pre V) (hl : pre.length < m) (hne : rb ≠ ob) (hw : w.heap.size ≤ rb ∧ w.heap.size ≤ ob) :
    ∃ cur', (Builtin.append_ #[66, 66] 66 #[.slice (some ⟨rb, 0, none⟩) pre.length m, .slice (some ⟨V.heap.size, 0, none⟩) 1 1]).run Try.prog (V.alloc (.cells #[.string x.1.1, .int .i64 x.1.2] 31)) = .ok (.slice (some ⟨rb, 0, none⟩) (pre.length + 1) m) ((V.alloc (.cells #[.string x.1.1, .int .i64 x.1.2] 31)).setRow rb cur') ∧
      KI w rb ob m (pre ++ [x]) (((V.alloc (.cells #[.string x.1.1, .int .i64 x.1.2] 31)).setRow rb cur').setCell ⟨ob, 0, none⟩ (.slice (some ⟨rb, 0, none⟩) (pre.length + 1) m)) ∧
      Sv [rb, ob] V (((V.alloc (.cells #[.string x.1.1, .int .i64 x.1.2] 31)).setRow rb cur').setCell ⟨ob, 0, none⟩ (.slice (some ⟨rb, 0, none⟩) (pre.length + 1) m)) ∧
      ((V.alloc (.cells #[.string x.1.1, .int .i64 x.1.2] 31)).setRow rb cur').cell? ⟨ob, 0, none⟩ = some (.slice (some ⟨rb, 0, none⟩) pre.length m) ∧ ((V.alloc (.cells #[.string x.1.1, .int .i64 x.1.2] 31)).setRow rb cur').frozen? ⟨ob, 0, none⟩ = false := by
  obtain ⟨cur, c1, c2, c3⟩ := h.row
  obtain ⟨ik, hik, hk0, hk1, hk2⟩ := sh_parts sh_infoK
  obtain ⟨V1, hV1⟩ : ∃ V1, V.alloc (.cells #[.string x.1.1, .int .i64 x.1.2] 31) = V1 := ⟨_, rfl⟩
  have b1 : Below V.heap.size V V1 := by rw [← hV1]; exact (Below.refl _ _).alloc (Nat.le_refl _) _
  have q1 : V1.heap[V.heap.size]? = some (.cells #[.string x.1.1, .int .i64 x.1.2] 31 (0, 0)) := by rw [← hV1]; exact World.alloc_heap_new _ _
  have d1 := (b1.block rb (Array.getElem?_eq_some_iff.1 c1).1).trans c1
  have d2 := (b1.block ob (Array.getElem?_eq_some_iff.1 h.box).1).trans h.box
  obtain ⟨cur', r1, r2, r3⟩ := room_run (P := Try.prog) (w := V1) 66 31 ik 2 Try.underlying66 hik hk1 rb pre.length m cur d1 c2 hl V.heap.size [.string x.1.1, .int .i64 x.1.2] q1 rfl (by simp [Value.oneCell'])
  rw [hV1]
  have d3 := setRow_at (c := cur') d1
  have s1 := setRow_sv (w := V1) rb cur'
  have d4 := s1.all ob _ (by simpa using fun e : ob = rb => hne e.symm) d2
  have s2 := Sv.set (V1.setRow rb cur') ob 0 (.slice (some ⟨rb, 0, none⟩) (pre.length + 1) m)
  have d5 := s2.all rb _ (by simpa using hne) d3
  have d6 := set_blk2' (j := 0) (v := .slice (some ⟨rb, 0, none⟩) (pre.length + 1) m) d4
  refine ⟨cur', r1, ⟨⟨cur', d5, r2, ?_⟩, ?_, ?_⟩, ?_, ?_, ?_⟩
  · rw [List.length_append, List.map_append, kC_append]
    show cur'.toList.take ((pre.length + 1) * 2) = _
    rw [r3, c3]
    rfl
  · rw [List.length_append]
    simpa using d6
  · refine h.bl.trans ?_
    have e1 : Below w.heap.size V V1 := b1.mono h.bl.size
    have e2 : Below w.heap.size V1 (V1.setRow rb cur') := ⟨rfl, rfl, rfl, by simp [World.setRow], fun k hk => by
      have : rb ≠ k := by omega
      simp [World.setRow, Array.getElem?_modify, this]⟩
    exact (e1.trans e2).setCell (p := ⟨ob, 0, none⟩) hw.2 _
  · exact ((Sv.of_below b1).trans' (s1.mono (by simp))).trans' (s2.mono (by simp))
  · simp [World.cell?, d4]
  · simp [World.frozen?, d4]
section
variable {C : List (Nat × Obj)} {B g : Nat} {ks : List Kb} {ln : List Int} {fs : List (List Int)} {ws : List ((Int × Int × Int) × Int)} {w w' : World}
set_option maxHeartbeats 4000000 in
set_option maxRecDepth 100000 in
theorem tt_keys (i m : Nat) (L : List (Kb × Int)) (w : World) (h : TT B g ks ln fs ws C w) (hi : i < fs.length) (hL : tells ks ln (fs.getD i []) L) (hm : L.length = m) (hll : m < 1000) (hll2 : ks.length < 100000) :
    Calls Try.prog 36 #[.pointer (some ⟨g, 0, none⟩), .int .i64 (i : Nat)] w fun e w' => ∃ v, e = .returned (.tuple #[v, .int .i64 0]) ∧ w'.ownsRow w.heap.size 31 2 v m (kC (L.map (·.1))) ∧ Below w.heap.size w w' := by
  obtain ⟨mn, mw, lb, vk, vs, vl, fv, Dn, Dw, h1, h2, h3, h4, h5⟩ := h
  have hfi : i < fv.length := by omega
  obtain ⟨c0, c1, c2, c3, c4, cf, l0, lf⟩ := h1.cells
  obtain ⟨gs, sc, hvs, hsc, d0, d1⟩ := h1.sat i hfi
  obtain ⟨fa, fc, hfv, _⟩ := own_slice' (h1.f i hfi)
  have hmf : (fs.getD i []).length = m := by have := hL.1; omega
  rw [hmf] at hfv
  rw [hfv] at d1
  obtain ⟨nn, hnn⟩ : ∃ nn, fv.length = nn := ⟨_, rfl⟩
  rw [hvs, hnn] at c3
  rw [hnn] at hsc
  have HHA := Hid.mk' (has_in g (i : Int) _ nn sc w c0 c3 (by omega) (by omega))
  have i1 : (i : Int) < (nn : Int) := by omega
  obtain ⟨ik, hik, hk0, hk1, hk2⟩ := sh_parts sh_infoK
  have mk1 : ∀ W : World, (Instr.makeSlice 66 (.int .i64 0) (.int .i64 (m : Int))).run Try.prog W = .ok (.slice (some ⟨W.heap.size, 0, none⟩) 0 m) (W.alloc (.cells (madeCells #[.string ⟨#[]⟩, .int .i64 0] (m * 2)) 31)) := fun W => by
    have hh := run_make (P := Try.prog) (w := W) 66 31 ik (.agg #[.string ⟨#[]⟩, .int .i64 0]) Try.underlying66 hik hk0 .i64 .i64 0 (m : Int) (by omega) (by omega) (by rw [hk2]; omega) (by omega)
    simp only [Int.toNat_natCast, Int.toNat_zero, hk1] at hh
    exact hh
  obtain ⟨A1, hA1⟩ : ∃ A, madeCells #[.string ⟨#[]⟩, .int .i64 0] (m * 2) = A := ⟨_, rfl⟩
  rw [hA1] at mk1
  have hA2 : A1.size = m * 2 := by rw [← hA1]; exact size_madeCells _ _
  obtain ⟨W3, hW3⟩ : ∃ W3, (w.alloc (.cells A1 31)).alloc (.cells #[.slice (some ⟨w.heap.size, 0, none⟩) 0 m] 66) = W3 := ⟨_, rfl⟩
  obtain ⟨W4, hW4⟩ : ∃ W4, (W3.alloc (.cells #[.pointer (some ⟨g, 0, none⟩)] 25)).alloc (.cells #[.int .i64 (i : Nat)] 3) = W4 := ⟨_, rfl⟩
  have s3 : W3.heap.size = w.heap.size + 2 := by rw [← hW3]; simp
  have b3 : Below w.heap.size w W3 := by rw [← hW3]; exact ((Below.refl _ _).alloc (Nat.le_refl _) _).alloc (by simp) _
  have b4 : Below W3.heap.size W3 W4 := by rw [← hW4]; exact ((Below.refl _ _).alloc (Nat.le_refl _) _).alloc (by simp) _
  have q1 : W3.heap[w.heap.size]? = some (.cells A1 31 (0, 0)) := by rw [← hW3]; exact sh_old (by simp) (sh_new rfl)
  have q2 : W3.heap[w.heap.size + 1]? = some (.cells #[.slice (some ⟨w.heap.size, 0, none⟩) 0 m] 66 (0, 0)) := by rw [← hW3]; exact sh_new (by simp)
  have p1 := (b4.block _ (by omega)).trans q1
  have p2 := (b4.block _ (by omega)).trans q2
  have p3 : W4.heap[w.heap.size + 2]? = some (.cells #[.pointer (some ⟨g, 0, none⟩)] 25 (0, 0)) := by rw [← hW4]; exact sh_old (by simp [s3]) (sh_new s3)
  have p4 : W4.heap[w.heap.size + 3]? = some (.cells #[.int .i64 (i : Nat)] 3 (0, 0)) := by rw [← hW4]; exact sh_new (by simp [s3])
  have s4 : W4.heap.size = w.heap.size + 4 := by rw [← hW4]; simp [s3]
  have B4 : Below w.heap.size w W4 := b3.trans (b4.mono b3.size)
  have hT4 := h1.below B4
  obtain ⟨l1, l2, l3, l4, l5, l6, l7⟩ := h1.lts
  have hX : Aside [w.heap.size, w.heap.size + 1] g mn mw lb vk vs vl fv := fun b hb => by
    have hb2 : w.heap.size ≤ b := by simp at hb; omega
    refine ⟨by omega, by omega, by omega, by omega, fun e => ?_, fun e => ?_, fun e => ?_, fun j hj e => ?_⟩
    · have := l5 _ e.symm; omega
    · have := l6 _ e.symm; omega
    · have := l7 _ e.symm; omega
    · have := ((h1.f j hj).lt _ e.symm).2; omega
  have HSEQ : ∀ n, SeqX n Try.prog 53 #[.pointer (some ⟨w.heap.size + 2, 0, none⟩), .pointer (some ⟨w.heap.size + 2 + 1, 0, none⟩)] encK [w.heap.size, w.heap.size + 1] (fun xs => xs = L) (fun pre => pre <+: L) (fun l => l <+: L) W4 := fun n =>
    each_stops n (w.heap.size + 2) (w.heap.size + 2 + 1) i _ L W4 hT4 hX (fun b hb => by simp at hb; omega) hfi (h5 _ (List.getElem_mem _)) hL (by omega) hll2 (by simp [World.cell?, p3]) (by simp [World.cell?, p4])
  have HI0 : KI w w.heap.size (w.heap.size + 1) m [] W4 := ⟨⟨A1, p1, hA2, by simp [kC]⟩, p2, B4⟩
  have HSQ := Hid.mk' HSEQ
  have HI1 := Hid.mk' HI0
  have HH3 := Hid.mk' hW3
  have HS3 := Hid.mk' s3
  have HS4 := Hid.mk' s4
  have HLM := Hid.mk' hm
  have HEA := Hid.mk' (each_any g i W3)
  rw [hW4, s3] at HEA
  clear HSEQ HI0 hX hT4 B4 p1 p2 p3 p4 q1 q2 b3 b4 s3 s4 l1 l2 l3 l4 l5 l6 l7 c1 c2 c4 cf l0 lf h1 h2 h3 h4 h5 hL hA1 hfv hvs hW3 hW4 hmf hm
  obtain ⟨b0, hb0⟩ : ∃ b0, w.heap.size = b0 := ⟨_, rfl⟩
  rw [hb0] at HSQ HI1 HH3 HS3 HS4 HEA
  refine (callsIn_wide (n := 8)).1 ?_
  refine callsIn_of_wp_marks Try.func36 rfl trivial ?_ rfl
  refine wpIn_wide.2 ?_
  simp only [Try.ntmps36, List.size_toArray, List.length_cons, List.length_nil, Nat.reduceAdd, Nat.reduceSub, Array.replicate_succ, Array.replicate_zero, List.push_toArray, List.append_toArray, List.nil_append, List.cons_append]
  go_wp2_with (go_at_call 46; refine HHA.out.mono ?_; rintro e w1 ⟨rfl, hw1⟩; rw [hw1]; clear hw1 w1)
  rw [HH3.out]
  refine HEA.out.mono ?_
  rintro e w4 ⟨rfl, hw4⟩
  rw [hw4]
  clear hw4 c0 c3 d0 d1 mk1
  go_wp2_with fail
  refine (wpIn_wide (n := 8)).1 ?_
  refine range_x (α := Kb × Int) (by omega) (gf := 53) (lb := #[.pointer (some ⟨b0 + 2, 0, none⟩), .pointer (some ⟨b0 + 2 + 1, 0, none⟩)]) rfl (enters_of Try.func53 (by kernel_rfl) rfl)
    (HSQ.out (8 - 1)) (fun b hb => by have := HS4.out; simp at hb; omega) (Below.refl _ _) (fun _ => rfl)
    (KI w b0 (b0 + 1) m) (fun _ _ _ => False) (KI.own (by have := HS4.out; omega) (by have := HS4.out; omega) (by have := HS4.out; omega))
    (fun cd s A C row hs hgr hr => hs) HI1.out ?round1 ?done1 ?stop1
  case round1 =>
    intro l pre y V hV hlt
    obtain ⟨⟨ys, yz⟩, yf⟩ := y
    simp only [encK]
    have HLT : Hid (pre.length < m) := Hid.mk' (by have h1 := hlt.length_le; rw [List.length_append] at h1; have := HLM.out; simp at h1; omega)
    clear hV hlt
    gi_wp2
    refine ⟨(Below.refl _ _).alloc (Nat.le_refl _) _, fun Wb hWb hkeep hsz => ?_⟩
    obtain ⟨_, _, k0, k1⟩ := pair_facts (hkeep _ _ (World.alloc_heap_new _ _) rfl)
    obtain ⟨cur', r1, r2, r3, r4, r5⟩ := hWb.step (x := ((ys, yz), yf)) HLT.out (by omega) ⟨by omega, by omega⟩
    have cb : Wb.cell? ⟨b0 + 1, 0, none⟩ = some (.slice (some ⟨b0, 0, none⟩) pre.length m) := by simp [World.cell?, hWb.box]
    have HR2 := Hid.mk' r2
    have HR3 := Hid.mk' r3
    clear r2 r3 hWb hkeep hsz
    have HR1 := Hid.mk' r1
    clear r1
    gi_wp2_with (gi_at_builtin; refine wpIn_append_eq rfl _ _ 66 rfl rfl _ _ _ _ rfl rfl HR1.out ?_)
    exact ⟨HR3.out, HR2.out⟩
  case stop1 =>
    rintro E cd pre V hE h hx hK
    exact hx.elim
  case done1 =>
    rintro E xs V hE rfl hV hK
    have cb : V.cell? ⟨b0 + 1, 0, none⟩ = some (.slice (some ⟨b0, 0, none⟩) xs.length m) := by simp [World.cell?, hV.box]
    have HV := Hid.mk' hV
    clear hV
    go_wp2
    refine ⟨by simp, .inl ⟨_, _, rfl, run_takeDeferred hK, ?_⟩⟩
    have sE : Sv [E] V (V.putObj E (.deferred none)) := ⟨by simp [World.putObj], fun k o hk ho => (World.putObj_heap_other (by simpa using hk)).trans ho⟩
    obtain ⟨cur, c1, c2, c3⟩ := HV.out.row
    have hEb : b0 + 4 ≤ E := by have := HS4.out; omega
    refine ⟨.tuple #[.slice (some ⟨b0, 0, none⟩) xs.length m, .int .i64 0], by simp [results, Try.results36, go_sem], .slice (some ⟨b0, 0, none⟩) xs.length m, rfl, ⟨?_, .inr ⟨b0, m, cur, by rw [HLM.out], by omega, sE.all _ _ (by simp; omega) c1, Nat.le_refl _, ?_, c2, ?_⟩⟩, ?_⟩
    · have := HLM.out
      rw [hp_kC_len, List.length_map]; omega
    · unfold maxLen; omega
    · have := HLM.out
      rw [← this]; exact c3
    · refine HV.out.bl.trans ⟨rfl, rfl, rfl, by simp [World.putObj], fun k hk => World.putObj_heap_other (by omega)⟩
end
end Go.Proofs.Ytoonaljmdiideaa
