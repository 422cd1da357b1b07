/- keys.Order, by a contract of slices.Sort. -/
import Derived.Test.YtmgngbhkgmkggaaGreatDoorKOrd0
namespace Go.Proofs.YtmgngbhkgmkggaaGreatDoor
set_option linter.unusedVariables false
open Go.RowKit

/-- The cells of numbers of 32 bits. -/
def uC (zs : List Int) : List Value := zs.map eU
theorem uC_append (a b : List Int) : uC (a ++ b) = uC a ++ uC b := by simp [uC]
theorem uC_length (a : List Int) : (uC a).length = a.length := by simp [uC]
theorem uC_one (a : List Int) : ∀ u ∈ uC a, u.oneCell' = true := by
  intro u hu
  simp only [uC, List.mem_map] at hu
  obtain ⟨b, _, rfl⟩ := hu
  rfl

/-- What Order holds behind k keys. -/
structure OrdR (w : World) (l : KL) (vi vt vs : Value) (wr : World) : Prop where
  i : wr.ownsRow w.heap.size 148 1 vi (ixs l).length (uC (ixs l))
  t : wr.ownsRow w.heap.size 31 2 vt (txs l).length (kc (txs l))
  s : wr.ownsRow w.heap.size 31 2 vs (sys l).length (kc (sys l))
  b : Below w.heap.size w wr
  it : Apart vi vt
  is : Apart vi vs
  ts : Apart vt vs

theorem cells_new_at (w : World) (l : List Value) (t : TypeId) (g : Nat) (hg : g = w.heap.size) : ∀ j u, l[j]? = some u → (w.alloc (.cells l.toArray t)).cell? ((⟨g, 0, none⟩ : Addr).add j) = some u := by
  subst hg; exact cells_new w l t
theorem OrdR.sym {w wr W w5 : World} {l : KL} {vi vt vs v' : Value} {s : ByteArray} {z : Int} (R : OrdR w l vi vt vs wr) (B : Below wr.heap.size wr W) (hg : W.grownBy w5 vs.ownBlock) (o : w5.ownsRow w.heap.size 31 2 v' ((sys l).length + 1) (kc (sys l) ++ [.string ⟨#[]⟩, .int .i64 z])) (hl : v'.ownBlock = vs.ownBlock ∨ v'.ownBlock = some W.heap.size) (h : 0 < z) : OrdR w (l ++ [(s, z)]) vi vt v' w5 := by
  obtain ⟨e1, e2, e3⟩ := parts_sym l s z h
  have hb := R.b.size
  have oi := own_below R.i B; have ot := own_below R.t B; have os := own_below R.s B
  refine ⟨?_, ?_, ?_, ?_, R.it, ?_, ?_⟩
  · rw [e1]; exact own_other oi hg R.is
  · rw [e2]; exact own_other ot hg R.ts
  · rw [e3, List.length_append, kc_append]; exact o
  · exact (R.b.trans (B.mono hb)).trans ((Below.refl _ _).grown hg (Nat.le_trans hb B.size) (fun k hk => (os.lt k hk).1))
  · exact apart_new oi R.is hl (Nat.le_refl _)
  · exact apart_new ot R.ts hl (Nat.le_refl _)
theorem OrdR.tx {w wr W w5 : World} {l : KL} {vi vt vs v' : Value} {s : ByteArray} {z : Int} (R : OrdR w l vi vt vs wr) (B : Below wr.heap.size wr W) (hg : W.grownBy w5 vt.ownBlock) (o : w5.ownsRow w.heap.size 31 2 v' ((txs l).length + 1) (kc (txs l) ++ [.string (evenS s), .int .i64 0])) (hl : v'.ownBlock = vt.ownBlock ∨ v'.ownBlock = some W.heap.size) (h : ¬ 0 < z) (hi : idxB (evenS s) = false) : OrdR w (l ++ [(s, z)]) vi v' vs w5 := by
  obtain ⟨e1, e2, e3⟩ := parts_tx l s z h hi
  have hb := R.b.size
  have oi := own_below R.i B; have ot := own_below R.t B; have os := own_below R.s B
  refine ⟨?_, ?_, ?_, ?_, ?_, R.is, ?_⟩
  · rw [e1]; exact own_other oi hg R.it
  · rw [e2, List.length_append, kc_append]; exact o
  · rw [e3]; exact own_other os hg R.ts.symm
  · exact (R.b.trans (B.mono hb)).trans ((Below.refl _ _).grown hg (Nat.le_trans hb B.size) (fun k hk => (ot.lt k hk).1))
  · exact apart_new oi R.it hl (Nat.le_refl _)
  · exact (apart_new os R.ts.symm hl (Nat.le_refl _)).symm
theorem OrdR.ix {w wr W w5 : World} {l : KL} {vi vt vs v' : Value} {s : ByteArray} {z : Int} (R : OrdR w l vi vt vs wr) (B : Below wr.heap.size wr W) (hg : W.grownBy w5 vi.ownBlock) (o : w5.ownsRow w.heap.size 148 1 v' ((ixs l).length + 1) (uC (ixs l) ++ [.int .u32 (idxN (evenS s) : Nat)])) (hl : v'.ownBlock = vi.ownBlock ∨ v'.ownBlock = some W.heap.size) (h : ¬ 0 < z) (hi : idxB (evenS s) = true) : OrdR w (l ++ [(s, z)]) v' vt vs w5 := by
  obtain ⟨e1, e2, e3⟩ := parts_ix l s z h hi
  have hb := R.b.size
  have oi := own_below R.i B; have ot := own_below R.t B; have os := own_below R.s B
  refine ⟨?_, ?_, ?_, ?_, ?_, ?_, R.ts⟩
  · rw [e1, List.length_append, uC_append]; exact o
  · rw [e2]; exact own_other ot hg R.it.symm
  · rw [e3]; exact own_other os hg R.is.symm
  · exact (R.b.trans (B.mono hb)).trans ((Below.refl _ _).grown hg (Nat.le_trans hb B.size) (fun k hk => (oi.lt k hk).1))
  · exact (apart_new ot R.it.symm hl (Nat.le_refl _)).symm
  · exact (apart_new os R.is.symm hl (Nat.le_refl _)).symm

theorem holdsU {w : World} {B g cap : Nat} {zs : List Int} (h : w.ownsRow B 148 1 (.slice (some ⟨g, 0, none⟩) zs.length cap) zs.length (uC zs)) : Sort.Holds eU w g 0 zs.toArray ∧ g < w.heap.size := by
  rcases h.2 with ⟨e, _⟩ | ⟨g', cap', cur, e, hB, hg, hnc, hcm, hcs, ht⟩
  · cases e
  · cases e
    refine ⟨fun j hj => ?_, (Array.getElem?_eq_some_iff.1 hg).1⟩
    have hj' : j < zs.length := by simpa using hj
    refine ⟨?_, by simp [World.frozen?, hg]⟩
    have h1 : (cur.toList.take (zs.length * 1))[j]? = (uC zs)[j]? := by rw [ht]
    rw [List.getElem?_take_of_lt (by omega)] at h1
    rw [cell_of_row _ g (0 + j) cur 148 (0, 0) hg, Nat.zero_add, ← Array.getElem?_toList, h1]
    simp [uC, hj']
theorem srt_own {w w' : World} {B g cap : Nat} {zs ts : List Int} (h : w.ownsRow B 148 1 (.slice (some ⟨g, 0, none⟩) zs.length cap) zs.length (uC zs)) (hS : Srt w w' g 0 ts.toArray) (hl : ts.length = zs.length) :
    w'.ownsRow B 148 1 (.slice (some ⟨g, 0, none⟩) zs.length cap) zs.length (uC ts) ∧ w.grownBy w' (some g) := by
  rcases h.2 with ⟨e, _⟩ | ⟨g', cap', cur, e, hB, hg, hnc, hcm, hcs, ht⟩
  · cases e
  · cases e
    obtain ⟨n, os, rfl⟩ := hS
    have hlt : g < w.heap.size := (Array.getElem?_eq_some_iff.1 hg).1
    have hh : (Sort.grow (Sort.putRow eU (Sort.ahead w n) g 0 ts.toArray) os).heap[g]? = some (.cells (Sort.putCells eU 0 ts.toArray cur) 148 (0, 0)) := by
      rw [Sort.heap_grow_old _ _ (by simpa using hlt)]
      simp [Sort.putRow, Sort.mapBlock, Sort.ahead, Array.getElem?_modify, hg, Sort.onCells]
    refine ⟨⟨by rw [uC_length]; omega, .inr ⟨g, cap, _, rfl, hB, hh, hnc, hcm, by simp [Sort.putCells, hcs], ?_⟩⟩, ⟨rfl, rfl, rfl, by simp, fun k hk hne => ?_⟩⟩
    · rw [Nat.mul_one, ← hl]
      apply List.ext_getElem?
      intro j
      by_cases hj : j < ts.length
      · rw [List.getElem?_take_of_lt hj, Array.getElem?_toList]
        simp [Sort.putCells, uC, hj, show j < cur.size by omega]
      · rw [List.getElem?_take_eq_none (by omega), List.getElem?_eq_none (by rw [uC_length]; omega)]
    · rw [Sort.heap_grow_old _ _ (by simpa using hk)]
      have : g ≠ k := fun e => hne (by rw [e])
      simp [Sort.putRow, Sort.mapBlock, Sort.ahead, Array.getElem?_modify, this]

set_option maxHeartbeats 1000000 in
set_option maxRecDepth 100000 in
theorem insU_nil (w : World) : Calls Tryz.prog 93 #[.slice none 0 0, .int .i64 0, .int .i64 0] w fun e w' => e = .returned (.tuple #[]) ∧ w' = w := by
  go_enter Tryz.func93, Tryz.ntmps93
  go_wp2
  go_loopw [6] (fun v wr => v = .int .i64 1 ∧ wr = w) (fun _ _ => 0)
  case atStart => exact ⟨rfl, rfl⟩
  case round =>
    obtain ⟨rfl, rfl⟩ := hrel
    go_wp2
    go_end0
    exact ⟨rfl, rfl⟩
set_option maxHeartbeats 1000000 in
set_option maxRecDepth 100000 in
theorem pdqU_nil (limit : Nat) (w : World) : Calls Tryz.prog 81 #[.slice none 0 0, .int .i64 0, .int .i64 0, .int .i64 limit] w fun e w' => e = .returned (.tuple #[]) ∧ w' = w := by
  have HC := Hid.mk' (fun W => insU_nil W)
  go_enter Tryz.func81, Tryz.ntmps81
  go_wp2
  go_loopw [1, 2, 3] (fun v1 v2 v3 wr => v1 = .int .i64 0 ∧ v2 = .int .i64 0 ∧ v3 = .int .i64 limit ∧ wr = w) (fun _ _ _ _ => 0)
  case atStart => exact ⟨rfl, rfl, rfl, rfl⟩
  case round =>
    obtain ⟨rfl, rfl, rfl, rfl⟩ := hrel
    go_wp2_with fail
    refine (HC.out _).mono ?_
    rintro e w1 ⟨rfl, hm⟩
    rw [hm]; clear hm w1
    go_wp2
    (try simp only [Exit.inBlock, Exit.then])
    refine bodyPost_ret (v := .tuple #[]) (results_none rfl _ _ _) rfl ?_
    exact ⟨rfl, rfl⟩
set_option maxHeartbeats 1000000 in
theorem sort_nil (w : World) : Calls Tryz.prog 70 #[.slice none 0 0] w fun e w' => e = .returned (.tuple #[]) ∧ w' = w := by
  have HB : Hid (∀ W : World, Calls Tryz.prog 82 #[.int .u64 0] W fun e w' => e = .returned (.int .i64 (Lib.bitLen 0)) ∧ w' = W) := Hid.mk' (fun W => Tryz.bits_Len 0 W (by omega) (by omega))
  have HP := Hid.mk' (fun L W => pdqU_nil L W)
  generalize Lib.bitLen 0 = L at HB
  have x1 : IntKind.u64.wrap (0 : Int) = 0 := by rw [IntKind.wrap_u64]; omega
  go_enter Tryz.func70, Tryz.ntmps70
  go_wp2_with fail
  refine (HB.out _).mono ?_
  rintro e w1 ⟨rfl, hw1⟩
  rw [hw1]; clear hw1 w1
  go_wp2_with fail
  refine (HP.out L _).mono ?_
  rintro e w1 ⟨rfl, hw1⟩
  rw [hw1]; clear hw1 w1
  go_wp2
  go_end0
  exact ⟨rfl, rfl⟩
/-- A list in its order. -/
abbrev srt (zs : List Int) : List Int := zs.mergeSort fun x y => decide (x ≤ y)
theorem sort_own (m : Nat) (hS : SortTo m) (zs : List Int) (hm : zs.length ≤ m) (v : Value) (w : World) (B : Nat) (ho : w.ownsRow B 148 1 v zs.length (uC zs)) :
    Calls Tryz.prog 70 #[v] w fun e w' => e = .returned (.tuple #[]) ∧ w'.ownsRow B 148 1 v (srt zs).length (uC (srt zs)) ∧ w.grownBy w' v.ownBlock := by
  have hl : (srt zs).length = zs.length := List.length_mergeSort _
  rcases ho.2 with ⟨rfl, h0⟩ | ⟨g, cap, cur, rfl, hB, _, hnc, _⟩
  · have : zs = [] := List.eq_nil_of_length_eq_zero h0
    subst this
    refine (sort_nil w).mono ?_
    rintro e w' ⟨rfl, hw⟩
    rw [hw]
    exact ⟨rfl, by simpa [srt, uC] using World.ownsRow_nil w B 148 1, World.grownBy.refl _ _⟩
  · obtain ⟨hH, hb⟩ := holdsU ho
    refine (hS g 0 cap zs w hm hnc hH hb).mono ?_
    rintro e w' ⟨rfl, h⟩
    have := srt_own ho h hl
    rw [hl]
    exact ⟨rfl, this.1, this.2⟩

theorem wpList_append_own_any_at {P : Program} (w : World) {ops : Array Oper} {rest : List Oper} {o : Oper} {a : Act} {Q : Exit → Act → World → Prop} (hgd : o.guard = none) (s x : Operand) (t : TypeId)
    (ho : o.op = .call { callee := .builtin .append, args := #[s, x], argTypes := #[t, t] })
    (base : Nat) (e : TypeId) (i : TypeInfo) (z : Value) (size bytes : Nat) (ht : P.underlying t = some (.slice e)) (hi : P.info? e = some i) (hz : i.zero = some z)
    (hsize : i.size = size) (hby : i.bytes = bytes) (hzs : z.cells.size = size) (hsz : 0 < size)
    (v : Value) (n : Nat) (xs : List Value) (hs : a.eval s = v) (hown : w.ownsRow base e size v n xs)
    (y : Value) (m : Nat) (news : List Value) (hx : a.eval x = y) (B' : Nat) (hy : w.ownsRow B' e size y m news) (h1 : ∀ u ∈ news, u.oneCell' = true)
    (h63 : n + m ≤ maxLen) (hbytes : (n + m) * bytes ≤ 140737488355328) (hbase : base ≤ w.heap.size)
    (h : ∀ v' w', w'.ownsRow base e size v' (n + m) (xs ++ news) → w.grownBy w' v.ownBlock → (v'.ownBlock = v.ownBlock ∨ v'.ownBlock = some w.heap.size) → wpList P ops Q rest (a.put o.dst v') w') : wpList P ops Q (o :: rest) a w := by
  rcases hy.2 with ⟨rfl, rfl⟩ | ⟨g, cap, cur, rfl, hB, hg, hnc, hcm, hcs, htk⟩
  · have hnews : news = [] := List.eq_nil_of_length_eq_zero (by simpa using hy.1)
    subst hnews
    refine wpList_plain hgd fun K hK' => ?_
    have hrun := run_append_owned_none (P := P) w base t o.type e i size ht hi v n xs hown
    unfold Oper.wp
    simp [execOp, ho, resolve, invoke, builtin, hs, hx, hrun, Result.andThen]
    exact hK' _ _ (by simpa using h v w (by simpa using hown) (World.grownBy.refl _ _) (.inl rfl))
  · refine wpList_append_own_at w hgd s x t ho base e i z size bytes ht hi hz hsize hby hzs hsz v n xs hs hown ⟨g, 0, none⟩ m cap news hx hy.1 ?_ h1 h63 hbytes hbase (fun v' w' a b _ c => h v' w' a b c)
    intro j u hu
    have hadd : (⟨g, 0, none⟩ : Addr).add j = ⟨g, j, none⟩ := by unfold Addr.add; split <;> simp_all
    rw [hadd, cell_of_row _ g j cur e (0, 0) hg, ← Array.getElem?_toList]
    have hj : j < news.length := by
      rcases Nat.lt_or_ge j news.length with h | h
      · exact h
      · rw [List.getElem?_eq_none h] at hu; cases hu
    rw [← htk, List.getElem?_take_of_lt (by rw [← hy.1]; exact hj)] at hu
    exact hu

/-- What Order holds while it lays the indices' keys. -/
structure OutR (w : World) (l : KL) (zs : List Int) (k : Nat) (vo vi vt vs : Value) (wr : World) : Prop where
  o : wr.ownsRow w.heap.size 31 2 vo k (kc (ofs (zs.take k)))
  i : wr.ownsRow w.heap.size 148 1 vi zs.length (uC zs)
  t : wr.ownsRow w.heap.size 31 2 vt (txs l).length (kc (txs l))
  s : wr.ownsRow w.heap.size 31 2 vs (sys l).length (kc (sys l))
  b : Below w.heap.size w wr
  io : Apart vi vo
  to : Apart vt vo
  so : Apart vs vo
theorem OutR.next {w wr W w5 : World} {l : KL} {zs : List Int} {k : Nat} {vo vi vt vs v' : Value} {z : Int} (R : OutR w l zs k vo vi vt vs wr) (B : Below wr.heap.size wr W) (hg : W.grownBy w5 vo.ownBlock) (o : w5.ownsRow w.heap.size 31 2 v' (k + 1) (kc (ofs (zs.take k)) ++ [.string (keyT z.toNat), .int .i64 0])) (hl : v'.ownBlock = vo.ownBlock ∨ v'.ownBlock = some W.heap.size) (hz : zs[k]? = some z) : OutR w l zs (k + 1) v' vi vt vs w5 := by
  have hb := R.b.size
  have oi := own_below R.i B; have ot := own_below R.t B; have os := own_below R.s B; have oo := own_below R.o B
  refine ⟨?_, own_other oi hg R.io, own_other ot hg R.to, own_other os hg R.so, ?_, apart_new oi R.io hl (Nat.le_refl _), apart_new ot R.to hl (Nat.le_refl _), apart_new os R.so hl (Nat.le_refl _)⟩
  · rw [List.take_add_one, hz]
    unfold ofs at o ⊢
    rw [List.map_append, kc_append]
    exact o
  · exact (R.b.trans (B.mono hb)).trans ((Below.refl _ _).grown hg (Nat.le_trans hb B.size) (fun k hk => (oo.lt k hk).1))

set_option maxHeartbeats 4000000 in
set_option maxRecDepth 100000 in
theorem order_any (m : Nat) (hS : SortTo m) (l : KL) (hm : (ixs l).length ≤ m) (hz : ∀ p ∈ l, (p.1.size : Int) ≤ 140737488351232) (hn : (l.length : Int) * 24 ≤ 140737488351232) (v : Value) (w : World) (hv : RdK w v l) (hP : P10 w) :
    Calls Tryz.prog 54 #[v] w fun e w' => ∃ v', e = .returned v' ∧ w'.ownsRow w.heap.size 31 2 v' (ordK l).length (kc (ordK l)) ∧ Below w.heap.size w w' := by
  obtain ⟨iu, hiu, hu0, hu1, hu2⟩ := info_parts infoU
  obtain ⟨ik, hik, hk0, hk1, hk2⟩ := info_parts infoK
  have HV := Hid.mk' hv
  obtain ⟨x, c, rfl⟩ := hv.form
  clear hv
  have HP := Hid.mk' hP
  clear hP
  go_enter Tryz.func54, Tryz.ntmps54
  go_wp2
  go_loopw [3, 4, 5, 15] (fun vi vt vs vk wr => ∃ k : Nat, vk = .int .i64 k ∧ k ≤ l.length ∧ OrdR w (l.take k) vi vt vs wr) (fun _ _ _ vk _ => l.length - (intOf vk).toNat)
  case atStart => exact ⟨0, rfl, Nat.zero_le _, ⟨World.ownsRow_nil _ _ _ _, World.ownsRow_nil _ _ _ _, World.ownsRow_nil _ _ _ _, Below.refl _ _, apart_nil _, apart_nil _, apart_nil _⟩⟩
  case round =>
    obtain ⟨k, rfl, hk, R⟩ := hrel
    by_cases hlt : k < l.length
    · have hBW : w.heap.size ≤ wr.heap.size := R.b.size
      have hps := take_snoc l k hlt
      have hsz : (l[k].1.size : Int) ≤ 140737488351232 := hz _ (List.getElem_mem hlt)
      have hpl := parts_length (l.take k)
      have hlk : (l.take k).length = k := by simp; omega
      have hli : (ixs (l.take k)).length ≤ k := by omega
      have hlt' : (txs (l.take k)).length ≤ k := by omega
      have hls : (sys (l.take k)).length ≤ k := by omega
      have hk64 : (k : Int) * 24 + 24 ≤ 140737488351232 := by omega
      rcases HV.out.below R.b with ⟨a', c', e', h', _⟩ | ⟨g, o, c', e', hlc, hg, hc⟩
      · rw [h'] at hlt; simp at hlt
      · simp only [Value.slice.injEq] at e'
        obtain ⟨rfl, _, rfl⟩ := e'
        obtain ⟨c0, c1⟩ := hc k hlt
        clear hc hlc hpl
        obtain ⟨s, z, hsz', hp⟩ : ∃ s z, ((s.size : Int) ≤ 140737488351232) ∧ l[k] = (s, z) := ⟨l[k].1, l[k].2, hsz, rfl⟩
        rw [hp] at c0 c1 hps
        dsimp only at c0 c1
        clear hsz hp
        have i1 : (k : Int) < (l.length : Int) := by omega
        have HPS := Hid.mk' hps
        have HR := Hid.mk' R
        clear hps R
        by_cases hsym : 0 < z
        · have HBr := Hid.mk' (fun W => bare_sym s z W hsym)
          have HIx := Hid.mk' (fun W => index_any ⟨#[]⟩ W (by decide))
          rw [show idxE ⟨#[]⟩ = .returned (.tuple #[.int .u32 0, .bool false]) from idxE_no (by decide)] at HIx
          go_wp2_with (first | (go_at_call 66; refine (HBr.out _).mono ?_; rintro e w1 ⟨rfl, b1⟩; have d0 := (b1.cell (p := ⟨wr.heap.size, 0, none⟩) (by simp)).trans (World.cell?_alloc_new _ _ _ _); have d1 := (b1.cell (p := ⟨wr.heap.size, 1, none⟩) (by simp)).trans (World.cell?_alloc_new _ _ _ _); have f0 := (b1.frozen (p := ⟨wr.heap.size, 0, none⟩) (by simp)).trans (World.frozen?_alloc_new _ _ _ _); have f1 := (b1.frozen (p := ⟨wr.heap.size, 1, none⟩) (by simp)).trans (World.frozen?_alloc_new _ _ _ _); simp only [List.getElem?_toArray, List.getElem?_cons_zero, List.getElem?_cons_succ] at d0 d1; have s1 : wr.heap.size < w1.heap.size := Nat.lt_of_lt_of_le (by simp) b1.size; have B1 : Below wr.heap.size wr w1 := ((Below.refl _ _).alloc (Nat.le_refl _) _).trans (b1.mono (by simp))) | (go_at_call 67; refine (HIx.out _).mono ?_; rintro e w2 ⟨rfl, nq, hw2⟩; rw [hw2]; clear hw2 w2) | (go_at_call 68; refine (isSym_any _ _ _).mono ?_; rintro e w3 ⟨rfl, hw3⟩; rw [hw3]; clear hw3 w3) | (at_builtin; go_must (refine wpList_append_own_at _ rfl _ _ 53 rfl w.heap.size 31 ik (.agg #[.string ⟨#[]⟩, .int .i64 0]) 2 24 Tryz.underlying53 hik hk0 hk1 hk2 rfl (by decide) _ _ _ rfl (own_below HR.out.s ?bw) ⟨w1.heap.size + 1, 0, none⟩ 1 1 [.string ⟨#[]⟩, .int .i64 z] rfl rfl ?c1 (by simp [Value.oneCell']) ?c2 ?c3 ?c4 ?_); rotate_left 5; intro v5 w5 o5 g5 _ hl5))
          case roundEnd =>
            refine ⟨⟨k + 1, by go_num, by omega, ?_⟩, by simp [intOf]; omega⟩
            rw [HPS.out]
            refine HR.out.sym ?_ g5 o5 hl5 hsym
            repeat' (first | exact B1 | refine below_drewN ?_ _ | refine RowKit.Below.alloc ?_ (by simp; omega) _ | refine Below.setCell ?_ (by simp) _)
          case bw => repeat' (first | exact B1 | refine below_drewN ?_ _ | refine RowKit.Below.alloc ?_ (by simp; omega) _ | refine Below.setCell ?_ (by simp) _)
          case c1 => exact cells_new_at _ _ _ _ (by simp)
          case c2 => unfold maxLen; omega
          case c3 => omega
          case c4 => simp; omega
        · have HBr := Hid.mk' (fun W => bare_text s z W hsz' hsym)
          have hes : ((evenS s).size : Int) ≤ 140737488351232 := by rw [even_size']; omega
          have HIx := Hid.mk' (fun W => index_any (evenS s) W hes)
          have HOw := Hid.mk' (fun W => own_any (evenS s) W hes)
          rw [even_even] at HOw
          have HSy := Hid.mk' hsym
          clear hsym hes
          by_cases hi : idxB (evenS s) = true
          · have HI := Hid.mk' hi
            obtain ⟨N, hN⟩ : ∃ N : Int, ((idxN (evenS s) : Nat) : Int) = N := ⟨_, rfl⟩
            have hE : idxE (evenS s) = .returned (.tuple #[.int .u32 N, .bool true]) := by unfold idxE; rw [hi, hN]
            rw [hE] at HIx
            have HQ : Hid (∀ {w' W w5 : World} {vi vt vs v5 : Value}, OrdR w' (l.take k) vi vt vs wr → Below wr.heap.size wr W → W.grownBy w5 vi.ownBlock → w5.ownsRow w'.heap.size 148 1 v5 ((ixs (l.take k)).length + 1) (uC (ixs (l.take k)) ++ [.int .u32 N]) → (v5.ownBlock = vi.ownBlock ∨ v5.ownBlock = some W.heap.size) → OrdR w' (l.take k ++ [(s, z)]) v5 vt vs w5) := Hid.mk' (fun R B g o h => R.ix B g (by rw [hN]; exact o) h HSy.out hi)
            clear hi hE hN HI HOw HSy
            generalize evenS s = q at HBr HIx
            go_wp2_with (first | (go_at_call 66; refine (HBr.out _).mono ?_; rintro e w1 ⟨rfl, b1⟩; have d0 := (b1.cell (p := ⟨wr.heap.size, 0, none⟩) (by simp)).trans (World.cell?_alloc_new _ _ _ _); have d1 := (b1.cell (p := ⟨wr.heap.size, 1, none⟩) (by simp)).trans (World.cell?_alloc_new _ _ _ _); have f0 := (b1.frozen (p := ⟨wr.heap.size, 0, none⟩) (by simp)).trans (World.frozen?_alloc_new _ _ _ _); have f1 := (b1.frozen (p := ⟨wr.heap.size, 1, none⟩) (by simp)).trans (World.frozen?_alloc_new _ _ _ _); simp only [List.getElem?_toArray, List.getElem?_cons_zero, List.getElem?_cons_succ] at d0 d1; have s1 : wr.heap.size < w1.heap.size := Nat.lt_of_lt_of_le (by simp) b1.size; have B1 : Below wr.heap.size wr w1 := ((Below.refl _ _).alloc (Nat.le_refl _) _).trans (b1.mono (by simp))) | (go_at_call 67; refine (HIx.out _).mono ?_; rintro e w2 ⟨rfl, nq, hw2⟩; rw [hw2]; clear hw2 w2) | (go_at_call 68; refine (isSym_any _ _ _).mono ?_; rintro e w3 ⟨rfl, hw3⟩; rw [hw3]; clear hw3 w3) | (at_builtin; go_must (refine wpList_append_own_at _ rfl _ _ 147 rfl w.heap.size 148 iu (.int .u32 0) 1 4 Tryz.underlying147 hiu hu0 hu1 hu2 rfl (by decide) _ _ _ rfl (own_below HR.out.i ?bw) ⟨w1.heap.size + 1, 0, none⟩ 1 1 [.int .u32 N] rfl rfl ?c1 (by simp [Value.oneCell']) ?c2 ?c3 ?c4 ?_); rotate_left 5; intro v5 w5 o5 g5 _ hl5))
            case roundEnd =>
              refine ⟨⟨k + 1, by go_num, by omega, ?_⟩, by simp [intOf]; omega⟩
              rw [HPS.out]
              refine HQ.out HR.out ?_ g5 o5 hl5
              repeat' (first | exact B1 | refine below_drewN ?_ _ | refine RowKit.Below.alloc ?_ (by simp; omega) _ | refine Below.setCell ?_ (by simp) _)
            case bw => repeat' (first | exact B1 | refine below_drewN ?_ _ | refine RowKit.Below.alloc ?_ (by simp; omega) _ | refine Below.setCell ?_ (by simp) _)
            case c1 => exact cells_new_at _ _ _ _ (by simp)
            case c2 => unfold maxLen; omega
            case c3 => omega
            case c4 => simp; omega
          · have HI := Hid.mk' (Bool.eq_false_iff.2 hi)
            obtain ⟨N, hN⟩ : ∃ N : Int, ((idxN (evenS s) : Nat) : Int) = N := ⟨_, rfl⟩
            have hE : idxE (evenS s) = .returned (.tuple #[.int .u32 N, .bool false]) := by unfold idxE; rw [HI.out, hN]
            rw [hE] at HIx
            obtain ⟨q, hq⟩ : ∃ q, evenS s = q := ⟨_, rfl⟩
            have HQ : Hid (∀ {w' W w5 : World} {vi vt vs v5 : Value}, OrdR w' (l.take k) vi vt vs wr → Below wr.heap.size wr W → W.grownBy w5 vt.ownBlock → w5.ownsRow w'.heap.size 31 2 v5 ((txs (l.take k)).length + 1) (kc (txs (l.take k)) ++ [.string q, .int .i64 0]) → (v5.ownBlock = vt.ownBlock ∨ v5.ownBlock = some W.heap.size) → OrdR w' (l.take k ++ [(s, z)]) vi v5 vs w5) := Hid.mk' (fun R B g o h => R.tx B g (by rw [hq]; exact o) h HSy.out HI.out)
            rw [hq] at HBr HIx HOw
            clear hi hE hN HI HSy hq
            go_wp2_with (first | (go_at_call 66; refine (HBr.out _).mono ?_; rintro e w1 ⟨rfl, b1⟩; have d0 := (b1.cell (p := ⟨wr.heap.size, 0, none⟩) (by simp)).trans (World.cell?_alloc_new _ _ _ _); have d1 := (b1.cell (p := ⟨wr.heap.size, 1, none⟩) (by simp)).trans (World.cell?_alloc_new _ _ _ _); have f0 := (b1.frozen (p := ⟨wr.heap.size, 0, none⟩) (by simp)).trans (World.frozen?_alloc_new _ _ _ _); have f1 := (b1.frozen (p := ⟨wr.heap.size, 1, none⟩) (by simp)).trans (World.frozen?_alloc_new _ _ _ _); simp only [List.getElem?_toArray, List.getElem?_cons_zero, List.getElem?_cons_succ] at d0 d1; have s1 : wr.heap.size < w1.heap.size := Nat.lt_of_lt_of_le (by simp) b1.size; have B1 : Below wr.heap.size wr w1 := ((Below.refl _ _).alloc (Nat.le_refl _) _).trans (b1.mono (by simp))) | (go_at_call 67; refine (HIx.out _).mono ?_; rintro e w2 ⟨rfl, nq, hw2⟩; rw [hw2]; clear hw2 w2) | (go_at_call 68; refine (isSym_any _ _ _).mono ?_; rintro e w3 ⟨rfl, hw3⟩; rw [hw3]; clear hw3 w3) | (go_at_call 69; refine (HOw.out _).mono ?_; rintro e w4 ⟨rfl, b4⟩; have B4 : Below wr.heap.size wr w4 := Below.trans (by repeat' (first | exact B1 | refine below_drewN ?_ _ | refine RowKit.Below.alloc ?_ (by simp; omega) _ | refine Below.setCell ?_ (by simp) _)) (b4.mono (by simp; omega)); have s4 := B4.size) | (at_builtin; go_must (refine wpList_append_own_at _ rfl _ _ 53 rfl w.heap.size 31 ik (.agg #[.string ⟨#[]⟩, .int .i64 0]) 2 24 Tryz.underlying53 hik hk0 hk1 hk2 rfl (by decide) _ _ _ rfl (own_below HR.out.t ?bw) ⟨w4.heap.size, 0, none⟩ 1 1 [.string q, .int .i64 0] rfl rfl ?c1 (by simp [Value.oneCell']) ?c2 ?c3 ?c4 ?_); rotate_left 5; intro v5 w5 o5 g5 _ hl5))
            case roundEnd =>
              refine ⟨⟨k + 1, by go_num, by omega, ?_⟩, by simp [intOf]; omega⟩
              rw [HPS.out]
              refine HQ.out HR.out ?_ g5 o5 hl5
              repeat' (first | exact B4 | refine Below.alloc ?_ s4 _)
            case bw => repeat' (first | exact B4 | refine Below.alloc ?_ s4 _)
            case c1 => exact cells_new_at _ _ _ _ (by simp)
            case c2 => unfold maxLen; omega
            case c3 => omega
            case c4 => simp; omega
    · obtain rfl : k = l.length := by omega
      rw [List.take_length] at R
      have hpl := parts_length l
      obtain ⟨n0, hn0⟩ : ∃ n, (ixs l).length = n := ⟨_, rfl⟩
      have Ri := R.i
      rw [hn0] at Ri
      obtain ⟨xi, ci, hxi, _⟩ := own_slice' Ri
      subst hxi
      clear Ri
      have HSo := Hid.mk' (sort_own m hS (ixs l) hm _ wr w.heap.size R.i)
      have hzl : (srt (ixs l)).length = n0 := (List.length_mergeSort _).trans hn0
      have hzr : ∀ z ∈ srt (ixs l), 0 ≤ z ∧ z ≤ 4294967294 := fun z hz => ixs_range l z ((List.mergeSort_perm _ _).mem_iff.1 hz)
      have HO : Hid (ordK l = ofs (srt (ixs l)) ++ txs l ++ sys l) := Hid.mk' rfl
      have HR := Hid.mk' R
      clear R
      obtain ⟨zs, hzs⟩ : ∃ zs, srt (ixs l) = zs := ⟨_, rfl⟩
      rw [hzs] at HSo hzl hzr HO
      subst hzl
      have HZ := Hid.mk' hzr
      have hBW : w.heap.size ≤ wr.heap.size := HR.out.b.size
      obtain ⟨nt, hnt⟩ : ∃ n, (txs l).length = n := ⟨_, rfl⟩
      obtain ⟨ns, hns⟩ : ∃ n, (sys l).length = n := ⟨_, rfl⟩
      have hsm : zs.length + nt + ns = l.length := by omega
      have HT := Hid.mk' hnt; have HN := Hid.mk' hns
      clear hzs hzr hpl hnt hns hm hn0
      go_wp2_with (first | (go_at_call 70; refine (HSo.out).mono ?_; rintro e w1 ⟨rfl, o1, g1⟩; have b1 : Below w.heap.size wr w1 := (Below.refl _ _).grown g1 hBW (fun k hk => (HR.out.i.lt k hk).1); have s1 : w.heap.size ≤ w1.heap.size := Nat.le_trans hBW b1.size) | (at_make; refine wpList_make_own _ rfl _ _ 53 rfl w.heap.size 31 ik (.agg #[.string ⟨#[]⟩, .int .i64 0]) 2 Tryz.underlying53 hik hk0 hk1 .i64 .i64 _ l.length rfl rfl (by omega) (by rw [hk2]; omega) (by unfold maxLen; omega) s1 ?_; intro w2 o2 g2))
      have O2 : OutR w l zs 0 (.slice (some ⟨w1.heap.size, 0, none⟩) 0 l.length) (.slice xi zs.length ci) u4 u5 w2 := by
        have R := HR.out
        have t1 := own_other R.t g1 R.it.symm
        have q1 := own_other R.s g1 R.is.symm
        have nn : ∀ {v : Value} {e sz n xs}, w1.ownsRow w.heap.size e sz v n xs → Apart v (.slice (some ⟨w1.heap.size, 0, none⟩) 0 l.length) := fun h g hg e => by
          have := (h.lt g hg).2
          simp [Value.ownBlock] at e
          omega
        exact ⟨by simpa [ofs, kc] using o2, own_other o1 g2 (fun _ _ e => by cases e), own_other t1 g2 (fun _ _ e => by cases e), own_other q1 g2 (fun _ _ e => by cases e), (R.b.trans (b1.mono (Nat.le_refl _))).trans ((Below.refl _ _).grown g2 s1 (fun _ e => by cases e)), nn o1, nn t1, nn q1⟩
      have HO2 := Hid.mk' O2
      clear o2 g2 O2 o1 g1
      go_loopw [10, 55] (fun vo vk w3 => ∃ k : Nat, vk = .int .i64 k ∧ k ≤ zs.length ∧ OutR w l zs k vo (.slice xi zs.length ci) u4 u5 w3) (fun _ vk _ => zs.length - (intOf vk).toNat)
      case atStart => exact ⟨0, rfl, Nat.zero_le _, HO2.out⟩
      case round =>
        obtain ⟨k, rfl, hk, R⟩ := hrel
        have HRR := Hid.mk' R
        have hBW3 : w.heap.size ≤ wr.heap.size := R.b.size
        by_cases hlt : k < zs.length
        · obtain ⟨gi, rfl⟩ := own_some R.i (by omega)
          have e1 : wr.cell? ⟨gi, k, none⟩ = some (.int .u32 zs[k]) := own_cell R.i (by simp [uC, hlt])
          have hzk := HZ.out _ (List.getElem_mem hlt)
          obtain ⟨u, hu⟩ : ∃ u : Nat, zs[k] = (u : Int) := ⟨zs[k].toNat, by omega⟩
          rw [hu] at e1 hzk
          have hkn : zs[k]? = some (u : Int) := by rw [List.getElem?_eq_getElem hlt, hu]
          have HKN := Hid.mk' hkn
          have HOf := Hid.mk' (fun W h => of_key u (by omega) W h)
          have HPw := Hid.mk' (HP.out.below R.b)
          have i1 : (k : Int) < (zs.length : Int) := by omega
          have i2 : (0 : Int) ≤ (k : Int) := by omega
          clear hu hkn R hzk
          go_wp2_with (first | (go_at_call 71; refine (HOf.out _ HPw.out).mono ?_; rintro e w4 ⟨rfl, b4⟩; have s4 := b4.size) | (at_builtin; go_must (refine wpList_append_own_at _ rfl _ _ 53 rfl w.heap.size 31 ik (.agg #[.string ⟨#[]⟩, .int .i64 0]) 2 24 Tryz.underlying53 hik hk0 hk1 hk2 rfl (by decide) _ _ _ rfl (own_below HRR.out.o ?bw) ⟨w4.heap.size, 0, none⟩ 1 1 [.string (keyT u), .int .i64 0] rfl rfl ?c1 (by simp [Value.oneCell']) ?c2 ?c3 ?c4 ?_); rotate_left 5; intro v5 w5 o5 g5 _ hl5))
          case roundEnd =>
            refine ⟨⟨k + 1, by go_num, by omega, ?_⟩, by simp [intOf]; omega⟩
            exact HRR.out.next (z := (u : Int)) (b4.alloc s4 _) g5 (by simpa using o5) hl5 HKN.out
          case bw => exact b4.alloc s4 _
          case c1 => exact cells_new_at _ _ _ _ rfl
          case c2 => unfold maxLen; omega
          case c3 => omega
          case c4 => simp; omega
        · obtain rfl : k = zs.length := by omega
          have ot := R.o
          rw [List.take_length] at ot
          have lo : (ofs zs).length = zs.length := by simp [ofs]
          have HOT := Hid.mk' ot
          have hls : ∀ v n xs, wr.ownsRow w.heap.size 31 2 v n xs → True := fun _ _ _ _ => trivial
          clear ot R hls
          go_wp2_with (first | (at_builtin; have _tk := hsm; go_must (refine wpList_append_own_any_at _ rfl _ _ 53 rfl w.heap.size 31 ik (.agg #[.string ⟨#[]⟩, .int .i64 0]) 2 24 Tryz.underlying53 hik hk0 hk1 hk2 rfl (by decide) _ _ _ rfl HOT.out _ _ _ rfl _ HRR.out.t (kc_one' _) ?a2 ?a3 ?a4 ?_); rotate_left 3; intro v5 w5 o5 g5 hl5; have HS5 := Hid.mk' (own_other HRR.out.s g5 HRR.out.so); have HO5 := Hid.mk' o5; have b5 : Below w.heap.size wr w5 := (Below.refl _ _).grown g5 hBW3 (fun k hk => (HOT.out.lt k hk).1); have s5 : w.heap.size ≤ w5.heap.size := Nat.le_trans hBW3 b5.size; clear hsm) | (at_builtin; go_must (refine wpList_append_own_any_at _ rfl _ _ 53 rfl w.heap.size 31 ik (.agg #[.string ⟨#[]⟩, .int .i64 0]) 2 24 Tryz.underlying53 hik hk0 hk1 hk2 rfl (by decide) _ _ _ rfl HO5.out _ _ _ rfl _ HS5.out (kc_one' _) ?a5 ?a6 ?a7 ?_); rotate_left 3; intro v6 w6 o6 g6 hl6))
          case a2 => have := HT.out; have := HN.out; unfold maxLen; omega
          case a3 => have := HT.out; have := HN.out; omega
          case a4 => exact hBW3
          case a5 => have := HT.out; have := HN.out; have := _tk; unfold maxLen; omega
          case a6 => have := HT.out; have := HN.out; have := _tk; omega
          case a7 => exact s5
          go_ret
          refine ⟨v6, rfl, ?_, (HRR.out.b.trans b5).trans ((Below.refl _ _).grown g6 s5 (fun k hk => (HO5.out.lt k hk).1))⟩
          rw [HO.out, List.length_append, List.length_append, lo, kc_append, kc_append]
          exact o6

end Go.Proofs.YtmgngbhkgmkggaaGreatDoor
