/- lintelref04.Order: the document's order of keys. -/
import Derived.Test.YtcjpoabknlpopaaDoorKRIx
import Derived.Deep.CutRange
import Derived.ArgAppend
namespace Go.Proofs.YtcjpoabknlpopaaDoor
set_option linter.unusedVariables false
open Go.RowKit

theorem no_some {α : Type} {b : α} {P : Prop} (h : (none : Option α) = some b) : P := by cases h
theorem no_none {α : Type} {b : α} {P : Prop} (h : some b = none) : P := by cases h
theorem no_get {α : Type} {j : Nat} {u : α} {P : Prop} (h : ([] : List α)[j]? = some u) : P := by cases h
theorem no_mem {α : Type} {u : α} {P : Prop} (h : u ∈ ([] : List α)) : P := by cases h

/-- The keys that are indices, texts, symbols, as they came. -/
def ixF (l : KL) : KL := l.filter fun p => !decide (0 < p.2) && idxB p.1
def rT (l : KL) : KL := l.filter fun p => !decide (0 < p.2) && !idxB p.1
def rS (l : KL) : KL := l.filter fun p => decide (0 < p.2)
theorem rp_sym (l : KL) (s : ByteArray) (z : Int) (h : 0 < z) : ixF (l ++ [(s, z)]) = ixF l ∧ rT (l ++ [(s, z)]) = rT l ∧ rS (l ++ [(s, z)]) = rS l ++ [(s, z)] := by simp [ixF, rT, rS, h]
theorem rp_ix (l : KL) (s : ByteArray) (z : Int) (h : ¬ 0 < z) (hi : idxB s = true) : ixF (l ++ [(s, z)]) = ixF l ++ [(s, z)] ∧ rT (l ++ [(s, z)]) = rT l ∧ rS (l ++ [(s, z)]) = rS l := by simp [ixF, rT, rS, h, hi]
theorem rp_tx (l : KL) (s : ByteArray) (z : Int) (h : ¬ 0 < z) (hi : idxB s = false) : ixF (l ++ [(s, z)]) = ixF l ∧ rT (l ++ [(s, z)]) = rT l ++ [(s, z)] ∧ rS (l ++ [(s, z)]) = rS l := by simp [ixF, rT, rS, h, hi]
theorem rp_length (l : KL) : (ixF l).length + (rT l).length + (rS l).length = l.length := by
  induction l with
  | nil => rfl
  | cons p r ih =>
    simp only [ixF, rT, rS, List.filter_cons] at ih ⊢
    by_cases h : 0 < p.2 <;> cases hb : idxB p.1 <;> simp [h] <;> omega

/-- What the document's Order holds behind some keys. -/
structure RR (w : World) (F T S : KL) (vf vt vs : Value) (wr : World) : Prop where
  f : wr.ownsRow w.heap.size 25 2 vf F.length (kc F)
  t : wr.ownsRow w.heap.size 25 2 vt T.length (kc T)
  s : wr.ownsRow w.heap.size 25 2 vs S.length (kc S)
  b : Below w.heap.size w wr
  ft : Apart vf vt
  fs : Apart vf vs
  ts : Apart vt vs
theorem RR.sym {w wr W w5 : World} {F T S : KL} {vf vt vs v' : Value} {s : ByteArray} {z : Int} (R : RR w F T S vf vt vs wr) (B : Below wr.heap.size wr W) (hg : W.grownBy w5 vs.ownBlock) (o : w5.ownsRow w.heap.size 25 2 v' (S.length + 1) (kc S ++ [.string s, .int .i64 z])) (hl : v'.ownBlock = vs.ownBlock ∨ v'.ownBlock = some W.heap.size) : RR w F T (S ++ [(s, z)]) vf vt v' w5 := by
  have hb := R.b.size
  have of := own_below R.f B; have ot := own_below R.t B; have os := own_below R.s B
  refine ⟨own_other of hg R.fs, own_other ot hg R.ts, ?_, ?_, R.ft, apart_new of R.fs hl (Nat.le_refl _), apart_new ot R.ts hl (Nat.le_refl _)⟩
  · rw [List.length_append, kc_append]; exact o
  · exact (R.b.trans (B.mono hb)).trans ((Below.refl _ _).grown hg (Nat.le_trans hb B.size) (fun k hk => (os.lt k hk).1))
theorem RR.tx {w wr W w5 : World} {F T S : KL} {vf vt vs v' : Value} {s : ByteArray} {z : Int} (R : RR w F T S vf vt vs wr) (B : Below wr.heap.size wr W) (hg : W.grownBy w5 vt.ownBlock) (o : w5.ownsRow w.heap.size 25 2 v' (T.length + 1) (kc T ++ [.string s, .int .i64 z])) (hl : v'.ownBlock = vt.ownBlock ∨ v'.ownBlock = some W.heap.size) : RR w F (T ++ [(s, z)]) S vf v' vs w5 := by
  have hb := R.b.size
  have of := own_below R.f B; have ot := own_below R.t B; have os := own_below R.s B
  refine ⟨own_other of hg R.ft, ?_, own_other os hg R.ts.symm, ?_, apart_new of R.ft hl (Nat.le_refl _), R.fs, (apart_new os R.ts.symm hl (Nat.le_refl _)).symm⟩
  · rw [List.length_append, kc_append]; exact o
  · exact (R.b.trans (B.mono hb)).trans ((Below.refl _ _).grown hg (Nat.le_trans hb B.size) (fun k hk => (ot.lt k hk).1))
theorem own_base {w : World} {B B' : Nat} {e : TypeId} {sz : Nat} {v : Value} {n : Nat} {xs : List Value} (h : w.ownsRow B' e sz v n xs) (hB : B ≤ B') : w.ownsRow B e sz v n xs := by
  refine ⟨h.1, ?_⟩
  rcases h.2 with h | ⟨g, cap, cur, e1, hb, rest⟩
  · exact .inl h
  · exact .inr ⟨g, cap, cur, e1, Nat.le_trans hB hb, rest⟩
theorem apart_fresh {W w5 : World} {B : Nat} {e e' : TypeId} {sz sz' : Nat} {u v : Value} {n n' : Nat} {xs xs' : List Value} (h : W.ownsRow B e sz u n xs) (h' : w5.ownsRow W.heap.size e' sz' v n' xs') : Apart v u := by
  intro g hg e2
  have h1 := (h.lt g e2).2
  have h2 := (h'.lt g hg).1
  omega
/-- The row of indices anew, in new memory. -/
theorem RR.new {w wr W w5 : World} {F F' T S : KL} {vf vt vs v' : Value} (R : RR w F T S vf vt vs wr) (B : Below wr.heap.size wr W) (hg : W.grownBy w5 none) (o : w5.ownsRow W.heap.size 25 2 v' F'.length (kc F')) : RR w F' T S v' vt vs w5 := by
  have hb := R.b.size
  have ot := own_below R.t B; have os := own_below R.s B
  refine ⟨own_base o (Nat.le_trans hb B.size), own_other ot hg (fun _ _ e => by cases e), own_other os hg (fun _ _ e => by cases e), ?_, apart_fresh ot o, apart_fresh os o, R.ts⟩
  exact (R.b.trans (B.mono hb)).trans ((Below.refl _ _).grown hg (Nat.le_trans hb B.size) (fun _ e => by cases e))

theorem step_append_grows {P : Program} {ops : Array Oper} {o : Oper} {a : Act} {w : World} {K : Act → World → Prop} {Q : Exit → Act → World → Prop} {E : Prop}
    (hg : o.guard = none) (s x : Operand) (t : TypeId) (hop : o.op = Op.call { callee := Callee.builtin Builtin.append, args := #[s, x], argTypes := #[t, t] })
    (e : TypeId) (i : TypeInfo) (z : Value) (size bytes : Nat) (h1 : P.underlying t = some (.slice e)) (h2 : P.info? e = some i) (h3 : i.zero = some z) (h4 : i.size = size) (h5 : i.bytes = bytes) (h6 : z.cells.size = size) (h7 : 0 < size)
    (ao : Option Addr) (n cap : Nat) (olds : List Value) (hs : a.eval s = .slice ao n cap) (hnone : ao = none → n = 0 ∧ cap = 0) (hlo : olds.length = n * size) (holds : ∀ b, ao = some b → ∀ j u, olds[j]? = some u → w.cell? (b.add j) = some u)
    (ad : Addr) (m c : Nat) (news : List Value) (hx : a.eval x = .slice (some ad) m c) (hn : news.length = m * size) (hc : ∀ j u, news[j]? = some u → w.cell? (ad.add j) = some u) (h1c : ∀ u ∈ news, u.oneCell' = true)
    (hfull : cap < n + m) (b1 : n + m ≤ maxLen) (b2 : (n + m) * bytes ≤ 140737488355328)
    (hK : ∀ v' w', w'.ownsRow w.heap.size e size v' (n + m) (olds ++ news) → w.grownBy w' none → K (a.put o.dst v') w') :
    if Region.wanted o (yielded ops a.tmps) = true then Oper.wp P o a w K Q else E := by
  have hw : Region.wanted o (yielded ops a.tmps) = true := by simp [Region.wanted, hg]
  rw [if_pos hw]
  cases ao with
  | some b =>
    obtain ⟨v', w', hrun, r1, r2⟩ := run_append_arg_grows (P := P) w t o.type e i z size bytes h1 h2 h3 h4 h5 h6 h7 b n cap olds hlo (holds b rfl) ad m c news hn hc hfull b1 b2
    unfold Oper.wp
    simp [execOp, hop, resolve, invoke, builtin, hs, hx, hrun, Result.andThen]
    exact hK v' w' r1 r2
  | none =>
    obtain ⟨rfl, rfl⟩ := hnone rfl
    obtain rfl : olds = [] := List.eq_nil_of_length_eq_zero (by simpa using hlo)
    obtain ⟨v', w', hrun, r1, r2, _⟩ := run_append_own (P := P) w w.heap.size t o.type e i z size bytes h1 h2 h3 h4 h5 h6 h7 (.slice none 0 0) 0 [] (World.ownsRow_nil w _ e size) ad m c news hn hc h1c b1 b2 (Nat.le_refl _)
    unfold Oper.wp
    simp [execOp, hop, resolve, invoke, builtin, hs, hx, hrun, Result.andThen]
    exact hK v' w' r1 r2
theorem step_append_nil {P : Program} {ops : Array Oper} {o : Oper} {a : Act} {w : World} {K : Act → World → Prop} {Q : Exit → Act → World → Prop} {E : Prop}
    (hg : o.guard = none) (s x : Operand) (t : TypeId) (hop : o.op = Op.call { callee := Callee.builtin Builtin.append, args := #[s, x], argTypes := #[t, t] })
    (base : Nat) (e : TypeId) (i : TypeInfo) (size : Nat) (h1 : P.underlying t = some (.slice e)) (h2 : P.info? e = some i)
    (v : Value) (n : Nat) (xs : List Value) (hs : a.eval s = v) (hown : w.ownsRow base e size v n xs) (hx : a.eval x = .slice none 0 0) (hK : K (a.put o.dst v) w) :
    if Region.wanted o (yielded ops a.tmps) = true then Oper.wp P o a w K Q else E := by
  have hw : Region.wanted o (yielded ops a.tmps) = true := by simp [Region.wanted, hg]
  rw [if_pos hw]
  have hrun := run_append_owned_none (P := P) w base t o.type e i size h1 h2 v n xs hown
  unfold Oper.wp
  simp [execOp, hop, resolve, invoke, builtin, hs, hx, hrun, Result.andThen]
  exact hK
/-- A key in its box. -/
structure KQ (w : World) (b : Nat) (p : ByteArray × Int) : Prop where
  c0 : w.cell? ⟨b, 0, none⟩ = some (.string p.1)
  c1 : w.cell? ⟨b, 1, none⟩ = some (.int .i64 p.2)
  lt : b < w.heap.size
theorem KQ.grow {w w' : World} {b : Nat} {p : ByteArray × Int} (h : KQ w b p) (hb : Below w.heap.size w w') : KQ w' b p :=
  ⟨(hb.cell (p := ⟨b, 0, none⟩) h.lt).trans h.c0, (hb.cell (p := ⟨b, 1, none⟩) h.lt).trans h.c1, Nat.lt_of_lt_of_le h.lt hb.size⟩
/-- A new row of one key is owned. -/
theorem own_one (W : World) (s : ByteArray) (z : Int) : (W.alloc (.cells #[.string s, .int .i64 z] 25)).ownsRow W.heap.size 25 2 (.slice (some ⟨W.heap.size, 0, none⟩) 1 1) 1 [.string s, .int .i64 z] :=
  ⟨rfl, .inr ⟨W.heap.size, 1, #[.string s, .int .i64 z], rfl, Nat.le_refl _, heap_alloc_new W _, Nat.le_refl _, by unfold maxLen; omega, rfl, rfl⟩⟩

theorem kc_take (l : KL) (n : Nat) : kc (l.take n) = (kc l).take (n * 2) := by
  induction l generalizing n with
  | nil => simp [kc]
  | cons p r ih =>
    cases n with
    | zero => simp [kc]
    | succ n =>
      rw [List.take_succ_cons, show kc (p :: r.take n) = .string p.1 :: .int .i64 p.2 :: kc (r.take n) from rfl, show kc (p :: r) = .string p.1 :: .int .i64 p.2 :: kc r from rfl, ih n, show (n + 1) * 2 = n * 2 + 1 + 1 from by omega]
      rfl
theorem kc_drop (l : KL) (n : Nat) : kc (l.drop n) = (kc l).drop (n * 2) := by
  induction l generalizing n with
  | nil => simp [kc]
  | cons p r ih =>
    cases n with
    | zero => simp
    | succ n =>
      rw [List.drop_succ_cons, show kc (p :: r) = .string p.1 :: .int .i64 p.2 :: kc r from rfl, ih n, show (n + 1) * 2 = n * 2 + 1 + 1 from by omega]
      rfl
theorem kc_ins (l : KL) (n : Nat) (s : ByteArray) (z : Int) : kc (l.take n ++ (s, z) :: l.drop n) = (kc l).take (n * 2) ++ ([.string s, .int .i64 z] ++ (kc l).drop (n * 2)) := by
  rw [kc_append, kc_take, show kc ((s, z) :: l.drop n) = [.string s, .int .i64 z] ++ kc (l.drop n) from rfl, kc_drop]
theorem ins_perm (l : KL) (n : Nat) (p : ByteArray × Int) : (l.take n ++ p :: l.drop n).Perm (l ++ [p]) := by
  refine List.perm_middle.trans ?_
  rw [List.take_append_drop]
  exact (List.perm_append_singleton p l).symm
theorem ins_sorted (F : KL) (at' n : Nat) (p : ByteArray × Int) (hp : idxN p.1 = n) (h : (F.map fun p => idxN p.1).Pairwise (· ≤ ·)) (h1 : ∀ j (h : j < F.length), at' ≤ j → n < idxN F[j].1) (h2 : at' = 0 ∨ ∃ h : at' - 1 < F.length, idxN F[at' - 1].1 ≤ n) :
    ((F.take at' ++ p :: F.drop at').map fun p => idxN p.1).Pairwise (· ≤ ·) := by
  have hs : ∀ i j (hi : i < F.length) (hj : j < F.length), i < j → idxN F[i].1 ≤ idxN F[j].1 := fun i j hi hj hij => by
    have := (List.pairwise_iff_getElem.1 h) i j (by simpa using hi) (by simpa using hj) hij
    simpa using this
  rw [List.map_append, List.map_cons, List.pairwise_append]
  refine ⟨?_, ?_, ?_⟩
  · rw [List.map_take]; exact h.sublist (List.take_sublist _ _)
  · rw [List.pairwise_cons]
    refine ⟨?_, by rw [List.map_drop]; exact h.sublist (List.drop_sublist _ _)⟩
    intro x hx
    rw [List.mem_map] at hx
    obtain ⟨q, hq, rfl⟩ := hx
    obtain ⟨j, hj, rfl⟩ := List.getElem_of_mem hq
    rw [List.getElem_drop, hp]
    exact Nat.le_of_lt (h1 _ _ (by omega))
  · intro x hx y hy
    rw [List.mem_map] at hx
    obtain ⟨q, hq, rfl⟩ := hx
    obtain ⟨j, hj, rfl⟩ := List.getElem_of_mem hq
    rw [List.length_take] at hj
    have hx1 : idxN F[j].1 ≤ n := by
      rcases h2 with rfl | ⟨h3, h4⟩
      · omega
      · by_cases e : j = at' - 1
        · subst e; exact h4
        · exact Nat.le_trans (hs j (at' - 1) (by omega) h3 (by omega)) h4
    rw [List.getElem_take]
    rcases List.mem_cons.1 hy with rfl | hy
    · rw [hp]; exact hx1
    · rw [List.mem_map] at hy
      obtain ⟨r, hr, rfl⟩ := hy
      obtain ⟨i, hi, rfl⟩ := List.getElem_of_mem hr
      rw [List.getElem_drop]
      exact Nat.le_trans hx1 (Nat.le_of_lt (h1 _ _ (by omega)))
/-- Cells of a part of an owned row. -/
theorem part_take {w : World} {B g n c k : Nat} {F : KL} (o : w.ownsRow B 25 2 (.slice (some ⟨g, 0, none⟩) n c) n (kc F)) : ∀ j u, ((kc F).take k)[j]? = some u → w.cell? ((⟨g, 0, none⟩ : Addr).add j) = some u := fun j u h => by
  refine o.cells (g := g) rfl j u ?_
  rw [List.getElem?_take] at h
  split at h
  · exact h
  · cases h
theorem part_drop {w : World} {B g n c k : Nat} {F : KL} (o : w.ownsRow B 25 2 (.slice (some ⟨g, 0, none⟩) n c) n (kc F)) : ∀ j u, ((kc F).drop k)[j]? = some u → w.cell? ((⟨g, k, none⟩ : Addr).add j) = some u := fun j u h => by
  have := o.cells (g := g) rfl (k + j) u (by rw [List.getElem?_drop] at h; exact h)
  rw [Addr.add_lit] at this ⊢
  simpa using this
theorem own_cells0 {w : World} {B g n c : Nat} {xs : List Value} (o : w.ownsRow B 25 2 (.slice (some ⟨g, 0, none⟩) n c) n xs) : ∀ j u, xs[j]? = some u → w.cell? ((⟨g, 0, none⟩ : Addr).add j) = some u := fun j u h => o.cells (g := g) rfl j u h

set_option maxHeartbeats 8000000 in
set_option maxRecDepth 100000 in
theorem rorder_any (l : KL) (hz : ∀ p ∈ l, (p.1.size : Int) ≤ 140737488351232) (hn : (l.length : Int) * 24 ≤ 140737488351232) (v : Value) (w : World) (hv : RdK w v l) :
    Calls Tryd.prog 7 #[v] w fun e w' => ∃ v', e = .returned v' ∧ ∃ F, F.Perm (ixF l) ∧ (F.map fun p => idxN p.1).Pairwise (· ≤ ·) ∧ w'.ownsRow w.heap.size 25 2 v' (F ++ rT l ++ rS l).length (kc (F ++ rT l ++ rS l)) ∧ Below w.heap.size w w' := by
  obtain ⟨ik, hik, hk0, hk1, hk2⟩ := info_parts infoK
  have HV := Hid.mk' hv
  have HZ := Hid.mk' hz
  obtain ⟨x, c, rfl⟩ := hv.form
  clear hv hz
  go_enter Tryd.func7, Tryd.ntmps7
  go_wp2
  go_loopw [3, 4, 5, 15] (fun vf vt vs vk wr => ∃ (k : Nat) (F : KL), vk = .int .i64 k ∧ k ≤ l.length ∧ Hid (F.Perm (ixF (l.take k))) ∧ Hid ((F.map fun p => idxN p.1).Pairwise (· ≤ ·)) ∧ Hid (RR w F (rT (l.take k)) (rS (l.take k)) vf vt vs wr)) (fun _ _ _ vk _ => l.length - (intOf vk).toNat)
  case atStart => exact ⟨0, [], rfl, Nat.zero_le _, Hid.mk' (List.Perm.refl _), Hid.mk' List.Pairwise.nil, Hid.mk' ⟨World.ownsRow_nil _ _ _ _, World.ownsRow_nil _ _ _ _, World.ownsRow_nil _ _ _ _, Below.refl _ _, apart_nil _, apart_nil _, apart_nil _⟩⟩
  case round =>
    obtain ⟨k, F, rfl, hk, HF, HS, HR⟩ := hrel
    have hBW : w.heap.size ≤ wr.heap.size := HR.out.b.size
    have hpl := rp_length (l.take k)
    have hlk : (l.take k).length = k := by simp; omega
    have hFl : F.length = (ixF (l.take k)).length := HF.out.length_eq
    by_cases hlt : k < l.length
    · have hps := take_snoc l k hlt
      have hsz : (l[k].1.size : Int) ≤ 140737488351232 := HZ.out _ (List.getElem_mem hlt)
      have hk64 : (k : Int) * 24 + 24 ≤ 140737488351232 := by omega
      rcases HV.out.below HR.out.b with ⟨a', c', e', h', _⟩ | ⟨g, o, c', e', hlc, hg, hc⟩
      · rw [h'] at hlt; simp at hlt
      simp only [Value.slice.injEq] at e'
      obtain ⟨rfl, _, rfl⟩ := e'
      obtain ⟨c0, c1⟩ := hc k hlt
      obtain ⟨s, z, hsz', hp⟩ : ∃ s z, ((s.size : Int) ≤ 140737488351232) ∧ l[k] = (s, z) := ⟨l[k].1, l[k].2, hsz, rfl⟩
      rw [hp] at c0 c1 hps
      dsimp only at c0 c1
      have i1 : (k : Int) < (l.length : Int) := by omega
      have HPS := Hid.mk' hps
      obtain ⟨nT, hnT⟩ : ∃ n, (rT (l.take k)).length = n := ⟨_, rfl⟩
      obtain ⟨nS, hnS⟩ : ∃ n, (rS (l.take k)).length = n := ⟨_, rfl⟩
      obtain ⟨nF, hnF⟩ : ∃ n, F.length = n := ⟨_, rfl⟩
      have hT : nT ≤ k := by omega
      have hS : nS ≤ k := by omega
      have hF : nF ≤ k := by omega
      have HTS := Hid.mk' (And.intro hnT (And.intro hnS hnF))
      clear hc hlc hpl hsz hp hps hFl hnT hnS hlk
      by_cases hsym : 0 < z
      · go_wp2_with (first | (at_builtin; go_must (refine wpList_append_own_at _ rfl _ _ 22 rfl w.heap.size 25 ik (.agg #[.string ⟨#[]⟩, .int .i64 0]) 2 24 Tryd.underlying22 hik hk0 hk1 hk2 rfl (by decide) _ _ _ rfl (own_below HR.out.s ?bw) ⟨wr.heap.size + 1, 0, none⟩ 1 1 [.string s, .int .i64 z] rfl rfl ?c1 (by simp [Value.oneCell']) ?c2 ?c3 ?c4 ?_); rotate_left 5; intro v5 w5 o5 g5 _ hl5))
        case roundEnd =>
          refine ⟨⟨k + 1, F, by go_num, by omega, ?_, HS, ?_⟩, by simp [intOf]; omega⟩
          · rw [HPS.out, (rp_sym _ s z hsym).1]; exact HF
          · rw [HPS.out, (rp_sym _ s z hsym).2.1, (rp_sym _ s z hsym).2.2]
            refine Hid.mk' (HR.out.sym ?_ g5 o5 hl5)
            repeat' (first | exact Below.refl _ _ | refine RowKit.Below.alloc ?_ (by simp) _)
        case bw => repeat' (first | exact Below.refl _ _ | refine RowKit.Below.alloc ?_ (by simp) _)
        case c1 => exact cells_new_at _ _ _ _ (by simp)
        case c2 => have := HTS.out; unfold maxLen; omega
        case c3 => have := HTS.out; omega
        case c4 => simp; omega
      · have HSY : Hid (¬ 0 < z) := Hid.mk' hsym
        have HIx := Hid.mk' (fun W => rindex_any s W hsz')
        cases hib : idxB s
        · rw [idxE_no hib] at HIx
          go_wp2_with (first | (go_at_call 21; refine (HIx.out _).mono ?_; rintro e w1 ⟨rfl, b1⟩; have d0 := (b1.cell (p := ⟨wr.heap.size, 0, none⟩) (by simp)).trans (World.cell?_alloc_new _ _ _ _); have d1 := (b1.cell (p := ⟨wr.heap.size, 1, none⟩) (by simp)).trans (World.cell?_alloc_new _ _ _ _); simp only [List.getElem?_toArray, List.getElem?_cons_zero, List.getElem?_cons_succ] at d0 d1; have s1 : wr.heap.size < w1.heap.size := Nat.lt_of_lt_of_le (by simp) b1.size; have B1 : Below wr.heap.size wr w1 := ((Below.refl _ _).alloc (Nat.le_refl _) _).trans (b1.mono (by simp))) | (at_builtin; go_must (refine wpList_append_own_at _ rfl _ _ 22 rfl w.heap.size 25 ik (.agg #[.string ⟨#[]⟩, .int .i64 0]) 2 24 Tryd.underlying22 hik hk0 hk1 hk2 rfl (by decide) _ _ _ rfl (own_below HR.out.t ?bw) ⟨w1.heap.size, 0, none⟩ 1 1 [.string s, .int .i64 z] rfl rfl ?c1 (by simp [Value.oneCell']) ?c2 ?c3 ?c4 ?_); rotate_left 5; intro v5 w5 o5 g5 _ hl5))
          case roundEnd =>
            refine ⟨⟨k + 1, F, by go_num, by omega, ?_, HS, ?_⟩, by simp [intOf]; omega⟩
            · rw [HPS.out, (rp_tx _ s z (by omega) hib).1]; exact HF
            · rw [HPS.out, (rp_tx _ s z (by omega) hib).2.1, (rp_tx _ s z (by omega) hib).2.2]
              refine Hid.mk' (HR.out.tx ?_ g5 o5 hl5)
              repeat' (first | exact B1 | refine RowKit.Below.alloc ?_ (by first | omega | (simp; omega)) _)
          case bw => repeat' (first | exact B1 | refine RowKit.Below.alloc ?_ (by first | omega | (simp; omega)) _)
          case c1 => exact cells_new_at _ _ _ _ rfl
          case c2 => have := HTS.out; unfold maxLen; omega
          case c3 => have := HTS.out; omega
          case c4 => simp; omega
        · obtain ⟨n, hnn⟩ : ∃ n, idxN s = n := ⟨_, rfl⟩
          rw [show idxE s = .returned (.tuple #[.int .u32 n, .bool true]) from by unfold idxE; rw [hib, hnn]] at HIx
          have hn32 : n ≤ 4294967294 := by rw [← hnn]; exact idxN_lt s
          have HNN := Hid.mk' hnn
          clear hnn
          have HRf := HR.out.f
          rw [hnF] at HRf
          obtain ⟨xf, cf, hvf, hxf⟩ := own_slice' HRf
          subst hvf
          go_wp2_with fail
          refine (HIx.out _).mono ?_
          rintro e w1 ⟨rfl, b1⟩
          have d0 := (b1.cell (p := ⟨wr.heap.size, 0, none⟩) (by simp)).trans (World.cell?_alloc_new _ _ _ _)
          have d1 := (b1.cell (p := ⟨wr.heap.size, 1, none⟩) (by simp)).trans (World.cell?_alloc_new _ _ _ _)
          simp only [List.getElem?_toArray, List.getElem?_cons_zero, List.getElem?_cons_succ] at d0 d1
          have s1 : wr.heap.size < w1.heap.size := Nat.lt_of_lt_of_le (by simp) b1.size
          have B1 : Below wr.heap.size wr w1 := ((Below.refl _ _).alloc (Nat.le_refl _) _).trans (b1.mono (by simp))
          have HBX : Hid (KQ w1 wr.heap.size (s, z)) := Hid.mk' ⟨d0, d1, s1⟩
          clear b1 d0 d1 HRf c0 c1 hg HIx
          have hFm : ∀ p ∈ F, (p.1.size : Int) ≤ 140737488351232 := fun p hp => HZ.out p (List.mem_of_mem_take (List.mem_filter.1 (HF.out.mem_iff.1 hp)).1)
          have HFm := Hid.mk' hFm
          clear hFm
          iterate 51 (first | go_values | go_skip | go_guarded | go_step | go_upon | go_back | go_simp)
          go_cut [10] from 16 to 68 (fun va wc => ∃ at' : Nat, va = .int .i64 at' ∧ at' ≤ nF ∧ Hid (KQ wc wr.heap.size (s, z)) ∧ Hid (Below wr.heap.size wr wc) ∧ Hid (∀ j (h : j < F.length), at' ≤ j → n < idxN F[j].1) ∧ Hid (at' = 0 ∨ ∃ h : at' - 1 < F.length, idxN F[at' - 1].1 ≤ n))
          case first =>
            go_wp2_with fail
            go_loopw [10] (fun va wr2 => ∃ at' : Nat, va = .int .i64 at' ∧ at' ≤ nF ∧ Hid (KQ wr2 wr.heap.size (s, z)) ∧ Hid (Below wr.heap.size wr wr2) ∧ Hid (∀ j (h : j < F.length), at' ≤ j → n < idxN F[j].1)) (fun va _ => (intOf va).toNat)
            case atStart => exact ⟨nF, rfl, Nat.le_refl _, HBX, Hid.mk' B1, Hid.mk' (fun j h hj => by omega)⟩
            case round =>
              obtain ⟨at', rfl, hat, HQ2, HB2, HP2⟩ := hrel
              by_cases h0 : 0 < at'
              · have z0 : (0 : Int) < (at' : Int) := by omega
                have z1 : (0 : Int) ≤ (at' : Int) - 1 := by omega
                have z2 : (at' : Int) - 1 < (nF : Int) := by omega
                have hj : at' - 1 < F.length := by omega
                have HE9 : Hid (Value.int .i64 ((at' : Int) - 1) = .int .i64 ((at' - 1 : Nat) : Int)) := Hid.mk' (by congr 1; omega)
                have o2 := own_below HR.out.f HB2.out
                rw [hnF] at o2
                obtain ⟨gf, rfl⟩ := own_some o2 (by omega)
                rw [← hnF] at o2
                obtain ⟨fs, fz, hfz⟩ : ∃ fs fz, F[at' - 1] = (fs, fz) := ⟨_, _, rfl⟩
                have cf0 : wr.cell? ⟨gf, (at' - 1) * 2, none⟩ = some (.string fs) := by
                  rcases RdK.own o2 with ⟨a', c', e', h', _⟩ | ⟨g3, o3, c3, e3, _, _, hc3⟩
                  · rw [h'] at hj; simp at hj
                  · simp only [Value.slice.injEq, Option.some.injEq, Addr.mk.injEq] at e3
                    obtain ⟨⟨rfl, rfl, _⟩, _, _⟩ := e3
                    have := (hc3 (at' - 1) hj).1
                    rw [hfz] at this
                    simpa using this
                have hfs : (fs.size : Int) ≤ 140737488351232 := by have := HFm.out _ (List.getElem_mem hj); rw [hfz] at this; exact this
                have HI2 := Hid.mk' (fun W => rindex_any fs W hfs)
                have hm32 := idxN_lt fs
                obtain ⟨m, hm⟩ : ∃ m, idxN fs = m := ⟨_, rfl⟩
                have HM : Hid (idxN F[at' - 1].1 = m) := Hid.mk' (by rw [hfz]; exact hm)
                unfold idxE at HI2
                rw [hm] at HI2 hm32
                obtain ⟨ib, hib2⟩ : ∃ ib, idxB fs = ib := ⟨_, rfl⟩
                rw [hib2] at HI2
                clear o2 hfz hm hib2
                by_cases hle : m ≤ n
                · have zle : (m : Int) ≤ (n : Int) := by omega
                  go_wp2_with (first | (go_at_call 21; refine (HI2.out _).mono ?_; rintro e w3 ⟨rfl, b3⟩))
                  go_meet
                  case rel => exact ⟨at', rfl, hat, Hid.mk' (HQ2.out.grow b3), Hid.mk' (HB2.out.trans (b3.mono HB2.out.size)), HP2, Hid.mk' (.inr ⟨hj, by rw [HM.out]; exact hle⟩)⟩
                · have zle : ¬ (m : Int) ≤ (n : Int) := by omega
                  go_wp2_with (first | (go_at_call 21; refine (HI2.out _).mono ?_; rintro e w3 ⟨rfl, b3⟩))
                  go_roundw
                  case rel =>
                    refine ⟨at' - 1, HE9.out, Nat.le_trans (Nat.sub_le _ _) hat, Hid.mk' (HQ2.out.grow b3), Hid.mk' (HB2.out.trans (b3.mono HB2.out.size)), Hid.mk' (fun j h hj2 => ?_)⟩
                    by_cases e : at' ≤ j
                    · exact HP2.out j h e
                    · obtain rfl : j = at' - 1 := by omega
                      rw [HM.out]; omega
                  case measure => simp [intOf]; omega
              · have z0 : ¬ (0 : Int) < (at' : Int) := by omega
                go_wp2_with fail
                go_meet
                case rel => exact ⟨at', rfl, hat, HQ2, HB2, HP2, Hid.mk' (.inl (by omega))⟩
          obtain ⟨at', rfl, hat, HQ3, HB3, HP3, HX3⟩ := hcut
          have k0 := HQ3.out.c0
          have k1 := HQ3.out.c1
          have klt := HQ3.out.lt
          dsimp only at k0 k1
          have sB : wr.heap.size ≤ wc.heap.size := HB3.out.size
          have OF := Hid.mk' (own_below HR.out.f HB3.out)
          rw [hnF] at OF
          have HD1 : Hid (∀ W : World, W.heap.size ≤ (W.alloc (.cells #[.string s, .int .i64 z] 25)).heap.size) := Hid.mk' (fun W => by simp)
          have hpos : 0 < 1 + (nF - at') := by omega
          have m1 : 1 + (nF - at') ≤ maxLen := by unfold maxLen; omega
          have m2 : (1 + (nF - at')) * 24 ≤ 140737488355328 := by omega
          have m3 : at' + (1 + (nF - at')) ≤ maxLen := by unfold maxLen; omega
          have m4 : (at' + (1 + (nF - at'))) * 24 ≤ 140737488355328 := by omega
          have m5 : at' < at' + (1 + (nF - at')) := by omega
          have hlt1 : ((kc F).take (at' * 2)).length = at' * 2 := by rw [List.length_take, kc_length]; omega
          have hlt2 : ((kc F).drop (at' * 2)).length = (nF - at') * 2 := by rw [List.length_drop, kc_length]; omega
          have hlt3 : ([Value.string s, .int .i64 z] ++ (kc F).drop (at' * 2)).length = (1 + (nF - at')) * 2 := by rw [List.length_append, hlt2]; simp; omega
          have hon2 : ∀ u ∈ (kc F).drop (at' * 2), u.oneCell' = true := fun u hu => kc_one' F u (List.mem_of_mem_drop hu)
          have hon3 : ∀ u ∈ [Value.string s, .int .i64 z] ++ (kc F).drop (at' * 2), u.oneCell' = true := fun u hu => by
            rcases List.mem_append.1 hu with h | h
            · simp at h; rcases h with rfl | rfl <;> rfl
            · exact hon2 u h
          have FIN : ∀ (W5 w6 : World) (v6 : Value), Below wr.heap.size wr W5 → W5.grownBy w6 none → w6.ownsRow W5.heap.size 25 2 v6 (at' + (1 + (nF - at'))) ((kc F).take (at' * 2) ++ ([.string s, .int .i64 z] ++ (kc F).drop (at' * 2))) →
              ∃ F' : KL, Hid (F'.Perm (ixF (l.take (k + 1)))) ∧ Hid ((F'.map fun p => idxN p.1).Pairwise (· ≤ ·)) ∧ Hid (RR w F' (rT (l.take (k + 1))) (rS (l.take (k + 1))) v6 u4 u5 w6) := fun W5 w6 v6 hB hg ho => by
            have hp := rp_ix (l.take k) s z (by omega) hib
            refine ⟨F.take at' ++ (s, z) :: F.drop at', Hid.mk' ?_, Hid.mk' (ins_sorted F at' n (s, z) HNN.out HS.out HP3.out HX3.out), Hid.mk' ?_⟩
            · rw [HPS.out, hp.1]
              exact (ins_perm F at' (s, z)).trans (HF.out.append_right _)
            · rw [HPS.out, hp.2.1, hp.2.2]
              refine HR.out.new hB hg ?_
              rw [kc_ins]
              have e : (F.take at' ++ (s, z) :: F.drop at').length = at' + (1 + (nF - at')) := by simp; omega
              rw [e]
              exact ho
          have HFIN := Hid.mk' FIN
          clear FIN
          have za : (0 : Int) ≤ (at' : Int) := by omega
          have zb : (at' : Int) ≤ (nF : Int) := by omega
          rcases hxf with ⟨rfl, h0, rfl⟩ | ⟨gf, rfl, hgf⟩
          · subst h0
            obtain rfl : at' = 0 := by omega
            have hF0 : F = [] := List.eq_nil_of_length_eq_zero hnF
            have hon1 : ∀ u ∈ [Value.string s, .int .i64 z], u.oneCell' = true := fun u hu => by simp at hu; rcases hu with rfl | rfl <;> rfl
            have n1 : (0 : Nat) < 0 + 1 := by omega
            have n2 : 0 + 1 ≤ maxLen := by unfold maxLen; omega
            have n3 : (0 + 1) * 24 ≤ 140737488355328 := by omega
            have HF0 := Hid.mk' hF0
            clear hF0
            go_wp2_with fail
            go_region_law (first | (refine step_append_nil rfl (.tmp 62) (.tmp 65) 22 rfl _ 25 ik 2 Tryd.underlying22 hik _ _ _ rfl (own_one _ s z) rfl ?_) | (refine step_append_grows rfl (.tmp 60) (.tmp 66) 22 rfl 25 ik (.agg #[.string ⟨#[]⟩, .int .i64 0]) 2 24 Tryd.underlying22 hik hk0 hk1 hk2 rfl (by decide) none 0 0 [] rfl (fun _ => ⟨rfl, rfl⟩) rfl (fun b hb => no_some hb) ⟨wc.drew.heap.size, 0, none⟩ 1 1 [Value.string s, .int .i64 z] rfl rfl (own_cells0 (own_one _ s z)) hon1 n1 n2 n3 ?_; intro v6 w6 o6 g6))
            all_goals
              have B5 : Below wr.heap.size wr (wc.drew.alloc (.cells #[.string s, .int .i64 z] 25)) := HB3.out.trans ((((Below.refl wc.heap.size wc).drew).alloc (Nat.le_refl _) (.cells #[.string s, .int .i64 z] 25)).mono sB)
              obtain ⟨F', h1, h2, h3⟩ := HFIN.out _ w6 v6 B5 g6 (by rw [HF0.out]; exact o6)
              clear o6 g6
              go_wp2_with fail
              go_roundw
              case rel => exact ⟨k + 1, F', by go_num, by omega, h1, h2, h3⟩
              case measure => simp [intOf]; omega
          · have a2 : nF ≤ cf := by
              rcases OF.out.2 with ⟨h, _⟩ | ⟨g3, cap3, cur3, e3, _, _, h3, _⟩
              · cases h
              · simp only [Value.slice.injEq] at e3
                obtain ⟨_, _, rfl⟩ := e3
                exact h3
            have zc : (nF : Int) ≤ (cf : Int) := by omega
            have hac : at' ≤ cf := by omega
            have GNE : Hid (∀ g, (Value.slice (some ⟨gf, 0, none⟩) nF cf).ownBlock = some g → g ≠ wc.heap.size) := Hid.mk' (fun g hg e => by have := (OF.out.lt g hg).2; omega)
            by_cases hce : cf = at'
            · subst hce
              obtain rfl : nF = cf := by omega
              have hempty : (kc F).drop (nF * 2) = [] := List.eq_nil_of_length_eq_zero (by rw [hlt2]; omega)
              have hon1 : ∀ u ∈ [Value.string s, .int .i64 z], u.oneCell' = true := fun u hu => by simp at hu; rcases hu with rfl | rfl <;> rfl
              have n1 : nF < nF + 1 := by omega
              have n2 : nF + 1 ≤ maxLen := by unfold maxLen; omega
              have n3 : (nF + 1) * 24 ≤ 140737488355328 := by omega
              have n4 : 1 + 0 ≤ maxLen := by unfold maxLen; omega
              have n5 : (1 + 0) * 24 ≤ 140737488355328 := by omega
              have HE := Hid.mk' hempty
              have p1 : 0 < 1 + 0 := by omega
              clear hempty
              go_wp2_with fail
              go_region_law (first | (refine step_append_own_at rfl (.tmp 62) (.tmp 65) 22 rfl _ 25 ik (.agg #[.string ⟨#[]⟩, .int .i64 0]) 2 24 Tryd.underlying22 hik hk0 hk1 hk2 rfl (by decide) _ _ _ rfl (own_one _ s z) ⟨gf, 0, none⟩ 0 0 [] rfl rfl (fun j u h => no_get h) (fun u h => no_mem h) n4 n5 (HD1.out _) ?_; intro v5 w5 o5 g5 hl5; obtain ⟨y5, c5, hv5, _⟩ := own_slice' o5; subst hv5; obtain ⟨g5', rfl⟩ := own_some o5 p1; have OF5 := own_other (own_below OF.out (((Below.refl wc.heap.size wc).drew).alloc (Nat.le_refl _) (.cells #[.string s, .int .i64 z] 25))) g5 (fun g hg e => GNE.out g hg (Option.some.inj e).symm)) | (refine step_append_grows rfl (.tmp 60) (.tmp 66) 22 rfl 25 ik (.agg #[.string ⟨#[]⟩, .int .i64 0]) 2 24 Tryd.underlying22 hik hk0 hk1 hk2 rfl (by decide) (some ⟨gf, 0, none⟩) nF nF ((kc F).take (nF * 2)) rfl (fun h => no_none h) hlt1 (fun b hb => Option.some.inj hb ▸ part_take OF5) ⟨g5', 0, none⟩ 1 c5 ([Value.string s, .int .i64 z] ++ []) rfl rfl (own_cells0 o5) hon1 n1 n2 n3 ?_; intro v6 w6 o6 g6))
              all_goals
                have B5 : Below wr.heap.size wr w5 := (HB3.out.trans ((((Below.refl wc.heap.size wc).drew).alloc (Nat.le_refl _) (.cells #[.string s, .int .i64 z] 25)).mono sB)).trans ((Below.refl _ _).grown g5 (by simp; omega) (fun i hi => by cases hi; simp; omega))
                obtain ⟨F', h1, h2, h3⟩ := HFIN.out w5 w6 v6 B5 g6 (by rw [HE.out, show nF + (1 + (nF - nF)) = nF + 1 from by omega]; exact o6)
                clear o5 o6 g5 g6 hl5
                go_wp2_with fail
                go_roundw
                case rel => exact ⟨k + 1, F', by go_num, by omega, h1, h2, h3⟩
                case measure => simp [intOf]; omega
            · have zce : ¬ cf = at' := hce
              go_wp2_with fail
              go_region_law (first | (refine step_append_own_at rfl (.tmp 62) (.tmp 65) 22 rfl _ 25 ik (.agg #[.string ⟨#[]⟩, .int .i64 0]) 2 24 Tryd.underlying22 hik hk0 hk1 hk2 rfl (by decide) _ _ _ rfl (own_one _ s z) ⟨gf, at' * 2, none⟩ (nF - at') (cf - at') ((kc F).drop (at' * 2)) rfl hlt2 (part_drop (own_below OF.out (((Below.refl wc.heap.size wc).drew).alloc (Nat.le_refl _) _))) hon2 m1 m2 (HD1.out _) ?_; intro v5 w5 o5 g5 hl5; obtain ⟨y5, c5, hv5, _⟩ := own_slice' o5; subst hv5; obtain ⟨g5', rfl⟩ := own_some o5 hpos; have OF5 := own_other (own_below OF.out (((Below.refl wc.heap.size wc).drew).alloc (Nat.le_refl _) (.cells #[.string s, .int .i64 z] 25))) g5 (fun g hg e => GNE.out g hg (Option.some.inj e).symm)) | (refine step_append_grows rfl (.tmp 60) (.tmp 66) 22 rfl 25 ik (.agg #[.string ⟨#[]⟩, .int .i64 0]) 2 24 Tryd.underlying22 hik hk0 hk1 hk2 rfl (by decide) (some ⟨gf, 0, none⟩) at' at' ((kc F).take (at' * 2)) rfl (fun h => no_none h) hlt1 (fun b hb => Option.some.inj hb ▸ part_take OF5) ⟨g5', 0, none⟩ (1 + (nF - at')) c5 ([Value.string s, .int .i64 z] ++ (kc F).drop (at' * 2)) rfl hlt3 (own_cells0 o5) hon3 m5 m3 m4 ?_; intro v6 w6 o6 g6))
              all_goals
                have B5 : Below wr.heap.size wr w5 := (HB3.out.trans ((((Below.refl wc.heap.size wc).drew).alloc (Nat.le_refl _) (.cells #[.string s, .int .i64 z] 25)).mono sB)).trans ((Below.refl _ _).grown g5 (by simp; omega) (fun i hi => by cases hi; simp; omega))
                obtain ⟨F', h1, h2, h3⟩ := HFIN.out w5 w6 v6 B5 g6 o6
                clear o5 o6 g5 g6 hl5
                go_wp2_with fail
                go_roundw
                case rel => exact ⟨k + 1, F', by go_num, by omega, h1, h2, h3⟩
                case measure => simp [intOf]; omega
    · obtain rfl : k = l.length := by omega
      have zk : ¬ ((l.length : Int) < (l.length : Int)) := by omega
      rw [List.take_length] at HF HR hpl hFl
      have HFL := Hid.mk' (And.intro hFl hpl)
      clear hFl hpl
      go_wp2_with (first | (at_builtin; have _tk := hlk; go_must (refine wpList_append_own_any_at _ rfl _ _ 22 rfl w.heap.size 25 ik (.agg #[.string ⟨#[]⟩, .int .i64 0]) 2 24 Tryd.underlying22 hik hk0 hk1 hk2 rfl (by decide) _ _ _ rfl HR.out.f _ _ _ rfl _ HR.out.t (kc_one' _) ?a2 ?a3 ?a4 ?_); rotate_left 3; intro v5 w5 o5 g5 hl5; have HS5 := Hid.mk' (own_other HR.out.s g5 HR.out.fs.symm); have HO5 := Hid.mk' o5; have b5 : Below w.heap.size wr w5 := (Below.refl _ _).grown g5 hBW (fun k hk => (HR.out.f.lt k hk).1); have s5 : w.heap.size ≤ w5.heap.size := Nat.le_trans hBW b5.size; clear hlk) | (at_builtin; go_must (refine wpList_append_own_any_at _ rfl _ _ 22 rfl w.heap.size 25 ik (.agg #[.string ⟨#[]⟩, .int .i64 0]) 2 24 Tryd.underlying22 hik hk0 hk1 hk2 rfl (by decide) _ _ _ rfl HO5.out _ _ _ rfl _ HS5.out (kc_one' _) ?a5 ?a6 ?a7 ?_); rotate_left 3; intro v6 w6 o6 g6 hl6))
      case a2 => have := HFL.out; unfold maxLen; omega
      case a3 => have := HFL.out; omega
      case a5 => have := HFL.out; have := _tk; unfold maxLen; omega
      case a6 => have := HFL.out; have := _tk; omega
      all_goals (first | exact hBW | exact s5 | skip)
      go_ret
      refine ⟨v6, rfl, F, HF.out, HS.out, ?_, (HR.out.b.trans b5).trans ((Below.refl _ _).grown g6 s5 (fun k hk => (HO5.out.lt k hk).1))⟩
      have e6 : kc (F ++ rT l ++ rS l) = kc F ++ kc (rT l) ++ kc (rS l) := by rw [kc_append, kc_append]
      first
        | (rw [List.length_append, List.length_append, e6]; exact o6)
        | (rw [← List.append_assoc F, e6, ← Nat.add_assoc]; exact o6)
end Go.Proofs.YtcjpoabknlpopaaDoor
