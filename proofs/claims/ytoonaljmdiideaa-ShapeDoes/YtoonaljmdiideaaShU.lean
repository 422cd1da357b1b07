/- ShapeShares: what its walk stands on: a list of operations in memory, the path beside the tree, few, Keys and Len of a chain. -/
import Derived.Test.YtoonaljmdiideaaShT
import Derived.Test.YtoonaljmdiideaaShR
import Derived.Test.YtoonaljmdiideaaHpE
import Derived.Maps.AppendAt
namespace Go.Proofs.Ytoonaljmdiideaa
set_option linter.unusedVariables false
set_option linter.unusedSimpArgs false
open Go.RowKit Go.Maps Go.ChangeShapes

/-- A slice's elements, each of so many cells. -/
structure RdE {α : Type} (cs : α → List Value) (sz : Nat) (w : World) (a : Option Addr) (c : Nat) (l : List α) : Prop where
  le : l.length ≤ c
  cle : c * (sz * 8) ≤ 140737488351232
  nil : a = none → c = 0
  here : l = [] ∨ ∃ g o, a = some ⟨g, o, none⟩ ∧ g < w.heap.size ∧ ∀ (j : Nat) (hj : j < l.length) (k : Nat) (u : Value), k < sz → (cs l[j])[k]? = some u → w.cell? ⟨g, o + j * sz + k, none⟩ = some u
theorem RdE.below {α : Type} {cs : α → List Value} {sz : Nat} {w w' : World} {a : Option Addr} {c : Nat} {l : List α} (h : RdE cs sz w a c l) (hb : Below w.heap.size w w') : RdE cs sz w' a c l := by
  refine ⟨h.le, h.cle, h.nil, ?_⟩
  rcases h.here with h | ⟨g, o, ha, hg, hc⟩
  · exact .inl h
  · exact .inr ⟨g, o, ha, Nat.lt_of_lt_of_le hg hb.size, fun j hj k u hk hu => (hb.cell (p := ⟨g, o + j * sz + k, none⟩) hg).trans (hc j hj k u hk hu)⟩
theorem RdE.at {α : Type} {cs : α → List Value} {sz : Nat} {w : World} {a : Option Addr} {c : Nat} {l : List α} (h : RdE cs sz w a c l) (j : Nat) (hj : j < l.length) :
    ∃ g o, a = some ⟨g, o, none⟩ ∧ g < w.heap.size ∧ ∀ (k : Nat) (u : Value), k < sz → (cs l[j])[k]? = some u → w.cell? ⟨g, o + j * sz + k, none⟩ = some u := by
  rcases h.here with h | ⟨g, o, ha, hg, hc⟩
  · rw [h] at hj; simp at hj
  · exact ⟨g, o, ha, hg, hc j hj⟩
theorem sh_lay {w : World} {ob : Obj} : Below w.heap.size w (w.alloc ob) := (Below.refl _ _).alloc (Nat.le_refl _) _
theorem sh_meas (N i : Nat) (h : i < N) : N - (intOf (.int .i64 (i + 1 : Int))).toNat < N - (intOf (.int .i64 (i : Int))).toNat := by
  have e1 : (intOf (.int .i64 (i + 1 : Int))).toNat = i + 1 := by show ((i : Int) + 1).toNat = i + 1; omega
  have e2 : (intOf (.int .i64 (i : Int))).toNat = i := by show ((i : Int)).toNat = i; omega
  rw [e1, e2]; omega
def shB (v : Value) : Prop := ∃ b, v = .bool b
set_option maxHeartbeats 2000000 in
set_option maxRecDepth 100000 in
theorem sfew_val (a : Option Addr) (c : Nat) (l : List OpR) (w : World) (hr : RdE OpR.cs 6 w a c l) :
    Calls Try.prog 6 #[.slice a l.length c] w fun e w' => ∃ v, e = .returned v ∧ shB v ∧ Below w.heap.size w w' := by
  have hle := hr.le
  have hcl : c * (6 * 8) ≤ 140737488351232 := hr.cle
  have HR := Hid.mk' hr
  obtain ⟨N, hN⟩ : ∃ N, l.length = N := ⟨_, rfl⟩
  rw [hN] at hle ⊢
  have HN := Hid.mk' hN
  clear hr hN
  go_enter Try.func6, Try.ntmps6
  go_wp2_with fail
  go_loopw [3, 10] (fun v3 iv wr => ∃ (i : Nat) (z : Int), v3 = .int .i64 z ∧ iv = .int .i64 (i : Int) ∧ i ≤ N ∧ Hid (Below w.heap.size w wr)) (fun v3 iv wr => N - (intOf iv).toNat)
  case atStart => exact ⟨0, _, rfl, rfl, Nat.zero_le _, Hid.mk' (Below.refl _ _)⟩
  case round =>
    obtain ⟨i, y, rfl, rfl, hi, HBW⟩ := hrel
    by_cases hlt : i < N
    · have hlq : i < l.length := by rw [HN.out]; exact hlt
      obtain ⟨gl, ol, rfl, hg, hc⟩ := (HR.out.below HBW.out).at i hlq
      have i1 : (i : Int) < (N : Int) := by omega
      have i2 : (i : Int) < 140737488351232 := by omega
      generalize l[i] = q at hc
      obtain ⟨kd, si, s, z, f, cc⟩ := q
      simp only [OpR.cs] at hc
      have d0 := hc 0 (.int .i64 kd) (by omega) rfl
      have d1 := hc 1 (.int .i64 si) (by omega) rfl
      have d2 := hc 2 (.string s) (by omega) rfl
      have d3 := hc 3 (.int .i64 z) (by omega) rfl
      have d4 := hc 4 (.int .i64 f) (by omega) rfl
      have d5 := hc 5 (.int .i64 cc) (by omega) rfl
      simp only [Nat.add_zero] at d0
      have HBn : Hid (Below w.heap.size w (wr.alloc (.cells #[.int .i64 kd, .int .i64 si, .string s, .int .i64 z, .int .i64 f, .int .i64 cc] 33))) := Hid.mk' (HBW.out.trans (sh_lay.mono HBW.out.size))
      have HLT := Hid.mk' hlt
      clear hc hcl hle hi hlt hg hlq
      go_wp2
      exact ⟨⟨i + 1, _, rfl, by go_num, HLT.out, HBn⟩, sh_meas N i HLT.out⟩
    · have i1 : ¬ (i : Int) < (N : Int) := by omega
      go_wp2
      go_ret
      exact ⟨_, rfl, ⟨_, rfl⟩, HBW.out⟩
theorem sfew_any (a : Option Addr) (c : Nat) (l : List OpR) (w : World) (hr : RdE OpR.cs 6 w a c l) :
    Calls Try.prog 6 #[.slice a l.length c] w fun e w' => ∃ b, e = .returned (.bool b) ∧ Below w.heap.size w w' := by
  refine (sfew_val a c l w hr).mono ?_
  rintro e w' ⟨v, rfl, ⟨b, rfl⟩, hb⟩
  exact ⟨b, rfl, hb⟩
theorem own_atU {w w' : World} {B : Nat} {e : TypeId} {sz : Nat} {v : Value} {n : Nat} {xs : List Value} (h : w.ownsRow B e sz v n xs) (he : ∀ b, v.ownBlock = some b → w'.heap[b]? = w.heap[b]?) : w'.ownsRow B e sz v n xs := by
  refine ⟨h.1, ?_⟩
  rcases h.2 with hn | ⟨g, cap, cur, rfl, hB, hg, rest⟩
  · exact .inl hn
  · exact .inr ⟨g, cap, cur, rfl, hB, (he g rfl).trans hg, rest⟩
/-- What a path's row holds. -/
def iRow (p : List Nat) : List Value := p.map fun n : Nat => Value.int .i64 (n : Int)
/-- A chain in memory, and beside it the path. -/
structure PS (w0 : World) (B g : Nat) (v : Value) (p : List Nat) (K : List Kf) (wr : World) : Prop where
  ex : ∃ C, TC B g K C wr ∧ (∀ b, v.ownBlock = some b → ∃ c fz, (b, Obj.cells c 3 fz) ∈ C)
  row : wr.ownsRow B 3 1 v p.length (iRow p)
  bl : Below w0.heap.size w0 wr
  le : w0.heap.size ≤ B
section
variable {w0 wr wr' : World} {B g : Nat} {v : Value} {p : List Nat} {K : List Kf}
theorem PS.below (h : PS w0 B g v p K wr) (hb : Below wr.heap.size wr wr') : PS w0 B g v p K wr' := by
  obtain ⟨C, h1, h2⟩ := h.ex
  exact ⟨⟨C, TT.below h1 hb, h2⟩, (Sv.below hb).own h.row (by simp), h.bl.trans (hb.mono h.bl.size), h.le⟩
theorem PS.base (h : PS w0 B g v p K wr) : B ≤ wr.heap.size := by
  obtain ⟨C, h1, h2⟩ := h.ex
  have := TT.ge h1
  omega
theorem PS.app {w' : World} {v' : Value} {n : Nat} (h : PS w0 B g v p K wr) (hg : wr.grownBy w' v.ownBlock) (ho : w'.ownsRow B 3 1 v' (p.length + 1) (iRow p ++ [.int .i64 (n : Int)])) (hv : v'.ownBlock = v.ownBlock ∨ v'.ownBlock = some wr.heap.size) : PS w0 B g v' (p ++ [n]) K w' := by
  obtain ⟨C, h1, h2⟩ := h.ex
  obtain ⟨C', hC1, hC2⟩ : ∃ C' : List (Nat × Obj), (∀ p ∈ C', w'.heap[p.1]? = some p.2 ∧ ((∃ ob, (p.1, ob) ∈ C) ∨ wr.heap.size ≤ p.1)) ∧ (∀ b, v'.ownBlock = some b → ∃ c fz, (b, Obj.cells c 3 fz) ∈ C') := by
    rcases hb : v'.ownBlock with _ | b
    · exact ⟨[], fun p hp => (by cases hp), fun b hb' => (by cases hb')⟩
    · obtain ⟨c, fz, hk⟩ := sh_kind ho b hb
      refine ⟨[(b, .cells c 3 fz)], fun p hp => ?_, fun b' hb' => ⟨c, fz, by cases hb'; simp⟩⟩
      obtain rfl := List.mem_singleton.1 hp
      refine ⟨hk, ?_⟩
      rcases hv with e | e
      · obtain ⟨c2, fz2, hm⟩ := h2 b (by rw [← e]; exact hb)
        exact .inl ⟨_, hm⟩
      · rw [hb] at e
        exact .inr (by cases e; exact Nat.le_refl _)
  refine ⟨⟨C', TT.turn h1 (Sv.grown hg) (fun b hb => ?_) hC1, hC2⟩, ?_, h.bl.trans ((Below.refl _ _).grown hg h.bl.size (fun j hj => ?_)), h.le⟩
  · obtain ⟨c, fz, hm⟩ := h2 b (by simpa [eq_comm] using hb)
    exact ⟨_, hm, fun c' fz' e => by cases e⟩
  · rw [List.length_append]
    unfold iRow at ho ⊢
    rw [List.map_append]
    exact ho
  · have := (h.row.lt j hj).1
    have := h.le
    omega
theorem PS.turn {w' : World} {C : List (Nat × Obj)} {K'' : List Kf} (h : PS w0 B g v p K wr) (hb : Below B wr w') (h1 : TC B g K C wr) (h2 : ∀ b, v.ownBlock = some b → ∃ c fz, (b, Obj.cells c 3 fz) ∈ C) (h3 : TC B g K'' C w') : PS w0 B g v p K'' w' := by
  refine ⟨⟨C, h3, h2⟩, own_atU h.row (fun b hb => ?_), h.bl.trans (hb.mono h.le), h.le⟩
  obtain ⟨c, fz, hm⟩ := h2 b hb
  exact (TT.c h3 _ hm).trans (TT.c h1 _ hm).symm
/-- One Add at the place K of the chain K'. -/
theorem PS.add {K' K'' : List Kf} (o : OpR) (h : PS w0 B g v p K' wr) (hcw : Cw K') (ho : o.ok) (hK : K <+: K') (hcase : (K' = K ∧ K'' = stp K o) ∨ (stp K o <+: K' ∧ K'' = K')) :
    Calls Try.prog 11 #[.pointer (some ⟨g, 0, none⟩), .int .i64 (K.length : Nat), .agg #[.string o.s, .int .i64 o.z], .int .i64 o.f] wr fun e w' => ∃ x er : Int, e = .returned (.tuple #[.int .i64 x, .int .i64 er]) ∧ ((er = 0 ∧ x = ((stp K o).length : Int)) ∨ (er ≠ 0 ∧ (K.length : Int) = ((stp K o).length : Int))) ∧ PS w0 B g v p K'' w' := by
  obtain ⟨C, h1, h2⟩ := h.ex
  refine (add_turn K K' K'' o wr h1 hcw ho hK hcase).mono ?_
  rintro e w' ⟨x, er, rfl, hx, hT, hb⟩
  refine ⟨x, er, rfl, ?_, h.turn hb h1 h2 hT⟩
  by_cases he : er = 0
  · rw [if_pos he] at hx; exact .inl ⟨he, hx⟩
  · rw [if_neg he] at hx; exact .inr ⟨he, hx⟩
theorem PS.len (h : PS w0 B g v p K wr) : Calls Try.prog 13 #[.pointer (some ⟨g, 0, none⟩)] wr fun e w' => e = .returned (.int .i64 ((K.length + 1 : Nat) : Int)) ∧ w' = wr := by
  obtain ⟨C, h1, h2⟩ := h.ex
  obtain ⟨mn, mw, lb, vk, vs, vl, fv, Dn, Dw, k1, k2, k3, k4, k5⟩ := h1
  rw [cFs_len] at k4
  rw [k4]
  exact shLen_any wr k1
theorem PS.keys (h : PS w0 B g v p K wr) (hcw : Cw K) (i : Nat) (hi : i ≤ K.length) : Calls Try.prog 36 #[.pointer (some ⟨g, 0, none⟩), .int .i64 (i : Nat)] wr fun e w' => ∃ a c, e = .returned (.tuple #[.slice a i c, .int .i64 0]) ∧ PS w0 B g v p K w' := by
  obtain ⟨C, h1, h2⟩ := h.ex
  have hle := hcw.le
  have hT : tells (K.map (·.1)) (cLn K) ((cFs K).getD i []) (K.take i) := by
    rw [cFs_at K i hi]
    refine ⟨by simp, by rw [cLn_len]; simp; omega, fun j x hx => ?_⟩
    have hj : j < i := by have := (List.getElem?_eq_some_iff.1 hx).1; simp at this; omega
    rw [List.getElem?_take_of_lt hj] at hx
    obtain ⟨q1, q2, q3, q4, q5⟩ := hcw.all x (List.mem_of_getElem? hx)
    have hjK : j < K.length := by omega
    refine ⟨j, ?_, ?_, ?_, q2, q3, q4, q5⟩
    · unfold cLn
      rw [List.getElem?_map, List.getElem?_range hjK]
      rfl
    · rw [List.getElem?_map, hx]; rfl
    · rw [List.getElem?_take_of_lt hj, List.getElem?_map, hx]; rfl
  refine (tt_keys i i (K.take i) wr h1 (by rw [cFs_len]; omega) hT (by simp; omega) (by omega) (by simp; omega)).mono ?_
  rintro e w' ⟨v', rfl, ho, hb⟩
  obtain ⟨a, c, rfl, _⟩ := own_slice' ho
  exact ⟨a, c, rfl, h.below hb⟩
end
/-- The chain that operations come to. -/
def chn (l : List OpR) : List Kf := l.foldl stp []
theorem chn_snoc (l : List OpR) (i : Nat) (h : i < l.length) : chn (l.take (i + 1)) = stp (chn (l.take i)) l[i] := by
  unfold chn
  rw [List.take_succ_eq_append_getElem h, List.foldl_append]
  rfl
theorem chn_app (l m : List OpR) : chn l <+: chn (l ++ m) := by
  unfold chn
  rw [List.foldl_append]
  induction m generalizing l with
  | nil => exact List.prefix_refl _
  | cons o r ih =>
    rw [List.foldl_cons]
    have h1 := ih (l ++ [o])
    rw [List.foldl_append] at h1
    exact (stp_pre _ o).trans h1
theorem chn_take (l : List OpR) (i : Nat) : chn (l.take i) <+: chn l := by
  have := chn_app (l.take i) (l.drop i)
  rwa [List.take_append_drop] at this
theorem chn_cw (l : List OpR) (h : ∀ o ∈ l, o.ok) : Cw (chn l) := by
  unfold chn
  have key : ∀ (m : List OpR) (K : List Kf), (∀ o ∈ m, o.ok) → Cw K → Cw (m.foldl stp K) := by
    intro m
    induction m with
    | nil => exact fun K _ h => h
    | cons o r ih => exact fun K hm hK => ih _ (fun q hq => hm q (List.mem_cons_of_mem _ hq)) (hK.stp o (hm o (List.mem_cons_self ..)))
  exact key l [] h cw_nil
theorem chn_len (l : List OpR) : (chn l).length ≤ l.length := by
  unfold chn
  have key : ∀ (m : List OpR) (K : List Kf), (m.foldl stp K).length ≤ K.length + m.length := by
    intro m
    induction m with
    | nil => intro K; simp
    | cons o r ih =>
      intro K
      rw [List.foldl_cons, List.length_cons]
      have h1 := ih (stp K o)
      have h2 := stp_len K o
      omega
  have := key l []
  simpa using this
/-- The path of a turn: behind each operation how many keys there are. -/
def pth (l : List OpR) (i : Nat) : List Nat := (List.range i).map fun j => (chn (l.take (j + 1))).length
theorem pth_len (l : List OpR) (i : Nat) : (pth l i).length = i := by simp [pth]
theorem pth_snoc (l : List OpR) (i : Nat) (h : i < l.length) : pth l (i + 1) = pth l i ++ [(stp (chn (l.take i)) l[i]).length] := by
  unfold pth
  rw [List.range_succ, List.map_append, List.map_singleton, chn_snoc l i h]
theorem pth_at (l : List OpR) (n i : Nat) (h : i < n) : (pth l n)[i]? = some (chn (l.take (i + 1))).length := by
  unfold pth
  rw [List.getElem?_map, List.getElem?_range h]
  rfl
theorem PS.at {w0 wr : World} {B g : Nat} {v : Value} {p : List Nat} {K : List Kf} (h : PS w0 B g v p K wr) (i n : Nat) (hi : p[i]? = some n) : ∃ gb c, v = .slice (some ⟨gb, 0, none⟩) p.length c ∧ wr.cell? ⟨gb, i, none⟩ = some (.int .i64 (n : Int)) := by
  have ho := h.row
  obtain ⟨a, c, hv, _⟩ := own_slice' ho
  subst hv
  obtain ⟨gb, rfl⟩ := own_some ho (by have := (List.getElem?_eq_some_iff.1 hi).1; omega)
  have c1 := ho.cells (g := gb) rfl i (.int .i64 (n : Int)) (by unfold iRow; rw [List.getElem?_map, hi]; rfl)
  rw [Addr.add_lit] at c1
  exact ⟨gb, c, rfl, by simpa using c1⟩
theorem ps_new (w0 w : World) (hb : Below w0.heap.size w0 w) : Calls Try.prog 7 #[] w fun e w' => ∃ g, e = .returned (.pointer (some ⟨g, 0, none⟩)) ∧ PS w0 w.heap.size g (.slice none 0 0) [] [] w' := by
  refine (tt_new w).mono ?_
  rintro e w' ⟨g, rfl, hT, b⟩
  exact ⟨g, rfl, ⟨⟨[], hT, fun b hb => (by cases hb)⟩, World.ownsRow_nil _ _ _ _, hb.trans (b.mono hb.size), hb.size⟩⟩
end Go.Proofs.Ytoonaljmdiideaa
