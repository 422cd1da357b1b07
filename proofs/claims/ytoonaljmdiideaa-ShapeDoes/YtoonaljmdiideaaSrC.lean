/- The document's shapes: where a way led. The document's shapes: its tree in memory; lay. -/
import Derived.Test.YtoonaljmdiideaaSrA
import Derived.Test.YtoonaljmdiideaaShJ
import Derived.Test.YtoonaljmdiideaaHpA
namespace Go.Proofs.Ytoonaljmdiideaa
set_option linter.unusedVariables false
set_option linter.unusedSimpArgs false
open Go.RowKit Go.Maps Go.ChangeShapes

/-- A way of the document's, with its key as it came. -/
structure WyR where
  fr : Int
  ch : Bool
  s : ByteArray
  z : Int
  f : Int
  dst : Int
def WyR.cs (x : WyR) : List Value := [.int .i64 x.fr, .bool x.ch, .string x.s, .int .i64 x.z, .int .i64 x.f, .int .i64 x.dst]
def WyR.kb (x : WyR) : Kb := kbOf (x.s, x.z)
def WyR.is (x : WyR) (fr : Int) (ch : Bool) (k : Kb) (f : Int) : Prop := x.fr = fr ∧ x.ch = ch ∧ x.f = f ∧ x.kb = k
def WyR.fits (x : WyR) (fr : Int) (ch : Bool) (k : Kb) (f : Int) : Bool := decide (x.fr = fr) && decide (x.ch = ch) && decide (x.f = f) && decide (x.kb = k)
theorem WyR.fits_iff {x : WyR} {fr : Int} {ch : Bool} {k : Kb} {f : Int} : x.fits fr ch k f = true ↔ x.is fr ch k f := by
  unfold WyR.fits WyR.is
  simp [and_assoc]
/-- Where a way led; -1: there is none. -/
def wyF (l : List WyR) (fr : Int) (ch : Bool) (k : Kb) (f : Int) : Int := match l.find? (fun x => x.fits fr ch k f) with | some x => x.dst | none => -1
theorem wyF_no {l : List WyR} {fr : Int} {ch : Bool} {k : Kb} {f : Int} (h : ∀ x ∈ l, ¬ x.is fr ch k f) : wyF l fr ch k f = -1 := by
  unfold wyF
  rw [List.find?_eq_none.2 (fun x hx q => h x hx (WyR.fits_iff.1 q))]
theorem wyF_at {l : List WyR} {fr : Int} {ch : Bool} {k : Kb} {f : Int} (j : Nat) (hj : j < l.length) (e : l[j].is fr ch k f) (h : ∀ i (hi : i < j), ¬ (l[i]'(by omega)).is fr ch k f) : wyF l fr ch k f = l[j].dst := by
  unfold wyF
  have e1 : l.find? (fun x => x.fits fr ch k f) = some l[j] := by
    rw [List.find?_eq_some_iff_getElem]
    exact ⟨WyR.fits_iff.2 e, j, hj, rfl, fun i hi => by simpa using fun q => h i hi (WyR.fits_iff.1 q)⟩
  rw [e1]
set_option maxHeartbeats 4000000 in
set_option maxRecDepth 100000 in
theorem rway_any (rb : Nat) (a : Option Addr) (c : Nat) (l : List WyR) (fr : Int) (ch : Bool) (s : ByteArray) (z f : Int) (w : World) (h1 : w.cell? ⟨rb, 1, none⟩ = some (.slice a l.length c)) (hr : RdR WyR.cs 6 w a l) (hl : l.length < 100000000000) (hz : ∀ x ∈ l, (x.s.size : Int) ≤ 140737488351232) (hs : (s.size : Int) ≤ 140737488351232) :
    Calls Try.prog 31 #[.pointer (some ⟨rb, 0, none⟩), .int .i64 fr, .bool ch, .agg #[.string s, .int .i64 z, .int .i64 f]] w fun e w' => e = .returned (.int .i64 (wyF l fr ch (kbOf (s, z)) f)) ∧ Below w.heap.size w w' := by
  obtain ⟨N, hN⟩ : ∃ N, l.length = N := ⟨_, rfl⟩
  have HN := Hid.mk' hN
  obtain ⟨W1, hW1⟩ : ∃ W1, w.alloc (.cells #[.string s, .int .i64 z, .int .i64 f] 81) = W1 := ⟨_, rfl⟩
  have b1 : Below w.heap.size w W1 := by rw [← hW1]; exact sr_lay
  have q1 : W1.heap[w.heap.size]? = some (.cells #[.string s, .int .i64 z, .int .i64 f] 81 (0, 0)) := by rw [← hW1]; exact World.alloc_heap_new _ _
  have h1' := (b1.cell (p := ⟨rb, 1, none⟩) (World.block_lt_of_cell? w _ h1)).trans h1
  obtain ⟨b0, hb0⟩ : ∃ b0, w.heap.size = b0 := ⟨_, rfl⟩
  rw [hb0] at q1
  have HR := Hid.mk' (hr.below b1)
  have HQ := Hid.mk' q1
  have HB : Hid (Below b0 w W1) := Hid.mk' (by rw [← hb0]; exact b1)
  have HBS : Hid (b0 ≤ W1.heap.size) := Hid.mk' (by rw [← hb0]; exact b1.size)
  have HZ := Hid.mk' hz
  have HS := Hid.mk' hs
  have HH := Hid.mk' hW1
  have HL : Hid (N < 100000000000) := Hid.mk' (by omega)
  obtain ⟨res, hres⟩ : ∃ res, wyF l fr ch (kbOf (s, z)) f = res := ⟨_, rfl⟩
  rw [hres]
  rw [hN] at h1'
  have HE := Hid.mk' hres
  clear hr hl hz hs hN b1 q1 hW1 hres h1
  go_enter Try.func31, Try.ntmps31
  go_upto_region 1 with fail
  rw [HH.out]
  go_wp2_with fail
  go_loopw [16] (fun v wr => ∃ i : Nat, v = .int .i64 (i : Int) ∧ i ≤ N ∧ Hid (Below W1.heap.size W1 wr ∧ ∀ j (h : j < i) (h' : j < l.length), ¬ l[j].is fr ch (kbOf (s, z)) f)) (fun v wr => N - (intOf v).toNat)
  case atStart => exact ⟨0, rfl, Nat.zero_le _, Hid.mk' ⟨Below.refl _ _, fun j h => by omega⟩⟩
  case round =>
    clear h1'
    obtain ⟨i, rfl, hi, HJ⟩ := hrel
    by_cases hlt : i < N
    · have hlq : i < l.length := by rw [HN.out]; exact hlt
      obtain ⟨gl, rfl, hc⟩ := (HR.out.below HJ.out.1) i hlq
      have i1 : (i : Int) < (N : Int) := by omega
      have i2 : (i : Int) < 100000000000 := by have := HL.out; omega
      have hsz := HZ.out _ (List.getElem_mem hlq)
      obtain ⟨q, hq⟩ : ∃ q, l[i] = q := ⟨_, rfl⟩
      rw [hq] at hc hsz
      have HQQ := Hid.mk' hq
      have HNX : Hid (¬ q.is fr ch (kbOf (s, z)) f → ∀ j (h : j < i + 1) (h' : j < l.length), ¬ l[j].is fr ch (kbOf (s, z)) f) := Hid.mk' (fun hn j h h' => by
        rcases Nat.lt_or_ge j i with h1 | h1
        · exact HJ.out.2 j h1 h'
        · obtain rfl : j = i := by omega
          rw [HQQ.out]; exact hn)
      have HYS : Hid (q.is fr ch (kbOf (s, z)) f → res = q.dst) := Hid.mk' (fun hy => by
        rw [← HE.out, wyF_at i hlq (by rw [HQQ.out]; exact hy) (fun j hj => HJ.out.2 j hj (by omega)), HQQ.out])
      obtain ⟨xr, xc, xs, xz, xf, xt⟩ := q
      simp only [WyR.cs] at hc
      dsimp only at hsz
      have d0 := hc 0 (.int .i64 xr) (by omega) rfl
      have d1 := hc 1 (.bool xc) (by omega) rfl
      have d2 := hc 2 (.string xs) (by omega) rfl
      have d3 := hc 3 (.int .i64 xz) (by omega) rfl
      have d4 := hc 4 (.int .i64 xf) (by omega) rfl
      have d5 := hc 5 (.int .i64 xt) (by omega) rfl
      simp only [Nat.add_zero] at d0
      have q2 := (HJ.out.1.block b0 (Array.getElem?_eq_some_iff.1 HQ.out).1).trans HQ.out
      have k0 : wr.cell? ⟨b0, 0, none⟩ = some (.string s) := by simp [World.cell?, q2]
      have k1 : wr.cell? ⟨b0, 1, none⟩ = some (.int .i64 z) := by simp [World.cell?, q2]
      have k2 : wr.cell? ⟨b0, 2, none⟩ = some (.int .i64 f) := by simp [World.cell?, q2]
      have g0 : b0 < wr.heap.size := (Array.getElem?_eq_some_iff.1 q2).1
      have HSA := Hid.mk' (fun W => same_any xs s xz z W hsz HS.out)
      have HLT := Hid.mk' hlt
      clear hc hi hlt hsz q2 hq HQQ hlq
      by_cases e1 : xr = fr
      · subst e1
        by_cases e2 : xc = ch
        · subst e2
          by_cases e3 : xf = f
          · subst e3
            by_cases hsame : sameK (xs, xz) (s, z) = true
            · have HRE : Hid (res = xt) := Hid.mk' (HYS.out ⟨rfl, rfl, rfl, (same_bare _ _).1 hsame⟩)
              rw [hsame] at HSA
              clear hsame
              go_wp2_with (go_at_call 19; refine (HSA.out _).mono ?_; rintro e w2 ⟨rfl, b2⟩; have r5 := (b2.cell (p := ⟨wr.heap.size, 5, none⟩) (by simp)).trans (World.cell?_alloc_new _ _ _ _); simp only [List.getElem?_toArray, List.getElem?_cons_zero, List.getElem?_cons_succ] at r5)
              go_ret
              exact ⟨by rw [HRE.out]; rfl, by rw [hb0]; exact HB.out.trans ((HJ.out.1.trans ((sr_lay.trans (b2.mono (by simp))).mono HJ.out.1.size)).mono HBS.out)⟩
            · have HJ2 := Hid.mk' (HNX.out (fun hy => hsame ((same_bare (xs, xz) (s, z)).2 hy.2.2.2)))
              have hsf : sameK (xs, xz) (s, z) = false := by simpa using hsame
              rw [hsf] at HSA
              clear hsame hsf
              go_wp2_with (go_at_call 19; refine (HSA.out _).mono ?_; rintro e w2 ⟨rfl, b2⟩)
              have HB2 := Hid.mk' (HJ.out.1.trans ((sr_lay.trans (b2.mono (by simp))).mono HJ.out.1.size))
              exact ⟨⟨i + 1, by go_num, HLT.out, Hid.mk' ⟨HB2.out, HJ2.out⟩⟩, sr_meas N i HLT.out⟩
          · have HJ2 := Hid.mk' (HNX.out (fun hy => e3 hy.2.2.1))
            have e4 : (xf == f) = false := by simpa using e3
            clear e3
            have HB2 : Hid (Below W1.heap.size W1 (wr.alloc (.cells #[.int .i64 xr, .bool xc, .string xs, .int .i64 xz, .int .i64 xf, .int .i64 xt] 119))) := Hid.mk' (HJ.out.1.trans (sr_lay.mono HJ.out.1.size))
            go_wp2
            exact ⟨⟨i + 1, by go_num, HLT.out, Hid.mk' ⟨HB2.out, HJ2.out⟩⟩, sr_meas N i HLT.out⟩
        · have HJ2 := Hid.mk' (HNX.out (fun hy => e2 hy.2.1))
          have e4 : (xc == ch) = false := by simpa using e2
          clear e2
          have HB2 : Hid (Below W1.heap.size W1 (wr.alloc (.cells #[.int .i64 xr, .bool xc, .string xs, .int .i64 xz, .int .i64 xf, .int .i64 xt] 119))) := Hid.mk' (HJ.out.1.trans (sr_lay.mono HJ.out.1.size))
          go_wp2
          exact ⟨⟨i + 1, by go_num, HLT.out, Hid.mk' ⟨HB2.out, HJ2.out⟩⟩, sr_meas N i HLT.out⟩
      · have HJ2 := Hid.mk' (HNX.out (fun hy => e1 hy.1))
        have e4 : (xr == fr) = false := by simpa using e1
        clear e1
        have HB2 : Hid (Below W1.heap.size W1 (wr.alloc (.cells #[.int .i64 xr, .bool xc, .string xs, .int .i64 xz, .int .i64 xf, .int .i64 xt] 119))) := Hid.mk' (HJ.out.1.trans (sr_lay.mono HJ.out.1.size))
        go_wp2
        exact ⟨⟨i + 1, by go_num, HLT.out, Hid.mk' ⟨HB2.out, HJ2.out⟩⟩, sr_meas N i HLT.out⟩
    · have i1 : ¬ (i : Int) < (N : Int) := by omega
      have HRE : Hid (res = -1) := Hid.mk' (by
        rw [← HE.out]
        refine wyF_no (fun x hx => ?_)
        obtain ⟨j, hj, rfl⟩ := List.getElem_of_mem hx
        exact HJ.out.2 j (by rw [HN.out] at hj; omega) hj)
      clear hi hlt
      go_wp2
      go_ret
      exact ⟨by rw [HRE.out]; rfl, by first | exact HB.out.trans (HJ.out.1.mono HBS.out) | (rw [hb0]; exact HB.out.trans (HJ.out.1.mono HBS.out))⟩
end Go.Proofs.Ytoonaljmdiideaa

namespace Go.Proofs.Ytoonaljmdiideaa
set_option linter.unusedVariables false
set_option linter.unusedSimpArgs false
open Go.RowKit Go.Maps Go.ChangeShapes

def slC (l : List SlR) : List Value := l.flatMap SlR.cs
def wyC (l : List WyR) : List Value := l.flatMap WyR.cs
/-- The document's tree in memory. -/
structure R1 (B rb : Nat) (vL vW : Value) (sv : List Value) (S : List (List SlR)) (W : List WyR) (w : World) : Prop where
  ge : B ≤ rb
  row : w.heap[rb]? = some (.cells #[vL, vW] 43 (0, 0))
  l : w.ownsRow B 79 1 vL sv.length sv
  s : ∀ (i : Nat) (h : i < sv.length), w.ownsRow B 81 3 sv[i] (S.getD i []).length (slC (S.getD i []))
  m : w.ownsRow B 119 6 vW W.length (wyC W)
section
variable {B rb : Nat} {vL vW : Value} {sv : List Value} {S : List (List SlR)} {W : List WyR} {w w' : World}
theorem R1.below (h : R1 B rb vL vW sv S W w) (hb : Below w.heap.size w w') : R1 B rb vL vW sv S W w' := by
  have hs := Sv.below hb
  exact ⟨h.ge, hs.all _ _ (by simp) h.row, hs.own h.l (by simp), fun i hi => hs.own (h.s i hi) (by simp), hs.own h.m (by simp)⟩
theorem R1.cells (h : R1 B rb vL vW sv S W w) : w.cell? ⟨rb, 0, none⟩ = some vL ∧ w.cell? ⟨rb, 1, none⟩ = some vW ∧ w.frozen? ⟨rb, 0, none⟩ = false ∧ w.frozen? ⟨rb, 1, none⟩ = false := by
  obtain ⟨a, b, c, d⟩ := pair_facts h.row
  exact ⟨c, d, a, b⟩
/-- The blocks that the tree's calls write. -/
def rX (rb : Nat) (vL vW : Value) : List Nat := rb :: (vL.ownBlock.toList ++ vW.ownBlock.toList)
theorem flat_get {α : Type} {cs : α → List Value} {sz : Nat} (hcs : ∀ x, (cs x).length = sz) (l : List α) (j k : Nat) (hj : j < l.length) (hk : k < sz) : (l.flatMap cs)[j * sz + k]? = (cs l[j])[k]? := by
  induction l generalizing j with
  | nil => simp at hj
  | cons x r ih =>
    rw [List.flatMap_cons]
    cases j with
    | zero => rw [Nat.zero_mul, Nat.zero_add, List.getElem?_append_left (by rw [hcs]; exact hk)]; rfl
    | succ j =>
      rw [List.getElem?_append_right (by rw [hcs, Nat.add_mul, Nat.one_mul]; omega), hcs, show (j + 1) * sz + k - sz = j * sz + k by rw [Nat.add_mul, Nat.one_mul]; omega]
      exact ih j (by simpa using hj)
/-- An owned row is read. -/
theorem own_rd {α : Type} {cs : α → List Value} {sz : Nat} {e : TypeId} {v : Value} {l : List α} (hcs : ∀ x, (cs x).length = sz) (ho : w.ownsRow B e sz v l.length (l.flatMap cs)) : ∃ a c, v = .slice a l.length c ∧ RdR cs sz w a l := by
  obtain ⟨a, c, rfl, _⟩ := own_slice' ho
  refine ⟨a, c, rfl, fun j hj => ?_⟩
  obtain ⟨g, rfl⟩ := own_some ho (by omega)
  refine ⟨g, rfl, fun k u hk hu => ?_⟩
  have c1 := ho.cells (g := g) rfl (j * sz + k) u (by rw [flat_get hcs l j k hj hk]; exact hu)
  rw [Addr.add_lit] at c1
  simpa using c1
theorem sl_len (x : SlR) : x.cs.length = 3 := rfl
theorem wy_len (x : WyR) : x.cs.length = 6 := rfl
theorem sr_infoL : (Try.prog.info? 79).map (fun i => (i.zero, i.size, i.bytes)) = some (some (.slice none 0 0), 1, 24) := by kernel_rfl
theorem sr_infoW : (Try.prog.info? 119).map (fun i => (i.zero, i.size, i.bytes)) = some (some (.agg #[.int .i64 0, .bool false, .string ⟨#[]⟩, .int .i64 0, .int .i64 0, .int .i64 0]), 6, 56) := by kernel_rfl
theorem sr_infoS : (Try.prog.info? 81).map (fun i => (i.zero, i.size, i.bytes)) = some (some (.agg #[.string ⟨#[]⟩, .int .i64 0, .int .i64 0]), 3, 32) := by kernel_rfl
/-- The tree behind one more shape. -/
theorem R1.appL {v' lv : Value} {sl : List SlR} (h : R1 B rb vL vW sv S W w) (hSl : S.length = sv.length) (hs : Sv (vL.ownBlock.toList ++ [rb]) w w') (ho : w'.ownsRow B 79 1 v' (sv.length + 1) (sv ++ [lv])) (hr : w'.heap[rb]? = some (.cells #[v', vW] 43 (0, 0))) (hl : w.ownsRow B 81 3 lv sl.length (slC sl)) : R1 B rb v' vW (sv ++ [lv]) (S ++ [sl]) W w' := by
  have hX : ∀ x, x ∈ vL.ownBlock.toList ++ [rb] → vL.ownBlock = some x ∨ x = rb := fun x hx => by simpa [eq_comm] using hx
  have keepS : ∀ {v : Value} {n : Nat} {xs : List Value}, w.ownsRow B 81 3 v n xs → w'.ownsRow B 81 3 v n xs := fun hv => hs.own hv (fun x hx => by
    rcases hX x hx with e | rfl
    · exact sh_apart h.l hv (by decide) x e
    · exact sh_ne hv h.row (fun c fz q => by cases q))
  refine ⟨h.ge, hr, by rw [List.length_append]; exact ho, fun i hi => ?_, hs.own h.m (fun x hx => ?_)⟩
  · by_cases hi' : i < sv.length
    · rw [List.getElem_append_left hi', show (S ++ [sl]).getD i [] = S.getD i [] by rw [List.getD_eq_getElem?_getD, List.getD_eq_getElem?_getD, List.getElem?_append_left (by omega)]]
      exact keepS (h.s i hi')
    · obtain rfl : i = sv.length := by simp at hi; omega
      rw [show (sv ++ [lv])[sv.length] = lv by simp, show (S ++ [sl]).getD sv.length [] = sl by rw [← hSl]; simp [List.getD_eq_getElem?_getD]]
      exact keepS hl
  · rcases hX x hx with e | rfl
    · exact sh_apart h.l h.m (by decide) x e
    · exact sh_ne h.m h.row (fun c fz q => by cases q)
/-- The tree behind one more way. -/
theorem R1.appW {v' : Value} {x : WyR} (h : R1 B rb vL vW sv S W w) (hs : Sv (vW.ownBlock.toList ++ [rb]) w w') (ho : w'.ownsRow B 119 6 v' (W.length + 1) (wyC W ++ x.cs)) (hr : w'.heap[rb]? = some (.cells #[vL, v'] 43 (0, 0))) : R1 B rb vL v' sv S (W ++ [x]) w' := by
  have hX : ∀ x, x ∈ vW.ownBlock.toList ++ [rb] → vW.ownBlock = some x ∨ x = rb := fun x hx => by simpa [eq_comm] using hx
  refine ⟨h.ge, hr, hs.own h.l (fun x hx => ?_), fun i hi => hs.own (h.s i hi) (fun x hx => ?_), ?_⟩
  · rcases hX x hx with e | rfl
    · exact sh_apart h.m h.l (by decide) x e
    · exact sh_ne h.l h.row (fun c fz q => by cases q)
  · rcases hX x hx with e | rfl
    · exact sh_apart h.m (h.s i hi) (by decide) x e
    · exact sh_ne (h.s i hi) h.row (fun c fz q => by cases q)
  · rw [List.length_append]
    unfold wyC at ho ⊢
    rw [List.flatMap_append]
    simpa using ho
end
end Go.Proofs.Ytoonaljmdiideaa
