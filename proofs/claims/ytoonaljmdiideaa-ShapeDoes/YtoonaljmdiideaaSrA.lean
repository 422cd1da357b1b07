/- The document's shapes: keys alike, find, way. -/
import Derived.Test.YtoonaljmdiideaaShF
import Derived.Test.YtoonaljmdiideaaRCmp
namespace Go.Proofs.Ytoonaljmdiideaa
set_option linter.unusedVariables false
set_option linter.unusedSimpArgs false
open Go.RowKit Go.Maps Go.ChangeShapes

theorem sr_lay {w : World} {ob : Obj} : Below w.heap.size w (w.alloc ob) := (Below.refl _ _).alloc (Nat.le_refl _) _
theorem sr_meas (N i : Nat) (h : i < N) : N - (intOf (.int .i64 (i + 1 : Int))).toNat < N - (intOf (.int .i64 (i : Int))).toNat := by
  have e1 : (intOf (.int .i64 (i + 1 : Int))).toNat = i + 1 := by show ((i : Int) + 1).toNat = i + 1; omega
  have e2 : (intOf (.int .i64 (i : Int))).toNat = i := by show ((i : Int)).toNat = i; omega
  rw [e1, e2]; omega
/-- Keys alike, as the document's Same tells. -/
def sameK (a b : ByteArray × Int) : Bool := if 0 < a.2 ∨ 0 < b.2 then a.2 == b.2 else cmpK a.1 b.1 0 == 0
set_option maxHeartbeats 1000000 in
set_option maxRecDepth 100000 in
theorem same_any (a b : ByteArray) (x y : Int) (w : World) (ha : (a.size : Int) ≤ 140737488351232) (hb : (b.size : Int) ≤ 140737488351232) :
    Calls Try.prog 19 #[.agg #[.string a, .int .i64 x], .agg #[.string b, .int .i64 y]] w fun e w' => e = .returned (.bool (sameK (a, x) (b, y))) ∧ Below w.heap.size w w' := by
  have HC := Hid.mk' (fun W => rcompare_wide a b W ha hb)
  have bb : Below w.heap.size w ((w.alloc (.cells #[.string a, .int .i64 x] 31)).alloc (.cells #[.string b, .int .i64 y] 31)) := ((Below.refl _ _).alloc (Nat.le_refl _) _).alloc (by simp) _
  have HB := Hid.mk' bb
  clear bb ha hb
  by_cases hx : 0 < x
  · have HE : Hid (sameK (a, x) (b, y) = (x == y)) := Hid.mk' (by unfold sameK; rw [if_pos (.inl hx)])
    go_enter Try.func19, Try.ntmps19
    go_wp2
    go_ret
    exact ⟨by rw [HE.out]; rfl, HB.out⟩
  · by_cases hy : 0 < y
    · have HE : Hid (sameK (a, x) (b, y) = (x == y)) := Hid.mk' (by unfold sameK; rw [if_pos (.inr hy)])
      go_enter Try.func19, Try.ntmps19
      go_wp2
      go_ret
      exact ⟨by rw [HE.out]; rfl, HB.out⟩
    · have HE : Hid (sameK (a, x) (b, y) = (cmpK a b 0 == 0)) := Hid.mk' (by unfold sameK; rw [if_neg (by rintro (h | h) <;> contradiction)])
      go_enter Try.func19, Try.ntmps19
      go_wp2_with (go_at_call 43; refine (HC.out _).mono ?_; rintro e w1 ⟨rfl, b1⟩)
      go_ret
      exact ⟨by rw [HE.out]; rfl, HB.out.trans (b1.mono HB.out.size)⟩
/-- What counts of a key. -/
def kbOf (p : Kb) : Kb := (bareS p.1 p.2, bareZ p.2)
theorem sh_cmp_zero (a b : ByteArray) : cmpK a b 0 = 0 ↔ evenS a = evenS b := by
  unfold cmpK
  simp only [Nat.mul_zero, List.drop_zero]
  constructor
  · intro h
    have := (cb_zero _ _).1 h
    apply ByteArray.ext
    apply Array.toList_inj.1
    rw [evenS_bytes, evenS_bytes, this]
  · intro h
    have h2 : ebs a = ebs b := by rw [← evenS_bytes, ← evenS_bytes, h]
    rw [h2]
    exact (cb_zero _ _).2 rfl
theorem same_bare (a b : Kb) : sameK a b = true ↔ kbOf a = kbOf b := by
  unfold sameK kbOf bareS bareZ
  by_cases ha : 0 < a.2
  · rw [if_pos (.inl ha), if_pos ha, if_pos ha]
    by_cases hb : 0 < b.2
    · rw [if_pos hb, if_pos hb]; simp
    · rw [if_neg hb, if_neg hb]
      constructor
      · intro h; simp at h; omega
      · intro h; simp at h; omega
  · by_cases hb : 0 < b.2
    · rw [if_pos (.inr hb), if_neg ha, if_neg ha, if_pos hb, if_pos hb]
      constructor
      · intro h; simp at h; omega
      · intro h; simp at h; omega
    · rw [if_neg (by rintro (h | h) <;> contradiction), if_neg ha, if_neg ha, if_neg hb, if_neg hb]
      simp only [beq_iff_eq, Prod.mk.injEq, and_true]
      exact sh_cmp_zero a.1 b.1
/-- A slot of the document's, with its key as it came. -/
structure SlR where
  s : ByteArray
  z : Int
  f : Int
def SlR.cs (x : SlR) : List Value := [.string x.s, .int .i64 x.z, .int .i64 x.f]
def SlR.kb (x : SlR) : Kb := kbOf (x.s, x.z)
def SlR.kf (x : SlR) : Kb × Int := (x.kb, x.f)
/-- A row's elements in memory. -/
def RdR {α : Type} (cs : α → List Value) (sz : Nat) (w : World) (a : Option Addr) (l : List α) : Prop := ∀ (j : Nat) (hj : j < l.length), ∃ g, a = some ⟨g, 0, none⟩ ∧ ∀ (k : Nat) (u : Value), k < sz → (cs l[j])[k]? = some u → w.cell? ⟨g, j * sz + k, none⟩ = some u
theorem RdR.below {α : Type} {cs : α → List Value} {sz : Nat} {w w' : World} {a : Option Addr} {l : List α} (h : RdR cs sz w a l) (hb : Below w.heap.size w w') : RdR cs sz w' a l := fun j hj => by
  obtain ⟨g, ha, hc⟩ := h j hj
  exact ⟨g, ha, fun k u hk hu => (hb.cell (p := ⟨g, j * sz + k, none⟩) (World.block_lt_of_cell? w _ (hc k u hk hu))).trans (hc k u hk hu)⟩
/-- Where a key stands first; -1: nowhere. -/
def ixB (l : List Kb) (k : Kb) : Int := if l.findIdx (fun x => decide (x = k)) < l.length then (l.findIdx (fun x => decide (x = k)) : Int) else -1
theorem ixB_no {l : List Kb} {k : Kb} (h : ∀ x ∈ l, x ≠ k) : ixB l k = -1 := by
  unfold ixB
  rw [if_neg]
  rw [List.findIdx_lt_length]
  rintro ⟨x, hx, e⟩
  exact h x hx (by simpa using e)
theorem ixB_at {l : List Kb} {k : Kb} (j : Nat) (hj : j < l.length) (e : l[j] = k) (h : ∀ i (hi : i < j), l[i]'(by omega) ≠ k) : ixB l k = j := by
  have e1 : l.findIdx (fun x => decide (x = k)) = j := by
    rw [List.findIdx_eq hj]
    exact ⟨by simp [e], fun i hi => by simpa using h i hi⟩
  unfold ixB
  rw [e1, if_pos hj]
set_option maxHeartbeats 2000000 in
set_option maxRecDepth 100000 in
theorem rfind_any (a : Option Addr) (c : Nat) (l : List SlR) (s : ByteArray) (z : Int) (w : World) (hr : RdR SlR.cs 3 w a l) (hl : l.length < 100000000000) (hz : ∀ x ∈ l, (x.s.size : Int) ≤ 140737488351232) (hs : (s.size : Int) ≤ 140737488351232) :
    Calls Try.prog 30 #[.slice a l.length c, .agg #[.string s, .int .i64 z]] w fun e w' => e = .returned (.int .i64 (ixB (l.map SlR.kb) (kbOf (s, z)))) ∧ Below w.heap.size w w' := by
  obtain ⟨N, hN⟩ : ∃ N, l.length = N := ⟨_, rfl⟩
  have HN := Hid.mk' hN
  obtain ⟨W1, hW1⟩ : ∃ W1, w.alloc (.cells #[.string s, .int .i64 z] 31) = W1 := ⟨_, rfl⟩
  have b1 : Below w.heap.size w W1 := by rw [← hW1]; exact sr_lay
  have q1 : W1.heap[w.heap.size]? = some (.cells #[.string s, .int .i64 z] 31 (0, 0)) := by rw [← hW1]; exact World.alloc_heap_new _ _
  obtain ⟨b0, hb0⟩ : ∃ b0, w.heap.size = b0 := ⟨_, rfl⟩
  rw [hb0] at q1
  have HR := Hid.mk' (hr.below b1)
  have HQ := Hid.mk' q1
  have HB : Hid (Below b0 w W1) := Hid.mk' (by rw [← hb0]; exact b1)
  have HBS : Hid (b0 ≤ W1.heap.size) := Hid.mk' (by rw [← hb0]; exact b1.size)
  have HZ := Hid.mk' hz
  have HS := Hid.mk' hs
  have HH := Hid.mk' hW1
  have HL : Hid (N < 100000000000) := Hid.mk' (by omega)
  obtain ⟨res, hres⟩ : ∃ res, ixB (l.map SlR.kb) (kbOf (s, z)) = res := ⟨_, rfl⟩
  rw [hres, hN]
  have HE := Hid.mk' hres
  clear hr hl hz hs hN b1 q1 hW1 hres
  go_enter Try.func30, Try.ntmps30
  go_wp2_with fail
  rw [HH.out]
  go_loopw [9] (fun v wr => ∃ i : Nat, v = .int .i64 (i : Int) ∧ i ≤ N ∧ Hid (Below W1.heap.size W1 wr ∧ ∀ j (h : j < i) (h' : j < l.length), l[j].kb ≠ kbOf (s, z))) (fun v wr => N - (intOf v).toNat)
  case atStart => exact ⟨0, rfl, Nat.zero_le _, Hid.mk' ⟨Below.refl _ _, fun j h => by omega⟩⟩
  case round =>
    obtain ⟨i, rfl, hi, HJ⟩ := hrel
    by_cases hlt : i < N
    · have hlq : i < l.length := by rw [HN.out]; exact hlt
      obtain ⟨gl, rfl, hc⟩ := (HR.out.below HJ.out.1) i hlq
      have i1 : (i : Int) < (N : Int) := by omega
      have i2 : (i : Int) < 100000000000 := by have := HL.out; omega
      have hsz := HZ.out _ (List.getElem_mem hlq)
      obtain ⟨q, hq⟩ : ∃ q, l[i] = q := ⟨_, rfl⟩
      rw [hq] at hc hsz
      have HQQ := Hid.mk' hq
      obtain ⟨xs, xz, xf⟩ := q
      simp only [SlR.cs] at hc
      have d0 := hc 0 (.string xs) (by omega) rfl
      have d1 := hc 1 (.int .i64 xz) (by omega) rfl
      have d2 := hc 2 (.int .i64 xf) (by omega) rfl
      simp only [Nat.add_zero] at d0
      have q2 := (HJ.out.1.block b0 (Array.getElem?_eq_some_iff.1 HQ.out).1).trans HQ.out
      obtain ⟨_, _, k0, k1⟩ := pair_facts q2
      have g0 : b0 < wr.heap.size := (Array.getElem?_eq_some_iff.1 q2).1
      have HSA := Hid.mk' (fun W => same_any xs s xz z W hsz HS.out)
      have HLT := Hid.mk' hlt
      clear hc hi hlt hsz q2
      by_cases hsame : sameK (xs, xz) (s, z) = true
      · have HRE : Hid (res = (i : Int)) := Hid.mk' (by
          rw [← HE.out]
          refine ixB_at i (by rw [List.length_map]; exact hlq) ?_ (fun j hj => ?_)
          · rw [List.getElem_map, HQQ.out]
            exact (same_bare _ _).1 hsame
          · rw [List.getElem_map]
            exact HJ.out.2 j hj (by omega))
        rw [hsame] at HSA
        clear hsame hq HQQ hlq
        go_wp2_with (go_at_call 19; refine (HSA.out _).mono ?_; rintro e w2 ⟨rfl, b2⟩)
        go_ret
        exact ⟨by rw [HRE.out]; rfl, by rw [hb0]; exact HB.out.trans ((HJ.out.1.trans ((sr_lay.trans (b2.mono (by simp))).mono HJ.out.1.size)).mono HBS.out)⟩
      · have HJ2 : Hid (∀ j (h : j < i + 1) (h' : j < l.length), l[j].kb ≠ kbOf (s, z)) := Hid.mk' (fun j h h' => by
          rcases Nat.lt_or_ge j i with h1 | h1
          · exact HJ.out.2 j h1 h'
          · obtain rfl : j = i := by omega
            rw [HQQ.out]
            exact fun e => hsame ((same_bare (xs, xz) (s, z)).2 e))
        have hsf : sameK (xs, xz) (s, z) = false := by simpa using hsame
        rw [hsf] at HSA
        clear hsame hsf hq HQQ hlq
        go_wp2_with (go_at_call 19; refine (HSA.out _).mono ?_; rintro e w2 ⟨rfl, b2⟩)
        have HB2 := Hid.mk' (HJ.out.1.trans ((sr_lay.trans (b2.mono (by simp))).mono HJ.out.1.size))
        exact ⟨⟨i + 1, by go_num, HLT.out, Hid.mk' ⟨HB2.out, HJ2.out⟩⟩, sr_meas N i HLT.out⟩
    · have i1 : ¬ (i : Int) < (N : Int) := by omega
      have HRE : Hid (res = -1) := Hid.mk' (by
        rw [← HE.out]
        refine ixB_no (fun x hx => ?_)
        obtain ⟨q, hq, rfl⟩ := List.mem_map.1 hx
        obtain ⟨j, hj, rfl⟩ := List.getElem_of_mem hq
        exact HJ.out.2 j (by rw [HN.out] at hj; omega) hj)
      clear hi hlt
      go_wp2
      go_ret
      exact ⟨by rw [HRE.out]; rfl, HB.out.trans (HJ.out.1.mono HBS.out)⟩
end Go.Proofs.Ytoonaljmdiideaa
