/- The document's shapes: New, Find. The document's shapes: Find. The document's shapes: Change. -/
import Derived.Test.YtoonaljmdiideaaSrD
import Derived.Deep.RegionHeld3
import Derived.BigQuiet
namespace Go.Proofs.Ytoonaljmdiideaa
set_option linter.unusedVariables false
set_option linter.unusedSimpArgs false
open Go.RowKit Go.Maps Go.ChangeShapes
section
variable {B rb : Nat} {vL vW : Value} {sv : List Value} {S : List (List SlR)} {W : List WyR} {w w' : World}
/-- Texts that are not too long. -/
def slOk (S : List (List SlR)) : Prop := ∀ l ∈ S, l.length < 1000 ∧ ∀ x ∈ l, (x.s.size : Int) ≤ 140737488351232
theorem slOk.at (h : slOk S) (i : Nat) : (S.getD i []).length < 1000 ∧ ∀ x ∈ S.getD i [], (x.s.size : Int) ≤ 140737488351232 := by
  rw [List.getD_eq_getElem?_getD]
  cases e : S[i]? with
  | none => exact ⟨by simp, fun x hx => by simp at hx⟩
  | some l => exact h l (List.mem_of_getElem? e)
/-- A shape's row as it lies. -/
theorem R1.at (h : R1 B rb vL vW sv S W w) (i : Nat) (hi : i < sv.length) : ∃ gs c a ca, vL = .slice (some ⟨gs, 0, none⟩) sv.length c ∧ w.cell? ⟨gs, i, none⟩ = some (.slice a (S.getD i []).length ca) ∧ sv[i] = .slice a (S.getD i []).length ca ∧ RdR SlR.cs 3 w a (S.getD i []) := by
  have ho := h.l
  obtain ⟨a0, c0, hv, _⟩ := own_slice' ho
  subst hv
  obtain ⟨gs, rfl⟩ := own_some ho (by omega)
  have c1 := ho.cells (g := gs) rfl i sv[i] (List.getElem?_eq_getElem hi)
  rw [Addr.add_lit] at c1
  obtain ⟨a, ca, hva, hrd⟩ := own_rd sl_len (h.s i hi)
  rw [hva] at c1
  exact ⟨gs, c0, a, ca, rfl, by simpa using c1, hva, hrd⟩
set_option maxHeartbeats 400000 in
theorem rnew_any (w : World) : Calls Try.prog 8 #[] w fun e w' => ∃ rb vL, e = .returned (.pointer (some ⟨rb, 0, none⟩)) ∧ R1 w.heap.size rb vL (.slice none 0 0) [.slice none 0 0] [[]] [] w' ∧ Below w.heap.size w w' := by
  go_enter Try.func8, Try.ntmps8
  go_wp2
  go_ret
  refine ⟨w.heap.size + 1, .slice (some ⟨w.heap.size, 0, none⟩) 1 1, by simp, ⟨by omega, ?_, ⟨rfl, .inr ⟨w.heap.size, 1, #[.slice none 0 0], rfl, Nat.le_refl _, ?_, Nat.le_refl _, by decide, rfl, rfl⟩⟩, fun i hi => ?_, World.ownsRow_nil _ _ _ _⟩, ?_⟩
  · exact sh_new (by simp)
  · exact sh_old (by simp) (sh_new rfl)
  · obtain rfl : i = 0 := by simp at hi; omega
    exact World.ownsRow_nil _ _ _ _
  · exact ((Below.refl _ _).alloc (Nat.le_refl _) _).alloc (by simp) _
set_option maxHeartbeats 4000000 in
set_option maxRecDepth 100000 in
theorem rfind_out (i : Int) (s : ByteArray) (z : Int) (w : World) (h : R1 B rb vL vW sv S W w) (hi : i < 0 ∨ (sv.length : Int) ≤ i) :
    Calls Try.prog 18 #[.pointer (some ⟨rb, 0, none⟩), .int .i64 i, .agg #[.string s, .int .i64 z]] w fun e w' => e = .returned (.tuple #[.int .i64 0, .int .i64 0, .bool false]) ∧ Below w.heap.size w w' := by
  have b1 : Below w.heap.size w (w.alloc (.cells #[.string s, .int .i64 z] 31)) := sr_lay
  obtain ⟨c0, _, _, _⟩ := (h.below b1).cells
  obtain ⟨xa, xc, hvL, _⟩ := own_slice' h.l
  rw [hvL] at c0
  obtain ⟨n, hnn⟩ : ∃ n, sv.length = n := ⟨_, rfl⟩
  rw [hnn] at c0 hi
  have HB := Hid.mk' b1
  clear h b1 hvL hnn
  by_cases h0 : i < 0
  · have e0 : decide (i < 0) = true := decide_eq_true h0
    clear hi h0
    go_enter Try.func18, Try.ntmps18
    go_wp2
    go_ret3
    exact ⟨rfl, HB.out⟩
  · have e0 : decide (i < 0) = false := decide_eq_false h0
    have e1 : decide (i ≥ (n : Int)) = true := decide_eq_true (by omega)
    clear hi h0
    go_enter Try.func18, Try.ntmps18
    go_wp2
    go_ret3
    exact ⟨rfl, HB.out⟩
end
end Go.Proofs.Ytoonaljmdiideaa

namespace Go.Proofs.Ytoonaljmdiideaa
set_option linter.unusedVariables false
set_option linter.unusedSimpArgs false
open Go.RowKit Go.Maps Go.ChangeShapes
theorem ixB_cases (l : List Kb) (k : Kb) : (ixB l k = -1 ∧ ∀ x ∈ l, x ≠ k) ∨ ∃ j : Nat, ∃ h : j < l.length, ixB l k = (j : Int) ∧ l[j] = k := by
  unfold ixB
  by_cases h : l.findIdx (fun x => decide (x = k)) < l.length
  · rw [if_pos h]
    exact .inr ⟨_, h, rfl, by have := List.findIdx_getElem (p := fun x : Kb => decide (x = k)) (xs := l) (w := h); exact of_decide_eq_true this⟩
  · rw [if_neg h]
    refine .inl ⟨rfl, fun x hx e => h (List.findIdx_lt_length.2 ⟨x, hx, by simpa using e⟩)⟩
section
variable {B rb : Nat} {vL vW : Value} {sv : List Value} {S : List (List SlR)} {W : List WyR} {w w' : World}
set_option maxHeartbeats 4000000 in
set_option maxRecDepth 100000 in
theorem rfind_in (i : Nat) (s : ByteArray) (z : Int) (w : World) (h : R1 B rb vL vW sv S W w) (hi : i < sv.length) (hok : slOk S) (hs : (s.size : Int) ≤ 140737488351232) (hn : sv.length ≤ 100000) :
    Calls Try.prog 18 #[.pointer (some ⟨rb, 0, none⟩), .int .i64 (i : Nat), .agg #[.string s, .int .i64 z]] w fun e w' => (((∀ x ∈ (S.getD i []).map SlR.kb, x ≠ kbOf (s, z)) ∧ e = .returned (.tuple #[.int .i64 0, .int .i64 0, .bool false])) ∨ ∃ j x, ixB ((S.getD i []).map SlR.kb) (kbOf (s, z)) = ((j : Nat) : Int) ∧ (S.getD i [])[j]? = some x ∧ e = .returned (.tuple #[.int .i64 (j : Int), .int .i64 x.f, .bool true])) ∧ Below w.heap.size w w' := by
  obtain ⟨hlen, hsz⟩ := hok.at i
  obtain ⟨W1, hW1⟩ : ∃ W1, w.alloc (.cells #[.string s, .int .i64 z] 31) = W1 := ⟨_, rfl⟩
  have b1 : Below w.heap.size w W1 := by rw [← hW1]; exact sr_lay
  have q1 : W1.heap[w.heap.size]? = some (.cells #[.string s, .int .i64 z] 31 (0, 0)) := by rw [← hW1]; exact World.alloc_heap_new _ _
  obtain ⟨b0, hb0⟩ : ∃ b0, w.heap.size = b0 := ⟨_, rfl⟩
  rw [hb0] at q1
  have h1 := h.below b1
  obtain ⟨c0, _, _, _⟩ := h1.cells
  obtain ⟨gs, sc, a, ca, hvL, d0, _, hrd⟩ := h1.at i hi
  rw [hvL] at c0
  obtain ⟨l, hl⟩ : ∃ l, S.getD i [] = l := ⟨_, rfl⟩
  rw [hl] at d0 hrd hlen hsz ⊢
  obtain ⟨m, hm⟩ : ∃ m, l.length = m := ⟨_, rfl⟩
  have HFD := Hid.mk' (fun (Wx : World) (hb : Below W1.heap.size W1 Wx) => rfind_any a ca l s z Wx (hrd.below hb) (by omega) hsz hs)
  rw [hm] at HFD d0
  obtain ⟨px, hpx⟩ : ∃ px, ixB (l.map SlR.kb) (kbOf (s, z)) = px := ⟨_, rfl⟩
  rw [hpx] at HFD ⊢
  have HPX := Hid.mk' hpx
  obtain ⟨n, hnn⟩ : ∃ n, sv.length = n := ⟨_, rfl⟩
  rw [hnn] at c0 hi hn
  have e0 : decide ((i : Int) < 0) = false := decide_eq_false (by omega)
  have e1 : decide ((i : Int) ≥ (n : Int)) = false := decide_eq_false (by omega)
  have i1 : (i : Int) < (n : Int) := by omega
  obtain ⟨_, _, g0, g1⟩ := pair_facts q1
  have gl1 : rb < W1.heap.size := (Array.getElem?_eq_some_iff.1 h1.row).1
  have gl2 : gs < W1.heap.size := World.block_lt_of_cell? _ _ d0
  have gl3 : b0 < W1.heap.size := (Array.getElem?_eq_some_iff.1 q1).1
  have HKP : Hid (∀ Wx, Below W1.heap.size W1 Wx → Wx.cell? ⟨rb, 0, none⟩ = some (.slice (some ⟨gs, 0, none⟩) n sc) ∧ Wx.cell? ⟨gs, i, none⟩ = some (.slice a m ca) ∧ Wx.cell? ⟨b0, 0, none⟩ = some (.string s) ∧ Wx.cell? ⟨b0, 1, none⟩ = some (.int .i64 z)) := Hid.mk' (fun Wx hW => ⟨(hW.cell (p := ⟨rb, 0, none⟩) gl1).trans c0, (hW.cell (p := ⟨gs, i, none⟩) gl2).trans d0, (hW.cell (p := ⟨b0, 0, none⟩) gl3).trans g0, (hW.cell (p := ⟨b0, 1, none⟩) gl3).trans g1⟩)
  have HRD := Hid.mk' hrd
  have HB1 : Hid (Below b0 w W1 ∧ b0 ≤ W1.heap.size) := Hid.mk' (by rw [← hb0]; exact ⟨b1, b1.size⟩)
  have HH1 := Hid.mk' hW1
  have HM := Hid.mk' hm
  have HS0 := Hid.mk' hb0
  have HLN : Hid (m < 1000) := Hid.mk' (by omega)
  clear h h1 hok hs hvL hrd hl hpx hW1 b1 q1 hnn hlen hsz hm hi hn hb0
  go_enter Try.func18, Try.ntmps18
  go_upto_region 1 with fail
  rw [HH1.out]
  rw [HS0.out]
  go_upto_region 3 with fail
  go_cut [9] from 10 (fun v9 wc => v9 = .int .i64 px ∧ Hid (Below W1.heap.size W1 wc))
  case first =>
    go_region_held3 (fun w' => w'.cell? ⟨rb, 0, none⟩ = some (.slice (some ⟨gs, 0, none⟩) n sc) ∧ w'.cell? ⟨gs, i, none⟩ = some (.slice a m ca) ∧ w'.cell? ⟨b0, 0, none⟩ = some (.string s) ∧ w'.cell? ⟨b0, 1, none⟩ = some (.int .i64 z)) (first | exact HKP.out _ HB3.out | go_keep) (first
      | (go_at_call 30; refine (HFD.out _ (by exact (Below.refl _ _).drew)).mono ?_; rintro e w3 ⟨rfl, b3⟩; have HB3 : Hid (Below W1.heap.size W1 w3) := Hid.mk' (below_from_drew b3); clear b3))
    all_goals
      go_wp2_with fail
      go_meet
      exact ⟨rfl, HB3⟩
  case rest =>
    obtain ⟨rfl, HB5⟩ := hcut
    obtain ⟨r0, r1, r2, r3⟩ := HKP.out wc HB5.out
    clear c0 d0 g0 g1 gl1 gl2 gl3 r2 r3
    rcases ixB_cases (l.map SlR.kb) (kbOf (s, z)) with ⟨hp, hno⟩ | ⟨j, hj, hp, hjk⟩
    · rw [HPX.out] at hp
      subst hp
      have HNO := Hid.mk' hno
      clear hno r0 r1
      go_wp2
      go_ret3
      exact ⟨.inl ⟨HNO.out, rfl⟩, by rw [HS0.out]; exact HB1.out.1.trans (HB5.out.mono HB1.out.2)⟩
    · rw [HPX.out] at hp
      subst hp
      have hjl : j < l.length := by rw [List.length_map] at hj; exact hj
      obtain ⟨gr, rfl, hc⟩ := (HRD.out.below HB5.out) j hjl
      obtain ⟨x, hx⟩ : ∃ x, l[j] = x := ⟨_, rfl⟩
      rw [hx] at hc
      have HX : Hid (l[j]? = some x) := Hid.mk' (by rw [List.getElem?_eq_getElem hjl, hx])
      obtain ⟨xs, xz, xf⟩ := x
      have d2 := hc 2 (.int .i64 xf) (by omega) rfl
      have j1 : (j : Int) < (m : Int) := by rw [← HM.out]; omega
      have j2 : decide ((j : Int) < 0) = false := decide_eq_false (by omega)
      have j3 : (j : Int) < 1000 := by have := HLN.out; omega
      clear hc hjk hj hjl hx
      go_upto_region 6 with fail
      go_quiet (fail)
      go_wp2
      go_ret3
      exact ⟨.inr ⟨j, ⟨xs, xz, xf⟩, rfl, HX.out, rfl⟩, by rw [HS0.out]; exact below_drewN (HB1.out.1.trans (HB5.out.mono HB1.out.2)) _⟩
end
end Go.Proofs.Ytoonaljmdiideaa

namespace Go.Proofs.Ytoonaljmdiideaa
set_option linter.unusedVariables false
set_option linter.unusedSimpArgs false
open Go.RowKit Go.Maps Go.ChangeShapes
/-- Where ways lead there is something. -/
def wyOk (W : List WyR) : Prop := W.length < 1000000 ∧ ∀ x ∈ W, 0 ≤ x.dst ∧ (x.s.size : Int) ≤ 140737488351232
theorem wyF_cases (W : List WyR) (fr : Int) (ch : Bool) (k : Kb) (f : Int) (h : wyOk W) : (wyF W fr ch k f = -1 ∧ ∀ x ∈ W, ¬ x.is fr ch k f) ∨ (0 ≤ wyF W fr ch k f ∧ ∃ x ∈ W, x.is fr ch k f ∧ wyF W fr ch k f = x.dst) := by
  unfold wyF
  cases e : W.find? (fun x => x.fits fr ch k f) with
  | none => exact .inl ⟨rfl, fun x hx hy => by have := List.find?_eq_none.1 e x hx; exact this (WyR.fits_iff.2 hy)⟩
  | some x =>
    have hx := List.mem_of_find?_eq_some e
    exact .inr ⟨(h.2 x hx).1, x, hx, WyR.fits_iff.1 (List.find?_some (p := fun x : WyR => x.fits fr ch k f) e), rfl⟩
section
variable {B rb : Nat} {vL vW : Value} {sv : List Value} {S : List (List SlR)} {W : List WyR} {w w' : World}
theorem slC_len (l : List SlR) : (slC l).length = l.length * 3 := by
  induction l with
  | nil => rfl
  | cons a r ih =>
    show (a.cs ++ slC r).length = _
    rw [List.length_append, ih, sl_len, List.length_cons]
    omega
/-- A row of slots in a row of its own. -/
theorem app_sl {a : Option Addr} {c : Nat} {l : List SlR} (hl : l.length < 1000) (hr : RdR SlR.cs 3 w a l) (h1 : 1 ≤ l.length) :
    ∃ b cap w', (Builtin.append_ #[79, 79] 79 #[.slice none 0 0, .slice a l.length c]).run Try.prog w = .ok (.slice (some ⟨b, 0, none⟩) l.length cap) w' ∧ w.heap.size ≤ b ∧ w'.ownsRow w.heap.size 81 3 (.slice (some ⟨b, 0, none⟩) l.length cap) l.length (slC l) ∧ Below w.heap.size w w' := by
  obtain ⟨i0, hif, hz0, hz1, hz2⟩ := sh_parts sr_infoS
  obtain ⟨g, rfl, _⟩ := hr 0 (by omega)
  have hlen : (slC l).length = l.length * 3 := slC_len l
  obtain ⟨v', w', hrun, r1, r2, _, r3⟩ := run_append_own_at (P := Try.prog) w w.heap.size 79 79 81 i0 (.agg #[.string ⟨#[]⟩, .int .i64 0, .int .i64 0]) 3 32 Try.underlying79 hif hz0 hz1 hz2 rfl (by decide) (.slice none 0 0) 0 [] (World.ownsRow_nil _ _ _ _) ⟨g, 0, none⟩ l.length c (slC l) hlen (fun j u hj => by
    have hj2 : j < l.length * 3 := by rw [← hlen]; exact (List.getElem?_eq_some_iff.1 hj).1
    obtain ⟨g', e, hc⟩ := hr (j / 3) (by omega)
    simp only [Option.some.injEq, Addr.mk.injEq, and_true] at e
    subst e
    have := hc (j % 3) u (by omega) (by
      rw [← flat_get sl_len l (j / 3) (j % 3) (by omega) (by omega), show j / 3 * 3 + j % 3 = j by omega]
      exact hj)
    rw [show j / 3 * 3 + j % 3 = j by omega] at this
    rw [Addr.add_lit]
    simpa using this) (fun u hu => by
    obtain ⟨x, _, hx⟩ := List.mem_flatMap.1 hu
    simp only [SlR.cs, List.mem_cons, List.not_mem_nil, or_false] at hx
    rcases hx with rfl | rfl | rfl <;> rfl) (by unfold maxLen; omega) (by omega) (Nat.le_refl _)
  rw [Nat.zero_add, List.nil_append] at r1
  obtain ⟨a', c', hv', _⟩ := own_slice' r1
  subst hv'
  obtain ⟨b, rfl⟩ := own_some r1 (by omega)
  exact ⟨b, c', w', hrun, (r1.lt b rfl).1, r1, (Below.refl _ _).grown r2 (Nat.le_refl _) (fun j hj => by cases hj)⟩
theorem slC_set (l : List SlR) (j : Nat) (x : SlR) (f : Int) (hj : l[j]? = some x) : slC (l.set j ⟨x.s, x.z, f⟩) = (slC l).set (j * 3 + 2) (.int .i64 f) := by
  induction l generalizing j with
  | nil => simp at hj
  | cons a r ih =>
    cases j with
    | zero => simp at hj; subst hj; rfl
    | succ j =>
      have e : (j + 1) * 3 + 2 = (j * 3 + 2) + 1 + 1 + 1 := by omega
      rw [e]
      show a.cs ++ slC (r.set j _) = (a.cs ++ slC r).set _ _
      rw [ih j (by simpa using hj)]
      rfl
/-- One cell of an owned row of greater elements is written. -/
theorem own_set3 {B' : Nat} {e : TypeId} {v u : Value} {n b j sz : Nat} {xs : List Value} (h : w.ownsRow B' e sz v n xs) (hb : v.ownBlock = some b) (hj : j < n * sz) : (w.setCell ⟨b, j, none⟩ u).ownsRow B' e sz v n (xs.set j u) := by
  refine ⟨by rw [List.length_set]; exact h.1, ?_⟩
  rcases h.2 with ⟨rfl, _⟩ | ⟨g, cap, cur, rfl, hB, hg, h1, h2, h3, h4⟩
  · cases hb
  · simp [Value.ownBlock] at hb
    subst hb
    refine .inr ⟨g, cap, cur.setIfInBounds j u, rfl, hB, set_blk2' hg, h1, h2, by simpa using h3, ?_⟩
    rw [← h4, Array.toList_setIfInBounds, List.take_set]
end
end Go.Proofs.Ytoonaljmdiideaa
