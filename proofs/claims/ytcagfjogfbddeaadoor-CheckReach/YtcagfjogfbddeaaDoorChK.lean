/- Package check: whether tries are nested. -/
import Derived.Test.YtcagfjogfbddeaaDoorChJ
import Derived.Test.YtcagfjogfbddeaaDoorChD
import Derived.Deep.LoopGhost
import Derived.BigQuiet
namespace Go.Proofs.YtcagfjogfbddeaaDoor
set_option linter.unusedVariables false
set_option linter.unusedSimpArgs false
open Go.RowKit

theorem own_ge' {B : Nat} {X : World} {e : TypeId} {sz : Nat} {v : Value} {n : Nat} {xs : List Value} (h : X.ownsRow B e sz v n xs) : ∀ k, v.ownBlock = some k → B ≤ k := fun k hk => (h.lt k hk).1
def ints (l : List Nat) : List Value := l.map fun (k : Nat) => Value.int .i64 (k : Int)
/-- A shorter beginning of an own row. -/
theorem own_short {w : World} {B : Nat} {e : TypeId} {a : Option Addr} {c n : Nat} {xs : List Value} (h : w.ownsRow B e 1 (.slice a n c) n xs) (k : Nat) (hk : k ≤ n) (hn : 0 < n) : w.ownsRow B e 1 (.slice a k c) k (xs.take k) := by
  refine ⟨by have := h.1; simp at this ⊢; omega, ?_⟩
  rcases h.2 with ⟨h0, h1⟩ | ⟨g, cap, cur, hv, hB, hg, hnc, hcm, hcs, ht⟩
  · omega
  · simp only [Value.slice.injEq] at hv
    obtain ⟨rfl, _, rfl⟩ := hv
    refine .inr ⟨g, c, cur, rfl, hB, hg, by omega, hcm, hcs, ?_⟩
    rw [← ht, List.take_take, Nat.mul_one, Nat.mul_one, Nat.min_eq_left hk]
/-- The stack in memory. -/
structure NS (w wr : World) (v : Value) (st : List Nat) : Prop where
  bl : Below w.heap.size w wr
  own : wr.ownsRow w.heap.size 3 1 v st.length (ints st.reverse)
theorem NS.pop {w wr : World} {a : Option Addr} {c k : Nat} {t : Nat} {r : List Nat} (h : NS w wr (.slice a (k + 1) c) (t :: r)) (hk : r.length = k) : NS w wr (.slice a k c) r := by
  refine ⟨h.bl, ?_⟩
  have ho := h.own
  rw [List.length_cons, hk] at ho
  have := own_short ho k (by omega) (by omega)
  rw [hk]
  have e : (ints (t :: r).reverse).take k = ints r.reverse := by
    unfold ints
    rw [List.reverse_cons, List.map_append, List.take_append_of_le_length (by simp; omega), List.take_of_length_le (by simp; omega)]
  rw [e] at this
  exact this
theorem NS.top {w wr : World} {a : Option Addr} {c k : Nat} {t : Nat} {r : List Nat} (h : NS w wr (.slice a (k + 1) c) (t :: r)) (hk : r.length = k) : ∃ g, a = some ⟨g, 0, none⟩ ∧ wr.cell? ⟨g, k, none⟩ = some (.int .i64 (t : Int)) := by
  have ho := h.own
  rw [List.length_cons, hk] at ho
  obtain ⟨g, rfl⟩ := own_some ho (by omega)
  refine ⟨g, rfl, ?_⟩
  have := ho.cells (g := g) rfl k (.int .i64 (t : Int)) (by
    unfold ints
    rw [List.reverse_cons, List.map_append, List.getElem?_append_right (by simp; omega)]
    simp [hk])
  rw [Addr.add_lit] at this
  simpa using this
theorem popT_lt {l : List Tri} {n : Nat} : ∀ (st : List Nat), (∀ t ∈ st, t < l.length) → (∀ t ∈ popT l n st, t < l.length) ∧ (popT l n st).length ≤ st.length
  | [], h => ⟨(fun t ht => by cases ht), Nat.le_refl _⟩
  | t :: r, h => by
    unfold popT
    split
    · have := popT_lt (l := l) (n := n) r (fun x hx => h x (List.mem_cons_of_mem _ hx))
      exact ⟨this.1, by simp; omega⟩
    · exact ⟨h, Nat.le_refl _⟩
theorem nst_nil {l : List Tri} {n : Nat} {r st : List Nat} (h : popT l n st = []) : nstB l (n :: r) st = nstB l r [n] := by rw [nstB, h]
theorem nst_cons {l : List Tri} {n : Nat} {r st : List Nat} {t : Nat} {u : List Nat} (h : popT l n st = t :: u) : nstB l (n :: r) st = if (trAt l t).to < (trAt l n).to ∨ t < n then false else nstB l r (n :: t :: u) := by rw [nstB, h]
set_option maxHeartbeats 4000000 in
set_option maxRecDepth 100000 in
theorem nested_any (l : List Tri) (za : Option Addr) (zc : Nat) (w : World) (hr : RdE Tri.cs 4 w za zc l) :
    Calls Tryd.prog 36 #[.slice za l.length zc] w fun e w' => e = .returned (.bool (nesB l)) ∧ Below w.heap.size w w' := by
  obtain ⟨i0, hif, hz0, hz1, hz2⟩ := info_parts infoInt
  have HP := Hid.mk' (byPlace_any l za zc w hr)
  have hle := hr.le
  have hcl : zc * (4 * 8) ≤ 140737488351232 := hr.cle
  obtain ⟨n, hn⟩ : ∃ n, l.length = n := ⟨_, rfl⟩
  rw [hn] at hle HP ⊢
  have HRd := Hid.mk' hr
  have HN := Hid.mk' hn
  obtain ⟨Z, hZ⟩ : ∃ Z, nesB l = Z := ⟨_, rfl⟩
  rw [hZ]
  have HZ := Hid.mk' hZ
  have HOL : Hid ((ordT l).length = n) := Hid.mk' (by rw [ordT_length, hn])
  have HOB : Hid (∀ x ∈ ordT l, x < l.length) := Hid.mk' (ordT_lt l)
  have hnb : (n : Int) * 8 ≤ 140737488351232 := by omega
  clear hr hn hZ hcl hle
  go_enter Tryd.func36, Tryd.ntmps36
  go_wp2_with (go_at_call 47; refine HP.out.mono ?_; rintro e w2 ⟨go, rfl, hO⟩)
  have HO := Hid.mk' hO
  have HR2 := Hid.mk' (HRd.out.below hO.bl)
  have HNS0 : Hid (NS w2 w2 (.slice none 0 0) []) := Hid.mk' ⟨Below.refl _ _, World.ownsRow_nil _ _ _ _⟩
  have HP0 : Hid (Z = nstB l ((ordT l).drop 0) []) := Hid.mk' (by rw [← HZ.out]; rfl)
  clear hO
  go_loopw [3, 10] (fun v3 iv wr => ∃ (i : Nat) (st : List Nat), iv = .int .i64 (i : Int) ∧ i ≤ n ∧ Hid (NS w2 wr v3 st) ∧ Hid (Z = nstB l ((ordT l).drop i) st) ∧ Hid (st.length ≤ i ∧ ∀ t ∈ st, t < l.length)) (fun v3 iv wr => n - (intOf iv).toNat)
  case atStart => exact ⟨0, [], rfl, Nat.zero_le _, HNS0, HP0, Hid.mk' ⟨Nat.le_refl _, fun t ht => by cases ht⟩⟩
  case round =>
    obtain ⟨i, st, rfl, hi, HS, HE, HT⟩ := hrel
    by_cases hlt : i < n
    · have hio : i < (ordT l).length := by rw [HOL.out]; exact hlt
      have i1 : (i : Int) < (n : Int) := by omega
      have i2 : (i : Int) < 140737488351232 := by omega
      obtain ⟨nn, hnn⟩ : ∃ nn, (ordT l)[i] = nn := ⟨_, rfl⟩
      have hnl : nn < l.length := by rw [← hnn]; exact HOB.out _ (List.getElem_mem _)
      have HE2 : Hid (Z = nstB l (nn :: (ordT l).drop (i + 1)) st) := Hid.mk' (by rw [HE.out, List.drop_eq_getElem_cons hio, hnn])
      have co : wr.cell? ⟨go, i, none⟩ = some (.int .i64 (nn : Int)) := by rw [← hnn]; exact (HS.out.bl.cell (p := ⟨go, i, none⟩) HO.out.lt).trans (HO.out.at' i hio)
      obtain ⟨g, o, rfl, hg, hc⟩ := (HR2.out.below HS.out.bl).at nn hnl
      have en : trAt l nn = l[nn] := by simp [trAt, List.getD_eq_getElem?_getD, List.getElem?_eq_getElem hnl]
      generalize l[nn] = tn at hc en
      obtain ⟨n1, n2, n3, n4⟩ := tn
      have p0 := hc 0 (.int .i64 n1) (by omega) rfl
      have p1 := hc 1 (.int .i64 n2) (by omega) rfl
      simp only [Nat.add_zero] at p0
      have inn : (nn : Int) < (n : Int) := by have := HN.out; omega
      have HEN := Hid.mk' en
      clear hnn hc en hg
      have HC : Hid (∀ W, Below w2.heap.size w2 W → ∀ x, x < l.length → W.cell? ⟨g, o + x * 4, none⟩ = some (.int .i64 (trAt l x).fr) ∧ W.cell? ⟨g, o + x * 4 + 1, none⟩ = some (.int .i64 (trAt l x).to)) := Hid.mk' (fun W hW x hx => by
        obtain ⟨g', o', e', _, hc⟩ := (HR2.out.below hW).at x hx
        simp only [Option.some.injEq, Addr.mk.injEq] at e'
        obtain ⟨rfl, rfl, _⟩ := e'
        have ex : trAt l x = l[x] := by simp [trAt, List.getD_eq_getElem?_getD, List.getElem?_eq_getElem hx]
        rw [ex]
        have c0 := hc 0 (.int .i64 l[x].fr) (by omega) rfl
        have c1 := hc 1 (.int .i64 l[x].to) (by omega) rfl
        simp only [Nat.add_zero] at c0
        exact ⟨c0, c1⟩)
      have HNL := Hid.mk' hnl
      have HNBB := Hid.mk' (And.intro hnb i2)
      have HIL := Hid.mk' hlt
      clear p0 p1 hnl hlt hi
      go_wp2_with fail
      go_loopg [3] st.length (fun gh v3 wx => ∃ sx : List Nat, sx.length = gh ∧ Hid (NS w2 wx v3 sx) ∧ Hid (popT l nn sx = popT l nn st) ∧ Hid (sx.length ≤ i ∧ ∀ t ∈ sx, t < l.length))
      case atStart => exact ⟨st, rfl, HS, Hid.mk' rfl, HT⟩
      case round =>
        obtain ⟨sx, hgh, HS2, HPP, HT2⟩ := hrel
        have HGH := Hid.mk' hgh
        clear hgh co
        obtain ⟨va, vc, hv, _⟩ := own_slice' HS2.out.own
        subst hv
        obtain ⟨cn0, cn1⟩ := HC.out wr HS2.out.bl nn HNL.out
        rw [HEN.out] at cn0 cn1
        dsimp only at cn0 cn1
        cases sx with
        | nil =>
          have hz : Z = nstB l ((ordT l).drop (i + 1)) [nn] := by rw [HE2.out, nst_nil (HPP.out.symm.trans rfl)]
          have HZ2 := Hid.mk' hz
          have OWN : Hid (wr.drew.ownsRow w2.heap.size 3 1 (.slice va 0 vc) 0 []) := Hid.mk' HS2.out.own
          simp only [List.length_nil]
          have HT4 : Hid ((nn :: ([] : List Nat)).length ≤ i + 1 ∧ ∀ t ∈ nn :: ([] : List Nat), t < l.length) := Hid.mk' ⟨by simp, fun t ht => by rw [List.mem_singleton.1 ht]; exact HNL.out⟩
          go_upto_region 5 with fail
          go_quiet (fail)
          have HSX : Hid (NS w2 (wr.drewN nq) (.slice va 0 vc) []) := Hid.mk' ⟨HS2.out.bl.trans (kept_drewN _ 0 _ _).1, own_below HS2.out.own (kept_drewN _ 0 _ _).1⟩
          generalize wr.drewN nq = X at HSX
          clear cn0 cn1 OWN hz
          have hsx := HSX.out
          obtain ⟨W3, hW3⟩ : ∃ W3, X.alloc (.cells #[.int .i64 (nn : Int)] 3) = W3 := ⟨_, rfl⟩
          have hb3 : Below X.heap.size X W3 := by rw [← hW3]; exact lay_below
          have HC3 : Hid (∀ (j : Nat) (u : Value), ([.int .i64 (nn : Int)] : List Value)[j]? = some u → W3.cell? (Addr.add ⟨X.heap.size, 0, none⟩ j) = some u) := Hid.mk' (by rw [← hW3]; exact cells_new _ _ _)
          have HO3 : Hid (W3.ownsRow w2.heap.size 3 1 (.slice va 0 vc) 0 (ints (([] : List Nat)).reverse)) := Hid.mk' (by have := own_below hsx.own hb3;  exact this)
          have HZ3 : Hid (w2.heap.size ≤ W3.heap.size) := Hid.mk' (Nat.le_trans hsx.bl.size hb3.size)
          have HB3 := Hid.mk' (hsx.bl.trans (hb3.mono hsx.bl.size))
          obtain ⟨b3, hb3'⟩ : ∃ b3, X.heap.size = b3 := ⟨_, rfl⟩
          rw [hb3'] at HC3
          have hkn : (0 : Int) + 1 ≤ (n : Int) := by have := HIL.out; omega
          clear hsx hb3
          go_wp2_with (at_builtin; refine wpList_append_own_at _ rfl _ _ 36 rfl w2.heap.size 3 i0 (.int .i64 0) 1 8 Tryd.underlying36 hif hz0 hz1 hz2 rfl (by decide) _ _ _ rfl HO3.out ⟨b3, 0, none⟩ 1 1 [.int .i64 (nn : Int)] rfl rfl HC3.out ?c2 (by unfold maxLen; omega) (by omega) HZ3.out ?_)
          case c2 => first | rfl | (intro u hu; rw [List.mem_singleton.1 hu]; rfl)
          intro v' w4 ho4 hg4 _ _
          have HN4 : Hid (NS w2 w4 v' (nn :: ([] : List Nat))) := Hid.mk' ⟨HB3.out.grown hg4 HZ3.out (own_ge' HO3.out), by
            have e : ints (nn :: ([] : List Nat)).reverse = ints (([] : List Nat)).reverse ++ [.int .i64 (nn : Int)] := by simp [ints]
            rw [e, List.length_cons]
            exact ho4⟩
          clear ho4 hg4 HO3 HC3 HZ3
          go_wp2
          go_roundw
          case rel => exact ⟨i + 1, nn :: ([] : List Nat), by go_num, HIL.out, HN4, HZ2, HT4⟩
          case measure => exact meas_up' n i HIL.out
        | cons t r =>
          have htl := HT2.out.2 t (List.mem_cons_self ..)
          obtain ⟨k, hk⟩ : ∃ k, r.length = k := ⟨_, rfl⟩
          simp only [List.length_cons, hk]
          have HS3 : Hid (NS w2 wr (.slice va (k + 1) vc) (t :: r)) := Hid.mk' (by have := HS2.out; rw [List.length_cons, hk] at this; exact this)
          obtain ⟨ga, rfl, ct⟩ := HS3.out.top hk
          obtain ⟨ct0, ct1⟩ := HC.out wr HS2.out.bl t htl
          obtain ⟨t1, ht1⟩ : ∃ t1, (trAt l t).fr = t1 := ⟨_, rfl⟩
          obtain ⟨t2, ht2⟩ : ∃ t2, (trAt l t).to = t2 := ⟨_, rfl⟩
          rw [ht2] at ct1
          have HTO := Hid.mk' ht2
          have itl : (t : Int) < (n : Int) := by have := HN.out; omega
          have hkb : (k : Int) < 140737488351232 := by have := HT2.out.1; rw [List.length_cons, hk] at this; omega
          clear ct0 ht1 ht2
          by_cases hle : t2 ≤ n1
          · have HPr : Hid (popT l nn r = popT l nn st) := Hid.mk' (by
              rw [← HPP.out]
              have : popT l nn (t :: r) = popT l nn r := by rw [popT, HTO.out, HEN.out, if_pos hle]
              rw [this])
            go_upto_region 5 with fail
            go_quiet (fail)
            have HSX : Hid (NS w2 (wr.drewN nq) (.slice (some ⟨ga, 0, none⟩) k vc) r) := Hid.mk' (by
              have := HS3.out.pop hk
              exact ⟨this.bl.trans (kept_drewN _ 0 _ _).1, own_below this.own (kept_drewN _ 0 _ _).1⟩)
            have hkc : (k : Int) ≤ (vc : Int) := by
              have ho := HS3.out.own
              rcases ho.2 with ⟨h0, _⟩ | ⟨_, _, _, h1, _, _, h2, _⟩
              · simp at h0
              · simp only [Value.slice.injEq] at h1
                rw [List.length_cons, hk] at h2
                omega
            generalize wr.drewN nq = X at HSX
            clear cn0 cn1 ct ct1
            go_wp2_with fail
            go_roundg k
            case measure => have := HGH.out; rw [List.length_cons, hk] at this; omega
            case rel => exact ⟨r, hk, HSX, HPr, Hid.mk' ⟨by have := HT2.out.1; rw [List.length_cons] at this; omega, fun x hx => HT2.out.2 x (List.mem_cons_of_mem _ hx)⟩⟩
          · have hpop : popT l nn st = t :: r := by rw [← HPP.out, popT, HTO.out, HEN.out, if_neg hle]
            have hz := HE2.out
            rw [nst_cons hpop, HTO.out, HEN.out] at hz
            dsimp only at hz
            clear hpop
            go_upto_region 5 with fail
            go_quiet (fail)
            clear hle
            have HSX : Hid (NS w2 (wr.drewN nq) (.slice (some ⟨ga, 0, none⟩) (k + 1) vc) (t :: r)) := Hid.mk' ⟨HS3.out.bl.trans (kept_drewN _ 0 _ _).1, own_below HS3.out.own (kept_drewN _ 0 _ _).1⟩
            have hxt := HSX.out.top hk
            have hx1 := HC.out (wr.drewN nq) HSX.out.bl nn HNL.out
            have hx2 := HC.out (wr.drewN nq) HSX.out.bl t htl
            generalize wr.drewN nq = X at HSX hxt hx1 hx2
            obtain ⟨ga', hga, xt⟩ := hxt
            simp only [Option.some.injEq, Addr.mk.injEq] at hga
            obtain ⟨rfl, _⟩ := hga
            rw [HEN.out] at hx1
            rw [HTO.out] at hx2
            obtain ⟨_, x1⟩ := hx1
            obtain ⟨_, x2⟩ := hx2
            dsimp only at x1
            clear cn0 cn1 ct ct1
            have HIN := Hid.mk' (And.intro inn itl)
            clear inn itl i1 i2 hnb htl
            by_cases hb1 : t2 < n2
            · rw [if_pos (.inl hb1)] at hz
              subst hz
              have HB1 := Hid.mk' hb1
              clear hb1
              go_upto_region 9 with fail
              have hb1 := HB1.out
              obtain ⟨inn, itl⟩ := HIN.out
              go_quiet (fail)
              go_wp2
              go_ret
              exact ⟨rfl, HO.out.bl.trans ((HSX.out.bl.trans (kept_drewN _ 0 _ _).1).mono HO.out.bl.size)⟩
            · by_cases hb2 : t < nn
              · rw [if_pos (.inr hb2)] at hz
                subst hz
                have HB1 := Hid.mk' (And.intro hb1 (show (t : Int) < (nn : Int) by omega))
                clear hb1 hb2
                go_upto_region 9 with fail
                obtain ⟨hb1, hb2'⟩ := HB1.out
                obtain ⟨inn, itl⟩ := HIN.out
                go_quiet (fail)
                go_wp2
                go_ret
                exact ⟨rfl, HO.out.bl.trans ((HSX.out.bl.trans (kept_drewN _ 0 _ _).1).mono HO.out.bl.size)⟩
              · rw [if_neg (fun h => h.elim hb1 hb2)] at hz
                have HZ2 := Hid.mk' hz
                have HB1 := Hid.mk' (And.intro hb1 (show ¬ (t : Int) < (nn : Int) by omega))
                have HNB := Hid.mk' HN.out
                have HT4 : Hid ((nn :: t :: r).length ≤ i + 1 ∧ ∀ x ∈ nn :: t :: r, x < l.length) := Hid.mk' ⟨by have := HT2.out.1; simp at this ⊢; omega, fun x hx => by
                  rcases List.mem_cons.1 hx with rfl | hx
                  · exact HNL.out
                  · exact HT2.out.2 x hx⟩
                clear hz hb1 hb2
                go_upto_region 9 with fail
                obtain ⟨hb1, hb2'⟩ := HB1.out
                obtain ⟨inn, itl⟩ := HIN.out
                go_quiet (fail)
                clear hb1 hb2' inn itl
                have HSX := Hid.mk' (NS.mk (HSX.out.bl.trans (kept_drewN _ 0 X nq).1) (own_below HSX.out.own (kept_drewN _ 0 X nq).1))
                clear xt x1 x2
                generalize X.drewN nq = X at HSX
                obtain ⟨hnb, i2⟩ := HNBB.out
                have hsx := HSX.out
                obtain ⟨W3, hW3⟩ : ∃ W3, X.alloc (.cells #[.int .i64 (nn : Int)] 3) = W3 := ⟨_, rfl⟩
                have hb3 : Below X.heap.size X W3 := by rw [← hW3]; exact lay_below
                have HC3 : Hid (∀ (j : Nat) (u : Value), ([.int .i64 (nn : Int)] : List Value)[j]? = some u → W3.cell? (Addr.add ⟨X.heap.size, 0, none⟩ j) = some u) := Hid.mk' (by rw [← hW3]; exact cells_new _ _ _)
                have HO3 : Hid (W3.ownsRow w2.heap.size 3 1 (.slice (some ⟨ga, 0, none⟩) (k + 1) vc) (k + 1) (ints ((t :: r)).reverse)) := Hid.mk' (by have := own_below hsx.own hb3; rw [List.length_cons, hk] at this; exact this)
                have HZ3 : Hid (w2.heap.size ≤ W3.heap.size) := Hid.mk' (Nat.le_trans hsx.bl.size hb3.size)
                have HB3 := Hid.mk' (hsx.bl.trans (hb3.mono hsx.bl.size))
                obtain ⟨b3, hb3'⟩ : ∃ b3, X.heap.size = b3 := ⟨_, rfl⟩
                rw [hb3'] at HC3
                have hkn : ((k : Int) + 1) + 1 ≤ (n : Int) := by have := HT2.out.1; rw [List.length_cons, hk] at this; have := HIL.out; omega
                clear hsx hb3
                go_wp2_with (at_builtin; refine wpList_append_own_at _ rfl _ _ 36 rfl w2.heap.size 3 i0 (.int .i64 0) 1 8 Tryd.underlying36 hif hz0 hz1 hz2 rfl (by decide) _ _ _ rfl HO3.out ⟨b3, 0, none⟩ 1 1 [.int .i64 (nn : Int)] rfl rfl HC3.out ?c2 (by unfold maxLen; omega) (by omega) HZ3.out ?_)
                case c2 => first | rfl | (intro u hu; rw [List.mem_singleton.1 hu]; rfl)
                intro v' w4 ho4 hg4 _ _
                have HN4 : Hid (NS w2 w4 v' (nn :: (t :: r))) := Hid.mk' ⟨HB3.out.grown hg4 HZ3.out (own_ge' HO3.out), by
                  have e : ints (nn :: (t :: r)).reverse = ints ((t :: r)).reverse ++ [.int .i64 (nn : Int)] := by simp [ints]
                  rw [e, List.length_cons]
                  rw [List.length_cons, hk]
                  simpa using ho4⟩
                clear ho4 hg4 HO3 HC3 HZ3
                go_wp2
                go_roundw
                case rel => exact ⟨i + 1, nn :: (t :: r), by go_num, HIL.out, HN4, HZ2, HT4⟩
                case measure => exact meas_up' n i HIL.out
    · have i1 : ¬ (i : Int) < (n : Int) := by omega
      have e : Z = true := by rw [HE.out, List.drop_of_length_le (by rw [HOL.out]; omega)]; rfl
      subst e
      go_wp2
      go_ret
      exact ⟨rfl, HO.out.bl.trans (HS.out.bl.mono HO.out.bl.size)⟩
end Go.Proofs.YtcagfjogfbddeaaDoor
