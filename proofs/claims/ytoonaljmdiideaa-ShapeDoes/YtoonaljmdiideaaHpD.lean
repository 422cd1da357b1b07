/- Package shape: Each, an iterator over a shape's keys and flags. -/
import Derived.Test.YtoonaljmdiideaaHpC
import Derived.Shelf.RegionOpen
namespace Go.Proofs.Ytoonaljmdiideaa
set_option linter.unusedVariables false
set_option linter.unusedSimpArgs false
open Go.RowKit Go.Shelf Go.Maps Go.ChangeShapes
attribute [local go_sem] Oper.semAt_some

theorem sv_cell {X : List Nat} {W W' : World} (h : Sv X W W') {k j : Nat} {v : Value} (hne : k ∉ X) (hc : W.cell? ⟨k, j, none⟩ = some v) : W'.cell? ⟨k, j, none⟩ = some v := by
  have hlt : k < W.heap.size := World.block_lt_of_cell? W _ hc
  have h1 : W.heap[k]? = some W.heap[k] := Array.getElem?_eq_getElem hlt
  have h2 := h.all k _ hne h1
  have e : W'.cell? ⟨k, j, none⟩ = W.cell? ⟨k, j, none⟩ := by
    simp only [World.cell?, h1, h2]
  rw [e]
  exact hc
theorem hp_meas (K j : Nat) (h : j < K) : K - (intOf (.int .i64 ((j : Int) + 1))).toNat < K - (intOf (.int .i64 (j : Int))).toNat := by simp [intOf]; omega
theorem then_put {K : Act → World → Prop} {Q : Exit → Act → World → Prop} {a : Act} {d : Option Tmp} {t : Tmp} {v v' : Value} {w : World} (hd : d = some t) (hv : v = v') (h : Exit.then K Q .normal (a.put (some t) v') w) : Exit.then K Q .normal (a.put d v) w := by subst hd; subst hv; exact h
/-- A key and its flags, as a round is handed them. -/
def encK (x : Kb × Int) : Array Value := #[.agg #[.string x.1.1, .int .i64 x.1.2], .int .i64 x.2]
/-- What a shape tells: its keys, by their numbers, with their flags. -/
def tells (ks : List Kb) (ln : List Int) (fl : List Int) (L : List (Kb × Int)) : Prop :=
  L.length = fl.length ∧ fl.length ≤ ln.length ∧ ∀ (j : Nat) (x : Kb × Int), L[j]? = some x → ∃ n : Nat, ln[j]? = some (n : Int) ∧ ks[n]? = some x.1 ∧ fl[j]? = some x.2 ∧ evenS x.1.1 = x.1.1 ∧ (x.1.1.size : Int) ≤ 140737488351232 ∧ 0 ≤ x.2 ∧ x.2 ≤ 15
section
variable {C : List (Nat × Obj)} {B g mn mw lb : Nat} {vk vs vl : Value} {ks : List Kb} {ln : List Int} {fs : List (List Int)} {fv : List (Nat × Value)} {nw : Nat} {Dn Dw : DataW Unit} {w w' : World}
theorem kC_get (l : List Kb) (j : Nat) (s : ByteArray) (z : Int) (h : l[j]? = some (s, z)) : (kC l)[j * 2]? = some (.string s) ∧ (kC l)[j * 2 + 1]? = some (.int .i64 z) := by
  induction l generalizing j with
  | nil => simp at h
  | cons p r ih =>
    have e : kC (p :: r) = .string p.1 :: .int .i64 p.2 :: kC r := rfl
    cases j with
    | zero => simp at h; subst h; rw [e]; exact ⟨rfl, rfl⟩
    | succ j =>
      have := ih j (by simpa using h)
      rw [e, show (j + 1) * 2 = j * 2 + 1 + 1 from by omega]
      simpa using this
theorem T1.kat (h : T1 C B g mn mw lb vk vs vl ks ln fs fv nw Dn Dw w) (i : Nat) (s : ByteArray) (z : Int) (hi : ks[i]? = some (s, z)) : ∃ gs c, vk = .slice (some ⟨gs, 0, none⟩) ks.length c ∧ ks.length ≤ c ∧ w.cell? ⟨gs, i * 2, none⟩ = some (.string s) ∧ w.cell? ⟨gs, i * 2 + 1, none⟩ = some (.int .i64 z) := by
  have ho := h.k
  obtain ⟨a, c, hv, _⟩ := own_slice' ho
  subst hv
  obtain ⟨gs, rfl⟩ := own_some ho (by have := (List.getElem?_eq_some_iff.1 hi).1; omega)
  have c1 := ho.cells (g := gs) rfl (i * 2) _ (kC_get ks i s z hi).1
  have c2 := ho.cells (g := gs) rfl (i * 2 + 1) _ (kC_get ks i s z hi).2
  rw [Addr.add_lit] at c1 c2
  refine ⟨gs, c, rfl, ?_, by simpa using c1, by simpa using c2⟩
  rcases ho.2 with ⟨e, _⟩ | ⟨g', cap', cur', e, _, _, hcap, _⟩
  · simp at e
  · simp at e; omega
set_option maxRecDepth 100000 in
set_option maxHeartbeats 4000000 in
theorem each1_in (n l tb sb i : Nat) (X : List Nat) (L : List (Kb × Int)) (J Jx : List (Kb × Int) → World → Prop) (W : World) (h : T1 [] B g mn mw lb vk vs vl ks ln fs fv nw Dn Dw W) (hX : Aside X g mn mw lb vk vs vl fv) (hXl : ∀ b ∈ X, b < W.heap.size ∧ b ≠ tb ∧ b ≠ sb) (hi : i < fv.length) (hlb : fv[i].1 = lb) (hL : tells ks ln (fs.getD i []) L) (hll : L.length < 1000) (hll2 : ks.length < 100000) (ht : W.cell? ⟨tb, 0, none⟩ = some (.pointer (some ⟨g, 0, none⟩))) (hsb : W.cell? ⟨sb, 0, none⟩ = some (.int .i64 (i : Nat)))
    (hJ : OwnFrom W.heap.size J)
    (hY : ∀ pre x W1, J pre W1 → pre ++ [x] <+: L → YieldAt Fence.wide (n - 1) Try.prog l (encK x) W1 fun e W' =>
      (e = .returned (.bool true) ∧ J (pre ++ [x]) W' ∧ Sv X W1 W') ∨ (e = .returned (.bool false) ∧ Jx (pre ++ [x]) W' ∧ KF W.heap.size W1 W')) (h0 : J [] W) :
    CallsIn Fence.wide n Try.prog 53 #[.func (.yield l) #[] #[], .pointer (some ⟨tb, 0, none⟩), .pointer (some ⟨sb, 0, none⟩)] W fun e W' => (∃ v, e = .returned v) ∧ ((∃ xs, xs = L ∧ J xs W') ∨ (∃ pre, pre <+: L ∧ Jx pre W')) := by
  obtain ⟨hL1, hL2, hL3⟩ := hL
  obtain ⟨c0, c1, c2, c3, c4, cf, l0, lf⟩ := h.cells
  obtain ⟨gs, sc, hvs, hsc, d0, d1⟩ := h.sat i hi
  obtain ⟨fa, fc, hfv, _⟩ := own_slice' (h.f i hi)
  obtain ⟨m, hm⟩ : ∃ m, (fs.getD i []).length = m := ⟨_, rfl⟩
  obtain ⟨nn, hnn⟩ : ∃ nn, fv.length = nn := ⟨_, rfl⟩
  have HI0 := Hid.mk' hi
  have HFV := Hid.mk' hfv
  rw [hvs, hnn] at c3
  rw [hlb] at d0
  rw [hfv, hm] at d1
  rw [hnn] at hi hsc
  have HHA := Hid.mk' (has_in g (i : Int) _ nn sc W c0 c3 (by omega) (by omega))
  have HT := Hid.mk' h
  have HXA := Hid.mk' hX
  have HXL := Hid.mk' hXl
  have HL3 := Hid.mk' hL3
  have HLM : Hid (L.length = m) := Hid.mk' (by omega)
  have HY := Hid.mk' hY
  have HJ0 := Hid.mk' h0
  have HJJ := Hid.mk' hJ
  have HMM := Hid.mk' hm
  have HK2 := Hid.mk' hll2
  have HM1 : Hid (m < 1000) := Hid.mk' (by omega)
  have HT0 := Hid.mk' ht
  have HS0 := Hid.mk' hsb
  have a0 := al_cell (.cells #[.pointer none, .slice none 0 0] 63) ht
  have a1 := al_cell (.cells #[.pointer none, .slice none 0 0] 63) hsb
  have a2 := al_cell (.cells #[.pointer none, .slice none 0 0] 63) c3
  have a3 := al_cell (.cells #[.pointer none, .slice none 0 0] 63) d0
  have a4 := al_cell (.cells #[.pointer none, .slice none 0 0] 63) d1
  have i1 : (i : Int) < (nn : Int) := by omega
  clear h hX hXl hL1 hL2 hL3 hll hll2 hJ hY h0 hm hnn hi c1 c2 c4 cf l0 lf hvs hfv hlb
  refine callsIn_of_wp Try.func53 rfl trivial ?_ rfl
  simp only [Try.ntmps53, List.size_toArray, List.length_cons, List.length_nil, Nat.reduceAdd, Nat.reduceSub, Array.replicate_succ, Array.replicate_zero, List.push_toArray, List.append_toArray, List.nil_append, List.cons_append]
  refine wpIn_wide.2 ?_
  go_upto_region 1 with (go_at_call 46; refine HHA.out.mono ?_; rintro e w1 ⟨rfl, hw1⟩; rw [hw1]; clear hw1 w1)
  go_cut [4] from 11 (fun v4 wc => v4 = .pointer (some ⟨W.heap.size, 0, none⟩) ∧ wc = (W.alloc (.cells #[.pointer (some ⟨lb, 0, none⟩), .slice fa m fc] 63)).drew)
  case first =>
    go_region
    all_goals go_wp2_with fail
    all_goals
      go_meet
      exact ⟨rfl, rfl⟩
  case rest =>
    obtain ⟨rfl, hwc⟩ := hcut
    have B2 : Below W.heap.size W wc := by rw [hwc]; exact ((Below.refl _ _).alloc (Nat.le_refl _) _).drew
    have q2 : wc.heap[W.heap.size]? = some (.cells #[.pointer (some ⟨lb, 0, none⟩), .slice fa m fc] 63 (0, 0)) := by rw [hwc]; exact World.alloc_heap_new _ _
    obtain ⟨cb, hcb⟩ : ∃ cb, W.heap.size = cb := ⟨_, rfl⟩
    have HCB := Hid.mk' hcb
    rw [hcb] at q2
    rw [hcb]
    obtain ⟨_, _, e0, e1⟩ := pair_facts q2
    have HE0 := Hid.mk' e0
    have HE1 := Hid.mk' e1
    have HB2 := Hid.mk' B2
    have HJ1 := Hid.mk' (OwnFrom.below HJJ.out HJ0.out B2)
    have HXC : Hid (cb ∉ X) := Hid.mk' (fun q => by have := (HXL.out _ q).1; omega)
    have HXT : Hid (tb ∉ X ∧ sb ∉ X) := Hid.mk' ⟨fun q => (HXL.out _ q).2.1 rfl, fun q => (HXL.out _ q).2.2 rfl⟩
    have HT2 := Hid.mk' (HT.out.below B2)
    have HT3 := Hid.mk' ((B2.cell (p := ⟨tb, 0, none⟩) (World.block_lt_of_cell? W _ HT0.out)).trans HT0.out)
    clear B2 q2 a0 a1 a2 a3 a4 ht hsb c0 c3 d0 d1 hwc hcb i1 hsc e0
    go_wp2_with fail
    refine (wpIn_wide (n := n)).1 ?_
    clear e1
    gi_loopw [21] (fun v wr => ∃ (j : Nat), v = .int .i64 j ∧ j ≤ m ∧ Hid (Sv X wc wr) ∧ Hid (J (L.take j) wr)) (fun v _ => m - (intOf v).toNat)
    case atStart => exact ⟨0, rfl, Nat.zero_le _, Hid.mk' (Sv.refl' _ _), HJ1⟩
    case round =>
      obtain ⟨j, rfl, hj, HKN, HJ2⟩ := hrel
      by_cases hlt : j < m
      · have hjl : j < L.length := by rw [HLM.out]; exact hlt
        obtain ⟨x, hx⟩ : ∃ x, L[j]? = some x := ⟨_, List.getElem?_eq_getElem hjl⟩
        obtain ⟨nk, hk1, hk2, hk3, hk4, hk5, hk6, hk7⟩ := HL3.out j x hx
        have HTK : Hid (L.take (j + 1) = L.take j ++ [x]) := Hid.mk' (by rw [List.take_succ_eq_append_getElem hjl, (List.getElem?_eq_some_iff.1 hx).2])
        obtain ⟨⟨xs, xz⟩, xf⟩ := x
        dsimp only at hk2 hk3 hk4 hk5 hk6 hk7
        have hT5 := HT2.out.keep HXA.out HKN.out
        have HT5 := Hid.mk' hT5
        obtain ⟨fb, fc', hfv', df⟩ := hT5.fat i j HI0.out xf hk3
        rw [HFV.out] at hfv'
        simp only [Value.slice.injEq] at hfv'
        obtain ⟨rfl, _, rfl⟩ := hfv'
        have hjn : j < ln.length := (List.getElem?_eq_some_iff.1 hk1).1
        obtain ⟨gl, lc, hvl, hlc, dl⟩ := hT5.lat j hjn
        rw [show ln[j] = (nk : Int) from (List.getElem?_eq_some_iff.1 hk1).2] at dl
        obtain ⟨gk, kc', hvk, hkc, dk0, dk1⟩ := hT5.kat nk xs xz hk2
        obtain ⟨k0, _, k2, _, _, _, kl0, _⟩ := hT5.cells
        rw [hvl] at kl0
        rw [hvk] at k2
        have t0 := sv_cell HKN.out HXT.out.1 HT3.out
        have e0 := sv_cell HKN.out HXC.out HE0.out
        have HOW := Hid.mk' (fun U => shown_any xs xz U hk5)
        rw [hk4] at HOW
        have hwr : IntKind.i64.wrap xf = xf := by rw [IntKind.wrap_i64]; omega
        have HEnd : Hid (∀ V1, Below wr.drew.heap.size wr.drew V1 → ∃ fn tmps assign body, (Instr.yield l #[.agg #[.string xs, .int .i64 xz], .int .i64 xf]).run Try.prog V1 = .ok (.round l fn tmps assign body) V1 ∧ ∀ m, RoundIn Fence.wide m Try.prog l fn tmps assign body V1 fun e V2 => ∃ bb, e = .returned (.bool bb) ∧ ((bb = true ∧ J (L.take (j + 1)) V2 ∧ Sv X wr V2) ∨ (bb = false ∧ Jx (L.take (j + 1)) V2))) := Hid.mk' (fun V1 bV => by
          have b : Below wr.heap.size wr V1 := ((Below.refl wr.heap.size wr).drew).trans bV
          obtain ⟨fn, tmps, assign, body, hy, h1, h2⟩ := HY.out (L.take j) ((xs, xz), xf) V1 (OwnFrom.below HJJ.out HJ2.out b) (by rw [← HTK.out]; exact List.take_prefix _ _)
          refine ⟨fn, tmps, assign, body, hy, fun m => RoundIn.mono ⟨h1, fun c cs _ => h2 c cs (fun d hd => by cases hd)⟩ ?_⟩
          rw [HTK.out]
          rintro e V2 (⟨rfl, h1, h2⟩ | ⟨rfl, h1, h2⟩)
          · exact ⟨true, rfl, .inl ⟨rfl, h1, (Sv.of_below b).trans' h2⟩⟩
          · exact ⟨false, rfl, .inr ⟨rfl, h1⟩⟩)
        have z1 : (j : Int) < (m : Int) := by omega
        have z2 : (j : Int) < (ln.length : Int) := by omega
        have z3 : (nk : Int) < (ks.length : Int) := by have := (List.getElem?_eq_some_iff.1 hk2).1; omega
        have z4 : (nk : Int) < 100000 := by have := HK2.out; omega
        have HLT := Hid.mk' hlt
        have zj2 : (j : Int) < 1000 := by have := HM1.out; omega
        have HPX : Hid (L.take (j + 1) <+: L) := Hid.mk' (List.take_prefix _ _)
        generalize ln.length = lnl at kl0 hlc z2
        generalize ks.length = ksl at k2 hkc z3
        clear hT5 hx hk1 hk2 hk3 hk4 hk5 hjn hvl hvk hjl hj hlt
        gi_wp2_with fail
        have hmx : Try.prog.follows .mixedOrders = true := by kernel_rfl
        gi_region_with_o (first
          | (refine ⟨trivial, fun h => (by cases h), ?_⟩; refine (callsIn_wide.2 (HOW.out _)).mono ?_; rintro e V1 ⟨rfl, bV⟩; obtain ⟨fn, tmps, assign, body, hy, hR⟩ := HEnd.out V1 bV)
          | (refine ⟨fun h => (by cases h), (hR _).mono ?_⟩; rintro e V2 ⟨bb, rfl, hbb⟩)
          | (refine (hR _).mono ?_; rintro e V2 ⟨bb, rfl, hbb⟩))
        all_goals
          rcases hbb with ⟨rfl, h1, h2⟩ | ⟨rfl, h1⟩
          · have HJ3 := Hid.mk' h1
            have HK3 := Hid.mk' (HKN.out.trans' h2)
            clear h1 h2 df dl dk0 dk1 k0 k2 kl0 t0 e0 hwr hy hR bV
            refine then_put (t := 45) (v' := .bool false) rfl rfl ?_
            clear HHA HT HXA HXL HL3 HLM HY HJ0 HJJ HMM HK2 HM1 HT0 HS0 HE0 HE1 HB2 HJ1 HXC HXT HT2 HT3 HKN HJ2 HTK HT5 HOW HEnd z1 z2 z3 z4 hmx HPX
            dsimp only [Act.put]
            gi_wp2
            go_roundw
            case rel => exact ⟨j + 1, by go_num, HLT.out, HK3, HJ3⟩
            case measure => exact hp_meas m j HLT.out
          · clear df dl dk0 dk1 k0 k2 kl0 t0 e0 hwr hy hR bV
            refine then_put (t := 45) (v' := .bool true) rfl rfl ?_
            clear HHA HT HXA HXL HL3 HLM HY HJ0 HJJ HMM HK2 HM1 HT0 HS0 HE0 HE1 HB2 HJ1 HXC HXT HT2 HT3 HKN HJ2 HTK HT5 HOW HEnd z1 z2 z3 z4 hmx
            dsimp only [Act.put]
            gi_wp2
            exact bodyPost_ret (v := .tuple #[]) (results_none rfl _ _ _) rfl ⟨⟨_, rfl⟩, .inr ⟨_, HPX.out, h1⟩⟩
      · have zj : ¬ (j : Int) < (m : Int) := by omega
        have HJF : Hid (J L wr) := Hid.mk' (by have h := HJ2.out; rwa [List.take_of_length_le (by have := HLM.out; omega)] at h)
        clear hlt hj
        gi_wp2
        go_end0
        exact ⟨⟨_, rfl⟩, .inl (by first | exact HJF.out | exact ⟨_, rfl, HJF.out⟩)⟩
theorem each_stops (n tb sb i : Nat) (X : List Nat) (L : List (Kb × Int)) (w : World) (h : T1 C B g mn mw lb vk vs vl ks ln fs fv nw Dn Dw w) (hX : Aside X g mn mw lb vk vs vl fv) (hXl : ∀ b ∈ X, b < w.heap.size ∧ b ≠ tb ∧ b ≠ sb) (hi : i < fv.length) (hlb : fv[i].1 = lb) (hL : tells ks ln (fs.getD i []) L) (hll : L.length < 1000) (hll2 : ks.length < 100000) (ht : w.cell? ⟨tb, 0, none⟩ = some (.pointer (some ⟨g, 0, none⟩))) (hsb : w.cell? ⟨sb, 0, none⟩ = some (.int .i64 (i : Nat))) :
    SeqX n Try.prog 53 #[.pointer (some ⟨tb, 0, none⟩), .pointer (some ⟨sb, 0, none⟩)] encK X (fun xs => xs = L) (fun pre => pre <+: L) (fun l => l <+: L) w := by
  intro l J Jx W hW hJ _ hY h0
  exact each1_in n l tb sb i X L J Jx W ((h.below hW).sub (fun p hp => by cases hp)) hX (fun b hb => ⟨Nat.lt_of_lt_of_le (hXl b hb).1 hW.size, (hXl b hb).2⟩) hi hlb hL hll hll2 ((hW.cell (p := ⟨tb, 0, none⟩) (World.block_lt_of_cell? w _ ht)).trans ht) ((hW.cell (p := ⟨sb, 0, none⟩) (World.block_lt_of_cell? w _ hsb)).trans hsb) hJ hY h0
set_option maxHeartbeats 400000 in
theorem each_any (g i : Nat) (w : World) : Calls Try.prog 37 #[.pointer (some ⟨g, 0, none⟩), .int .i64 (i : Nat)] w fun e w' => e = .returned (.func (.func 53) #[] #[.pointer (some ⟨w.heap.size, 0, none⟩), .pointer (some ⟨w.heap.size + 1, 0, none⟩)]) ∧ w' = (w.alloc (.cells #[.pointer (some ⟨g, 0, none⟩)] 25)).alloc (.cells #[.int .i64 (i : Nat)] 3) := by
  go_enter Try.func37, Try.ntmps37
  go_wp2
  go_ret
  exact ⟨by simp, rfl⟩
end
end Go.Proofs.Ytoonaljmdiideaa
