/- ShapeDoes: told of a shape that there is. -/
import Derived.Test.YtoonaljmdiideaaTdB
import Derived.Test.YtoonaljmdiideaaRgR
namespace Go.Proofs.Ytoonaljmdiideaa
set_option linter.unusedVariables false
set_option linter.unusedSimpArgs false
open Go.RowKit Go.Shelf Go.Maps Go.ChangeShapes Go.Sort
attribute [local go_sem] Oper.semAt_some
/-- What a round of the last range keeps. -/
def KJ (w W6 : World) (b0 bi : Nat) (pre : List (Kb × Int)) (W : World) : Prop := W.heap[bi]? = some (.cells #[.int .i64 (pre.length : Nat)] 3 (0, 0)) ∧ Sv [bi] W6 W ∧ Below b0 w W
theorem KJ.own {w W6 : World} {b0 bi : Nat} (h1 : bi < W6.heap.size) (h2 : b0 ≤ W6.heap.size) : OwnFrom W6.heap.size (KJ w W6 b0 bi) := by
  intro pre A A' row h hg hr
  have keep : ∀ (k : Nat) (o : Obj), k < W6.heap.size → A.heap[k]? = some o → A'.heap[k]? = some o := fun k o hk ho => (hg.block k (Array.getElem?_eq_some_iff.1 ho).1 (fun e => by have := (hr k e.symm).1; omega)).trans ho
  exact ⟨keep _ _ h1 h.1, ⟨Nat.le_trans h.2.1.size hg.size, fun k o hk ho => keep k o (Array.getElem?_eq_some_iff.1 ho).1 (h.2.1.all k o hk ho)⟩, h.2.2.trans ((Below.refl _ _).grown hg (Nat.le_trans h2 h.2.1.size) (fun k hk => by have := (hr k hk).1; omega))⟩
section
variable {B g rb : Nat} {S : List (List SlR)} {D : List (Nat × Obj)} {w w' : World}
theorem two_kwf (h : Two B g rb S D w) {i j : Nat} {x : SlR} (hi : i < S.length) (hx : (S.getD i [])[j]? = some x) : Kwf x.kb := by
  obtain ⟨⟨mn, mw, vk, vs, ks, LS, fs, fv, ws, Dn, Dw, vL, vW, sv, W, E, hT, h2, h3, hR, h5, h6, hE⟩, hF⟩ := h
  obtain ⟨q, hq, _, ht⟩ := h6.at_ i (by rw [← h6.sl]; exact hi)
  obtain ⟨n, _, hn, _⟩ := ht.2.2 j x hx
  exact h6.kw _ (List.mem_of_getElem? hn)
theorem two_le (h : Two B g rb S D w) {i : Nat} (hi : i < S.length) : (S.getD i []).length ≤ 128 := by
  obtain ⟨⟨mn, mw, vk, vs, ks, LS, fs, fv, ws, Dn, Dw, vL, vW, sv, W, E, hT, h2, h3, hR, h5, h6, hE⟩, hF⟩ := h
  obtain ⟨q, hq, _, ht⟩ := h6.at_ i (by rw [← h6.sl]; exact hi)
  have := h6.l1 q hq
  have := ht.1
  have := ht.2.1
  omega
set_option maxHeartbeats 4000000 in
set_option maxRecDepth 100000 in
theorem told_in (i : Nat) (hi : i < S.length) (hNK : NK S) (w : World) (h : Two B g rb S [] w) :
    Calls Try.prog 14 #[.pointer (some ⟨g, 0, none⟩), .pointer (some ⟨rb, 0, none⟩), .int .i64 (i : Nat)] w fun e w' => e = .returned (.bool true) ∧ Below w.heap.size w w' := by
  obtain ⟨b0, hb0⟩ : ∃ b0, w.heap.size = b0 := ⟨_, rfl⟩
  obtain ⟨W1, hW1⟩ : ∃ W1, ((w.alloc (.cells #[.pointer (some ⟨g, 0, none⟩)] 25)).alloc (.cells #[.int .i64 (i : Nat)] 3)).alloc (.cells #[.bool false] 4) = W1 := ⟨_, rfl⟩
  have s1 : W1.heap.size = b0 + 3 := by rw [← hW1, ← hb0]; simp
  have b1 : Below w.heap.size w W1 := by rw [← hW1]; exact (((Below.refl _ _).alloc (Nat.le_refl _) _).alloc (by simp) _).alloc (by simp <;> omega) _
  have q0 : W1.heap[b0]? = some (.cells #[.pointer (some ⟨g, 0, none⟩)] 25 (0, 0)) := by rw [← hW1, ← hb0]; exact sh_old (by simp <;> omega) (sh_old (by simp) (sh_new rfl))
  have q1 : W1.heap[b0 + 1]? = some (.cells #[.int .i64 (i : Nat)] 3 (0, 0)) := by rw [← hW1, ← hb0]; exact sh_old (by simp) (sh_new (by simp))
  have q2 : W1.heap[b0 + 2]? = some (.cells #[.bool false] 4 (0, 0)) := by rw [← hW1, ← hb0]; exact sh_new (by simp)
  have HT1 := Hid.mk' (h.below b1)
  have HKE := Hid.mk' (two_keys i hi W1 (h.below b1))
  have HQ : Hid (∀ W, Below W1.heap.size W1 W → W.heap[b0]? = some (.cells #[.pointer (some ⟨g, 0, none⟩)] 25 (0, 0)) ∧ W.heap[b0 + 1]? = some (.cells #[.int .i64 (i : Nat)] 3 (0, 0)) ∧ W.heap[b0 + 2]? = some (.cells #[.bool false] 4 (0, 0))) := Hid.mk' (fun W hW => ⟨(hW.block b0 (by omega)).trans q0, (hW.block (b0 + 1) (by omega)).trans q1, (hW.block (b0 + 2) (by omega)).trans q2⟩)
  have HB1 : Hid (Below b0 w W1) := Hid.mk' (by rw [← hb0]; exact b1)
  have HS1 := Hid.mk' s1
  have HNK := Hid.mk' hNK
  have HI := Hid.mk' hi
  obtain ⟨k0, k1⟩ : W1.cell? ⟨b0, 0, none⟩ = some (.pointer (some ⟨g, 0, none⟩)) ∧ W1.cell? ⟨b0 + 1, 0, none⟩ = some (.int .i64 (i : Nat)) := ⟨by simp [World.cell?, q0], by simp [World.cell?, q1]⟩
  have HB0 := Hid.mk' hb0
  have HH1 := Hid.mk' hW1
  clear h hNK b1 q0 q1 q2 s1 hi hb0 hW1
  refine (callsIn_wide (n := 8)).1 ?_
  refine callsIn_of_wp_marks Try.func14 rfl trivial ?_ rfl
  refine wpIn_wide.2 ?_
  simp only [Try.ntmps14, List.size_toArray, List.length_cons, List.length_nil, Nat.reduceAdd, Nat.reduceSub, Array.replicate_succ, Array.replicate_zero, List.push_toArray, List.append_toArray, List.nil_append, List.cons_append]
  go_upto_region 1 with fail
  (try rw [HH1.out])
  (try rw [HB0.out])
  go_wp2_with fail
  refine HKE.out.mono ?_
  rintro e w2 ⟨v, rfl, ho, b2⟩
  obtain ⟨va, vc, rfl, _⟩ := own_slice' ho
  obtain ⟨m, hm⟩ : ∃ m, (S.getD i []).length = m := ⟨_, rfl⟩
  rw [hm] at ho ⊢
  have HO := Hid.mk' ho
  have HM := Hid.mk' hm
  clear hm
  obtain ⟨W3, hW3⟩ : ∃ W3, w2.alloc (.cells #[.slice va m vc] 66) = W3 := ⟨_, rfl⟩
  have b3 : Below w2.heap.size w2 W3 := by rw [← hW3]; exact sr_lay
  have HB2 := Hid.mk' b2
  have HB3 : Hid (Below W1.heap.size W1 W3) := Hid.mk' (b2.trans (b3.mono b2.size))
  have q3 : W3.heap[w2.heap.size]? = some (.cells #[.slice va m vc] 66 (0, 0)) := by rw [← hW3]; exact World.alloc_heap_new _ _
  obtain ⟨bk, hbk⟩ : ∃ bk, w2.heap.size = bk := ⟨_, rfl⟩
  rw [hbk] at q3
  have HQ3 := Hid.mk' q3
  have s3 : W3.heap.size = bk + 1 := by rw [← hW3, ← hbk]; simp
  have HS3 := Hid.mk' s3
  have HEA := Hid.mk' (each_int g (i : Int) W3)
  obtain ⟨W4, hW4⟩ : ∃ W4, (W3.alloc (.cells #[.pointer (some ⟨g, 0, none⟩)] 25)).alloc (.cells #[.int .i64 (i : Int)] 3) = W4 := ⟨_, rfl⟩
  have HH4 := Hid.mk' hW4
  rw [hW4, s3] at HEA
  obtain ⟨k0', k1'⟩ : W3.cell? ⟨b0, 0, none⟩ = some (.pointer (some ⟨g, 0, none⟩)) ∧ W3.cell? ⟨b0 + 1, 0, none⟩ = some (.int .i64 (i : Nat)) := by
    obtain ⟨a0, a1, _⟩ := HQ.out W3 HB3.out
    exact ⟨by simp [World.cell?, a0], by simp [World.cell?, a1]⟩
  have HH3 := Hid.mk' hW3
  have HBK := Hid.mk' hbk
  have hnil := eqlf_nil
  clear ho b2 b3 q3 hbk s3 hW3 hW4 k0 k1
  go_upto_region 2 with fail
  (try rw [HH3.out])
  (try rw [HBK.out])
  go_wp2_with fail
  refine HEA.out.mono ?_
  rintro e w4 ⟨rfl, hw4⟩
  rw [hw4]
  clear hw4 k0' k1'
  go_upto_region 5 with fail
  go_wp2_with fail
  obtain ⟨r4a, r4b, r4s, r4c⟩ : W4.heap[bk + 1]? = some (.cells #[.pointer (some ⟨g, 0, none⟩)] 25 (0, 0)) ∧ W4.heap[bk + 1 + 1]? = some (.cells #[.int .i64 (i : Int)] 3 (0, 0)) ∧ W4.heap.size = bk + 3 ∧ Below W3.heap.size W3 W4 := by
    have s3 := HS3.out
    rw [← HH4.out]
    refine ⟨sh_old (by simp [s3]) (sh_new s3), sh_new (by simp [s3]), by simp [s3], ((Below.refl _ _).alloc (Nat.le_refl _) _).alloc (by simp) _⟩
  have HB4 : Hid (Below W1.heap.size W1 W4) := Hid.mk' (HB3.out.trans (r4c.mono HB3.out.size))
  have HSQ := Hid.mk' (two_each (8 - 1) (bk + 1) (bk + 1 + 1) i [] W4 (HT1.out.below HB4.out) HI.out (fun b hb => by cases hb) (by simp [World.cell?, r4a]) (by simp [World.cell?, r4b]))
  have HR4 := Hid.mk' (And.intro r4a (And.intro r4b r4s))
  have HB4w : Hid (Below b0 w W4) := Hid.mk' (HB1.out.trans (HB4.out.mono (by have := HS1.out; omega)))
  clear r4a r4b r4s r4c
  refine (wpIn_wide (n := 8)).1 ?_
  refine range_brk (α := Kb × Int) (by omega) (gf := 53) (lb := #[.pointer (some ⟨bk + 1, 0, none⟩), .pointer (some ⟨bk + 1 + 1, 0, none⟩)]) rfl (enters_of Try.func53 (by kernel_rfl) rfl) HSQ.out (Below.refl _ _) (fun _ => rfl) 0 b0 w HB4w.out (by have := HR4.out.2.2; have := HB4w.out.size; have := HS1.out; have := HB4.out.size; omega) ?round1 ?exit1 ?rest1
  case round1 =>
    rintro l ⟨⟨ys, yz⟩, yf⟩ V hV hbV
    simp only [encK]
    gi_wp2
    refine ⟨Below.refl _ _, fun Wb hWb hbb hkeep hsz => ?_⟩
    gi_wp2
    exact ⟨⟨Nat.le_refl _, fun k o _ ho => ho⟩, rfl, hWb, hbb⟩
  case exit1 =>
    intro a W hq
    exact wpIn_exit (by simpa [Exit.inBlock] using hq)
  case rest1 =>
    intro D1 V1 hD1 hV1 hb1 hK1
    have HTV : Hid (Two B g rb S [] V1) := Hid.mk' ((HT1.out.below HB4.out).turn hV1 (fun x hx => by cases hx) (fun p hp => by cases hp))
    obtain ⟨z0, z1, z2⟩ := HQ.out W4 HB4.out
    have HV0 : Hid (V1.heap[b0]? = some (.cells #[.pointer (some ⟨g, 0, none⟩)] 25 (0, 0)) ∧ V1.heap[b0 + 1]? = some (.cells #[.int .i64 (i : Nat)] 3 (0, 0)) ∧ V1.heap[b0 + 2]? = some (.cells #[.bool false] 4 (0, 0))) := Hid.mk' ⟨hV1.all _ _ (by simp) z0, hV1.all _ _ (by simp) z1, hV1.all _ _ (by simp) z2⟩
    have HVE : Hid (V1.heap[bk + 1]? = some (.cells #[.pointer (some ⟨g, 0, none⟩)] 25 (0, 0)) ∧ V1.heap[bk + 1 + 1]? = some (.cells #[.int .i64 (i : Int)] 3 (0, 0))) := Hid.mk' ⟨hV1.all _ _ (by simp) HR4.out.1, hV1.all _ _ (by simp) HR4.out.2.1⟩
    have b34 : Below W3.heap.size W3 W4 := by rw [← HH4.out]; exact ((Below.refl _ _).alloc (Nat.le_refl _) _).alloc (by simp) _
    have HVK : Hid (V1.heap[bk]? = some (.cells #[.slice va m vc] 66 (0, 0))) := Hid.mk' (hV1.all _ _ (by simp) ((b34.block bk (by have := HS3.out; omega)).trans HQ3.out))
    have HVO : Hid (V1.ownsRow W1.heap.size 31 2 (.slice va m vc) m (kC ((S.getD i []).map SlR.kb))) := Hid.mk' (by
      have b23 : Below w2.heap.size w2 W3 := by rw [← HH3.out]; exact sr_lay
      exact hV1.own ((Sv.below b34).own ((Sv.below b23).own HO.out (by simp)) (by simp)) (by simp))
    have HVB := Hid.mk' hb1
    have HK1 := Hid.mk' hK1
    have HD1 := Hid.mk' hD1
    obtain ⟨ra, rc, c0, cl, hrows⟩ := HTV.out.rows
    obtain ⟨gs, a1, c1, rfl, d0, hrd, hsz⟩ := hrows i HI.out
    obtain ⟨n, hn⟩ : ∃ n, S.length = n := ⟨_, rfl⟩
    rw [hn] at c0 cl
    have hin : i < n := by rw [← hn]; exact HI.out
    rw [HM.out] at d0
    have HRD := Hid.mk' hrd
    have HSZ := Hid.mk' hsz
    have y1 : V1.cell? ⟨b0 + 1, 0, none⟩ = some (.int .i64 (i : Nat)) := by simp [World.cell?, HV0.out.2.1]
    have e0 : decide ((i : Int) < 0) = false := decide_eq_false (by omega)
    have e1 : decide ((i : Int) ≥ (n : Int)) = false := decide_eq_false (by omega)
    have i1 : (i : Int) < (n : Int) := by omega
    clear hD1 hV1 hb1 hK1 z0 z1 z2 b34 hrows hrd hsz hn hin
    go_upto_region 6 with fail
    go_quiet (fail)
    obtain ⟨V2, hV2⟩ : ∃ V2, V1.drewN nq = V2 := ⟨_, rfl⟩
    rw [hV2]
    have HV2 : Hid (Below V1.heap.size V1 V2) := Hid.mk' (by rw [← hV2]; exact below_drewN (Below.refl _ _) nq)
    have y1' : V2.cell? ⟨b0 + 1, 0, none⟩ = some (.int .i64 (i : Nat)) := (HV2.out.cell (p := ⟨b0 + 1, 0, none⟩) (World.block_lt_of_cell? _ _ y1)).trans y1
    have c0' := (HV2.out.cell (p := ⟨rb, 0, none⟩) (World.block_lt_of_cell? _ _ c0)).trans c0
    have d0' := (HV2.out.cell (p := ⟨gs, i, none⟩) (World.block_lt_of_cell? _ _ d0)).trans d0
    clear hV2 y1 c0 d0 e0 e1
    go_upto_region 10 with fail
    have a0 := al_cell (.cells #[.slice none 0 0] 79) y1'
    have a1' := al_cell (.cells #[.slice none 0 0] 79) c0'
    have a2 := al_cell (.cells #[.slice none 0 0] 79) d0'
    go_cut [10] from 31 (fun v10 wc => ∃ bw, v10 = .pointer (some ⟨bw, 0, none⟩) ∧ Hid (wc.heap[bw]? = some (.cells #[.slice a1 m c1] 79 (0, 0)) ∧ Below V2.heap.size V2 wc ∧ V2.heap.size ≤ bw))
    case first =>
      go_region
      all_goals
        go_wp2_with fail
        go_meet
        exact ⟨_, rfl, Hid.mk' ⟨World.alloc_heap_new _ _, sr_lay.drew, Nat.le_refl _⟩⟩
    case rest =>
      obtain ⟨bw, rfl, HW⟩ := hcut
      clear a0 a1' a2 y1' c0' d0' i1
      obtain ⟨W6, hW6⟩ : ∃ W6, wc.alloc (.cells #[.int .i64 0] 3) = W6 := ⟨_, rfl⟩
      have b6 : Below wc.heap.size wc W6 := by rw [← hW6]; exact sr_lay
      have HV26 : Hid (Below V1.heap.size V1 wc) := Hid.mk' (HV2.out.trans (HW.out.2.1.mono HV2.out.size))
      have x0 : wc.cell? ⟨bw, 0, none⟩ = some (.slice a1 m c1) := by simp [World.cell?, HW.out.1]
      have x1 : wc.cell? ⟨bk, 0, none⟩ = some (.slice va m vc) := by
        have := (HV26.out.block bk (Array.getElem?_eq_some_iff.1 HVK.out).1).trans HVK.out
        simp [World.cell?, this]
      obtain ⟨bi, hbi⟩ : ∃ bi, wc.heap.size = bi := ⟨_, rfl⟩
      have HH6 := Hid.mk' hW6
      have HBI := Hid.mk' hbi
      have HB6 := Hid.mk' b6
      clear b6 hW6 hbi
      go_upto_region 14 with fail
      (try rw [HH6.out])
      (try rw [HBI.out])
      go_wp2_with fail
      have s6 : W6.heap.size = bi + 1 := by rw [← HH6.out, ← HBI.out]; simp
      have q6 : W6.heap[bi]? = some (.cells #[.int .i64 0] 3 (0, 0)) := by rw [← HH6.out, ← HBI.out]; exact World.alloc_heap_new _ _
      have HT6 : Two B g rb S [(bi, .cells #[.int .i64 0] 3 (0, 0))] W6 := (HTV.out.below HV26.out).cons HB6.out bi _ (by rw [HBI.out]; exact Nat.le_refl _) q6 (fr_kind _ _ _ (by decide) (by decide) (by decide) (by decide) (by decide))
      have B6 : Below V1.heap.size V1 W6 := HV26.out.trans (HB6.out.mono HV26.out.size)
      have BW6 : Below b0 w W6 := HVB.out.trans (B6.mono (by have := HVB.out.size; have := HB0.out; omega))
      have lv : V1.heap.size ≤ bi := by rw [← HBI.out]; exact HV26.out.size
      obtain ⟨e4a, e4b⟩ := HVE.out
      have l4 : bk + 1 + 1 < V1.heap.size := (Array.getElem?_eq_some_iff.1 e4b).1
      have x6a := (B6.block _ (by omega)).trans e4a
      have x6b := (B6.block _ l4).trans e4b
      have HSQ3 := Hid.mk' (two_each (8 - 1) (bk + 1) (bk + 1 + 1) i [bi] W6 HT6 HI.out (fun b hb => by rw [List.mem_singleton.1 hb]; exact ⟨⟨_, List.mem_singleton.2 rfl⟩, by omega, by omega⟩) (by simp [World.cell?, x6a]) (by simp [World.cell?, x6b]))
      have HT6 := Hid.mk' HT6
      have HBB6 := Hid.mk' B6
      have HBW6 := Hid.mk' BW6
      have HQ6 := Hid.mk' q6
      have HS6 := Hid.mk' s6
      have HLV := Hid.mk' lv
      clear s6 q6 B6 BW6 lv e4a e4b l4 x6a x6b x0 x1
      refine (wpIn_wide (n := 8)).1 ?_
      refine range_x (α := Kb × Int) (by omega) (gf := 53) (lb := #[.pointer (some ⟨bk + 1, 0, none⟩), .pointer (some ⟨bk + 1 + 1, 0, none⟩)]) rfl (enters_of Try.func53 (by kernel_rfl) rfl)
        HSQ3.out (fun b hb => by rw [List.mem_singleton.1 hb]; have := HS6.out; omega) (Below.refl _ _) (fun _ => rfl)
        (KJ w W6 b0 bi) (fun _ _ _ => False) (KJ.own (by have := HS6.out; omega) (by have := HBW6.out.size; have := HB0.out; omega))
        (fun cd s A C row hs hgr hr => hs) ⟨HQ6.out, Sv.refl' _ _, HBW6.out⟩ ?round3 ?done3 ?stop3
      case stop3 =>
        rintro E cd pre V hE h hx hK
        exact hx.elim
      case done3 =>
        rintro E xs V hE rfl hV hK
        have hl : (((S.getD i []).map SlR.kf).length : Nat) = m := by rw [List.length_map, HM.out]
        have f1 : V.cell? ⟨bi, 0, none⟩ = some (.int .i64 (m : Nat)) := by
          have := hV.1
          rw [hl] at this
          simp [World.cell?, this]
        have f2 : V.cell? ⟨bw, 0, none⟩ = some (.slice a1 m c1) := by
          have h1 := (HB6.out.block bw (Array.getElem?_eq_some_iff.1 HW.out.1).1).trans HW.out.1
          have h2 := hV.2.1.all bw _ (by have := (Array.getElem?_eq_some_iff.1 HW.out.1).1; have := HBI.out; simp; omega) h1
          simp [World.cell?, h2]
        have f3 : V.heap[b0 + 2]? = some (.cells #[.bool false] 4 (0, 0)) := by
          have h0 := HV0.out.2.2
          have h1 := (HBB6.out.block _ (Array.getElem?_eq_some_iff.1 h0).1).trans h0
          exact hV.2.1.all _ _ (by have := (Array.getElem?_eq_some_iff.1 h0).1; have := HLV.out; simp; omega) h1
        have f4 : V.cell? ⟨b0 + 1 + 1, 0, none⟩ = some (.bool false) := by
          rw [show b0 + 1 + 1 = b0 + 2 from rfl]
          simp [World.cell?, f3]
        have f5 : V.frozen? ⟨b0 + 1 + 1, 0, none⟩ = false := by
          rw [show b0 + 1 + 1 = b0 + 2 from rfl]
          simp [World.frozen?, f3]
        have HF3 := Hid.mk' f3
        have HVV := Hid.mk' hV
        have HKK := Hid.mk' hK
        have HHE := Hid.mk' hE
        clear hV hK f3 hl hE
        go_wp2
        have p0 : E ≠ b0 + 1 + 1 := by have := HHE.out; have := HS6.out; have := HLV.out; have := (Array.getElem?_eq_some_iff.1 HV0.out.2.2).1; omega
        have d1lt : D1 < V1.heap.size := (Array.getElem?_eq_some_iff.1 HK1.out).1
        have p1 : D1 ≠ E := by have := HHE.out; have := HS6.out; have := HLV.out; omega
        have p2 : D1 ≠ b0 + 1 + 1 := by have := HD1.out; have := HR4.out.2.2; have := HB4.out.size; have := HS1.out; omega
        have k3 : (V.setCell ⟨b0 + 1 + 1, 0, none⟩ (.bool true)).heap[E]? = some (.deferred (some [])) := (Below.heap_setCell _ _ _ _ p0).trans HKK.out
        have kd : ((V.setCell ⟨b0 + 1 + 1, 0, none⟩ (.bool true)).putObj E (.deferred none)).heap[D1]? = some (.deferred (some [])) := by
          rw [World.putObj_heap_other p1]
          refine (Below.heap_setCell _ _ _ _ p2).trans ?_
          exact HVV.out.2.1.all _ _ (by have := HLV.out; simp; omega) ((HBB6.out.block _ d1lt).trans HK1.out)
        have hcell : (((V.setCell ⟨b0 + 1 + 1, 0, none⟩ (.bool true)).putObj E (.deferred none)).putObj D1 (.deferred none)).cell? ⟨b0 + 1 + 1, 0, none⟩ = some (.bool true) := by
          have hb : (((V.setCell ⟨b0 + 1 + 1, 0, none⟩ (.bool true)).putObj E (.deferred none)).putObj D1 (.deferred none)).heap[b0 + 1 + 1]? = some (.cells #[.bool true] 4 (0, 0)) := by
            rw [World.putObj_heap_other p2.symm, World.putObj_heap_other p0.symm]
            have := set_blk2' (j := 0) (v := .bool true) HF3.out
            simpa using this
          simp [World.cell?, hb]
        refine ⟨by simp, .inl ⟨_, _, rfl, run_takeDeferred k3, ⟨by simp, .inl ⟨_, _, rfl, run_takeDeferred kd, ?_⟩⟩⟩⟩
        refine ⟨.bool true, by simp [results, Try.results14, go_sem, hcell], rfl, ?_⟩
        rw [HB0.out]
        have z0 : b0 ≤ E := by have := HHE.out; have := HS6.out; have := HLV.out; have := HVB.out.size; have := HB0.out; omega
        have z1 : b0 ≤ D1 := by have := HD1.out; have := HB4w.out.size; have := HB0.out; omega
        have bA : Below b0 w (V.setCell ⟨b0 + 1 + 1, 0, none⟩ (.bool true)) := HVV.out.2.2.setCell (p := ⟨b0 + 1 + 1, 0, none⟩) (by show b0 ≤ b0 + 1 + 1; omega) _
        have bB : Below b0 (V.setCell ⟨b0 + 1 + 1, 0, none⟩ (.bool true)) ((V.setCell ⟨b0 + 1 + 1, 0, none⟩ (.bool true)).putObj E (.deferred none)) := ⟨rfl, rfl, rfl, by simp [World.putObj], fun k hk => World.putObj_heap_other (by omega)⟩
        have bC : Below b0 ((V.setCell ⟨b0 + 1 + 1, 0, none⟩ (.bool true)).putObj E (.deferred none)) (((V.setCell ⟨b0 + 1 + 1, 0, none⟩ (.bool true)).putObj E (.deferred none)).putObj D1 (.deferred none)) := ⟨rfl, rfl, rfl, by simp [World.putObj], fun k hk => World.putObj_heap_other (by omega)⟩
        exact (bA.trans bB).trans bC
      case round3 =>
        intro l pre y V hV hok
        have hlen := hok.length_le
        rw [List.length_append, List.length_map, HM.out] at hlen
        simp only [List.length_cons, List.length_nil] at hlen
        obtain ⟨j, hj⟩ : ∃ j, pre.length = j := ⟨_, rfl⟩
        have hy : ((S.getD i []).map SlR.kf)[j]? = some y := by
          obtain ⟨r, hr⟩ := hok
          rw [← hr, ← hj]
          simp
        rw [List.getElem?_map] at hy
        obtain ⟨x, hx, rfl⟩ := Option.map_eq_some_iff.1 hy
        obtain ⟨xs, xz, xf⟩ := x
        obtain ⟨kb, hkb⟩ : ∃ kb, (⟨xs, xz, xf⟩ : SlR).kb = kb := ⟨_, rfl⟩
        obtain ⟨ys, yz⟩ := kb
        have hkf : (⟨xs, xz, xf⟩ : SlR).kf = ((ys, yz), xf) := by rw [← hkb]; rfl
        rw [hkf]
        simp only [encK]
        have HX := Hid.mk' hx
        have HKB := Hid.mk' hkb
        have HJ := Hid.mk' hj
        have HJM : Hid (j < m) := Hid.mk' (by omega)
        have HV3 := Hid.mk' hV
        clear hok hlen hy hkf hV hj hx hkb
        gi_wp2
        refine ⟨(Below.refl _ _).alloc (Nat.le_refl _) _, fun Wb hWb hkeep hsz => ?_⟩
        obtain ⟨_, _, k0, k1⟩ := pair_facts (hkeep _ _ (World.alloc_heap_new _ _) rfl)
        have hbi : Wb.heap[bi]? = some (.cells #[.int .i64 (j : Nat)] 3 (0, 0)) := by rw [← HJ.out]; exact hWb.1
        have sb : Sv [bi] W6 Wb := hWb.2.1
        have old : ∀ k o, V1.heap[k]? = some o → Wb.heap[k]? = some o := fun k o ho => by
          have hk := (Array.getElem?_eq_some_iff.1 ho).1
          exact sb.all k o (by have := HLV.out; simp; omega) ((HBB6.out.block k hk).trans ho)
        have oldc : ∀ (p : Addr) (u : Value), V1.cell? p = some u → Wb.cell? p = some u := fun p u hu => by
          have hk := World.block_lt_of_cell? _ _ hu
          have h1 : Wb.heap[p.block]? = V1.heap[p.block]? := by
            rw [Array.getElem?_eq_getElem hk]
            exact old _ _ (Array.getElem?_eq_getElem hk)
          exact (World.cell?_of_block (w := V1) h1).trans hu
        have g1 : Wb.cell? ⟨bi, 0, none⟩ = some (.int .i64 (j : Nat)) := by simp [World.cell?, hbi]
        have g2 : Wb.cell? ⟨bw, 0, none⟩ = some (.slice a1 m c1) := by
          have h1 := (HB6.out.block bw (Array.getElem?_eq_some_iff.1 HW.out.1).1).trans HW.out.1
          have h2 := sb.all bw _ (by have := (Array.getElem?_eq_some_iff.1 HW.out.1).1; have := HBI.out; simp; omega) h1
          simp [World.cell?, h2]
        have g3 : Wb.cell? ⟨bk, 0, none⟩ = some (.slice va m vc) := by
          have := old _ _ HVK.out
          simp [World.cell?, this]
        have g4 : Wb.cell? ⟨b0, 0, none⟩ = some (.pointer (some ⟨g, 0, none⟩)) := by
          have := old _ _ HV0.out.1
          simp [World.cell?, this]
        have g5 : Wb.cell? ⟨b0 + 1, 0, none⟩ = some (.int .i64 (i : Nat)) := by
          have := old _ _ HV0.out.2.1
          simp [World.cell?, this]
        obtain ⟨gk, rfl⟩ := own_some HVO.out (by have := HJM.out; omega)
        obtain ⟨gr, hgr, hcr⟩ := HRD.out j (by rw [HM.out]; exact HJM.out)
        have hxj : (S.getD i [])[j]'(by rw [HM.out]; exact HJM.out) = ⟨xs, xz, xf⟩ := (List.getElem?_eq_some_iff.1 HX.out).2
        rw [hxj] at hcr
        have w0 := oldc _ _ (hcr 0 (.string xs) (by omega) rfl)
        have w1' := oldc _ _ (hcr 1 (.int .i64 xz) (by omega) rfl)
        have w2' := oldc _ _ (hcr 2 (.int .i64 xf) (by omega) rfl)
        simp only [Nat.add_zero] at w0
        have hkj : ((S.getD i []).map SlR.kb)[j]? = some (ys, yz) := by rw [List.getElem?_map, HX.out]; exact congrArg some HKB.out
        have u0 := oldc _ _ (by have := HVO.out.cells (g := gk) rfl (j * 2) _ (kC_get _ j ys yz hkj).1; rw [Addr.add_lit] at this; simpa using this)
        have u1 := oldc _ _ (by have := HVO.out.cells (g := gk) rfl (j * 2 + 1) _ (kC_get _ j ys yz hkj).2; rw [Addr.add_lit] at this; simpa using this)
        subst hgr
        have HKP : Hid (kbOf (ys, yz) = (ys, yz)) := Hid.mk' (by rw [← HKB.out]; exact kb_idem xs xz)
        have hsx := HSZ.out ⟨xs, xz, xf⟩ (List.mem_of_getElem? HX.out)
        have hsy : (ys.size : Int) ≤ 140737488351232 := by
          have e1 : (bareS xs xz) = ys := congrArg Prod.fst HKB.out
          rw [← e1]; exact bareS_le xs xz hsx
        have hsame : sameK (ys, yz) (xs, xz) = true := (same_bare _ _).2 (by rw [HKP.out]; exact HKB.out.symm)
        have HSA := Hid.mk' (fun W => same_any ys xs yz xz W hsy hsx)
        rw [hsame] at HSA
        have c1x := cell_regrown g1
        have c2x := cell_regrown g2
        have c3x := cell_regrown g3
        have c6x := cell_regrown w0
        have c7x := cell_regrown w1'
        have c8x := cell_regrown w2'
        have c9x := cell_regrown u0
        have c10x := cell_regrown u1
        have c11x := cell_regrown k0
        have c12x := cell_regrown k1
        have cS : ∀ d os, CallsIn (Fence.wide.inRound l) 5 Try.prog 19 #[.agg #[.string ys, .int .i64 yz], .agg #[.string xs, .int .i64 xz]] (Sort.grow (redrawn Wb d) os) fun e w'' => e = .returned (.bool true) ∧ ∃ p : Regrown, w'' = Sort.grow (redrawn Wb p.d) p.os := fun d os => CallsIn.regrown_of (CallsIn.inRound l (callsIn_wide.2 (HSA.out _)))
        have j0 : decide (m ≤ j) = false := decide_eq_false (by have := HJM.out; omega)
        have j1 : j < m := HJM.out
        have hmx : Try.prog.follows .mixedOrders = true := by kernel_rfl
        clear hkeep hsz hsame hkj
        gi_wp2_with fail
        refine region_quiet_r (by kernel_rfl) hmx (by kernel_rfl) ?_
        repeat
          (refine wpQuietIn_step (fun _ _ _ _ => trivial) (fun K hK => ?_)
           go_simp
           first
             | (refine hK _ ?_; clear hK K)
             | (apply Exists.intro
                refine ⟨fun _ => ?_, hK _ ?_⟩
                (first | exact ⟨fun h => by cases h, cS _ _⟩ | exact cS _ _)
                clear hK K))
        refine wpQuietIn_nil ?_
        intro Wx hw'
        have HBX : Hid (Below Wb.heap.size Wb Wx) := Hid.mk' (by obtain ⟨p, hp⟩ := hw'; rw [hp]; exact below_regrown _ _ _)
        have y1 := (HBX.out.cell (p := ⟨bi, 0, none⟩) (World.block_lt_of_cell? _ _ g1)).trans g1
        have y4 := (HBX.out.cell (p := ⟨b0, 0, none⟩) (World.block_lt_of_cell? _ _ g4)).trans g4
        have y5 := (HBX.out.cell (p := ⟨b0 + 1, 0, none⟩) (World.block_lt_of_cell? _ _ g5)).trans g5
        have yk0 := (HBX.out.cell (p := ⟨V.heap.size, 0, none⟩) (World.block_lt_of_cell? _ _ k0)).trans k0
        have yk1 := (HBX.out.cell (p := ⟨V.heap.size, 1, none⟩) (World.block_lt_of_cell? _ _ k1)).trans k1
        have HTX : Two B g rb S [] Wx := (HTV.out.turn (show Sv [] V1 Wb from ⟨Nat.le_trans HBB6.out.size sb.size, fun k o _ ho => old k o ho⟩) (fun x hx => by cases hx) (fun p hp => by cases hp)).below HBX.out
        have hkw := two_kwf HTX HI.out HX.out
        rw [HKB.out] at hkw
        have HFD : Hid (CallsIn (Fence.wide.inRound l) 5 Try.prog 22 #[.pointer (some ⟨g, 0, none⟩), .int .i64 (i : Nat), .agg #[.string ys, .int .i64 yz]] Wx fun e w' => e = .returned (.tuple #[.int .i64 (j : Nat), .int .i64 xf, .bool true]) ∧ Below Wx.heap.size Wx w') := Hid.mk' (by
          have h1 := two_find (i : Nat) ys yz Wx HTX hsy (wf_bareZ hkw.2)
          rw [HKP.out, ← HKB.out, ansF_at HNK.out i j _ HX.out] at h1
          exact CallsIn.inRound l (callsIn_wide.2 h1))
        have HBI2 : Hid (Wx.heap[bi]? = some (.cells #[.int .i64 (j : Nat)] 3 (0, 0))) := Hid.mk' ((HBX.out.block bi (Array.getElem?_eq_some_iff.1 hbi).1).trans hbi)
        have HWB := Hid.mk' hWb
        clear hWb hbi sb
        clear hw' hkw c1x c2x c3x c6x c7x c8x c9x c10x c11x c12x cS j0 j1 hmx g1 g2 g3 g4 g5 k0 k1 w0 w1' w2' u0 u1 hsx hsy hcr hxj old oldc HTX HSA
        gi_wp2
        refine ⟨trivial, HFD.out.mono ?_⟩
        rintro e w9 ⟨rfl, b9⟩
        have h9 : w9.heap[bi]? = some (.cells #[.int .i64 (j : Nat)] 3 (0, 0)) := (b9.block bi (Array.getElem?_eq_some_iff.1 HBI2.out).1).trans HBI2.out
        have c9 : w9.cell? ⟨bi, 0, none⟩ = some (.int .i64 (j : Nat)) := by simp [World.cell?, h9]
        have f9 : w9.frozen? ⟨bi, 0, none⟩ = false := by simp [World.frozen?, h9]
        have HB9 : Hid (Below Wb.heap.size Wb w9) := Hid.mk' (HBX.out.trans (b9.mono HBX.out.size))
        have HH9 := Hid.mk' h9
        clear b9 h9 y1 y4 y5 yk0 yk1
        gi_wp2_with fail
        have hm8 := two_le HTV.out HI.out
        rw [HM.out] at hm8
        have hwr : wrap64 ((j : Int) + 1) = ((j + 1 : Nat) : Int) := by have := HJM.out; unfold wrap64; omega
        rw [hwr]
        have hset := set_blk2' (j := 0) (v := .int .i64 ((j + 1 : Nat) : Int)) HH9.out
        have hsv : Sv [bi] Wb (w9.setCell ⟨bi, 0, none⟩ (.int .i64 ((j + 1 : Nat) : Int))) := ⟨Nat.le_trans HB9.out.size ((Below.refl 0 w9).setCell (p := ⟨bi, 0, none⟩) (Nat.zero_le _) _).size, fun k o hk ho => (Below.heap_setCell _ _ _ _ (fun e => hk (List.mem_singleton.2 e))).trans ((HB9.out.block k (Array.getElem?_eq_some_iff.1 ho).1).trans ho)⟩
        have hbw : b0 ≤ Wb.heap.size := Nat.le_trans (by have := HB0.out; omega) HWB.out.2.2.size
        have hbi0 : b0 ≤ bi := by have := HLV.out; have := HVB.out.size; have := HB0.out; omega
        have hbel : Below b0 w (w9.setCell ⟨bi, 0, none⟩ (.int .i64 ((j + 1 : Nat) : Int))) := (HWB.out.2.2.trans (HB9.out.mono hbw)).setCell (p := ⟨bi, 0, none⟩) hbi0 _
        have hlen : (pre ++ [((ys, yz), xf)]).length = j + 1 := by rw [List.length_append, HJ.out]; rfl
        refine ⟨hsv, ?_, ⟨Nat.le_trans HWB.out.2.1.size hsv.size, fun k o hk ho => hsv.all k o hk (HWB.out.2.1.all k o hk ho)⟩, hbel⟩
        rw [hlen]
        simpa using hset
end
end Go.Proofs.Ytoonaljmdiideaa
