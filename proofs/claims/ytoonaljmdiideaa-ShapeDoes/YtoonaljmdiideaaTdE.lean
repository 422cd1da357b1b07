/- ShapeDoes: told of a shape that there is not. -/
import Derived.Test.YtoonaljmdiideaaTdC
namespace Go.Proofs.Ytoonaljmdiideaa
set_option linter.unusedVariables false
set_option linter.unusedSimpArgs false
open Go.RowKit Go.Shelf Go.Maps Go.ChangeShapes Go.Sort
attribute [local go_sem] Oper.semAt_some
/-- What a round of a range that tells nothing keeps. -/
def KO (w W6 : World) (b0 : Nat) (pre : List (Kb × Int)) (W : World) : Prop := Sv [] W6 W ∧ Below b0 w W
theorem KO.own {w W6 : World} {b0 : Nat} (h2 : b0 ≤ W6.heap.size) : OwnFrom W6.heap.size (KO w W6 b0) := by
  intro pre A A' row h hg hr
  have keep : ∀ (k : Nat) (o : Obj), k < W6.heap.size → A.heap[k]? = some o → A'.heap[k]? = some o := fun k o hk ho => (hg.block k (Array.getElem?_eq_some_iff.1 ho).1 (fun e => by have := (hr k e.symm).1; omega)).trans ho
  exact ⟨⟨Nat.le_trans h.1.size hg.size, fun k o hk ho => keep k o (Array.getElem?_eq_some_iff.1 ho).1 (h.1.all k o hk ho)⟩, h.2.trans ((Below.refl _ _).grown hg (Nat.le_trans h2 h.1.size) (fun k hk => by have := (hr k hk).1; omega))⟩
section
variable {B g rb : Nat} {S : List (List SlR)} {D : List (Nat × Obj)} {w w' : World}
set_option maxHeartbeats 4000000 in
set_option maxRecDepth 100000 in
theorem told_neg (s : Int) (hs : s < 0) (w : World) (h : Two B g rb S [] w) :
    Calls Try.prog 14 #[.pointer (some ⟨g, 0, none⟩), .pointer (some ⟨rb, 0, none⟩), .int .i64 s] w fun e w' => e = .returned (.bool true) ∧ Below w.heap.size w w' := by
  obtain ⟨b0, hb0⟩ : ∃ b0, w.heap.size = b0 := ⟨_, rfl⟩
  obtain ⟨W1, hW1⟩ : ∃ W1, ((w.alloc (.cells #[.pointer (some ⟨g, 0, none⟩)] 25)).alloc (.cells #[.int .i64 s] 3)).alloc (.cells #[.bool false] 4) = W1 := ⟨_, rfl⟩
  have s1 : W1.heap.size = b0 + 3 := by rw [← hW1, ← hb0]; simp
  have b1 : Below w.heap.size w W1 := by rw [← hW1]; exact (((Below.refl _ _).alloc (Nat.le_refl _) _).alloc (by simp) _).alloc (by simp <;> omega) _
  have q0 : W1.heap[b0]? = some (.cells #[.pointer (some ⟨g, 0, none⟩)] 25 (0, 0)) := by rw [← hW1, ← hb0]; exact sh_old (by simp <;> omega) (sh_old (by simp) (sh_new rfl))
  have q1 : W1.heap[b0 + 1]? = some (.cells #[.int .i64 s] 3 (0, 0)) := by rw [← hW1, ← hb0]; exact sh_old (by simp) (sh_new (by simp))
  have q2 : W1.heap[b0 + 2]? = some (.cells #[.bool false] 4 (0, 0)) := by rw [← hW1, ← hb0]; exact sh_new (by simp)
  have HT1 := Hid.mk' (h.below b1)
  have hs' : s < 0 ∨ (S.length : Int) ≤ s := by omega
  have HKE := Hid.mk' (two_keys_out s hs' W1 (h.below b1))
  have HS' := Hid.mk' hs'
  have HQ : Hid (∀ W, Below W1.heap.size W1 W → W.heap[b0]? = some (.cells #[.pointer (some ⟨g, 0, none⟩)] 25 (0, 0)) ∧ W.heap[b0 + 1]? = some (.cells #[.int .i64 s] 3 (0, 0)) ∧ W.heap[b0 + 2]? = some (.cells #[.bool false] 4 (0, 0))) := Hid.mk' (fun W hW => ⟨(hW.block b0 (by omega)).trans q0, (hW.block (b0 + 1) (by omega)).trans q1, (hW.block (b0 + 2) (by omega)).trans q2⟩)
  have HB1 : Hid (Below b0 w W1) := Hid.mk' (by rw [← hb0]; exact b1)
  have HS1 := Hid.mk' s1
  have HI := Hid.mk' hs
  obtain ⟨k0, k1⟩ : W1.cell? ⟨b0, 0, none⟩ = some (.pointer (some ⟨g, 0, none⟩)) ∧ W1.cell? ⟨b0 + 1, 0, none⟩ = some (.int .i64 s) := ⟨by simp [World.cell?, q0], by simp [World.cell?, q1]⟩
  have HB0 := Hid.mk' hb0
  have HH1 := Hid.mk' hW1
  clear h b1 q0 q1 q2 s1 hs hs' hb0 hW1
  refine (callsIn_wide (n := 8)).1 ?_
  refine callsIn_of_wp_marks Try.func14 rfl trivial ?_ rfl
  refine wpIn_wide.2 ?_
  simp only [Try.ntmps14, List.size_toArray, List.length_cons, List.length_nil, Nat.reduceAdd, Nat.reduceSub, Array.replicate_succ, Array.replicate_zero, List.push_toArray, List.append_toArray, List.nil_append, List.cons_append]
  go_upto_region 1 with fail
  (try rw [HH1.out])
  (try rw [HB0.out])
  go_wp2_with fail
  refine HKE.out.mono ?_
  rintro e w2 ⟨rfl, hw2⟩
  rw [hw2]
  clear hw2 w2
  obtain ⟨W3, hW3⟩ : ∃ W3, W1.alloc (.cells #[.slice none 0 0] 66) = W3 := ⟨_, rfl⟩
  have b3 : Below W1.heap.size W1 W3 := by rw [← hW3]; exact sr_lay
  have HB3 : Hid (Below W1.heap.size W1 W3) := Hid.mk' b3
  have q3 : W3.heap[W1.heap.size]? = some (.cells #[.slice none 0 0] 66 (0, 0)) := by rw [← hW3]; exact World.alloc_heap_new _ _
  obtain ⟨bk, hbk⟩ : ∃ bk, W1.heap.size = bk := ⟨_, rfl⟩
  rw [hbk] at q3
  have HQ3 := Hid.mk' q3
  have s3 : W3.heap.size = bk + 1 := by rw [← hW3, ← hbk]; simp
  have HS3 := Hid.mk' s3
  have HEA := Hid.mk' (each_int g s W3)
  obtain ⟨W4, hW4⟩ : ∃ W4, (W3.alloc (.cells #[.pointer (some ⟨g, 0, none⟩)] 25)).alloc (.cells #[.int .i64 s] 3) = W4 := ⟨_, rfl⟩
  have HH4 := Hid.mk' hW4
  rw [hW4, s3] at HEA
  obtain ⟨k0', k1'⟩ : W3.cell? ⟨b0, 0, none⟩ = some (.pointer (some ⟨g, 0, none⟩)) ∧ W3.cell? ⟨b0 + 1, 0, none⟩ = some (.int .i64 s) := by
    obtain ⟨a0, a1, _⟩ := HQ.out W3 HB3.out
    exact ⟨by simp [World.cell?, a0], by simp [World.cell?, a1]⟩
  have HH3 := Hid.mk' hW3
  have HBK := Hid.mk' hbk
  have hnil := eqlf_nil
  clear b3 q3 hbk s3 hW3 hW4 k0 k1
  go_upto_region 2 with fail
  (try rw [HH3.out])
  (try rw [HBK.out])
  go_wp2_with fail
  refine HEA.out.mono ?_
  rintro e w4 ⟨rfl, hw4⟩
  rw [hw4]
  clear hw4 k0' k1'
  go_upto_region 5 with fail
  go_wp2_with fail
  obtain ⟨r4a, r4b, r4s, r4c⟩ : W4.heap[bk + 1]? = some (.cells #[.pointer (some ⟨g, 0, none⟩)] 25 (0, 0)) ∧ W4.heap[bk + 1 + 1]? = some (.cells #[.int .i64 s] 3 (0, 0)) ∧ W4.heap.size = bk + 3 ∧ Below W3.heap.size W3 W4 := by
    have s3 := HS3.out
    rw [← HH4.out]
    refine ⟨sh_old (by simp [s3]) (sh_new s3), sh_new (by simp [s3]), by simp [s3], ((Below.refl _ _).alloc (Nat.le_refl _) _).alloc (by simp) _⟩
  have HB4 : Hid (Below W1.heap.size W1 W4) := Hid.mk' (HB3.out.trans (r4c.mono HB3.out.size))
  have HSQ := Hid.mk' (two_each_out (8 - 1) (bk + 1) (bk + 1 + 1) s [] HS'.out W4 (HT1.out.below HB4.out) (by simp [World.cell?, r4a]) (by simp [World.cell?, r4b]))
  have HR4 := Hid.mk' (And.intro r4a (And.intro r4b r4s))
  have HB4w : Hid (Below b0 w W4) := Hid.mk' (HB1.out.trans (HB4.out.mono (by have := HS1.out; omega)))
  clear r4a r4b r4s r4c
  refine (wpIn_wide (n := 8)).1 ?_
  refine range_brk (α := Kb × Int) (by omega) (gf := 53) (lb := #[.pointer (some ⟨bk + 1, 0, none⟩), .pointer (some ⟨bk + 1 + 1, 0, none⟩)]) rfl (enters_of Try.func53 (by kernel_rfl) rfl) HSQ.out (Below.refl _ _) (fun _ => rfl) 0 b0 w HB4w.out (by have := HR4.out.2.2; have := HB4w.out.size; have := HS1.out; have := HB4.out.size; omega) ?round1 ?exit1 ?rest1
  case round1 =>
    rintro l ⟨⟨ys, yz⟩, yf⟩ V hV hbV
    simp only [encK]
    gi_wp2
    refine ⟨Below.refl _ _, fun Wb hWb hbb hkeep hsz => ?_⟩
    gi_wp2
    exact ⟨⟨Nat.le_refl _, fun k o _ ho => ho⟩, rfl, hWb, hbb⟩
  case exit1 =>
    intro a W hq
    exact wpIn_exit (by simpa [Exit.inBlock] using hq)
  case rest1 =>
    intro D1 V1 hD1 hV1 hb1 hK1
    have HTV : Hid (Two B g rb S [] V1) := Hid.mk' ((HT1.out.below HB4.out).turn hV1 (fun x hx => by cases hx) (fun p hp => by cases hp))
    obtain ⟨z0, z1, z2⟩ := HQ.out W4 HB4.out
    have HV0 : Hid (V1.heap[b0]? = some (.cells #[.pointer (some ⟨g, 0, none⟩)] 25 (0, 0)) ∧ V1.heap[b0 + 1]? = some (.cells #[.int .i64 s] 3 (0, 0)) ∧ V1.heap[b0 + 2]? = some (.cells #[.bool false] 4 (0, 0))) := Hid.mk' ⟨hV1.all _ _ (by simp) z0, hV1.all _ _ (by simp) z1, hV1.all _ _ (by simp) z2⟩
    have HVE : Hid (V1.heap[bk + 1]? = some (.cells #[.pointer (some ⟨g, 0, none⟩)] 25 (0, 0)) ∧ V1.heap[bk + 1 + 1]? = some (.cells #[.int .i64 s] 3 (0, 0))) := Hid.mk' ⟨hV1.all _ _ (by simp) HR4.out.1, hV1.all _ _ (by simp) HR4.out.2.1⟩
    have b34 : Below W3.heap.size W3 W4 := by rw [← HH4.out]; exact ((Below.refl _ _).alloc (Nat.le_refl _) _).alloc (by simp) _
    have HVK : Hid (V1.heap[bk]? = some (.cells #[.slice none 0 0] 66 (0, 0))) := Hid.mk' (hV1.all _ _ (by simp) ((b34.block bk (by have := HS3.out; omega)).trans HQ3.out))
    have HVB := Hid.mk' hb1
    have HK1 := Hid.mk' hK1
    have HD1 := Hid.mk' hD1
    obtain ⟨ra, rc, c0, cl, _⟩ := HTV.out.rows
    obtain ⟨n, hn⟩ : ∃ n, S.length = n := ⟨_, rfl⟩
    rw [hn] at c0 cl
    have hsn := HI.out
    (try rw [hn] at hsn)
    have y1 : V1.cell? ⟨b0 + 1, 0, none⟩ = some (.int .i64 s) := by simp [World.cell?, HV0.out.2.1]
    have e0 : decide (s < 0) = true := decide_eq_true (by omega)
    clear hD1 hV1 hb1 hK1 z0 z1 z2 b34 hn hsn
    go_upto_region 6 with fail
    go_quiet (fail)
    obtain ⟨V2, hV2⟩ : ∃ V2, V1.drewN nq = V2 := ⟨_, rfl⟩
    rw [hV2]
    have HV2 : Hid (Below V1.heap.size V1 V2) := Hid.mk' (by rw [← hV2]; exact below_drewN (Below.refl _ _) nq)
    have hz : V2.heap.size = V1.heap.size := by rw [← hV2]; rfl
    clear hV2 y1 c0 e0
    go_wp2_with fail
    have hV1b : b0 + 3 ≤ V1.heap.size := by have := (Array.getElem?_eq_some_iff.1 HV0.out.2.2).1; omega
    have BW : Below b0 w V2 := HVB.out.trans (HV2.out.mono (by omega))
    obtain ⟨e4a, e4b⟩ := HVE.out
    have x6a := (HV2.out.block _ (Array.getElem?_eq_some_iff.1 e4a).1).trans e4a
    have x6b := (HV2.out.block _ (Array.getElem?_eq_some_iff.1 e4b).1).trans e4b
    have HSQ3 := Hid.mk' (two_each_out (8 - 1) (bk + 1) (bk + 1 + 1) s [] HS'.out V2 (HTV.out.below HV2.out) (by simp [World.cell?, x6a]) (by simp [World.cell?, x6b]))
    have HBW := Hid.mk' BW
    have HZ := Hid.mk' hz
    have HL := Hid.mk' hV1b
    clear BW e4a e4b x6a x6b hz hV1b
    refine (wpIn_wide (n := 8)).1 ?_
    refine range_x (α := Kb × Int) (by omega) (gf := 53) (lb := #[.pointer (some ⟨bk + 1, 0, none⟩), .pointer (some ⟨bk + 1 + 1, 0, none⟩)]) rfl (enters_of Try.func53 (by kernel_rfl) rfl)
      HSQ3.out (fun b hb => by cases hb) (Below.refl _ _) (fun _ => rfl)
      (KO w V2 b0) (fun _ _ _ => False) (KO.own (by have := HL.out; have := HZ.out; omega))
      (fun cd s A C row hs hgr hr => hs) ⟨Sv.refl' _ _, HBW.out⟩ ?round3 ?done3 ?stop3
    case stop3 =>
      rintro E cd pre V hE h hx hK
      exact hx.elim
    case round3 =>
      intro l pre y V hV hok
      have := hok.length_le
      rw [List.length_append] at this
      simp at this
    case done3 =>
      rintro E xs V hE rfl hV hK
      have old : ∀ k o, V1.heap[k]? = some o → V.heap[k]? = some o := fun k o ho => hV.1.all k o (by simp) ((HV2.out.block k (Array.getElem?_eq_some_iff.1 ho).1).trans ho)
      have f3 : V.heap[b0 + 2]? = some (.cells #[.bool false] 4 (0, 0)) := old _ _ HV0.out.2.2
      have f1 : V.cell? ⟨bk, 0, none⟩ = some (.slice none 0 0) := by
        have := old _ _ HVK.out
        simp [World.cell?, this]
      have f4 : V.cell? ⟨b0 + 1 + 1, 0, none⟩ = some (.bool false) := by
        rw [show b0 + 1 + 1 = b0 + 2 from rfl]
        simp [World.cell?, f3]
      have f5 : V.frozen? ⟨b0 + 1 + 1, 0, none⟩ = false := by
        rw [show b0 + 1 + 1 = b0 + 2 from rfl]
        simp [World.frozen?, f3]
      have HF3 := Hid.mk' f3
      have HVV := Hid.mk' hV
      have HKK := Hid.mk' hK
      have HHE := Hid.mk' hE
      have HKD : Hid (V.heap[D1]? = some (.deferred (some []))) := Hid.mk' (old _ _ HK1.out)
      clear hV hK f3 hE old
      simp only [Exit.inBlock, Exit.then]
      go_wp2
      have p0 : E ≠ b0 + 1 + 1 := by have := HHE.out; have := HL.out; have := HZ.out; omega
      have d1lt : D1 < V1.heap.size := (Array.getElem?_eq_some_iff.1 HK1.out).1
      have p1 : D1 ≠ E := by have := HHE.out; have := HZ.out; omega
      have p2 : D1 ≠ b0 + 1 + 1 := by have := HD1.out; have := HR4.out.2.2; have := HB4.out.size; have := HS1.out; omega
      have k3 : (V.setCell ⟨b0 + 1 + 1, 0, none⟩ (.bool true)).heap[E]? = some (.deferred (some [])) := (Below.heap_setCell _ _ _ _ p0).trans HKK.out
      have kd : ((V.setCell ⟨b0 + 1 + 1, 0, none⟩ (.bool true)).putObj E (.deferred none)).heap[D1]? = some (.deferred (some [])) := by
        rw [World.putObj_heap_other p1]
        exact (Below.heap_setCell _ _ _ _ p2).trans HKD.out
      have hcell : (((V.setCell ⟨b0 + 1 + 1, 0, none⟩ (.bool true)).putObj E (.deferred none)).putObj D1 (.deferred none)).cell? ⟨b0 + 1 + 1, 0, none⟩ = some (.bool true) := by
        have hb : (((V.setCell ⟨b0 + 1 + 1, 0, none⟩ (.bool true)).putObj E (.deferred none)).putObj D1 (.deferred none)).heap[b0 + 1 + 1]? = some (.cells #[.bool true] 4 (0, 0)) := by
          rw [World.putObj_heap_other p2.symm, World.putObj_heap_other p0.symm]
          have := set_blk2' (j := 0) (v := .bool true) HF3.out
          simpa using this
        simp [World.cell?, hb]
      refine ⟨by simp, .inl ⟨_, _, rfl, run_takeDeferred k3, ⟨by simp, .inl ⟨_, _, rfl, run_takeDeferred kd, ?_⟩⟩⟩⟩
      refine ⟨.bool true, by simp [results, Try.results14, go_sem, hcell], rfl, ?_⟩
      rw [HB0.out]
      have z0 : b0 ≤ E := by have := HHE.out; have := HL.out; have := HZ.out; omega
      have z1 : b0 ≤ D1 := by have := HD1.out; have := HB4w.out.size; have := HB0.out; omega
      have bA : Below b0 w (V.setCell ⟨b0 + 1 + 1, 0, none⟩ (.bool true)) := HVV.out.2.setCell (p := ⟨b0 + 1 + 1, 0, none⟩) (by show b0 ≤ b0 + 1 + 1; omega) _
      have bB : Below b0 (V.setCell ⟨b0 + 1 + 1, 0, none⟩ (.bool true)) ((V.setCell ⟨b0 + 1 + 1, 0, none⟩ (.bool true)).putObj E (.deferred none)) := ⟨rfl, rfl, rfl, by simp [World.putObj], fun k hk => World.putObj_heap_other (by omega)⟩
      have bC : Below b0 ((V.setCell ⟨b0 + 1 + 1, 0, none⟩ (.bool true)).putObj E (.deferred none)) (((V.setCell ⟨b0 + 1 + 1, 0, none⟩ (.bool true)).putObj E (.deferred none)).putObj D1 (.deferred none)) := ⟨rfl, rfl, rfl, by simp [World.putObj], fun k hk => World.putObj_heap_other (by omega)⟩
      exact (bA.trans bB).trans bC
set_option maxHeartbeats 4000000 in
set_option maxRecDepth 100000 in
theorem told_far (s : Int) (hs : 0 ≤ s ∧ (S.length : Int) ≤ s) (w : World) (h : Two B g rb S [] w) :
    Calls Try.prog 14 #[.pointer (some ⟨g, 0, none⟩), .pointer (some ⟨rb, 0, none⟩), .int .i64 s] w fun e w' => e = .returned (.bool true) ∧ Below w.heap.size w w' := by
  obtain ⟨b0, hb0⟩ : ∃ b0, w.heap.size = b0 := ⟨_, rfl⟩
  obtain ⟨W1, hW1⟩ : ∃ W1, ((w.alloc (.cells #[.pointer (some ⟨g, 0, none⟩)] 25)).alloc (.cells #[.int .i64 s] 3)).alloc (.cells #[.bool false] 4) = W1 := ⟨_, rfl⟩
  have s1 : W1.heap.size = b0 + 3 := by rw [← hW1, ← hb0]; simp
  have b1 : Below w.heap.size w W1 := by rw [← hW1]; exact (((Below.refl _ _).alloc (Nat.le_refl _) _).alloc (by simp) _).alloc (by simp <;> omega) _
  have q0 : W1.heap[b0]? = some (.cells #[.pointer (some ⟨g, 0, none⟩)] 25 (0, 0)) := by rw [← hW1, ← hb0]; exact sh_old (by simp <;> omega) (sh_old (by simp) (sh_new rfl))
  have q1 : W1.heap[b0 + 1]? = some (.cells #[.int .i64 s] 3 (0, 0)) := by rw [← hW1, ← hb0]; exact sh_old (by simp) (sh_new (by simp))
  have q2 : W1.heap[b0 + 2]? = some (.cells #[.bool false] 4 (0, 0)) := by rw [← hW1, ← hb0]; exact sh_new (by simp)
  have HT1 := Hid.mk' (h.below b1)
  have hs' : s < 0 ∨ (S.length : Int) ≤ s := by omega
  have HKE := Hid.mk' (two_keys_out s hs' W1 (h.below b1))
  have HS' := Hid.mk' hs'
  have HQ : Hid (∀ W, Below W1.heap.size W1 W → W.heap[b0]? = some (.cells #[.pointer (some ⟨g, 0, none⟩)] 25 (0, 0)) ∧ W.heap[b0 + 1]? = some (.cells #[.int .i64 s] 3 (0, 0)) ∧ W.heap[b0 + 2]? = some (.cells #[.bool false] 4 (0, 0))) := Hid.mk' (fun W hW => ⟨(hW.block b0 (by omega)).trans q0, (hW.block (b0 + 1) (by omega)).trans q1, (hW.block (b0 + 2) (by omega)).trans q2⟩)
  have HB1 : Hid (Below b0 w W1) := Hid.mk' (by rw [← hb0]; exact b1)
  have HS1 := Hid.mk' s1
  have HI := Hid.mk' hs
  obtain ⟨k0, k1⟩ : W1.cell? ⟨b0, 0, none⟩ = some (.pointer (some ⟨g, 0, none⟩)) ∧ W1.cell? ⟨b0 + 1, 0, none⟩ = some (.int .i64 s) := ⟨by simp [World.cell?, q0], by simp [World.cell?, q1]⟩
  have HB0 := Hid.mk' hb0
  have HH1 := Hid.mk' hW1
  clear h b1 q0 q1 q2 s1 hs hs' hb0 hW1
  refine (callsIn_wide (n := 8)).1 ?_
  refine callsIn_of_wp_marks Try.func14 rfl trivial ?_ rfl
  refine wpIn_wide.2 ?_
  simp only [Try.ntmps14, List.size_toArray, List.length_cons, List.length_nil, Nat.reduceAdd, Nat.reduceSub, Array.replicate_succ, Array.replicate_zero, List.push_toArray, List.append_toArray, List.nil_append, List.cons_append]
  go_upto_region 1 with fail
  (try rw [HH1.out])
  (try rw [HB0.out])
  go_wp2_with fail
  refine HKE.out.mono ?_
  rintro e w2 ⟨rfl, hw2⟩
  rw [hw2]
  clear hw2 w2
  obtain ⟨W3, hW3⟩ : ∃ W3, W1.alloc (.cells #[.slice none 0 0] 66) = W3 := ⟨_, rfl⟩
  have b3 : Below W1.heap.size W1 W3 := by rw [← hW3]; exact sr_lay
  have HB3 : Hid (Below W1.heap.size W1 W3) := Hid.mk' b3
  have q3 : W3.heap[W1.heap.size]? = some (.cells #[.slice none 0 0] 66 (0, 0)) := by rw [← hW3]; exact World.alloc_heap_new _ _
  obtain ⟨bk, hbk⟩ : ∃ bk, W1.heap.size = bk := ⟨_, rfl⟩
  rw [hbk] at q3
  have HQ3 := Hid.mk' q3
  have s3 : W3.heap.size = bk + 1 := by rw [← hW3, ← hbk]; simp
  have HS3 := Hid.mk' s3
  have HEA := Hid.mk' (each_int g s W3)
  obtain ⟨W4, hW4⟩ : ∃ W4, (W3.alloc (.cells #[.pointer (some ⟨g, 0, none⟩)] 25)).alloc (.cells #[.int .i64 s] 3) = W4 := ⟨_, rfl⟩
  have HH4 := Hid.mk' hW4
  rw [hW4, s3] at HEA
  obtain ⟨k0', k1'⟩ : W3.cell? ⟨b0, 0, none⟩ = some (.pointer (some ⟨g, 0, none⟩)) ∧ W3.cell? ⟨b0 + 1, 0, none⟩ = some (.int .i64 s) := by
    obtain ⟨a0, a1, _⟩ := HQ.out W3 HB3.out
    exact ⟨by simp [World.cell?, a0], by simp [World.cell?, a1]⟩
  have HH3 := Hid.mk' hW3
  have HBK := Hid.mk' hbk
  have hnil := eqlf_nil
  clear b3 q3 hbk s3 hW3 hW4 k0 k1
  go_upto_region 2 with fail
  (try rw [HH3.out])
  (try rw [HBK.out])
  go_wp2_with fail
  refine HEA.out.mono ?_
  rintro e w4 ⟨rfl, hw4⟩
  rw [hw4]
  clear hw4 k0' k1'
  go_upto_region 5 with fail
  go_wp2_with fail
  obtain ⟨r4a, r4b, r4s, r4c⟩ : W4.heap[bk + 1]? = some (.cells #[.pointer (some ⟨g, 0, none⟩)] 25 (0, 0)) ∧ W4.heap[bk + 1 + 1]? = some (.cells #[.int .i64 s] 3 (0, 0)) ∧ W4.heap.size = bk + 3 ∧ Below W3.heap.size W3 W4 := by
    have s3 := HS3.out
    rw [← HH4.out]
    refine ⟨sh_old (by simp [s3]) (sh_new s3), sh_new (by simp [s3]), by simp [s3], ((Below.refl _ _).alloc (Nat.le_refl _) _).alloc (by simp) _⟩
  have HB4 : Hid (Below W1.heap.size W1 W4) := Hid.mk' (HB3.out.trans (r4c.mono HB3.out.size))
  have HSQ := Hid.mk' (two_each_out (8 - 1) (bk + 1) (bk + 1 + 1) s [] HS'.out W4 (HT1.out.below HB4.out) (by simp [World.cell?, r4a]) (by simp [World.cell?, r4b]))
  have HR4 := Hid.mk' (And.intro r4a (And.intro r4b r4s))
  have HB4w : Hid (Below b0 w W4) := Hid.mk' (HB1.out.trans (HB4.out.mono (by have := HS1.out; omega)))
  clear r4a r4b r4s r4c
  refine (wpIn_wide (n := 8)).1 ?_
  refine range_brk (α := Kb × Int) (by omega) (gf := 53) (lb := #[.pointer (some ⟨bk + 1, 0, none⟩), .pointer (some ⟨bk + 1 + 1, 0, none⟩)]) rfl (enters_of Try.func53 (by kernel_rfl) rfl) HSQ.out (Below.refl _ _) (fun _ => rfl) 0 b0 w HB4w.out (by have := HR4.out.2.2; have := HB4w.out.size; have := HS1.out; have := HB4.out.size; omega) ?round1 ?exit1 ?rest1
  case round1 =>
    rintro l ⟨⟨ys, yz⟩, yf⟩ V hV hbV
    simp only [encK]
    gi_wp2
    refine ⟨Below.refl _ _, fun Wb hWb hbb hkeep hsz => ?_⟩
    gi_wp2
    exact ⟨⟨Nat.le_refl _, fun k o _ ho => ho⟩, rfl, hWb, hbb⟩
  case exit1 =>
    intro a W hq
    exact wpIn_exit (by simpa [Exit.inBlock] using hq)
  case rest1 =>
    intro D1 V1 hD1 hV1 hb1 hK1
    have HTV : Hid (Two B g rb S [] V1) := Hid.mk' ((HT1.out.below HB4.out).turn hV1 (fun x hx => by cases hx) (fun p hp => by cases hp))
    obtain ⟨z0, z1, z2⟩ := HQ.out W4 HB4.out
    have HV0 : Hid (V1.heap[b0]? = some (.cells #[.pointer (some ⟨g, 0, none⟩)] 25 (0, 0)) ∧ V1.heap[b0 + 1]? = some (.cells #[.int .i64 s] 3 (0, 0)) ∧ V1.heap[b0 + 2]? = some (.cells #[.bool false] 4 (0, 0))) := Hid.mk' ⟨hV1.all _ _ (by simp) z0, hV1.all _ _ (by simp) z1, hV1.all _ _ (by simp) z2⟩
    have HVE : Hid (V1.heap[bk + 1]? = some (.cells #[.pointer (some ⟨g, 0, none⟩)] 25 (0, 0)) ∧ V1.heap[bk + 1 + 1]? = some (.cells #[.int .i64 s] 3 (0, 0))) := Hid.mk' ⟨hV1.all _ _ (by simp) HR4.out.1, hV1.all _ _ (by simp) HR4.out.2.1⟩
    have b34 : Below W3.heap.size W3 W4 := by rw [← HH4.out]; exact ((Below.refl _ _).alloc (Nat.le_refl _) _).alloc (by simp) _
    have HVK : Hid (V1.heap[bk]? = some (.cells #[.slice none 0 0] 66 (0, 0))) := Hid.mk' (hV1.all _ _ (by simp) ((b34.block bk (by have := HS3.out; omega)).trans HQ3.out))
    have HVB := Hid.mk' hb1
    have HK1 := Hid.mk' hK1
    have HD1 := Hid.mk' hD1
    obtain ⟨ra, rc, c0, cl, _⟩ := HTV.out.rows
    obtain ⟨n, hn⟩ : ∃ n, S.length = n := ⟨_, rfl⟩
    rw [hn] at c0 cl
    have hsn := HI.out
    (try rw [hn] at hsn)
    have y1 : V1.cell? ⟨b0 + 1, 0, none⟩ = some (.int .i64 s) := by simp [World.cell?, HV0.out.2.1]
    have e0 : decide (s < 0) = false := decide_eq_false (by omega)
    have e1 : decide (s ≥ (n : Int)) = true := decide_eq_true (by omega)
    clear hD1 hV1 hb1 hK1 z0 z1 z2 b34 hn hsn
    go_upto_region 6 with fail
    go_quiet (fail)
    obtain ⟨V2, hV2⟩ : ∃ V2, V1.drewN nq = V2 := ⟨_, rfl⟩
    rw [hV2]
    have HV2 : Hid (Below V1.heap.size V1 V2) := Hid.mk' (by rw [← hV2]; exact below_drewN (Below.refl _ _) nq)
    have hz : V2.heap.size = V1.heap.size := by rw [← hV2]; rfl
    clear hV2 y1 c0 e0
    go_wp2_with fail
    have hV1b : b0 + 3 ≤ V1.heap.size := by have := (Array.getElem?_eq_some_iff.1 HV0.out.2.2).1; omega
    have BW : Below b0 w V2 := HVB.out.trans (HV2.out.mono (by omega))
    obtain ⟨e4a, e4b⟩ := HVE.out
    have x6a := (HV2.out.block _ (Array.getElem?_eq_some_iff.1 e4a).1).trans e4a
    have x6b := (HV2.out.block _ (Array.getElem?_eq_some_iff.1 e4b).1).trans e4b
    have HSQ3 := Hid.mk' (two_each_out (8 - 1) (bk + 1) (bk + 1 + 1) s [] HS'.out V2 (HTV.out.below HV2.out) (by simp [World.cell?, x6a]) (by simp [World.cell?, x6b]))
    have HBW := Hid.mk' BW
    have HZ := Hid.mk' hz
    have HL := Hid.mk' hV1b
    clear BW e4a e4b x6a x6b hz hV1b
    refine (wpIn_wide (n := 8)).1 ?_
    refine range_x (α := Kb × Int) (by omega) (gf := 53) (lb := #[.pointer (some ⟨bk + 1, 0, none⟩), .pointer (some ⟨bk + 1 + 1, 0, none⟩)]) rfl (enters_of Try.func53 (by kernel_rfl) rfl)
      HSQ3.out (fun b hb => by cases hb) (Below.refl _ _) (fun _ => rfl)
      (KO w V2 b0) (fun _ _ _ => False) (KO.own (by have := HL.out; have := HZ.out; omega))
      (fun cd s A C row hs hgr hr => hs) ⟨Sv.refl' _ _, HBW.out⟩ ?round3 ?done3 ?stop3
    case stop3 =>
      rintro E cd pre V hE h hx hK
      exact hx.elim
    case round3 =>
      intro l pre y V hV hok
      have := hok.length_le
      rw [List.length_append] at this
      simp at this
    case done3 =>
      rintro E xs V hE rfl hV hK
      have old : ∀ k o, V1.heap[k]? = some o → V.heap[k]? = some o := fun k o ho => hV.1.all k o (by simp) ((HV2.out.block k (Array.getElem?_eq_some_iff.1 ho).1).trans ho)
      have f3 : V.heap[b0 + 2]? = some (.cells #[.bool false] 4 (0, 0)) := old _ _ HV0.out.2.2
      have f1 : V.cell? ⟨bk, 0, none⟩ = some (.slice none 0 0) := by
        have := old _ _ HVK.out
        simp [World.cell?, this]
      have f4 : V.cell? ⟨b0 + 1 + 1, 0, none⟩ = some (.bool false) := by
        rw [show b0 + 1 + 1 = b0 + 2 from rfl]
        simp [World.cell?, f3]
      have f5 : V.frozen? ⟨b0 + 1 + 1, 0, none⟩ = false := by
        rw [show b0 + 1 + 1 = b0 + 2 from rfl]
        simp [World.frozen?, f3]
      have HF3 := Hid.mk' f3
      have HVV := Hid.mk' hV
      have HKK := Hid.mk' hK
      have HHE := Hid.mk' hE
      have HKD : Hid (V.heap[D1]? = some (.deferred (some []))) := Hid.mk' (old _ _ HK1.out)
      clear hV hK f3 hE old
      simp only [Exit.inBlock, Exit.then]
      go_wp2
      have p0 : E ≠ b0 + 1 + 1 := by have := HHE.out; have := HL.out; have := HZ.out; omega
      have d1lt : D1 < V1.heap.size := (Array.getElem?_eq_some_iff.1 HK1.out).1
      have p1 : D1 ≠ E := by have := HHE.out; have := HZ.out; omega
      have p2 : D1 ≠ b0 + 1 + 1 := by have := HD1.out; have := HR4.out.2.2; have := HB4.out.size; have := HS1.out; omega
      have k3 : (V.setCell ⟨b0 + 1 + 1, 0, none⟩ (.bool true)).heap[E]? = some (.deferred (some [])) := (Below.heap_setCell _ _ _ _ p0).trans HKK.out
      have kd : ((V.setCell ⟨b0 + 1 + 1, 0, none⟩ (.bool true)).putObj E (.deferred none)).heap[D1]? = some (.deferred (some [])) := by
        rw [World.putObj_heap_other p1]
        exact (Below.heap_setCell _ _ _ _ p2).trans HKD.out
      have hcell : (((V.setCell ⟨b0 + 1 + 1, 0, none⟩ (.bool true)).putObj E (.deferred none)).putObj D1 (.deferred none)).cell? ⟨b0 + 1 + 1, 0, none⟩ = some (.bool true) := by
        have hb : (((V.setCell ⟨b0 + 1 + 1, 0, none⟩ (.bool true)).putObj E (.deferred none)).putObj D1 (.deferred none)).heap[b0 + 1 + 1]? = some (.cells #[.bool true] 4 (0, 0)) := by
          rw [World.putObj_heap_other p2.symm, World.putObj_heap_other p0.symm]
          have := set_blk2' (j := 0) (v := .bool true) HF3.out
          simpa using this
        simp [World.cell?, hb]
      refine ⟨by simp, .inl ⟨_, _, rfl, run_takeDeferred k3, ⟨by simp, .inl ⟨_, _, rfl, run_takeDeferred kd, ?_⟩⟩⟩⟩
      refine ⟨.bool true, by simp [results, Try.results14, go_sem, hcell], rfl, ?_⟩
      rw [HB0.out]
      have z0 : b0 ≤ E := by have := HHE.out; have := HL.out; have := HZ.out; omega
      have z1 : b0 ≤ D1 := by have := HD1.out; have := HB4w.out.size; have := HB0.out; omega
      have bA : Below b0 w (V.setCell ⟨b0 + 1 + 1, 0, none⟩ (.bool true)) := HVV.out.2.setCell (p := ⟨b0 + 1 + 1, 0, none⟩) (by show b0 ≤ b0 + 1 + 1; omega) _
      have bB : Below b0 (V.setCell ⟨b0 + 1 + 1, 0, none⟩ (.bool true)) ((V.setCell ⟨b0 + 1 + 1, 0, none⟩ (.bool true)).putObj E (.deferred none)) := ⟨rfl, rfl, rfl, by simp [World.putObj], fun k hk => World.putObj_heap_other (by omega)⟩
      have bC : Below b0 ((V.setCell ⟨b0 + 1 + 1, 0, none⟩ (.bool true)).putObj E (.deferred none)) (((V.setCell ⟨b0 + 1 + 1, 0, none⟩ (.bool true)).putObj E (.deferred none)).putObj D1 (.deferred none)) := ⟨rfl, rfl, rfl, by simp [World.putObj], fun k hk => World.putObj_heap_other (by omega)⟩
      exact (bA.trans bB).trans bC
/-- Told of any shape. -/
theorem told_any (s : Int) (w : World) (h : Two B g rb S [] w) :
    Calls Try.prog 14 #[.pointer (some ⟨g, 0, none⟩), .pointer (some ⟨rb, 0, none⟩), .int .i64 s] w fun e w' => e = .returned (.bool true) ∧ Below w.heap.size w w' := by
  by_cases h0 : s < 0
  · exact told_neg s h0 w h
  · by_cases h1 : s < (S.length : Int)
    · obtain ⟨i, rfl⟩ := Int.eq_ofNat_of_zero_le (by omega : 0 ≤ s)
      exact told_in i (by omega) (two_nk h) w h
    · exact told_far s (by omega) w h
end
end Go.Proofs.Ytoonaljmdiideaa
