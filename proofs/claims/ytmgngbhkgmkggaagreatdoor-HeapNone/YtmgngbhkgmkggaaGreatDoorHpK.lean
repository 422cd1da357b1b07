/- Package heap: Put of a key that is not there, of an object whose mode is fast. -/
import Derived.Test.YtmgngbhkgmkggaaGreatDoorHpJ
namespace Go.Proofs.YtmgngbhkgmkggaaGreatDoor
set_option linter.unusedVariables false
set_option linter.unusedSimpArgs false
open Go.RowKit Go.Maps Go.ChangeShapes

theorem mf_find (a : Addr) (w : World) : (method 374 116 (.pointer (some a)) "lintel/heap.find").run Tryz.prog w = .ok (155, .pointer (some a)) w := by kernel_rfl
theorem mf_add (a : Addr) (w : World) : (method 374 116 (.pointer (some a)) "lintel/heap.add").run Tryz.prog w = .ok (152, .pointer (some a)) w := by kernel_rfl
theorem mf_keys (a : Addr) (w : World) : (method 374 116 (.pointer (some a)) "lintel/heap.keys").run Tryz.prog w = .ok (157, .pointer (some a)) w := by kernel_rfl
theorem mf_isFast (a : Addr) (w : World) : (method 374 116 (.pointer (some a)) "lintel/heap.isFast").run Tryz.prog w = .ok (156, .pointer (some a)) w := by kernel_rfl
theorem mf_dictionary (a : Addr) (w : World) : (method 374 116 (.pointer (some a)) "lintel/heap.dictionary").run Tryz.prog w = .ok (154, .pointer (some a)) w := by kernel_rfl
theorem md_isFast (a : Addr) (w : World) : (method 374 96 (.pointer (some a)) "lintel/heap.isFast").run Tryz.prog w = .ok (148, .pointer (some a)) w := by kernel_rfl
theorem Ocur.at {cur : Array Value} {md : Value} (h : Ocur cur md) : cur[3]? = some md ∧ 4 ≤ cur.size := by
  unfold Ocur at h
  have e1 : (cur.toList.take 4)[3]? = some md := by rw [h]; rfl
  have e2 : (cur.toList.take 4).length = 4 := by rw [h]; rfl
  rw [List.getElem?_take_of_lt (by omega)] at e1
  refine ⟨by simpa using e1, ?_⟩
  rw [List.length_take, Array.length_toList] at e2
  omega
theorem Ocur.set {cur : Array Value} {md md' : Value} (h : Ocur cur md) : Ocur (cur.setIfInBounds 3 md') md' := by
  have h2 := h.at.2
  unfold Ocur at h ⊢
  rw [Array.toList_setIfInBounds, List.take_set, h]
  rfl
theorem mode_set {W : World} {ob : Nat} {cur : Array Value} {md : Value} (md' : Value) (h : W.heap[ob]? = some (.cells cur 102 (0, 0))) (ho : Ocur cur md) : (W.setCell ⟨ob, 3, none⟩ md').cell? ⟨ob, 3, none⟩ = some md' := by
  have e := set_blk2' (j := 3) (v := md') h
  have e2 := (ho.set (md' := md')).at.1
  simp only [World.cell?, e]
  exact e2
/-- A key's box that is given what it has. -/
theorem set_same2 {W : World} {b : Nat} {x y : Value} {t : TypeId} (h : W.heap[b]? = some (.cells #[x, y] t (0, 0))) : (W.setCell ⟨b, 0, none⟩ x).setCell ⟨b, 1, none⟩ y = W := by
  have hlt : b < W.heap.size := (Array.getElem?_eq_some_iff.1 h).1
  have key : ∀ (V : World) (j : Nat) (v : Value), V.heap[b]? = some (.cells #[x, y] t (0, 0)) → (#[x, y] : Array Value).setIfInBounds j v = #[x, y] → V.setCell ⟨b, j, none⟩ v = V := fun V j v hV hs => by
    have e : (V.setCell ⟨b, j, none⟩ v).heap = V.heap := by
      apply Array.ext_getElem?
      intro k
      by_cases hk : k = b
      · subst hk
        rw [set_blk2' hV, hs, hV]
      · exact Below.heap_setCell _ _ _ _ hk
    cases V
    simp only [World.setCell] at e ⊢
    simp only [World.mk.injEq, and_true, true_and]
    exact e
  have e1 := key W 0 x h rfl
  rw [e1]
  exact key W 1 y h rfl
/-- What Put reads: the object's mode, the key's box, the property's box. -/
theorem put_facts {W : World} {b0 ob : Nat} {s : ByteArray} {cur : Array Value} {md : Value} (h1 : W.heap[b0]? = some (.cells #[.string s, .int .i64 0] 31 (0, 0))) (h2 : W.heap[b0 + 1]? = some (.cells (zprop 7).toArray 36 (0, 0))) (h3 : W.heap[ob]? = some (.cells cur 102 (0, 0))) (ho : Ocur cur md) :
    W.cell? ⟨ob, 3, none⟩ = some md ∧ W.cell? ⟨b0, 0, none⟩ = some (.string s) ∧ W.cell? ⟨b0, 1, none⟩ = some (.int .i64 0) ∧
    W.cell? ⟨b0 + 1, 0, none⟩ = some (.int .i64 0) ∧ W.cell? ⟨b0 + 1, 1, none⟩ = some (.float .f64 0) ∧ W.cell? ⟨b0 + 1, 2, none⟩ = some (.string ⟨#[]⟩) ∧ W.cell? ⟨b0 + 1, 3, none⟩ = some (.int .i64 0) ∧
    W.cell? ⟨b0 + 1, 4, none⟩ = some (.int .i64 0) ∧ W.cell? ⟨b0 + 1, 5, none⟩ = some (.float .f64 0) ∧ W.cell? ⟨b0 + 1, 6, none⟩ = some (.string ⟨#[]⟩) ∧ W.cell? ⟨b0 + 1, 7, none⟩ = some (.int .i64 0) ∧
    W.cell? ⟨b0 + 1, 8, none⟩ = some (.int .i64 0) ∧ W.cell? ⟨b0 + 1, 9, none⟩ = some (.float .f64 0) ∧ W.cell? ⟨b0 + 1, 10, none⟩ = some (.string ⟨#[]⟩) ∧ W.cell? ⟨b0 + 1, 11, none⟩ = some (.int .i64 0) ∧ W.cell? ⟨b0 + 1, 12, none⟩ = some (.int .i64 7) ∧ W.frozen? ⟨ob, 3, none⟩ = false := by
  unfold zprop zv at h2
  simp only [List.cons_append, List.nil_append] at h2
  have e := ho.at.1
  refine ⟨?_, ?_, ?_, ?_, ?_, ?_, ?_, ?_, ?_, ?_, ?_, ?_, ?_, ?_, ?_, ?_, ?_⟩
  · simp [World.cell?, h3, e]
  · simp [World.cell?, h1]
  · simp [World.cell?, h1]
  · simp [World.cell?, h2]
  · simp [World.cell?, h2]
  · simp [World.cell?, h2]
  · simp [World.cell?, h2]
  · simp [World.cell?, h2]
  · simp [World.cell?, h2]
  · simp [World.cell?, h2]
  · simp [World.cell?, h2]
  · simp [World.cell?, h2]
  · simp [World.cell?, h2]
  · simp [World.cell?, h2]
  · simp [World.cell?, h2]
  · simp [World.cell?, h2]
  · simp [World.frozen?, h3]
section
variable {B g : Nat} {ks ks' : List ByteArray} {ln ln' : List Int} {fs fs' : List (List Int)} {ws ws' : List ((Int × Int × Int) × Int)} {w w' : World}
/-- Put's last store. -/
theorem put_end {hb ob fb sb b0 n c oc : Nat} {lim used dst : Int} {cur cs : Array Value} {xs : List Value} {md : Value} {k0 k1 : Obj} {w8 : World} (h : TT B g ks' ln' fs' ws' ((fb, Fobj g dst (.slice (some ⟨sb, 0, none⟩) (n + 1) c)) :: (sb, .cells cs 122 (0, 0)) :: (b0, k0) :: (b0 + 1, k1) :: [(hb, Hobj hb lim used g (.slice (some ⟨ob, 0, none⟩) 1 oc)), (ob, .cells cur 102 (0, 0))]) w8) (hB : B ≤ ob) (ho : Ocur cur md) (hown : w8.ownsRow B 122 5 (.slice (some ⟨sb, 0, none⟩) (n + 1) c) (n + 1) xs) :
    (∃ sb' c' cur' cs', TT B g ks' ln' fs' ws' [(hb, Hobj hb lim used g (.slice (some ⟨ob, 0, none⟩) 1 oc)), (ob, .cells cur' 102 (0, 0)), (fb, Fobj g dst (.slice (some ⟨sb', 0, none⟩) (n + 1) c')), (sb', .cells cs' 122 (0, 0))] (w8.setCell ⟨ob, 3, none⟩ md) ∧ Ocur cur' md ∧ (w8.setCell ⟨ob, 3, none⟩ md).ownsRow B 122 5 (.slice (some ⟨sb', 0, none⟩) (n + 1) c') (n + 1) xs ∧ (B ≤ sb → B ≤ sb')) ∧ Below B w8 (w8.setCell ⟨ob, 3, none⟩ md) := by
  have qo := h.c _ (.tail _ (.tail _ (.tail _ (.tail _ (.tail _ (.head _))))))
  have qh := h.c _ (.tail _ (.tail _ (.tail _ (.tail _ (.head _)))))
  have qf := h.c _ (.head _)
  have qs := h.c _ (.tail _ (.head _))
  have n1 : hb ≠ ob := fun e => by subst e; rw [qo] at qh; unfold Hobj at qh; cases qh
  have n2 : fb ≠ ob := fun e => by subst e; rw [qo] at qf; unfold Fobj at qf; cases qf
  have n3 : sb ≠ ob := fun e => by subst e; rw [qo] at qs; cases qs
  have s1 := Sv.set w8 ob 3 md
  refine ⟨⟨sb, c, cur.setIfInBounds 3 md, cs, h.turn (X := [ob]) s1 (fun b hb' => ?_) (fun p hp => ?_), ho.set, s1.own hown (fun k hk => ?_), id⟩, (Below.refl _ _).setCell (p := ⟨ob, 3, none⟩) hB _⟩
  · rcases List.mem_singleton.1 hb' with rfl
    exact ⟨_, (.tail _ (.tail _ (.tail _ (.tail _ (.tail _ (.head _)))))), fun c fz e => by cases e⟩
  · rcases List.mem_cons.1 hp with rfl | hp
    · exact ⟨s1.all _ _ (by simpa using n1) qh, .inl ⟨_, (.tail _ (.tail _ (.tail _ (.tail _ (.head _)))))⟩⟩
    rcases List.mem_cons.1 hp with rfl | hp
    · exact ⟨set_blk2' qo, .inl ⟨_, (.tail _ (.tail _ (.tail _ (.tail _ (.tail _ (.head _))))))⟩⟩
    rcases List.mem_cons.1 hp with rfl | hp
    · exact ⟨s1.all _ _ (by simpa using n2) qf, .inl ⟨_, (.head _)⟩⟩
    rcases List.mem_singleton.1 hp with rfl
    exact ⟨s1.all _ _ (by simpa using n3) qs, .inl ⟨_, (.tail _ (.head _))⟩⟩
  · rw [List.mem_singleton.1 hk]
    simp only [Value.ownBlock]
    exact fun e => n3 (by cases e; rfl)
set_option maxHeartbeats 4000000 in
set_option maxRecDepth 100000 in
theorem hput_new {R : List (Nat × Obj)} (hb ob fb oc n : Nat) (lim used i dst : Int) (cur : Array Value) (s : ByteArray) (vsl : Value) (xs : List Value) (w : World) (h : TT B g ks ln fs ws ((hb, Hobj hb lim used g (.slice (some ⟨ob, 0, none⟩) 1 oc)) :: (ob, .cells cur 102 (0, 0)) :: (fb, Fobj g i vsl) :: R) w) (ho : Ocur cur (.iface 116 (.pointer (some ⟨fb, 0, none⟩)))) (hB : B ≤ hb ∧ B ≤ ob ∧ B ≤ fb) (hown : w.ownsRow B 122 5 vsl n xs) (hR : ∀ k, vsl.ownBlock = some k → ∃ c, (k, .cells c 122 (0, 0)) ∈ R) (hRt : ∀ p ∈ R, ∃ c, p.2 = .cells c 122 (0, 0)) (hn : n < 100000) (hu : 0 ≤ used ∧ used < lim ∧ used < 1000000) (he : evenS s = s) (hs : (s.size : Int) ≤ 140737488351232)
    (hF : ∀ W C', TT B g ks ln fs ws C' W → Calls Tryz.prog 177 #[.pointer (some ⟨g, 0, none⟩), .int .i64 i, .agg #[.string s, .int .i64 0]] W fun e w' => e = .returned (.tuple #[.int .i64 0, .int .i64 0, .bool false]) ∧ Below W.heap.size W w')
    (hA : ∀ W C', TT B g ks ln fs ws C' W → Calls Tryz.prog 159 #[.pointer (some ⟨g, 0, none⟩), .int .i64 i, .agg #[.string s, .int .i64 0], .int .i64 7] W fun e w' => e = .returned (.tuple #[.int .i64 dst, .int .i64 0]) ∧ TT B g ks' ln' fs' ws' C' w' ∧ Below B W w') :
    Calls Tryz.prog 32 #[.pointer (some ⟨hb, 0, none⟩), .int .i64 1, .agg #[.string s, .int .i64 0], .agg (zprop 7).toArray] w fun e w' => e = .returned (.int .i64 0) ∧ (∃ sb c cur' cs, TT B g ks' ln' fs' ws' [(hb, Hobj hb lim (used + 1) g (.slice (some ⟨ob, 0, none⟩) 1 oc)), (ob, .cells cur' 102 (0, 0)), (fb, Fobj g dst (.slice (some ⟨sb, 0, none⟩) (n + 1) c)), (sb, .cells cs 122 (0, 0))] w' ∧ Ocur cur' (.iface 116 (.pointer (some ⟨fb, 0, none⟩))) ∧ w'.ownsRow B 122 5 (.slice (some ⟨sb, 0, none⟩) (n + 1) c) (n + 1) (xs ++ zslot) ∧ B ≤ sb) ∧ Below B w w' := by
  obtain ⟨W1, hW1⟩ : ∃ W1, (w.alloc (.cells #[.string s, .int .i64 0] 31)).alloc (.cells (zprop 7).toArray 36) = W1 := ⟨_, rfl⟩
  have b1 : Below w.heap.size w W1 := by rw [← hW1]; exact ((Below.refl _ _).alloc (Nat.le_refl _) _).alloc (by simp) _
  have q1 : W1.heap[w.heap.size]? = some (.cells #[.string s, .int .i64 0] 31 (0, 0)) := by rw [← hW1]; exact sh_old (by simp) (sh_new rfl)
  have q2 : W1.heap[w.heap.size + 1]? = some (.cells (zprop 7).toArray 36 (0, 0)) := by rw [← hW1]; exact sh_new (by simp)
  have hBW : B ≤ w.heap.size := by have := h.ge; omega
  obtain ⟨b0, hb0⟩ : ∃ b0, w.heap.size = b0 := ⟨_, rfl⟩
  rw [hb0] at q1 q2
  have hT1 : TT B g ks ln fs ws ((b0, .cells #[.string s, .int .i64 0] 31 (0, 0)) :: (b0 + 1, .cells (zprop 7).toArray 36 (0, 0)) :: (hb, Hobj hb lim used g (.slice (some ⟨ob, 0, none⟩) 1 oc)) :: (ob, .cells cur 102 (0, 0)) :: (fb, Fobj g i vsl) :: R) W1 := h.turn (Sv.below b1) (fun b hb => by cases hb) (fun p hp => by
    rcases List.mem_cons.1 hp with rfl | hp
    · exact ⟨q1, .inr (by show w.heap.size ≤ b0; omega)⟩
    rcases List.mem_cons.1 hp with rfl | hp
    · exact ⟨q2, .inr (by show w.heap.size ≤ b0 + 1; omega)⟩
    · exact ⟨(Sv.below b1).all _ _ (by simp) (h.c p hp), .inl ⟨_, hp⟩⟩)
  have HCE : Hid (∀ W, Below W1.heap.size W1 W → (W.cell? ⟨hb, 0, none⟩ = some (.pointer (some ⟨hb, 0, none⟩)) ∧ W.cell? ⟨hb, 1, none⟩ = some (.int .i64 lim) ∧ W.cell? ⟨hb, 2, none⟩ = some (.int .i64 used) ∧ W.frozen? ⟨hb, 2, none⟩ = false) ∧ W.heap[fb]? = some (Fobj g i vsl) ∧ W.cell? ⟨ob, 3, none⟩ = some (.iface 116 (.pointer (some ⟨fb, 0, none⟩))) ∧ W.cell? ⟨b0, 0, none⟩ = some (.string s) ∧ W.cell? ⟨b0, 1, none⟩ = some (.int .i64 0) ∧ W.cell? ⟨b0 + 1, 12, none⟩ = some (.int .i64 7) ∧ W.cell? ⟨hb, 4, none⟩ = some (.slice (some ⟨ob, 0, none⟩) 1 oc)) := Hid.mk' (fun W hW => by
    have hw := (hT1.below hW).c
    obtain ⟨x0, x1, x2, _, x4, xf⟩ := Hobj.cells (hw _ (.tail _ (.tail _ (.head _))))
    have pf := put_facts (hw _ (.head _)) (hw _ (.tail _ (.head _))) (hw _ (.tail _ (.tail _ (.tail _ (.head _))))) ho
    exact ⟨⟨x0, x1, x2, xf 2⟩, hw _ (.tail _ (.tail _ (.tail _ (.tail _ (.head _))))), pf.1, pf.2.1, pf.2.2.1, pf.2.2.2.2.2.2.2.2.2.2.2.2.2.2.2.1, x4⟩)
  obtain ⟨⟨x0, x1, x2, x3⟩, x4, x5, x6, x7, x8, x9⟩ := HCE.out W1 (Below.refl _ _)
  have HOB := Hid.mk' (hobj_one hb ob oc W1 x0 x9)
  have HBA := Hid.mk' (fun W => hpbare_any s 0 W hs)
  rw [show bareS s 0 = s from by unfold bareS; rw [if_neg (by omega)]; exact he, show bareZ 0 = 0 from by decide] at HBA
  have HFI := Hid.mk' (fun W (hW : Below W1.heap.size W1 W) => ffind fb g i vsl s (.int .i64 0) (.int .i64 0) (.bool false) W (HCE.out W hW).2.1 (fun W' hW' => hF W' _ ((hT1.below hW).below hW')))
  have HB1 := Hid.mk' (b1.mono hBW)
  have HBS := Hid.mk' b1
  have HBW1 : Hid (B ≤ W1.heap.size) := Hid.mk' (by have := b1.size; omega)
  have HH1 := Hid.mk' hW1
  have HT1 := Hid.mk' hT1
  have HQ1 := Hid.mk' q1
  have HBB := Hid.mk' hB
  have HRR := Hid.mk' hR
  have HRT := Hid.mk' hRt
  have HO := Hid.mk' ho
  have HU := Hid.mk' hu
  have HA := Hid.mk' hA
  have HOW := Hid.mk' (fun W (hW : Below w.heap.size w W) => own_below hown (hW))
  clear h hB hown hR hRt hF hA b1 q1 q2 hT1 hW1 ho hu he hs x1 x2 x3 x4 x5 x9
  unfold zprop zv at HH1 ⊢
  simp only [List.cons_append, List.nil_append] at HH1 ⊢
  go_enter Tryz.func32, Tryz.ntmps32
  go_wp2_with fail
  rw [HH1.out]
  refine HOB.out.mono ?_
  rintro e w1 ⟨rfl, hw1⟩
  rw [hw1]
  clear hw1 w1
  go_wp2_with fail
  refine (HBA.out _).mono ?_
  rintro e w2 ⟨rfl, b2⟩
  have B2 : Below W1.heap.size W1 w2 := b2
  have k1 := (B2.block b0 (Array.getElem?_eq_some_iff.1 HQ1.out).1).trans HQ1.out
  have HW : Hid ((w2.setCell ⟨b0, 0, none⟩ (.string s)).setCell ⟨b0, 1, none⟩ (.int .i64 0) = w2) := Hid.mk' (set_same2 k1)
  clear x0 x6 x7 x8
  obtain ⟨f0, f1, x6, x7⟩ := pair_facts k1
  clear k1
  go_upto_region 7 with fail
  rw [HW.out]
  clear f0 f1 x6 x7
  obtain ⟨⟨x0, x1, x2, x3⟩, x4, x5, x6, x7, x8, x9⟩ := HCE.out w2 B2
  have HB2 := Hid.mk' B2
  clear B2 b2 x0 x1 x2 x3 x4 x8 x9
  have mfi := mf_find
  go_cut [10, 11, 12] from 13 (fun v10 v11 v12 wc => v10 = .int .i64 0 ∧ v11 = .int .i64 0 ∧ v12 = .bool false ∧ Hid (Below W1.heap.size W1 wc))
  case first =>
    go_region_held3 (fun w' => w'.cell? ⟨ob, 3, none⟩ = some (.iface 116 (.pointer (some ⟨fb, 0, none⟩))) ∧ w'.cell? ⟨b0, 0, none⟩ = some (.string s) ∧ w'.cell? ⟨b0, 1, none⟩ = some (.int .i64 0)) (go_keep) (first | (go_at_call 155; refine (HFI.out _ (HB2.out.drew)).mono ?_; rintro e w3 ⟨rfl, b3⟩; have HB3 := Hid.mk' (HB2.out.trans ((below_from_drew b3).mono HB2.out.size)); obtain ⟨_, _, y5, y6, y7, _, _⟩ := HCE.out w3 HB3.out; clear b3))
    all_goals
      go_wp2_with fail
      go_meet
      exact ⟨rfl, rfl, rfl, HB3⟩
  case rest =>
    obtain ⟨rfl, rfl, rfl, HB4⟩ := hcut
    clear x5 x6 x7
    obtain ⟨⟨x0, x1, x2, x3⟩, x4, x5, x6, x7, x8, x9⟩ := HCE.out wc HB4.out
    have HFU := Hid.mk' (hisFull_no hb lim used wc x1 x2 HU.out.2.1)
    clear x0 x1 x2 x3 x4 x5 x6 x7 x8 x9
    go_wp2_with fail
    refine HFU.out.mono ?_
    rintro e w5 ⟨rfl, b5⟩
    have B5 : Below W1.heap.size W1 w5 := HB4.out.trans (b5.mono HB4.out.size)
    obtain ⟨⟨x0, x1, x2, x3⟩, x4, x5, x6, x7, x8, x9⟩ := HCE.out w5 B5
    have u0 := HU.out.1
    have u1 := HU.out.2.2
    obtain ⟨W6, hW6⟩ : ∃ W6, w5.setCell ⟨hb, 2, none⟩ (.int .i64 (used + 1)) = W6 := ⟨_, rfl⟩
    have s6 : Sv [hb] w5 W6 := by rw [← hW6]; exact Sv.set w5 hb 2 _
    have hT5 := HT1.out.below B5
    have qh := hT5.c _ (.tail _ (.tail _ (.head _)))
    have q6 : W6.heap[hb]? = some (Hobj hb lim (used + 1) g (.slice (some ⟨ob, 0, none⟩) 1 oc)) := by rw [← hW6]; exact setH qh
    have hT6 : TT B g ks ln fs ws ((b0, .cells #[.string s, .int .i64 0] 31 (0, 0)) :: (b0 + 1, .cells (zprop 7).toArray 36 (0, 0)) :: (hb, Hobj hb lim (used + 1) g (.slice (some ⟨ob, 0, none⟩) 1 oc)) :: (ob, .cells cur 102 (0, 0)) :: (fb, Fobj g i vsl) :: R) W6 := hT5.turn s6 (fun b hb' => by
        rcases List.mem_singleton.1 hb' with rfl
        exact ⟨_, (.tail _ (.tail _ (.head _))), fun c fz e => by unfold Hobj at e; cases e⟩) (fun p hp => by
      have old : ∀ q : Nat × Obj, q ∈ ((b0, .cells #[.string s, .int .i64 0] 31 (0, 0)) :: (b0 + 1, .cells (zprop 7).toArray 36 (0, 0)) :: (hb, Hobj hb lim used g (.slice (some ⟨ob, 0, none⟩) 1 oc)) :: (ob, .cells cur 102 (0, 0)) :: (fb, Fobj g i vsl) :: R) → (∀ a, q.2 ≠ Hobj hb lim used g a) → W6.heap[q.1]? = some q.2 ∧ ((∃ ob', (q.1, ob') ∈ ((b0, .cells #[.string s, .int .i64 0] 31 (0, 0)) :: (b0 + 1, .cells (zprop 7).toArray 36 (0, 0)) :: (hb, Hobj hb lim used g (.slice (some ⟨ob, 0, none⟩) 1 oc)) :: (ob, .cells cur 102 (0, 0)) :: (fb, Fobj g i vsl) :: R)) ∨ w5.heap.size ≤ q.1) := fun q hq hne => ⟨s6.all _ _ (fun e => by
        have e1 := hT5.c q hq
        rw [List.mem_singleton.1 e, qh] at e1
        exact hne _ (Option.some.inj e1).symm) (hT5.c q hq), .inl ⟨_, hq⟩⟩
      rcases List.mem_cons.1 hp with rfl | hp
      · exact old _ (.head _) (fun a e => by unfold Hobj at e; cases e)
      rcases List.mem_cons.1 hp with rfl | hp
      · exact old _ (.tail _ (.head _)) (fun a e => by unfold Hobj at e; cases e)
      rcases List.mem_cons.1 hp with rfl | hp
      · exact ⟨q6, .inl ⟨_, (.tail _ (.tail _ (.head _)))⟩⟩
      rcases List.mem_cons.1 hp with rfl | hp
      · exact old _ (.tail _ (.tail _ (.tail _ (.head _)))) (fun a e => by unfold Hobj at e; cases e)
      rcases List.mem_cons.1 hp with rfl | hp
      · exact old _ (.tail _ (.tail _ (.tail _ (.tail _ (.head _))))) (fun a e => by unfold Hobj Fobj at e; cases e)
      · obtain ⟨c, hc⟩ := HRT.out p hp
        exact old p (.tail _ (.tail _ (.tail _ (.tail _ (.tail _ hp))))) (fun a e => by rw [hc] at e; unfold Hobj at e; cases e))
    have hO6 : W6.ownsRow B 122 5 vsl n xs := s6.own (HOW.out w5 ((HBS.out).trans (B5.mono HBS.out.size))) (fun k hk e => by
      rw [List.mem_singleton.1 hk] at e
      obtain ⟨c, hc⟩ := HRR.out _ e.symm
      have e1 := hT5.c _ (.tail _ (.tail _ (.tail _ (.tail _ (.tail _ hc)))))
      rw [qh] at e1
      unfold Hobj at e1
      cases e1)
    have HCF : Hid (∀ W, W6.heap.size ≤ W.heap.size → TT B g ks ln fs ws ((b0, .cells #[.string s, .int .i64 0] 31 (0, 0)) :: (b0 + 1, .cells (zprop 7).toArray 36 (0, 0)) :: (hb, Hobj hb lim (used + 1) g (.slice (some ⟨ob, 0, none⟩) 1 oc)) :: (ob, .cells cur 102 (0, 0)) :: (fb, Fobj g i vsl) :: R) W → W.ownsRow B 122 5 vsl n xs → _) := Hid.mk' (fun W _ hW hOw => fadd (ks' := ks') (ln' := ln') (fs' := fs') (ws' := ws') (C0 := (b0, .cells #[.string s, .int .i64 0] 31 (0, 0)) :: (b0 + 1, .cells (zprop 7).toArray 36 (0, 0)) :: [(hb, Hobj hb lim (used + 1) g (.slice (some ⟨ob, 0, none⟩) 1 oc)), (ob, .cells cur 102 (0, 0))]) fb n i dst s 7 vsl xs W hW (.tail _ (.tail _ (.tail _ (.tail _ (.head _))))) HBB.out.2.2 hOw (fun k hk => by
        obtain ⟨c, hc⟩ := HRR.out k hk
        exact ⟨c, (.tail _ (.tail _ (.tail _ (.tail _ (.tail _ hc)))))⟩) (fun p hp => by
      have qf := hW.c _ (.tail _ (.tail _ (.tail _ (.tail _ (.head _)))))
      have fin : ∀ q : Nat × Obj, q ∈ ((b0, .cells #[.string s, .int .i64 0] 31 (0, 0)) :: (b0 + 1, .cells (zprop 7).toArray 36 (0, 0)) :: (hb, Hobj hb lim (used + 1) g (.slice (some ⟨ob, 0, none⟩) 1 oc)) :: (ob, .cells cur 102 (0, 0)) :: (fb, Fobj g i vsl) :: R) → (∀ a, q.2 ≠ Fobj g i a) → (∀ c, q.2 ≠ .cells c 122 (0, 0)) → q ∈ ((b0, .cells #[.string s, .int .i64 0] 31 (0, 0)) :: (b0 + 1, .cells (zprop 7).toArray 36 (0, 0)) :: (hb, Hobj hb lim (used + 1) g (.slice (some ⟨ob, 0, none⟩) 1 oc)) :: (ob, .cells cur 102 (0, 0)) :: (fb, Fobj g i vsl) :: R) ∧ q.1 ≠ fb ∧ some q.1 ≠ vsl.ownBlock := fun q hq h1 h2 => ⟨hq, fun e => by
        have e1 := hW.c q hq
        rw [e, qf] at e1
        exact h1 _ (Option.some.inj e1).symm, fun e => by
        obtain ⟨c, hc⟩ := HRR.out _ e.symm
        have e1 := hW.c _ (.tail _ (.tail _ (.tail _ (.tail _ (.tail _ hc)))))
        have e2 := hW.c q hq
        rw [e1] at e2
        exact h2 c (Option.some.inj e2).symm⟩
      rcases List.mem_cons.1 hp with rfl | hp
      · exact fin _ (.head _) (fun a e => by unfold Fobj at e; cases e) (fun c e => by cases e)
      rcases List.mem_cons.1 hp with rfl | hp
      · exact fin _ (.tail _ (.head _)) (fun a e => by unfold Fobj at e; cases e) (fun c e => by cases e)
      rcases List.mem_cons.1 hp with rfl | hp
      · exact fin _ (.tail _ (.tail _ (.head _))) (fun a e => by unfold Hobj Fobj at e; cases e) (fun c e => by unfold Hobj at e; cases e)
      rcases List.mem_singleton.1 hp with rfl
      exact fin _ (.tail _ (.tail _ (.tail _ (.head _)))) (fun a e => by unfold Fobj at e; cases e) (fun c e => by cases e)) hn HA.out)
    have HT6 := Hid.mk' hT6
    have HO6 := Hid.mk' hO6
    have HPF : Hid (∀ W, Below W6.heap.size W6 W → _) := Hid.mk' (fun W hW => put_facts ((hT6.below hW).c _ (.head _)) ((hT6.below hW).c _ (.tail _ (.head _))) ((hT6.below hW).c _ (.tail _ (.tail _ (.tail _ (.head _))))) HO.out)
    have HH6 := Hid.mk' hW6
    have HB6 : Hid (Below B w W6) := Hid.mk' (by rw [← hW6]; exact (HB1.out.trans (B5.mono HBW1.out)).setCell (p := ⟨hb, 2, none⟩) HBB.out.1 _)
    obtain ⟨y0, y1, y2, p0, p1, p2, p3, p4, p5, p6, p7, p8, p9, p10, p11, p12, yf⟩ := HPF.out W6 (Below.refl _ _)
    have HL6 : Hid (B ≤ W6.heap.size) := Hid.mk' (by have := hT6.ge; omega)
    have HSL := Hid.mk' slotOf_nil
    have mfa := mf_add
    unfold zslot zprop zv at HSL
    unfold zslot zv at HCF
    simp only [List.cons_append, List.nil_append] at HSL
    clear hT5 qh q6 s6 hT6 hO6 hW6 x0 x1 x4 x5 x6 x7 x8 x9 b5 B5 yf
    have n0 : ob ≠ b0 := fun e => by
      have e1 := HT6.out.c _ (.tail _ (.tail _ (.tail _ (.head _))))
      rw [e, HT6.out.c _ (.head _)] at e1
      cases e1
    have n1 : ob ≠ b0 + 1 := fun e => by
      have e1 := HT6.out.c _ (.tail _ (.tail _ (.tail _ (.head _))))
      rw [e, HT6.out.c _ (.tail _ (.head _))] at e1
      cases e1
    have n0' : b0 ≠ ob := fun e => n0 e.symm
    have n1' : b0 + 1 ≠ ob := fun e => n1 e.symm
    go_upto_region 16 with fail
    rw [HH6.out]
    clear x2 x3
    go_region_held3 (fun w' => w'.cell? ⟨ob, 3, none⟩ = some (.iface 116 (.pointer (some ⟨fb, 0, none⟩))) ∧ w'.cell? ⟨b0, 0, none⟩ = some (.string s) ∧ w'.cell? ⟨b0, 1, none⟩ = some (.int .i64 0) ∧ w'.cell? ⟨b0 + 1, 0, none⟩ = some (.int .i64 0) ∧ w'.cell? ⟨b0 + 1, 1, none⟩ = some (.float .f64 0) ∧ w'.cell? ⟨b0 + 1, 2, none⟩ = some (.string ⟨#[]⟩) ∧ w'.cell? ⟨b0 + 1, 3, none⟩ = some (.int .i64 0) ∧ w'.cell? ⟨b0 + 1, 4, none⟩ = some (.int .i64 0) ∧ w'.cell? ⟨b0 + 1, 5, none⟩ = some (.float .f64 0) ∧ w'.cell? ⟨b0 + 1, 6, none⟩ = some (.string ⟨#[]⟩) ∧ w'.cell? ⟨b0 + 1, 7, none⟩ = some (.int .i64 0) ∧ w'.cell? ⟨b0 + 1, 8, none⟩ = some (.int .i64 0) ∧ w'.cell? ⟨b0 + 1, 9, none⟩ = some (.float .f64 0) ∧ w'.cell? ⟨b0 + 1, 10, none⟩ = some (.string ⟨#[]⟩) ∧ w'.cell? ⟨b0 + 1, 11, none⟩ = some (.int .i64 0) ∧ w'.cell? ⟨b0 + 1, 12, none⟩ = some (.int .i64 7)) (go_keep) (first
      | (go_at_call 57; refine (HSL.out _).mono ?_; rintro e w7 ⟨rfl, b7⟩; have B7 := below_from_drew b7; have HB7 := Hid.mk' B7; obtain ⟨qy0, qy1, qy2, qp0, qp1, qp2, qp3, qp4, qp5, qp6, qp7, qp8, qp9, qp10, qp11, qp12, qyf⟩ := HPF.out w7 B7; clear b7 B7)
      | (go_at_call 152; refine (HCF.out _ HB7.out.size (HT6.out.below HB7.out) (own_below HO6.out HB7.out)).mono ?_; rintro e w8 ⟨rfl, ⟨sb, c, cs, hT8, hO8, hsb⟩, b8⟩; have HT8 := Hid.mk' hT8; have HO8 := Hid.mk' hO8; have HB8 := Hid.mk' b8; have HS8 := Hid.mk' hsb; obtain ⟨ry0, ry1, ry2, rp0, rp1, rp2, rp3, rp4, rp5, rp6, rp7, rp8, rp9, rp10, rp11, rp12, ryf⟩ := put_facts (hT8.c _ (.tail _ (.tail _ (.head _)))) (hT8.c _ (.tail _ (.tail _ (.tail _ (.head _))))) (hT8.c _ (.tail _ (.tail _ (.tail _ (.tail _ (.tail _ (.head _))))))) HO.out; have rs := mode_set (.iface 116 (.pointer (some ⟨fb, 0, none⟩))) (hT8.c _ (.tail _ (.tail _ (.tail _ (.tail _ (.tail _ (.head _))))))) HO.out; clear hT8 hO8 b8 hsb))
    all_goals
      clear y0 y1 y2 p0 p1 p2 p3 p4 p5 p6 p7 p8 p9 p10 p11 p12 qy0 qy1 qy2 qp0 qp1 qp2 qp3 qp4 qp5 qp6 qp7 qp8 qp9 qp10 qp11 qp12
      go_wp2
      go_ret
      obtain ⟨⟨sb', c', cur', cs', m1, m2, m3, m4⟩, m5⟩ := put_end (md := .iface 116 (.pointer (some ⟨fb, 0, none⟩))) HT8.out HBB.out.2.1 HO.out HO8.out
      have bb := (HB6.out.trans (HB7.out.mono HL6.out)).trans (HB8.out.trans m5)
      exact ⟨rfl, ⟨sb', c', cur', cs', m1, m2, m3, m4 HS8.out⟩, bb⟩
end
end Go.Proofs.YtmgngbhkgmkggaaGreatDoor
