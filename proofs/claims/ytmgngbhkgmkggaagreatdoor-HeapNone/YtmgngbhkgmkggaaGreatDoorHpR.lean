/- Package heap: Drop of an object's first key. The law of layer 15: awake. The law of layer 15: awake. -/
import Derived.Test.YtmgngbhkgmkggaaGreatDoorHpL
import Derived.Test.YtmgngbhkgmkggaaGreatDoorHpN
import Derived.Test.YtmgngbhkgmkggaaGreatDoorHpO
import Derived.Test.YtmgngbhkgmkggaaGreatDoorShQ
namespace Go.Proofs.YtmgngbhkgmkggaaGreatDoor
set_option linter.unusedVariables false
set_option linter.unusedSimpArgs false
open Go.RowKit Go.Maps Go.ChangeShapes

section
variable {B g : Nat} {ks : List ByteArray} {ln : List Int} {fs : List (List Int)} {ws : List ((Int × Int × Int) × Int)} {w w' : World}
set_option maxHeartbeats 4000000 in
set_option maxRecDepth 100000 in
theorem hdrop_one {C : List (Nat × Obj)} (hb ob fb oc i : Nat) (lim used f : Int) (cur : Array Value) (vsl : Value) (s : ByteArray) (w : World) (h : TT B g ks ln fs ws C w) (hh : (hb, Hobj hb lim used g (.slice (some ⟨ob, 0, none⟩) 1 oc)) ∈ C) (hob : (ob, .cells cur 102 (0, 0)) ∈ C) (hf : (fb, Fobj g (i : Nat) vsl) ∈ C) (ho : Ocur cur (.iface 116 (.pointer (some ⟨fb, 0, none⟩)))) (hB : B ≤ hb ∧ B ≤ ob) (hu : 1 ≤ used ∧ used < 1000000) (he : evenS s = s) (hs : (s.size : Int) ≤ 140737488351232)
    (hF : ∀ W C', TT B g ks ln fs ws C' W → Calls Tryz.prog 177 #[.pointer (some ⟨g, 0, none⟩), .int .i64 (i : Nat), .agg #[.string s, .int .i64 0]] W fun e w' => e = .returned (.tuple #[.int .i64 0, .int .i64 f, .bool true]) ∧ Below W.heap.size W w')
    (hD : ∀ W, Below w.heap.size w W → Calls Tryz.prog 154 #[.pointer (some ⟨fb, 0, none⟩)] W fun e w' => ∃ db, e = .returned (.pointer (some ⟨db, 0, none⟩)) ∧ Below W.heap.size W w' ∧ Calls Tryz.prog 58 #[.pointer (some ⟨db, 0, none⟩), .agg #[.string s, .int .i64 0]] w' fun e w'' => e = .returned (.tuple #[]) ∧ Below W.heap.size W w'') :
    Calls Tryz.prog 33 #[.pointer (some ⟨hb, 0, none⟩), .int .i64 1, .agg #[.string s, .int .i64 0]] w fun e w' => e = .returned (.bool true) ∧ (∃ db, w'.cell? ⟨ob, 3, none⟩ = some (.iface 96 (.pointer (some ⟨db, 0, none⟩))) ∧ w'.cell? ⟨hb, 0, none⟩ = some (.pointer (some ⟨hb, 0, none⟩)) ∧ w'.cell? ⟨hb, 4, none⟩ = some (.slice (some ⟨ob, 0, none⟩) 1 oc)) ∧ Sv [hb, ob] w w' ∧ Below B w w' := by
  obtain ⟨W1, hW1⟩ : ∃ W1, w.alloc (.cells #[.string s, .int .i64 0] 31) = W1 := ⟨_, rfl⟩
  have b1 : Below w.heap.size w W1 := by rw [← hW1]; exact (Below.refl _ _).alloc (Nat.le_refl _) _
  have q1 : W1.heap[w.heap.size]? = some (.cells #[.string s, .int .i64 0] 31 (0, 0)) := by rw [← hW1]; exact World.alloc_heap_new _ _
  have hBW : B ≤ w.heap.size := by have := h.ge; omega
  obtain ⟨b0, hb0⟩ : ∃ b0, w.heap.size = b0 := ⟨_, rfl⟩
  rw [hb0] at q1
  have hT1 := h.below b1
  have hne : hb ≠ ob := fun e => by
    have e1 := h.c _ hh
    rw [show (hb, Hobj hb lim used g (.slice (some ⟨ob, 0, none⟩) 1 oc)).1 = ob from e, h.c _ hob] at e1
    unfold Hobj at e1
    cases e1
  have HCE : Hid (∀ W, Below W1.heap.size W1 W → (W.cell? ⟨hb, 0, none⟩ = some (.pointer (some ⟨hb, 0, none⟩)) ∧ W.cell? ⟨hb, 4, none⟩ = some (.slice (some ⟨ob, 0, none⟩) 1 oc) ∧ W.heap[hb]? = some (Hobj hb lim used g (.slice (some ⟨ob, 0, none⟩) 1 oc)) ∧ W.heap[ob]? = some (.cells cur 102 (0, 0))) ∧ W.heap[fb]? = some (Fobj g (i : Nat) vsl) ∧ W.cell? ⟨ob, 3, none⟩ = some (.iface 116 (.pointer (some ⟨fb, 0, none⟩))) ∧ W.cell? ⟨b0, 0, none⟩ = some (.string s) ∧ W.cell? ⟨b0, 1, none⟩ = some (.int .i64 0)) := Hid.mk' (fun W hW => by
    have hw := (hT1.below hW).c
    obtain ⟨x0, _, _, _, x4, _⟩ := Hobj.cells (hw _ hh)
    obtain ⟨_, _, y0, y1⟩ := pair_facts ((hW.block b0 (Array.getElem?_eq_some_iff.1 q1).1).trans q1)
    have e := hw _ hob
    exact ⟨⟨x0, x4, hw _ hh, e⟩, hw _ hf, by simp only [World.cell?, e]; exact ho.at.1, y0, y1⟩)
  obtain ⟨⟨x0, x4, _, _⟩, _, x5, x6, x7⟩ := HCE.out W1 (Below.refl _ _)
  have HOB := Hid.mk' (hobj_one hb ob oc W1 x0 x4)
  have HBA := Hid.mk' (fun W => hpbare_any s 0 W hs)
  rw [show bareS s 0 = s from by unfold bareS; rw [if_neg (by omega)]; exact he, show bareZ 0 = 0 from by decide] at HBA
  have HFI := Hid.mk' (fun W (hW : Below W1.heap.size W1 W) => ffind fb g (i : Nat) vsl s (.int .i64 0) (.int .i64 f) (.bool true) W (HCE.out W hW).2.1 (fun W' hW' => hF W' _ ((hT1.below hW).below hW')))
  have HDD := Hid.mk' (fun W (hW : Below W1.heap.size W1 W) => hD W (b1.trans (hW.mono b1.size)))
  have HB1 := Hid.mk' (b1.mono hBW)
  have HBS := Hid.mk' b1
  have HBW1 : Hid (B ≤ W1.heap.size) := Hid.mk' (by have := b1.size; omega)
  have HH1 := Hid.mk' hW1
  have HQ1 := Hid.mk' q1
  have HBB := Hid.mk' hB
  have HO := Hid.mk' ho
  have HU := Hid.mk' hu
  have HNE := Hid.mk' hne
  clear h hh hob hf hB hF hD b1 q1 hT1 hW1 ho hu he hs x4 x5 hne
  go_enter Tryz.func33, Tryz.ntmps33
  go_wp2_with fail
  rw [HH1.out]
  refine HOB.out.mono ?_
  rintro e w1 ⟨rfl, hw1⟩
  rw [hw1]
  clear hw1 w1
  go_wp2_with fail
  refine (HBA.out _).mono ?_
  rintro e w2 ⟨rfl, b2⟩
  have B2 : Below W1.heap.size W1 w2 := b2
  have k1 := (B2.block b0 (Array.getElem?_eq_some_iff.1 HQ1.out).1).trans HQ1.out
  have HW : Hid ((w2.setCell ⟨b0, 0, none⟩ (.string s)).setCell ⟨b0, 1, none⟩ (.int .i64 0) = w2) := Hid.mk' (set_same2 k1)
  clear x0 x6 x7
  obtain ⟨f0, f1, x6, x7⟩ := pair_facts k1
  clear k1
  go_upto_region 5 with fail
  rw [HW.out]
  clear f0 f1 x6 x7
  obtain ⟨_, _, x5, x6, x7⟩ := HCE.out w2 B2
  have HB2 := Hid.mk' B2
  clear B2 b2
  have mfi := mf_find
  go_cut [8, 9, 10] from 11 (fun v8 v9 v10 wc => v8 = .int .i64 0 ∧ v9 = .int .i64 f ∧ v10 = .bool true ∧ Hid (Below W1.heap.size W1 wc))
  case first =>
    go_region_held3 (fun w' => w'.cell? ⟨ob, 3, none⟩ = some (.iface 116 (.pointer (some ⟨fb, 0, none⟩))) ∧ w'.cell? ⟨b0, 0, none⟩ = some (.string s) ∧ w'.cell? ⟨b0, 1, none⟩ = some (.int .i64 0)) (go_keep) (first | (go_at_call 155; refine (HFI.out _ (HB2.out.drew)).mono ?_; rintro e w3 ⟨rfl, b3⟩; have HB3 := Hid.mk' (HB2.out.trans ((below_from_drew b3).mono HB2.out.size)); obtain ⟨_, _, y5, y6, y7⟩ := HCE.out w3 HB3.out; clear b3))
    all_goals
      go_wp2_with fail
      go_meet
      exact ⟨rfl, rfl, rfl, HB3⟩
  case rest =>
    obtain ⟨rfl, rfl, rfl, HB4⟩ := hcut
    clear x5 x6 x7 mfi
    obtain ⟨_, _, x5, x6, x7⟩ := HCE.out wc HB4.out
    have HDW := Hid.mk' (HDD.out wc HB4.out)
    have mfd := mf_dictionary
    go_wp2_with fail
    refine HDW.out.mono ?_
    rintro e w5 ⟨db, rfl, b5, hdrop⟩
    have HDR := Hid.mk' hdrop
    have B5 : Below W1.heap.size W1 w5 := HB4.out.trans (b5.mono HB4.out.size)
    clear x5 x6 x7 hdrop b5
    obtain ⟨_, _, x5, x6, x7⟩ := HCE.out w5 B5
    go_wp2_with fail
    refine HDR.out.mono ?_
    rintro e w6 ⟨rfl, b6⟩
    have B6 : Below W1.heap.size W1 w6 := HB4.out.trans (b6.mono HB4.out.size)
    clear x5 x6 x7 B5 b6
    obtain ⟨⟨x0, x4, xh, xo⟩, _, x5, x6, x7⟩ := HCE.out w6 B6
    obtain ⟨W7, hW7⟩ : ∃ W7, w6.setCell ⟨ob, 3, none⟩ (.iface 96 (.pointer (some ⟨db, 0, none⟩))) = W7 := ⟨_, rfl⟩
    have zo : w6.frozen? ⟨ob, 3, none⟩ = false := by simp [World.frozen?, xo]
    have s7 : Sv [ob] w6 W7 := by rw [← hW7]; exact Sv.set w6 ob 3 _
    have qh := s7.all hb _ (by simpa using HNE.out) xh
    have c7 : W7.cell? ⟨ob, 3, none⟩ = some (.iface 96 (.pointer (some ⟨db, 0, none⟩))) := by rw [← hW7]; exact mode_set _ xo HO.out
    obtain ⟨y0, _, y2, _, y4, yf⟩ := Hobj.cells qh
    have zf := yf 2
    have HC7 := Hid.mk' c7
    have HQ7 := Hid.mk' qh
    have HB7 : Hid (Below B w W7) := Hid.mk' (by rw [← hW7]; exact (HB1.out.trans (B6.mono HBW1.out)).setCell (p := ⟨ob, 3, none⟩) HBB.out.2 _)
    have HS7 : Hid (Sv [hb, ob] w W7) := Hid.mk' ((Sv.of_below (HBS.out.trans (B6.mono HBS.out.size))).trans' (s7.mono (by simp)))
    have HH7 := Hid.mk' hW7
    have u0 := HU.out.1
    have u1 := HU.out.2
    clear s7 qh c7 yf hW7 xh xo x0 x4 x6 x7 B6 y0 y4
    go_upto_region 11 with fail
    rw [HH7.out]
    clear x5 zo
    go_wp2
    go_ret
    have q8 := setH (u := used - 1) HQ7.out
    obtain ⟨y0, _, _, _, y4, _⟩ := Hobj.cells q8
    refine ⟨rfl, ⟨db, ?_, y0, y4⟩, HS7.out.trans' ((Sv.set _ hb 2 _).mono (by simp)), HB7.out.setCell (p := ⟨hb, 2, none⟩) HBB.out.1 _⟩
    exact (World.cell?_setCell_other _ _ _ _ (by simp)).trans HC7.out
end
end Go.Proofs.YtmgngbhkgmkggaaGreatDoor

namespace Go.Proofs.YtmgngbhkgmkggaaGreatDoor
set_option linter.unusedVariables false
set_option linter.unusedSimpArgs false
open Go.RowKit Go.Maps Go.ChangeShapes

/-- Keys alike, as the document's Same tells. -/
def sameK (a b : ByteArray × Int) : Bool := if 0 < a.2 ∨ 0 < b.2 then a.2 == b.2 else cmpK a.1 b.1 0 == 0

set_option maxHeartbeats 1000000 in
set_option maxRecDepth 100000 in
theorem same_any (a b : ByteArray) (x y : Int) (w : World) (ha : (a.size : Int) ≤ 140737488351232) (hb : (b.size : Int) ≤ 140737488351232) :
    Calls Tryz.prog 35 #[.agg #[.string a, .int .i64 x], .agg #[.string b, .int .i64 y]] w fun e w' => e = .returned (.bool (sameK (a, x) (b, y))) ∧ Below w.heap.size w w' := by
  have HC := Hid.mk' (fun W => rcompare_wide a b W ha hb)
  have bb : Below w.heap.size w ((w.alloc (.cells #[.string a, .int .i64 x] 31)).alloc (.cells #[.string b, .int .i64 y] 31)) := ((Below.refl _ _).alloc (Nat.le_refl _) _).alloc (by simp) _
  have HB := Hid.mk' bb
  clear bb ha hb
  by_cases hx : 0 < x
  · have HE : Hid (sameK (a, x) (b, y) = (x == y)) := Hid.mk' (by unfold sameK; rw [if_pos (.inl hx)])
    go_enter Tryz.func35, Tryz.ntmps35
    go_wp2
    go_ret
    exact ⟨by rw [HE.out]; rfl, HB.out⟩
  · by_cases hy : 0 < y
    · have HE : Hid (sameK (a, x) (b, y) = (x == y)) := Hid.mk' (by unfold sameK; rw [if_pos (.inr hy)])
      go_enter Tryz.func35, Tryz.ntmps35
      go_wp2
      go_ret
      exact ⟨by rw [HE.out]; rfl, HB.out⟩
    · have HE : Hid (sameK (a, x) (b, y) = (cmpK a b 0 == 0)) := Hid.mk' (by unfold sameK; rw [if_neg (by rintro (h | h) <;> contradiction)])
      go_enter Tryz.func35, Tryz.ntmps35
      go_wp2_with (go_at_call 60; refine (HC.out _).mono ?_; rintro e w1 ⟨rfl, b1⟩)
      go_ret
      exact ⟨by rw [HE.out]; rfl, HB.out.trans (b1.mono HB.out.size)⟩

theorem asc_2' : ofFst (ofS ⟨#[50]⟩) = ⟨#[0, 50]⟩ := (asc [50] (by decide)).trans rfl
def kTwo : ByteArray := ⟨#[0, 50]⟩
theorem evT : evenS kTwo = kTwo := by decide
theorem neBT : kTwo ≠ kB := by decide
def exL : List (ByteArray × Int) := [(kB, 7), (kTwo, 7)]
theorem tells_ex : tells [kB, kTwo] [0, 1] [7, 7] exL := by
  refine ⟨rfl, by decide, fun j x hx => ?_⟩
  match j, hx with
  | 0, hx => simp [exL] at hx; subst hx; exact ⟨0, rfl, rfl, rfl, evB, by decide, by decide, by decide⟩
  | 1, hx => simp [exL] at hx; subst hx; exact ⟨1, rfl, rfl, rfl, evT, by decide, by decide, by decide⟩
  | (j + 2), hx => simp [exL] at hx
theorem ixs_ex' : ixs (exL.map (fun x => (x.1, (0 : Int)))) = [2] := by kernel_rfl
theorem txs_ex' : txs (exL.map (fun x => (x.1, (0 : Int)))) = [(kB, 0)] := by kernel_rfl
theorem sys_ex' : sys (exL.map (fun x => (x.1, (0 : Int)))) = [] := by kernel_rfl
theorem same_ex' : sameK (kTwo, 0) (kTwo, 0) = true := by kernel_rfl
theorem ixB0 : ixI ([0, 1].take 2) ((0 : Nat) : Int) = ((0 : Nat) : Int) := by decide
theorem srt_one : srt [2] = [2] := by
  first
    | (simp [srt, List.mergeSort]; done)
    | decide
    | rfl
theorem ord_ex' : ordK (exL.map (fun x => (x.1, (0 : Int)))) = [(kTwo, 0), (kB, 0)] := by
  unfold ordK
  rw [ixs_ex', txs_ex', sys_ex']
  show ofs (srt [2]) ++ _ ++ _ = _
  have h : keyT 2 = kTwo := by
    unfold keyT
    rw [Lib.decDigits_one (by omega)]
    rfl
  rw [srt_one]
  simp [ofs, h]
section
variable {B g : Nat} {w : World}
/-- The heap of the example, behind each Put. -/
def St1 (B g hb ob fb oc : Nat) (cur : Array Value) (w : World) : Prop := TT B g [] [] [[]] [] [(hb, Hobj hb 100 1 g (.slice (some ⟨ob, 0, none⟩) 1 oc)), (ob, .cells cur 102 (0, 0)), (fb, Fobj g 0 (.slice none 0 0))] w
def St2 (B g hb ob fb oc sb c : Nat) (cur cs : Array Value) (w : World) : Prop := TT B g [kB] [0] [[], [7]] [((0, 0, 7), 1)] [(hb, Hobj hb 100 2 g (.slice (some ⟨ob, 0, none⟩) 1 oc)), (ob, .cells cur 102 (0, 0)), (fb, Fobj g 1 (.slice (some ⟨sb, 0, none⟩) 1 c)), (sb, .cells cs 122 (0, 0))] w ∧ w.ownsRow B 122 5 (.slice (some ⟨sb, 0, none⟩) 1 c) 1 zslot
def St3 (B g hb ob fb oc sb c : Nat) (cur cs : Array Value) (w : World) : Prop := TT B g [kB, kTwo] [0, 1] [[], [7], [7, 7]] [((0, 0, 7), 1), ((1, 1, 7), 2)] [(hb, Hobj hb 100 3 g (.slice (some ⟨ob, 0, none⟩) 1 oc)), (ob, .cells cur 102 (0, 0)), (fb, Fobj g 2 (.slice (some ⟨sb, 0, none⟩) 2 c)), (sb, .cells cs 122 (0, 0))] w ∧ w.ownsRow B 122 5 (.slice (some ⟨sb, 0, none⟩) 2 c) 2 (zslot ++ zslot)
theorem put_b (hb ob fb oc : Nat) (cur : Array Value) (w : World) (h : St1 B g hb ob fb oc cur w) (ho : Ocur cur (.iface 116 (.pointer (some ⟨fb, 0, none⟩)))) (hB : B ≤ hb ∧ B ≤ ob ∧ B ≤ fb) :
    Calls Tryz.prog 32 #[.pointer (some ⟨hb, 0, none⟩), .int .i64 1, .agg #[.string kB, .int .i64 0], .agg (zprop 7).toArray] w fun e w' => e = .returned (.int .i64 0) ∧ (∃ sb c cur' cs, St2 B g hb ob fb oc sb c cur' cs w' ∧ Ocur cur' (.iface 116 (.pointer (some ⟨fb, 0, none⟩)))) ∧ Below B w w' := by
  refine (hput_new (R := []) (ks' := [kB]) (ln' := [0]) (fs' := [[], [7]]) (ws' := [((0, 0, 7), 1)]) hb ob fb oc 0 100 1 0 1 cur kB (.slice none 0 0) [] w h ho hB (World.ownsRow_nil _ _ _ _) (fun k hk => by cases hk) (fun p hp => by cases hp) (by omega) (by omega) evB (by decide)
    (fun W C' hW => tt_none (ks' := [kB]) 0 0 kB W hW evB (by decide) (.inr ⟨rfl, by simp, rfl⟩) (by simp) (by simp) (by simp) (by simp) (by simp))
    (fun W C' hW => tt_add (ks' := [kB]) (ln' := [0]) 0 0 kB 7 W hW evB (by decide) (by simp) (.inr ⟨rfl, by simp, rfl⟩) (by simp) (by simp) (by simp) (by simp) (.inl ⟨rfl, rfl⟩) (by omega) (by omega) (by simp) (by simp) (by simp) (by simp) (by omega) (by simp))).mono ?_
  rintro e w' ⟨rfl, ⟨sb, c, cur', cs, m1, m2, m3, m4⟩, hb'⟩
  exact ⟨rfl, ⟨sb, c, cur', cs, ⟨m1, m3⟩, m2⟩, hb'⟩
theorem put_two (hb ob fb oc sb c : Nat) (cur cs : Array Value) (w : World) (h : St2 B g hb ob fb oc sb c cur cs w) (ho : Ocur cur (.iface 116 (.pointer (some ⟨fb, 0, none⟩)))) (hB : B ≤ hb ∧ B ≤ ob ∧ B ≤ fb) :
    Calls Tryz.prog 32 #[.pointer (some ⟨hb, 0, none⟩), .int .i64 1, .agg #[.string kTwo, .int .i64 0], .agg (zprop 7).toArray] w fun e w' => e = .returned (.int .i64 0) ∧ (∃ sb c cur' cs, St3 B g hb ob fb oc sb c cur' cs w' ∧ Ocur cur' (.iface 116 (.pointer (some ⟨fb, 0, none⟩)))) ∧ Below B w w' := by
  refine (hput_new (R := [(sb, .cells cs 122 (0, 0))]) (ks' := [kB, kTwo]) (ln' := [0, 1]) (fs' := [[], [7], [7, 7]]) (ws' := [((0, 0, 7), 1), ((1, 1, 7), 2)]) hb ob fb oc 1 100 2 1 2 cur kTwo (.slice (some ⟨sb, 0, none⟩) 1 c) zslot w h.1 ho hB h.2 (fun k hk => ⟨cs, by cases hk; exact List.mem_singleton_self _⟩) (fun p hp => ⟨cs, by rw [List.mem_singleton.1 hp]⟩) (by omega) (by omega) evT (by decide)
    (fun W C' hW => tt_none (ks' := [kB, kTwo]) 1 1 kTwo W hW evT (by decide) (.inr ⟨rfl, by simp [neBT], rfl⟩) (by simp) (by simp) (by simp) (by simp) (by simp))
    (fun W C' hW => tt_add (ks' := [kB, kTwo]) (ln' := [0, 1]) 1 1 kTwo 7 W hW evT (by decide) (by simp; decide) (.inr ⟨rfl, by simp [neBT], rfl⟩) (by simp) (by simp) (by simp) (by simp) (.inl ⟨rfl, rfl⟩) (by omega) (by omega) (by simp) (by simp) (by simp) (by simp) (by omega) (by simp))).mono ?_
  rintro e w' ⟨rfl, ⟨sb, c, cur', cs, m1, m2, m3, m4⟩, hb'⟩
  exact ⟨rfl, ⟨sb, c, cur', cs, ⟨m1, m3⟩, m2⟩, hb'⟩
theorem keys_ex (hb ob fb oc sb c : Nat) (cur cs : Array Value) (w : World) (h : St3 B g hb ob fb oc sb c cur cs w) (ho : Ocur cur (.iface 116 (.pointer (some ⟨fb, 0, none⟩)))) (hP : P10 w) :
    Calls Tryz.prog 20 #[.pointer (some ⟨hb, 0, none⟩), .int .i64 1] w fun e w' => ∃ rl cl, e = .returned (.slice (some ⟨rl, 0, none⟩) 2 cl) ∧ w'.cell? ⟨rl, 0, none⟩ = some (.string kTwo) ∧ w'.cell? ⟨rl, 1, none⟩ = some (.int .i64 0) ∧ w.heap.size ≤ rl ∧ Below w.heap.size w w' := by
  refine (hkeys_one hb ob fb oc 2 2 100 3 cur _ exL w h.1 (.head _) (.tail _ (.head _)) (.tail _ (.tail _ (.head _))) ho (by simp) tells_ex rfl (by omega) (by omega) (by simp) hP).mono ?_
  rintro e w' ⟨v, rfl, o, b⟩
  rw [ord_ex'] at o
  obtain ⟨rl, cl, cur', rfl, hge, hq, ht, _, _⟩ := row_block o (by simp)
  have e0 : (cur'.toList.take (2 * 2))[0]? = some (.string kTwo) := by rw [show cur'.toList.take (2 * 2) = _ from ht]; rfl
  have e1 : (cur'.toList.take (2 * 2))[1]? = some (.int .i64 0) := by rw [show cur'.toList.take (2 * 2) = _ from ht]; rfl
  rw [List.getElem?_take_of_lt (by omega)] at e0 e1
  refine ⟨rl, cl, rfl, ?_, ?_, hge, b⟩
  · simp only [World.cell?, hq]; simpa using e0
  · simp only [World.cell?, hq]; simpa using e1
theorem drop_ex (hb ob fb oc sb c : Nat) (cur cs : Array Value) (w : World) (h : St3 B g hb ob fb oc sb c cur cs w) (ho : Ocur cur (.iface 116 (.pointer (some ⟨fb, 0, none⟩)))) (hB : B ≤ hb ∧ B ≤ ob) :
    Calls Tryz.prog 33 #[.pointer (some ⟨hb, 0, none⟩), .int .i64 1, .agg #[.string kB, .int .i64 0]] w fun e w' => e = .returned (.bool true) ∧ (∃ db, w'.cell? ⟨ob, 3, none⟩ = some (.iface 96 (.pointer (some ⟨db, 0, none⟩))) ∧ w'.cell? ⟨hb, 0, none⟩ = some (.pointer (some ⟨hb, 0, none⟩)) ∧ w'.cell? ⟨hb, 4, none⟩ = some (.slice (some ⟨ob, 0, none⟩) 1 oc)) ∧ Sv [hb, ob] w w' ∧ Below B w w' := by
  refine hdrop_one hb ob fb oc 2 100 3 7 cur _ kB w h.1 (.head _) (.tail _ (.head _)) (.tail _ (.tail _ (.head _))) ho hB (by omega) evB (by decide)
    (fun W C' hW => tt_yes 2 0 0 kB 7 W hW evB (by decide) rfl (by simp) (by simp) ixB0 rfl (by omega) (by omega) (by simp)) (fun W hW => ?_)
  have hs : ∀ j, j < 2 → W.cell? ⟨sb, j * 5, none⟩ = some (.int .i64 0) ∧ W.cell? ⟨sb, j * 5 + 1, none⟩ = some (.float .f64 0) ∧ W.cell? ⟨sb, j * 5 + 2, none⟩ = some (.string ⟨#[]⟩) ∧ W.cell? ⟨sb, j * 5 + 3, none⟩ = some (.int .i64 0) ∧ W.cell? ⟨sb, j * 5 + 4, none⟩ = some (.pointer none) := fun j hj => by
    have o := own_below h.2 hW
    have at' : ∀ k u, (zslot ++ zslot)[k]? = some u → W.cell? ⟨sb, k, none⟩ = some u := fun k u hk => by
      have := o.cells (g := sb) rfl k u hk
      rw [Addr.add_lit] at this
      simpa using this
    obtain rfl | rfl : j = 0 ∨ j = 1 := by omega
    · exact ⟨at' 0 _ rfl, at' 1 _ rfl, at' 2 _ rfl, at' 3 _ rfl, at' 4 _ rfl⟩
    · exact ⟨at' 5 _ rfl, at' 6 _ rfl, at' 7 _ rfl, at' 8 _ rfl, at' 9 _ rfl⟩
  refine (fdict fb sb 2 2 c exL W (h.1.below hW) ((h.1.below hW).c _ (.tail _ (.tail _ (.head _)))) hs (by simp) tells_ex rfl (by omega) (by omega) (by simp) (by decide) (by decide)).mono ?_
  rintro e w' ⟨db, mb, rb, rfl, hd⟩
  refine ⟨db, rfl, hd.bl, (drop_first W db mb rb 2 _ kB w' hd rfl (by decide) (by omega) (by decide)).mono ?_⟩
  rintro e w'' ⟨rfl, hb'⟩
  exact ⟨rfl, hb'⟩
end
end Go.Proofs.YtmgngbhkgmkggaaGreatDoor

namespace Go.Proofs.YtmgngbhkgmkggaaGreatDoor
set_option linter.unusedVariables false
set_option linter.unusedSimpArgs false
open Go.RowKit Go.Maps Go.ChangeShapes

theorem p10_below {B : Nat} {w w' : World} (h : P10 w) (hb : Below w.heap.size w w') : P10 w' := h.below hb
set_option maxHeartbeats 4000000 in
set_option maxRecDepth 100000 in
theorem awake15 (w : World) (hP : P10 w) (hPB : ∀ w', Below w.heap.size w w' → P10 w') : Calls Tryz.prog 8 #[] w fun e w' => e = .returned (.bool true) ∧ Below w.heap.size w w' := by
  have HN := Hid.mk' (hnew_any 100 w)
  have HNB := Hid.mk' (fun W => rname_any ⟨#[98]⟩ kB asc_b W (by decide))
  have HN2 := Hid.mk' (fun W => rname_any ⟨#[50]⟩ kTwo asc_2' W (by decide))
  have HPB := Hid.mk' hPB
  clear hPB hP
  go_enter Tryz.func8, Tryz.ntmps8
  go_wp2_with fail
  refine HN.out.mono ?_
  rintro e w1 ⟨g, hb, rfl, hT1, hb1, b1⟩
  have HB1 := Hid.mk' b1
  have HBB := Hid.mk' hb1
  have HM := Hid.mk' (hmake_one 100 hb w1 hT1 (by omega) hb1)
  clear hT1 hb1 b1
  go_wp2_with fail
  refine HM.out.mono ?_
  rintro e w2 ⟨rfl, ⟨ob, fb, oc, cur, hT2, ho2, hob, hfb⟩, b2⟩
  have HS1 : Hid (St1 w.heap.size g hb ob fb oc cur w2) := Hid.mk' hT2
  have HO2 := Hid.mk' ho2
  have HB2 := Hid.mk' (HB1.out.trans b2)
  have HBO := Hid.mk' (And.intro HBB.out (And.intro hob hfb))
  clear hT2 ho2 hob hfb b2
  go_wp2_with fail
  refine (HNB.out _).mono ?_
  rintro e w3 ⟨rfl, b3⟩
  have HP1 := Hid.mk' (put_b hb ob fb oc cur w3 (TT.below HS1.out b3) HO2.out HBO.out)
  have HB3 : Hid (Below w.heap.size w w3) := Hid.mk' (HB2.out.trans (b3.mono HB2.out.size))
  unfold zprop zv at HP1
  simp only [List.cons_append, List.nil_append] at HP1
  clear b3
  go_wp2_with fail
  refine HP1.out.mono ?_
  rintro e w4 ⟨rfl, ⟨sb, c, cur4, cs, hS2, ho4⟩, b4⟩
  have HB4 := Hid.mk' (HB3.out.trans b4)
  have HS2 := Hid.mk' hS2
  have HO4 := Hid.mk' ho4
  clear hS2 ho4 b4
  go_wp2_with fail
  refine (HN2.out _).mono ?_
  rintro e w5 ⟨rfl, b5⟩
  have HP2 := Hid.mk' (put_two hb ob fb oc sb c cur4 cs w5 ⟨TT.below HS2.out.1 b5, own_below HS2.out.2 b5⟩ HO4.out HBO.out)
  have HB5 : Hid (Below w.heap.size w w5) := Hid.mk' (HB4.out.trans (b5.mono HB4.out.size))
  unfold zprop zv at HP2
  simp only [List.cons_append, List.nil_append] at HP2
  clear b5
  go_wp2_with fail
  refine HP2.out.mono ?_
  rintro e w6 ⟨rfl, ⟨sb2, c2, cur6, cs2, hS3, ho6⟩, b6⟩
  have HB6 := Hid.mk' (HB5.out.trans b6)
  have HK := Hid.mk' (keys_ex hb ob fb oc sb2 c2 cur6 cs2 w6 hS3 ho6 (HPB.out w6 HB6.out))
  have HS3 := Hid.mk' hS3
  have HO6 := Hid.mk' ho6
  clear hS3 ho6 b6
  go_wp2_with fail
  refine HK.out.mono ?_
  rintro e w7 ⟨rl, cl, rfl, l0, l1, hrl, b7⟩
  have HS7 : Hid (St3 w.heap.size g hb ob fb oc sb2 c2 cur6 cs2 w7) := Hid.mk' ⟨TT.below HS3.out.1 b7, own_below HS3.out.2 b7⟩
  have HB7 : Hid (Below w.heap.size w w7) := Hid.mk' (HB6.out.trans (b7.mono HB6.out.size))
  have HRL : Hid (rl ≠ hb ∧ rl ≠ ob) := Hid.mk' ⟨fun e => by
    have := World.block_lt_of_cell? w6 _ (Hobj.cells (HS3.out.1.c _ (.head _))).1
    simp at this; omega, fun e => by
    have := (Array.getElem?_eq_some_iff.1 (HS3.out.1.c _ (.tail _ (.head _)))).1
    simp at this; omega⟩
  have HCF : Hid (∀ W, Below w7.heap.size w7 W → (W.cell? ⟨rl, 0, none⟩ = some (.string kTwo) ∧ W.cell? ⟨rl, 1, none⟩ = some (.int .i64 0)) ∧ St3 w.heap.size g hb ob fb oc sb2 c2 cur6 cs2 W ∧ W.cell? ⟨hb, 0, none⟩ = some (.pointer (some ⟨hb, 0, none⟩)) ∧ W.cell? ⟨hb, 2, none⟩ = some (.int .i64 3) ∧ W.cell? ⟨hb, 4, none⟩ = some (.slice (some ⟨ob, 0, none⟩) 1 oc) ∧ W.cell? ⟨ob, 3, none⟩ = some (.iface 116 (.pointer (some ⟨fb, 0, none⟩)))) := Hid.mk' (fun W hW => by
    have hT := TT.below HS7.out.1 hW
    obtain ⟨a0, _, a2, _, a4, _⟩ := Hobj.cells (hT.c _ (.head _))
    have e := hT.c _ (.tail _ (.head _))
    exact ⟨⟨(hW.cell (p := ⟨rl, 0, none⟩) (World.block_lt_of_cell? w7 _ l0)).trans l0, (hW.cell (p := ⟨rl, 1, none⟩) (World.block_lt_of_cell? w7 _ l1)).trans l1⟩, ⟨hT, own_below HS7.out.2 hW⟩, a0, a2, a4, by simp only [World.cell?, e]; exact HO6.out.at.1⟩)
  have HSA := Hid.mk' (fun W => same_any kTwo kTwo 0 0 W (by decide) (by decide))
  rw [same_ex'] at HSA
  have HUS := Hid.mk' (fun W (hW : Below w7.heap.size w7 W) => hused_yes hb 3 W (HCF.out W hW).2.2.1 (HCF.out W hW).2.2.2.1)
  have HFA := Hid.mk' (fun W (hW : Below w7.heap.size w7 W) => hfast_yes hb ob fb oc W (HCF.out W hW).2.2.1 (HCF.out W hW).2.2.2.2.1 (HCF.out W hW).2.2.2.2.2)
  have HDR := Hid.mk' (fun W (hW : Below w7.heap.size w7 W) => drop_ex hb ob fb oc sb2 c2 cur6 cs2 W (HCF.out W hW).2.1 HO6.out ⟨HBO.out.1, HBO.out.2.1⟩)
  have HFD := Hid.mk' (fun db W x0 x4 x5 => hfast_dict hb ob db oc W x0 x4 x5)
  clear b7 hrl
  go_upto_region 6 with fail
  go_region_held3 (fun w' => w'.cell? ⟨rl, 0, none⟩ = some (.string kTwo) ∧ w'.cell? ⟨rl, 1, none⟩ = some (.int .i64 0)) (go_keep) (first
    | (go_at_call 35; refine (HSA.out _).mono ?_; rintro e w9 ⟨rfl, b9⟩; have HB9 := Hid.mk' (HB8.out.trans (b9.mono HB8.out.size)); obtain ⟨⟨r0, r1⟩, _⟩ := HCF.out w9 HB9.out; have HUU := Hid.mk' (HUS.out w9 HB9.out); have HFF := Hid.mk' (HFA.out w9 HB9.out); clear b9)
    | (go_at_call 21; refine HUU.out.mono ?_; rintro e w10 ⟨rfl, hw10⟩; rw [hw10]; clear hw10 w10)
    | (go_at_call 33; refine HDD.out.mono ?_; rintro e w12 ⟨rfl, ⟨db, d0, d1, d2⟩, s12, b12⟩; have HB12 := Hid.mk' b12; have HS12 := Hid.mk' s12; have r3 := sv_cell HS12.out (by simp [HRL.out.1, HRL.out.2]) t0; have r4 := sv_cell HS12.out (by simp [HRL.out.1, HRL.out.2]) t1; have HFX := Hid.mk' (HFD.out db w12 d1 d2 d0); clear b12 s12 d0 d1 d2)
    | (go_at_call 23; refine HFX.out.mono ?_; rintro e w13 ⟨rfl, hw13⟩; rw [hw13]; clear hw13 w13)
    | (go_at_call 23; refine HFF.out.mono ?_; rintro e w10 ⟨rfl, hw10⟩; rw [hw10]; clear hw10 w10)
    | (go_at_call 34; refine (HNB.out _).mono ?_; rintro e w11 ⟨rfl, b11⟩; have HB11 := Hid.mk' (HB9.out.trans (b11.mono HB9.out.size)); obtain ⟨⟨t0, t1⟩, _⟩ := HCF.out w11 HB11.out; have HDD := Hid.mk' (HDR.out w11 HB11.out); clear b11)
    | (go_at_call 34; refine (HN2.out _).mono ?_; rintro e w8 ⟨rfl, b8⟩; have HB8 := Hid.mk' (below_from_drew b8); obtain ⟨⟨q0, q1⟩, _⟩ := HCF.out w8 HB8.out; clear b8))
  all_goals
    go_wp2
    go_ret
    exact ⟨rfl, (HB7.out.trans (HB11.out.mono HB7.out.size)).trans HB12.out⟩
end Go.Proofs.YtmgngbhkgmkggaaGreatDoor
