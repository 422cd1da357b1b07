/- Package heap: Keys, Fast of an object whose mode is fast. -/
import Derived.Test.YtmgngbhkgmkggaaGreatDoorHpK
import Derived.Test.YtmgngbhkgmkggaaGreatDoorHpE
import Derived.Test.YtmgngbhkgmkggaaGreatDoorKOrd
namespace Go.Proofs.YtmgngbhkgmkggaaGreatDoor
set_option linter.unusedVariables false
set_option linter.unusedSimpArgs false
open Go.RowKit Go.Maps Go.ChangeShapes

section
variable {B g : Nat} {ks : List ByteArray} {ln : List Int} {fs : List (List Int)} {ws : List ((Int × Int × Int) × Int)} {w w' : World}
set_option maxHeartbeats 1000000 in
set_option maxRecDepth 100000 in
theorem fkeys {C : List (Nat × Obj)} (fb i m : Nat) (vsl : Value) (L : List (ByteArray × Int)) (w : World) (h : TT B g ks ln fs ws C w) (hq : w.heap[fb]? = some (Fobj g (i : Nat) vsl)) (hi : i < fs.length) (hL : tells ks ln (fs.getD i []) L) (hm : L.length = m) (hm0 : 0 < m) (hll : m < 1000) (hll2 : ks.length < 100000) :
    Calls Tryz.prog 157 #[.pointer (some ⟨fb, 0, none⟩)] w fun e w' => ∃ v, e = .returned v ∧ w'.ownsRow w.heap.size 31 2 v m (kC (L.map (·.1))) ∧ Below w.heap.size w w' := by
  obtain ⟨c0, c1, c2, cf⟩ := Fobj.cells hq
  have HK := Hid.mk' (fun W (hW : Below w.heap.size w W) => tt_keys i m L W (h.below hW) hi hL hm hm0 hll hll2)
  have HS : Hid (∀ W, Below w.heap.size w W → W.cell? ⟨fb, 0, none⟩ = some (.pointer (some ⟨g, 0, none⟩)) ∧ W.cell? ⟨fb, 1, none⟩ = some (.int .i64 (i : Nat))) := Hid.mk' (fun W hW => ⟨(hW.cell (p := ⟨fb, 0, none⟩) (World.block_lt_of_cell? w _ c0)).trans c0, (hW.cell (p := ⟨fb, 1, none⟩) (World.block_lt_of_cell? w _ c1)).trans c1⟩)
  clear h hq hL c2 cf
  go_enter Tryz.func157, Tryz.ntmps157
  go_upto_region 1 with fail
  go_region_held3 (fun w' => w'.cell? ⟨fb, 0, none⟩ = some (.pointer (some ⟨g, 0, none⟩)) ∧ w'.cell? ⟨fb, 1, none⟩ = some (.int .i64 (i : Nat))) (go_keep) (first | (go_at_call 163; refine (HK.out _ ((Below.refl _ _).drew)).mono ?_; rintro e w2 ⟨v, rfl, o2, b2⟩; have HB2 := Hid.mk' (below_from_drew b2); have HO2 := Hid.mk' o2; obtain ⟨s0, s1⟩ := HS.out w2 (below_from_drew b2); clear b2 o2))
  all_goals
    clear c0 c1 s0 s1
    go_wp2
    go_ret
    exact ⟨v, rfl, HO2.out, HB2.out⟩
theorem kc_of (l : List ByteArray) : kC l = kc (l.map (fun s => (s, (0 : Int)))) := by
  induction l with
  | nil => rfl
  | cons a r ih =>
    have e1 : kC (a :: r) = [.string a, .int .i64 0] ++ kC r := rfl
    have e2 : kc ((a :: r).map (fun s => (s, (0 : Int)))) = [.string a, .int .i64 0] ++ kc (r.map (fun s => (s, (0 : Int)))) := rfl
    rw [e1, e2, ih]
set_option maxHeartbeats 1000000 in
set_option maxRecDepth 100000 in
theorem hkeys_one {C : List (Nat × Obj)} (hb ob fb oc i m : Nat) (lim used : Int) (cur : Array Value) (vsl : Value) (L : List (ByteArray × Int)) (w : World) (h : TT B g ks ln fs ws C w) (hh : (hb, Hobj hb lim used g (.slice (some ⟨ob, 0, none⟩) 1 oc)) ∈ C) (hob : (ob, .cells cur 102 (0, 0)) ∈ C) (hf : (fb, Fobj g (i : Nat) vsl) ∈ C) (ho : Ocur cur (.iface 116 (.pointer (some ⟨fb, 0, none⟩)))) (hi : i < fs.length) (hL : tells ks ln (fs.getD i []) L) (hm : L.length = m) (hm0 : 0 < m) (hll : m ≤ 12) (hll2 : ks.length < 100000) (hP : P10 w) :
    Calls Tryz.prog 20 #[.pointer (some ⟨hb, 0, none⟩), .int .i64 1] w fun e w' => ∃ v, e = .returned v ∧ w'.ownsRow w.heap.size 31 2 v (ordK (L.map (fun x => (x.1, (0 : Int))))).length (kc (ordK (L.map (fun x => (x.1, (0 : Int)))))) ∧ Below w.heap.size w w' := by
  obtain ⟨c0, c1, c2, c3, c4, cf⟩ := Hobj.cells (h.c _ hh)
  have c5 : w.cell? ⟨ob, 3, none⟩ = some (.iface 116 (.pointer (some ⟨fb, 0, none⟩))) := by
    have e := h.c _ hob
    simp only [World.cell?, e]
    exact ho.at.1
  have HOB := Hid.mk' (hobj_one hb ob oc w c0 c4)
  have HK := Hid.mk' (fkeys fb i m vsl L w h (h.c _ hf) hi hL hm hm0 (by omega) hll2)
  have HZ : Hid (∀ p ∈ L.map (fun x => (x.1, (0 : Int))), (p.1.size : Int) ≤ 140737488351232) := Hid.mk' (fun p hp => by
    obtain ⟨x, hx, rfl⟩ := List.mem_map.1 hp
    obtain ⟨j, hj, e⟩ := List.getElem_of_mem hx
    obtain ⟨n, _, _, _, _, h5, _⟩ := hL.2.2 j x (by rw [List.getElem?_eq_getElem hj, e])
    exact h5)
  have HOD := Hid.mk' (fun v W hv hPW => order_any 12 sort_small (L.map (fun x => (x.1, (0 : Int)))) (by
    have := parts_length (L.map (fun x => (x.1, (0 : Int))))
    rw [List.length_map] at this; omega) HZ.out (by rw [List.length_map]; omega) v W hv hPW)
  have HPP := Hid.mk' hP
  have mfk := mf_keys
  have HLM := Hid.mk' hm
  clear h hh hob hf ho hL hP c1 c2 c3 cf hm
  go_enter Tryz.func20, Tryz.ntmps20
  go_wp2_with fail
  refine HOB.out.mono ?_
  rintro e w1 ⟨rfl, rfl⟩
  go_wp2_with fail
  refine HK.out.mono ?_
  rintro e w2 ⟨v, rfl, o2, b2⟩
  have hv : RdK w2 v (L.map (fun x => (x.1, (0 : Int)))) := RdK.own (B := w1.heap.size) (by
    rw [List.length_map, HLM.out]
    have e := kc_of (L.map (·.1))
    rw [List.map_map] at e
    rw [e] at o2
    exact o2)
  have HO2 := Hid.mk' (HOD.out v w2 hv (HPP.out.below b2))
  have HB2 := Hid.mk' b2
  clear o2 b2 hv c0 c4 c5
  go_wp2_with fail
  refine HO2.out.mono ?_
  rintro e w3 ⟨v3, rfl, o3, b3⟩
  have HO3 := Hid.mk' o3
  have HB3 := Hid.mk' b3
  clear o3 b3
  go_wp2
  go_ret
  refine ⟨v3, rfl, ?_, HB2.out.trans (HB3.out.mono HB2.out.size)⟩
  have h3 := HO3.out
  exact ⟨h3.1, h3.2.imp id (fun ⟨g, cap, cur, a, b, c⟩ => ⟨g, cap, cur, a, by have := HB2.out.size; omega, c⟩)⟩
set_option maxHeartbeats 400000 in
set_option maxRecDepth 100000 in
theorem hfast_yes (hb ob fb oc : Nat) (w : World) (c0 : w.cell? ⟨hb, 0, none⟩ = some (.pointer (some ⟨hb, 0, none⟩))) (c4 : w.cell? ⟨hb, 4, none⟩ = some (.slice (some ⟨ob, 0, none⟩) 1 oc)) (c5 : w.cell? ⟨ob, 3, none⟩ = some (.iface 116 (.pointer (some ⟨fb, 0, none⟩)))) :
    Calls Tryz.prog 23 #[.pointer (some ⟨hb, 0, none⟩), .int .i64 1] w fun e w' => e = .returned (.bool true) ∧ w' = w := by
  have HOB := Hid.mk' (hobj_one hb ob oc w c0 c4)
  have HI : Hid (Calls Tryz.prog 156 #[.pointer (some ⟨fb, 0, none⟩)] w fun e w' => e = .returned (.bool true) ∧ w' = w) := Hid.mk' (by
    go_enter Tryz.func156, Tryz.ntmps156
    go_wp2
    go_ret
    exact ⟨rfl, rfl⟩)
  have mfi := mf_isFast
  go_enter Tryz.func23, Tryz.ntmps23
  go_wp2_with fail
  refine HOB.out.mono ?_
  rintro e w1 ⟨rfl, rfl⟩
  go_wp2_with fail
  refine HI.out.mono ?_
  rintro e w2 ⟨rfl, rfl⟩
  go_wp2
  go_ret
  exact ⟨rfl, rfl⟩
set_option maxHeartbeats 400000 in
set_option maxRecDepth 100000 in
theorem hfast_dict (hb ob db oc : Nat) (w : World) (c0 : w.cell? ⟨hb, 0, none⟩ = some (.pointer (some ⟨hb, 0, none⟩))) (c4 : w.cell? ⟨hb, 4, none⟩ = some (.slice (some ⟨ob, 0, none⟩) 1 oc)) (c5 : w.cell? ⟨ob, 3, none⟩ = some (.iface 96 (.pointer (some ⟨db, 0, none⟩)))) :
    Calls Tryz.prog 23 #[.pointer (some ⟨hb, 0, none⟩), .int .i64 1] w fun e w' => e = .returned (.bool false) ∧ w' = w := by
  have HOB := Hid.mk' (hobj_one hb ob oc w c0 c4)
  have HI : Hid (Calls Tryz.prog 148 #[.pointer (some ⟨db, 0, none⟩)] w fun e w' => e = .returned (.bool false) ∧ w' = w) := Hid.mk' (by
    go_enter Tryz.func148, Tryz.ntmps148
    go_wp2
    go_ret
    exact ⟨rfl, rfl⟩)
  have mfi := md_isFast
  go_enter Tryz.func23, Tryz.ntmps23
  go_wp2_with fail
  refine HOB.out.mono ?_
  rintro e w1 ⟨rfl, rfl⟩
  go_wp2_with fail
  refine HI.out.mono ?_
  rintro e w2 ⟨rfl, rfl⟩
  go_wp2
  go_ret
  exact ⟨rfl, rfl⟩
end
end Go.Proofs.YtmgngbhkgmkggaaGreatDoor
