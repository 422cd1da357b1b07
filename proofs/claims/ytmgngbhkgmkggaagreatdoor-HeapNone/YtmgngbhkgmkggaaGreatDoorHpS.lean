/- Package heap: a heap that nobody made has no properties. The law HeapNone: for every key and number it returns true. -/
import Derived.Test.YtmgngbhkgmkggaaGreatDoorHpH
import Derived.Deep.MidRow
import Derived.Test.YtmgngbhkgmkggaaGreatDoorHpR
namespace Go.Proofs.YtmgngbhkgmkggaaGreatDoor
set_option linter.unusedVariables false
set_option linter.unusedSimpArgs false
open Go.RowKit

theorem setCell_id {V : World} {b j : Nat} {c : Array Value} {t : TypeId} {v : Value} (h : V.heap[b]? = some (.cells c t (0, 0))) (hs : c.setIfInBounds j v = c) : V.setCell ⟨b, j, none⟩ v = V := by
  have e : (V.setCell ⟨b, j, none⟩ v).heap = V.heap := by
    apply Array.ext_getElem?
    intro k
    by_cases hk : k = b
    · subst hk
      rw [set_blk2' h, hs, h]
    · exact Below.heap_setCell _ _ _ _ hk
  cases V
  simp only [World.setCell] at e ⊢
  simp only [World.mk.injEq, and_true, true_and]
  exact e
theorem setCells_id {b : Nat} {c : Array Value} {t : TypeId} : ∀ (vs : List Value) (o : Nat) (W : World), W.heap[b]? = some (.cells c t (0, 0)) → (∀ j v, vs[j]? = some v → c[o + j]? = some v) → W.setCells b o vs = W
  | [], _, W, _, _ => rfl
  | v :: r, o, W, h, hv => by
    have h0 : c[o]? = some v := hv 0 v rfl
    have hs : c.setIfInBounds o v = c := by
      have hlt := (Array.getElem?_eq_some_iff.1 h0).1
      apply Array.ext_getElem?
      intro k
      by_cases hk : o = k
      · subst hk; rw [Array.getElem?_setIfInBounds_self_of_lt hlt, h0]
      · rw [Array.getElem?_setIfInBounds_ne hk]
    show (W.setCell ⟨b, o, none⟩ v).setCells b (o + 1) r = W
    rw [setCell_id h hs]
    exact setCells_id r (o + 1) W h (fun j u hj => by have := hv (j + 1) u hj; rwa [show o + (j + 1) = o + 1 + j from by omega] at this)
set_option maxHeartbeats 1000000 in
set_option maxRecDepth 100000 in
theorem hby_no (t : Value) (o : Int) (n : ByteArray) (z : Int) (w : World) (h : Un t w) : Calls Tryz.prog 16 #[t, .pointer none, .int .i64 o, .agg #[.string n, .int .i64 z]] w fun e w' => e = .returned (.tuple #[.agg (zprop 0).toArray, .bool false]) ∧ Below w.heap.size w w' := by
  obtain ⟨W1, hW1⟩ : ∃ W1, (w.alloc (.cells #[.string n, .int .i64 z] 31)).alloc (.cells (zprop 0).toArray 36) = W1 := ⟨_, rfl⟩
  have b1 : Below w.heap.size w W1 := by rw [← hW1]; exact ((Below.refl _ _).alloc (Nat.le_refl _) _).alloc (by simp) _
  have q1 : W1.heap[w.heap.size + 1]? = some (.cells (zprop 0).toArray 36 (0, 0)) := by rw [← hW1]; have := World.alloc_heap_new (w.alloc (.cells #[.string n, .int .i64 z] 31)) (.cells (zprop 0).toArray 36); simpa using this
  have HM := Hid.mk' (hobj_no t o W1 (h.below b1))
  have HB := Hid.mk' b1
  have HH := Hid.mk' hW1
  have hst := st_float
  unfold zprop zv at *
  simp only [List.cons_append, List.nil_append] at *
  clear h b1 q1 hW1
  go_enter Tryz.func16, Tryz.ntmps16
  go_wp2_with fail
  rw [HH.out]
  refine HM.out.mono ?_
  rintro e w1 ⟨rfl, hw1⟩
  rw [hw1, ← HH.out]
  clear hw1 w1
  go_wp2
  refine bodyPost_ret (v := .tuple #[.agg #[.int .i64 0, .float .f64 0, .string ⟨#[]⟩, .int .i64 0, .int .i64 0, .float .f64 0, .string ⟨#[]⟩, .int .i64 0, .int .i64 0, .float .f64 0, .string ⟨#[]⟩, .int .i64 0, .int .i64 0], .bool false]) ?_ rfl ⟨rfl, ?_⟩
  · simp [results, Tryz.results16, go_sem]
  · rw [HH.out]; exact HB.out
set_option maxHeartbeats 1000000 in
set_option maxRecDepth 100000 in
theorem hown_no (t : Value) (o : Int) (n : ByteArray) (z : Int) (w : World) (h : Un t w) : Calls Tryz.prog 25 #[t, .int .i64 o, .agg #[.string n, .int .i64 z]] w fun e w' => e = .returned (.tuple #[.agg (zprop 0).toArray, .bool false]) ∧ Below w.heap.size w w' := by
  obtain ⟨W1, hW1⟩ : ∃ W1, (w.alloc (.cells #[.string n, .int .i64 z] 31)).alloc (.cells (zprop 0).toArray 36) = W1 := ⟨_, rfl⟩
  have b1 : Below w.heap.size w W1 := by rw [← hW1]; exact ((Below.refl _ _).alloc (Nat.le_refl _) _).alloc (by simp) _
  have q1 : W1.heap[w.heap.size + 1]? = some (.cells (zprop 0).toArray 36 (0, 0)) := by rw [← hW1]; have := World.alloc_heap_new (w.alloc (.cells #[.string n, .int .i64 z] 31)) (.cells (zprop 0).toArray 36); simpa using this
  have HM := Hid.mk' (hby_no t o n z W1 (h.below b1))
  have HB := Hid.mk' b1
  have HH := Hid.mk' hW1
  have HQ := Hid.mk' q1
  have hst := st_float
  unfold zprop zv at *
  simp only [List.cons_append, List.nil_append] at *
  clear h b1 q1 hW1
  go_enter Tryz.func25, Tryz.ntmps25
  go_wp2_with fail
  rw [HH.out]
  refine HM.out.mono ?_
  rintro e w1 ⟨rfl, b2⟩
  have q2 := (b2.block _ (Array.getElem?_eq_some_iff.1 HQ.out).1).trans HQ.out
  obtain ⟨x0, hx0⟩ : ∃ x0, w.heap.size + 1 = x0 := ⟨_, rfl⟩
  rw [hx0] at q2
  have HB2 := Hid.mk' (HB.out.trans (b2.mono HB.out.size))
  have HX0 : Hid (w.heap.size ≤ x0) := Hid.mk' (by omega)
  have HTH : Hid (w1.there x0 0 13) := Hid.mk' (fun j hj => by
    refine ⟨?_, by simp [World.frozen?, q2]⟩
    simp only [World.cell?, q2]
    simp
    omega)
  have HID : Hid (w1.setCells x0 0 [.int .i64 0, .float .f64 0, .string ⟨#[]⟩, .int .i64 0, .int .i64 0, .float .f64 0, .string ⟨#[]⟩, .int .i64 0, .int .i64 0, .float .f64 0, .string ⟨#[]⟩, .int .i64 0, .int .i64 0] = w1) := Hid.mk' (setCells_id (c := #[.int .i64 0, .float .f64 0, .string ⟨#[]⟩, .int .i64 0, .int .i64 0, .float .f64 0, .string ⟨#[]⟩, .int .i64 0, .int .i64 0, .float .f64 0, .string ⟨#[]⟩, .int .i64 0, .int .i64 0]) _ 0 w1 q2 (fun j v hj => by rw [Nat.zero_add]; simpa using hj))
  have c0 : w1.cell? ⟨x0, 0, none⟩ = some (.int .i64 0) := by simp [World.cell?, q2]
  have c1 : w1.cell? ⟨x0, 1, none⟩ = some (.float .f64 0) := by simp [World.cell?, q2]
  have c2 : w1.cell? ⟨x0, 2, none⟩ = some (.string ⟨#[]⟩) := by simp [World.cell?, q2]
  have c3 : w1.cell? ⟨x0, 3, none⟩ = some (.int .i64 0) := by simp [World.cell?, q2]
  have c4 : w1.cell? ⟨x0, 4, none⟩ = some (.int .i64 0) := by simp [World.cell?, q2]
  have c5 : w1.cell? ⟨x0, 5, none⟩ = some (.float .f64 0) := by simp [World.cell?, q2]
  have c6 : w1.cell? ⟨x0, 6, none⟩ = some (.string ⟨#[]⟩) := by simp [World.cell?, q2]
  have c7 : w1.cell? ⟨x0, 7, none⟩ = some (.int .i64 0) := by simp [World.cell?, q2]
  have c8 : w1.cell? ⟨x0, 8, none⟩ = some (.int .i64 0) := by simp [World.cell?, q2]
  have c9 : w1.cell? ⟨x0, 9, none⟩ = some (.float .f64 0) := by simp [World.cell?, q2]
  have c10 : w1.cell? ⟨x0, 10, none⟩ = some (.string ⟨#[]⟩) := by simp [World.cell?, q2]
  have c11 : w1.cell? ⟨x0, 11, none⟩ = some (.int .i64 0) := by simp [World.cell?, q2]
  have c12 : w1.cell? ⟨x0, 12, none⟩ = some (.int .i64 0) := by simp [World.cell?, q2]
  clear b2 q2
  simp only [hx0]
  go_wp2_with (refine wpList_store_mid rfl 36 (.tmp 6) (.tmp 12) rfl x0 0 #[.int .i64 0, .float .f64 0, .string ⟨#[]⟩, .int .i64 0, .int .i64 0, .float .f64 0, .string ⟨#[]⟩, .int .i64 0, .int .i64 0, .float .f64 0, .string ⟨#[]⟩, .int .i64 0, .int .i64 0] rfl rfl HTH.out (by kernel_rfl) (by simp [Value.oneCell']) ?_; rw [show w1.setCells x0 0 (#[.int .i64 0, .float .f64 0, .string ⟨#[]⟩, .int .i64 0, .int .i64 0, .float .f64 0, .string ⟨#[]⟩, .int .i64 0, .int .i64 0, .float .f64 0, .string ⟨#[]⟩, .int .i64 0, .int .i64 0] : Array Value).toList = w1 from HID.out])
  refine bodyPost_ret (v := .tuple #[.agg #[.int .i64 0, .float .f64 0, .string ⟨#[]⟩, .int .i64 0, .int .i64 0, .float .f64 0, .string ⟨#[]⟩, .int .i64 0, .int .i64 0, .float .f64 0, .string ⟨#[]⟩, .int .i64 0, .int .i64 0], .bool false]) ?_ rfl ⟨rfl, HB2.out⟩
  simp [results, Tryz.results25, go_sem, c0, c1, c2, c3, c4, c5, c6, c7, c8, c9, c10, c11, c12]
end Go.Proofs.YtmgngbhkgmkggaaGreatDoor

namespace Go.Proofs.YtmgngbhkgmkggaaGreatDoor
set_option linter.unusedVariables false
set_option linter.unusedSimpArgs false
open Go.RowKit

theorem hp_two {w : World} {b : Nat} {a0 a1 : Value} {t : TypeId} (h : w.heap[b]? = some (.cells #[a0, a1] t (0, 0))) : w.cell? ⟨b, 0, none⟩ = some a0 ∧ w.cell? ⟨b, 1, none⟩ = some a1 := (pair_facts h).2.2
set_option maxHeartbeats 8000000 in
set_option maxRecDepth 100000 in
theorem hnone_all (o : Int) (n : ByteArray) (z : Int) (w : World) (hP : ∀ w', Below w.heap.size w w' → P10 w') : Calls Tryz.prog 7 #[.int .i64 o, .agg #[.string n, .int .i64 z]] w fun e w' => e = .returned (.bool true) ∧ Below w.heap.size w w' := by
  obtain ⟨W1, hW1⟩ : ∃ W1, w.alloc (.cells #[.string n, .int .i64 z] 31) = W1 := ⟨_, rfl⟩
  have b1 : Below w.heap.size w W1 := by rw [← hW1]; exact (Below.refl _ _).alloc (Nat.le_refl _) _
  have q1 : W1.heap[w.heap.size]? = some (.cells #[.string n, .int .i64 z] 31 (0, 0)) := by rw [← hW1]; exact World.alloc_heap_new _ _
  obtain ⟨b0, hb0⟩ : ∃ b0, w.heap.size = b0 := ⟨_, rfl⟩
  rw [hb0] at q1
  have HAW := Hid.mk' (awake15 W1 (hP _ b1) (fun w' hw' => hP _ (b1.trans (hw'.mono b1.size))))
  have HB1 := Hid.mk' b1
  have HQ1 := Hid.mk' q1
  have HH1 := Hid.mk' hW1
  clear b1 q1 hW1 hP
  go_enter Tryz.func7, Tryz.ntmps7
  go_wp2_with fail
  rw [HH1.out]
  refine HAW.out.mono ?_
  rintro e w2 ⟨rfl, b2⟩
  obtain ⟨W4, hW4⟩ : ∃ W4, (w2.alloc (.cells #[.pointer none, .int .i64 0, .int .i64 0, .pointer none, .slice none 0 0] 66)).alloc (.cells #[.pointer none, .pointer (some ⟨w2.heap.size, 0, none⟩)] 25) = W4 := ⟨_, rfl⟩
  have b4 : Below w2.heap.size w2 W4 := by rw [← hW4]; exact ((Below.refl _ _).alloc (Nat.le_refl _) _).alloc (by simp) _
  have q4 : W4.heap[w2.heap.size]? = some (.cells #[.pointer none, .int .i64 0, .int .i64 0, .pointer none, .slice none 0 0] 66 (0, 0)) := by rw [← hW4]; exact sh_old (by simp) (sh_new rfl)
  have q5 : W4.heap[w2.heap.size + 1]? = some (.cells #[.pointer none, .pointer (some ⟨w2.heap.size, 0, none⟩)] 25 (0, 0)) := by rw [← hW4]; exact sh_new (by simp)
  obtain ⟨tb, htb⟩ : ∃ tb, w2.heap.size = tb := ⟨_, rfl⟩
  rw [htb] at q4 q5
  have HB2 := Hid.mk' (HB1.out.trans (b2.mono HB1.out.size))
  have HB4 : Hid (Below w.heap.size w W4) := Hid.mk' (HB2.out.trans (b4.mono HB2.out.size))
  have qk : W4.heap[b0]? = some (.cells #[.string n, .int .i64 z] 31 (0, 0)) := (b4.block b0 (Nat.lt_of_lt_of_le (Array.getElem?_eq_some_iff.1 HQ1.out).1 b2.size)).trans ((b2.block b0 (Array.getElem?_eq_some_iff.1 HQ1.out).1).trans HQ1.out)
  have HCE : Hid (∀ W, Below W4.heap.size W4 W → W.cell? ⟨b0, 0, none⟩ = some (.string n) ∧ W.cell? ⟨b0, 1, none⟩ = some (.int .i64 z) ∧ W.cell? ⟨tb + 1, 0, none⟩ = some (.pointer none) ∧ W.cell? ⟨tb + 1, 1, none⟩ = some (.pointer (some ⟨tb, 0, none⟩)) ∧ Un (.pointer (some ⟨tb, 0, none⟩)) W) := Hid.mk' (fun W hW => by
    obtain ⟨e0, e1⟩ := hp_two ((hW.block b0 (Array.getElem?_eq_some_iff.1 qk).1).trans qk)
    obtain ⟨e2, e3⟩ := hp_two ((hW.block (tb + 1) (Array.getElem?_eq_some_iff.1 q5).1).trans q5)
    have e4 := (hW.block tb (Array.getElem?_eq_some_iff.1 q4).1).trans q4
    exact ⟨e0, e1, e2, e3, .inr ⟨tb, rfl, by simp [World.cell?, e4]⟩⟩)
  have HH4 := Hid.mk' hW4
  rw [htb] at HH4
  clear b2 b4 q4 q5 qk hW4
  have hst := st_float
  go_upto_region 5 with fail
  rw [HH4.out]
  go_loopw [19] (fun v wr => ∃ i : Nat, v = .int .i64 (i : Int) ∧ i ≤ 2 ∧ Hid (Below W4.heap.size W4 wr)) (fun v wr => 2 - (intOf v).toNat)
  case atStart => exact ⟨0, rfl, by omega, Hid.mk' (Below.refl _ _)⟩
  case round =>
    obtain ⟨i, rfl, hi, HBW⟩ := hrel
    obtain rfl | rfl | rfl : i = 0 ∨ i = 1 ∨ i = 2 := by omega
    · clear hi
      have hU : Un (.pointer none) wr := .inl rfl
      have HU := Hid.mk' (fun (W : World) (hW : Below wr.heap.size wr W) => hU.below hW)
      have HKC : Hid (∀ W, Below wr.heap.size wr W → W.cell? ⟨b0, 0, none⟩ = some (.string n) ∧ W.cell? ⟨b0, 1, none⟩ = some (.int .i64 z)) := Hid.mk' (fun W hW => by
        obtain ⟨e0, e1, _⟩ := HCE.out W (HBW.out.trans (hW.mono HBW.out.size))
        exact ⟨e0, e1⟩)
      obtain ⟨k0, k1, k2, k3, _⟩ := HCE.out wr HBW.out
      have HMk := Hid.mk' (hmake_no (.pointer none) 0 0 wr hU)
      have HOw := Hid.mk' (hown_no (.pointer none) o n z wr hU)
      unfold zprop zv at HOw
      simp only [List.cons_append, List.nil_append] at HOw
      clear hU
      go_wp2_with fail
      refine HMk.out.mono ?_
      rintro e w4 ⟨rfl, rfl⟩
      go_wp2_with fail
      refine HOw.out.mono ?_
      rintro e w5 ⟨rfl, b5⟩
      obtain ⟨W6, hW6⟩ : ∃ W6, w5.alloc (.cells #[.int .i64 0, .float .f64 0, .string ⟨#[]⟩, .int .i64 0, .int .i64 0, .float .f64 0, .string ⟨#[]⟩, .int .i64 0, .int .i64 0, .float .f64 0, .string ⟨#[]⟩, .int .i64 0, .int .i64 0] 36) = W6 := ⟨_, rfl⟩
      have HB6 : Hid (Below w4.heap.size w4 W6) := Hid.mk' (by rw [← hW6]; exact b5.alloc b5.size _)
      have hU6 := HU.out W6 HB6.out
      have H1 := Hid.mk' (hhas_no (.pointer none) o W6 hU6)
      have H2 := Hid.mk' (hclass_no (.pointer none) o W6 hU6)
      have H3 := Hid.mk' (hproto_no (.pointer none) o W6 hU6)
      have H4 := Hid.mk' (hsetProto_no (.pointer none) o 0 W6 hU6)
      have H5 := Hid.mk' (hopen_no (.pointer none) o W6 hU6)
      have H6 := Hid.mk' (hshut_no (.pointer none) o W6 hU6)
      have H7 := Hid.mk' (hput_no (.pointer none) o n z #[.int .i64 0, .float .f64 0, .string ⟨#[]⟩, .int .i64 0, .int .i64 0, .float .f64 0, .string ⟨#[]⟩, .int .i64 0, .int .i64 0, .float .f64 0, .string ⟨#[]⟩, .int .i64 0, .int .i64 0] W6 hU6)
      have HH6 := Hid.mk' hW6
      clear k0 k1 k2 k3 b5 hU6 hW6
      go_wp2_with fail
      rw [HH6.out]
      obtain ⟨k0, k1⟩ := HKC.out W6 HB6.out
      refine H1.out.mono ?_
      rintro e wx ⟨rfl, hwx⟩
      rw [hwx]
      clear hwx wx
      go_wp2_with (first | (go_at_call 27; refine H2.out.mono ?_; rintro e wx ⟨rfl, hwx⟩; rw [hwx]; clear hwx wx) | (go_at_call 28; refine H3.out.mono ?_; rintro e wx ⟨rfl, hwx⟩; rw [hwx]; clear hwx wx) | (go_at_call 29; refine H4.out.mono ?_; rintro e wx ⟨rfl, hwx⟩; rw [hwx]; clear hwx wx) | (go_at_call 30; refine H5.out.mono ?_; rintro e wx ⟨rfl, hwx⟩; rw [hwx]; clear hwx wx) | (go_at_call 31; refine H6.out.mono ?_; rintro e wx ⟨rfl, hwx⟩; rw [hwx]; clear hwx wx))
      refine H7.out.mono ?_
      rintro e w7 ⟨rfl, b7⟩
      have HB7 := Hid.mk' (HB6.out.trans (b7.mono HB6.out.size))
      have H8 := Hid.mk' (hdrop_no (.pointer none) o n z w7 (HU.out w7 HB7.out))
      clear k0 k1 b7
      obtain ⟨k0, k1⟩ := HKC.out w7 HB7.out
      go_wp2_with fail
      refine H8.out.mono ?_
      rintro e w8 ⟨rfl, b8⟩
      have HB8 := Hid.mk' (HB7.out.trans (b8.mono HB7.out.size))
      have hU8 := HU.out w8 HB8.out
      have H9 := Hid.mk' (hkeys_no (.pointer none) o w8 hU8)
      have H10 := Hid.mk' (hforce_no (.pointer none) o w8 hU8)
      have H11 := Hid.mk' (hfast_no (.pointer none) o w8 hU8)
      have H12 := Hid.mk' (hused_no (.pointer none) w8 hU8)
      have H13 := Hid.mk' (hlen_no (.pointer none) w8 hU8)
      clear k0 k1 b8 hU8
      go_wp2_with (first | (go_at_call 20; refine H9.out.mono ?_; rintro e wx ⟨rfl, hwx⟩; rw [hwx]; clear hwx wx) | (go_at_call 15; refine H10.out.mono ?_; rintro e wx ⟨rfl, hwx⟩; rw [hwx]; clear hwx wx) | (go_at_call 23; refine H11.out.mono ?_; rintro e wx ⟨rfl, hwx⟩; rw [hwx]; clear hwx wx) | (go_at_call 21; refine H12.out.mono ?_; rintro e wx ⟨rfl, hwx⟩; rw [hwx]; clear hwx wx) | (go_at_call 19; refine H13.out.mono ?_; rintro e wx ⟨rfl, hwx⟩; rw [hwx]; clear hwx wx))
      go_roundw
      case rel => exact ⟨1, rfl, by omega, Hid.mk' (HBW.out.trans (HB8.out.mono HBW.out.size))⟩
      case measure => decide
    · clear hi
      have hU : Un (.pointer (some ⟨tb, 0, none⟩)) wr := (HCE.out wr HBW.out).2.2.2.2
      have HU := Hid.mk' (fun (W : World) (hW : Below wr.heap.size wr W) => hU.below hW)
      have HKC : Hid (∀ W, Below wr.heap.size wr W → W.cell? ⟨b0, 0, none⟩ = some (.string n) ∧ W.cell? ⟨b0, 1, none⟩ = some (.int .i64 z)) := Hid.mk' (fun W hW => by
        obtain ⟨e0, e1, _⟩ := HCE.out W (HBW.out.trans (hW.mono HBW.out.size))
        exact ⟨e0, e1⟩)
      obtain ⟨k0, k1, k2, k3, _⟩ := HCE.out wr HBW.out
      have HMk := Hid.mk' (hmake_no (.pointer (some ⟨tb, 0, none⟩)) 0 0 wr hU)
      have HOw := Hid.mk' (hown_no (.pointer (some ⟨tb, 0, none⟩)) o n z wr hU)
      unfold zprop zv at HOw
      simp only [List.cons_append, List.nil_append] at HOw
      clear hU
      go_wp2_with fail
      refine HMk.out.mono ?_
      rintro e w4 ⟨rfl, rfl⟩
      go_wp2_with fail
      refine HOw.out.mono ?_
      rintro e w5 ⟨rfl, b5⟩
      obtain ⟨W6, hW6⟩ : ∃ W6, w5.alloc (.cells #[.int .i64 0, .float .f64 0, .string ⟨#[]⟩, .int .i64 0, .int .i64 0, .float .f64 0, .string ⟨#[]⟩, .int .i64 0, .int .i64 0, .float .f64 0, .string ⟨#[]⟩, .int .i64 0, .int .i64 0] 36) = W6 := ⟨_, rfl⟩
      have HB6 : Hid (Below w4.heap.size w4 W6) := Hid.mk' (by rw [← hW6]; exact b5.alloc b5.size _)
      have hU6 := HU.out W6 HB6.out
      have H1 := Hid.mk' (hhas_no (.pointer (some ⟨tb, 0, none⟩)) o W6 hU6)
      have H2 := Hid.mk' (hclass_no (.pointer (some ⟨tb, 0, none⟩)) o W6 hU6)
      have H3 := Hid.mk' (hproto_no (.pointer (some ⟨tb, 0, none⟩)) o W6 hU6)
      have H4 := Hid.mk' (hsetProto_no (.pointer (some ⟨tb, 0, none⟩)) o 0 W6 hU6)
      have H5 := Hid.mk' (hopen_no (.pointer (some ⟨tb, 0, none⟩)) o W6 hU6)
      have H6 := Hid.mk' (hshut_no (.pointer (some ⟨tb, 0, none⟩)) o W6 hU6)
      have H7 := Hid.mk' (hput_no (.pointer (some ⟨tb, 0, none⟩)) o n z #[.int .i64 0, .float .f64 0, .string ⟨#[]⟩, .int .i64 0, .int .i64 0, .float .f64 0, .string ⟨#[]⟩, .int .i64 0, .int .i64 0, .float .f64 0, .string ⟨#[]⟩, .int .i64 0, .int .i64 0] W6 hU6)
      have HH6 := Hid.mk' hW6
      clear k0 k1 k2 k3 b5 hU6 hW6
      go_wp2_with fail
      rw [HH6.out]
      obtain ⟨k0, k1⟩ := HKC.out W6 HB6.out
      refine H1.out.mono ?_
      rintro e wx ⟨rfl, hwx⟩
      rw [hwx]
      clear hwx wx
      go_wp2_with (first | (go_at_call 27; refine H2.out.mono ?_; rintro e wx ⟨rfl, hwx⟩; rw [hwx]; clear hwx wx) | (go_at_call 28; refine H3.out.mono ?_; rintro e wx ⟨rfl, hwx⟩; rw [hwx]; clear hwx wx) | (go_at_call 29; refine H4.out.mono ?_; rintro e wx ⟨rfl, hwx⟩; rw [hwx]; clear hwx wx) | (go_at_call 30; refine H5.out.mono ?_; rintro e wx ⟨rfl, hwx⟩; rw [hwx]; clear hwx wx) | (go_at_call 31; refine H6.out.mono ?_; rintro e wx ⟨rfl, hwx⟩; rw [hwx]; clear hwx wx))
      refine H7.out.mono ?_
      rintro e w7 ⟨rfl, b7⟩
      have HB7 := Hid.mk' (HB6.out.trans (b7.mono HB6.out.size))
      have H8 := Hid.mk' (hdrop_no (.pointer (some ⟨tb, 0, none⟩)) o n z w7 (HU.out w7 HB7.out))
      clear k0 k1 b7
      obtain ⟨k0, k1⟩ := HKC.out w7 HB7.out
      go_wp2_with fail
      refine H8.out.mono ?_
      rintro e w8 ⟨rfl, b8⟩
      have HB8 := Hid.mk' (HB7.out.trans (b8.mono HB7.out.size))
      have hU8 := HU.out w8 HB8.out
      have H9 := Hid.mk' (hkeys_no (.pointer (some ⟨tb, 0, none⟩)) o w8 hU8)
      have H10 := Hid.mk' (hforce_no (.pointer (some ⟨tb, 0, none⟩)) o w8 hU8)
      have H11 := Hid.mk' (hfast_no (.pointer (some ⟨tb, 0, none⟩)) o w8 hU8)
      have H12 := Hid.mk' (hused_no (.pointer (some ⟨tb, 0, none⟩)) w8 hU8)
      have H13 := Hid.mk' (hlen_no (.pointer (some ⟨tb, 0, none⟩)) w8 hU8)
      clear k0 k1 b8 hU8
      go_wp2_with (first | (go_at_call 20; refine H9.out.mono ?_; rintro e wx ⟨rfl, hwx⟩; rw [hwx]; clear hwx wx) | (go_at_call 15; refine H10.out.mono ?_; rintro e wx ⟨rfl, hwx⟩; rw [hwx]; clear hwx wx) | (go_at_call 23; refine H11.out.mono ?_; rintro e wx ⟨rfl, hwx⟩; rw [hwx]; clear hwx wx) | (go_at_call 21; refine H12.out.mono ?_; rintro e wx ⟨rfl, hwx⟩; rw [hwx]; clear hwx wx) | (go_at_call 19; refine H13.out.mono ?_; rintro e wx ⟨rfl, hwx⟩; rw [hwx]; clear hwx wx))
      go_roundw
      case rel => exact ⟨2, rfl, by omega, Hid.mk' (HBW.out.trans (HB8.out.mono HBW.out.size))⟩
      case measure => decide
    · clear hi
      rw [show ((2 : Nat) : Int) = (2 : Int) from rfl]
      go_wp2
      go_ret
      exact ⟨rfl, HB4.out.trans (HBW.out.mono HB4.out.size)⟩
theorem hnone_walk (o : Int) (s : ByteArray) (z : Int) (w : World) (h0 : Lit.wf (.int .i64 o) = true) (h1 : (s.size : Int) ≤ 140737488351232) (h2 : Lit.wf (.int .i64 z) = true) (hP : P10 w) : Calls Tryz.prog 7 #[.int .i64 o, .agg #[.string s, .int .i64 z]] w fun e w' => e = .returned (.bool true) ∧ Below w.heap.size w w' :=
  hnone_all o s z w (fun w' h => hP.below h)
end Go.Proofs.YtmgngbhkgmkggaaGreatDoor
