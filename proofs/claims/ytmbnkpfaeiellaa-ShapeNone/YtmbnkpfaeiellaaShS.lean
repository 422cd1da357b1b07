/- ShapeNone: a tree that nobody made has no shapes: the law's walk. -/
import Derived.Test.YtmbnkpfaeiellaaShR
namespace Go.Proofs.Ytmbnkpfaeiellaa
set_option linter.unusedVariables false
set_option linter.unusedSimpArgs false
open Go.RowKit Go.Maps Go.ChangeShapes

theorem row_two {w : World} {b : Nat} {a0 a1 : Value} {t : TypeId} (h : w.heap[b]? = some (.cells #[a0, a1] t (0, 0))) : w.cell? ⟨b, 0, none⟩ = some a0 ∧ w.cell? ⟨b, 1, none⟩ = some a1 := ⟨(pair_facts h).2.2.1, (pair_facts h).2.2.2⟩

set_option maxHeartbeats 8000000 in
set_option maxRecDepth 100000 in
theorem none_all (n : ByteArray) (z s : Int) (w : World) (hn : (n.size : Int) ≤ 140737488351232) :
    Calls Try.prog 6 #[.agg #[.string n, .int .i64 z], .int .i64 s] w fun e w' => e = .returned (.bool true) ∧ Below w.heap.size w w' := by
  obtain ⟨W1, hW1⟩ : ∃ W1, w.alloc (.cells #[.string n, .int .i64 z] 31) = W1 := ⟨_, rfl⟩
  have b1 : Below w.heap.size w W1 := by rw [← hW1]; exact (Below.refl _ _).alloc (Nat.le_refl _) _
  have q1 : W1.heap[w.heap.size]? = some (.cells #[.string n, .int .i64 z] 31 (0, 0)) := by rw [← hW1]; exact World.alloc_heap_new _ _
  obtain ⟨b0, hb0⟩ : ∃ b0, w.heap.size = b0 := ⟨_, rfl⟩
  rw [hb0] at q1
  have HS0 := Hid.mk' hb0
  have HAW := Hid.mk' (awake14 W1)
  have HB1 := Hid.mk' b1
  have HQ1 := Hid.mk' q1
  have HN := Hid.mk' hn
  clear b1 q1 hn
  go_enter Try.func6, Try.ntmps6
  go_wp2_with fail
  refine HAW.out.mono ?_
  rintro e w2 ⟨rfl, b2⟩
  have q2 := (b2.block b0 (Array.getElem?_eq_some_iff.1 HQ1.out).1).trans HQ1.out
  have HB2 : Hid (Below w.heap.size w w2) := Hid.mk' (HB1.out.trans (b2.mono HB1.out.size))
  have HQ2 := Hid.mk' q2
  clear b2 q2 hW1
  have HTB0 : Hid (b0 < w2.heap.size) := Hid.mk' (Array.getElem?_eq_some_iff.1 HQ2.out).1
  obtain ⟨W4, hW4⟩ : ∃ W4, (w2.alloc (.cells #[.pointer none, .map none, .slice none 0 0, .slice none 0 0, .map none] 62)).alloc (.cells #[.pointer none, .pointer (some ⟨w2.heap.size, 0, none⟩)] 25) = W4 := ⟨_, rfl⟩
  have b4 : Below w2.heap.size w2 W4 := by rw [← hW4]; exact ((Below.refl _ _).alloc (Nat.le_refl _) _).alloc (by simp) _
  have q4 : W4.heap[w2.heap.size]? = some (.cells #[.pointer none, .map none, .slice none 0 0, .slice none 0 0, .map none] 62 (0, 0)) := by rw [← hW4]; exact sh_old (by simp) (sh_new rfl)
  have q5 : W4.heap[w2.heap.size + 1]? = some (.cells #[.pointer none, .pointer (some ⟨w2.heap.size, 0, none⟩)] 25 (0, 0)) := by rw [← hW4]; exact sh_new (by simp)
  have q6 := (b4.block b0 HTB0.out).trans HQ2.out
  obtain ⟨tb, htb⟩ : ∃ tb, w2.heap.size = tb := ⟨_, rfl⟩
  rw [htb] at q4 q5
  have HTB : Hid (tb < W4.heap.size) := Hid.mk' (Array.getElem?_eq_some_iff.1 q4).1
  have HCE : Hid (∀ W, Below W4.heap.size W4 W → W.cell? ⟨b0, 0, none⟩ = some (.string n) ∧ W.cell? ⟨b0, 1, none⟩ = some (.int .i64 z) ∧ W.cell? ⟨tb + 1, 0, none⟩ = some (.pointer none) ∧ W.cell? ⟨tb + 1, 1, none⟩ = some (.pointer (some ⟨tb, 0, none⟩)) ∧ Un (.pointer (some ⟨tb, 0, none⟩)) W) := Hid.mk' (fun W hW => by
    obtain ⟨e0, e1⟩ := row_two ((hW.block b0 (Array.getElem?_eq_some_iff.1 q6).1).trans q6)
    obtain ⟨e2, e3⟩ := row_two ((hW.block (tb + 1) (Array.getElem?_eq_some_iff.1 q5).1).trans q5)
    have e4 := (hW.block tb (Array.getElem?_eq_some_iff.1 q4).1).trans q4
    exact ⟨e0, e1, e2, e3, .inr ⟨tb, rfl, by simp [World.cell?, e4]⟩⟩)
  have HB4 : Hid (Below w.heap.size w W4) := Hid.mk' (HB2.out.trans (b4.mono HB2.out.size))
  have HH4 := Hid.mk' hW4
  rw [htb] at HH4
  clear b4 q4 q5 q6 hW4
  go_upto_region 5 with fail
  rw [HH4.out]
  go_loopw [32] (fun v wr => ∃ i : Nat, v = .int .i64 (i : Int) ∧ i ≤ 2 ∧ Hid (Below W4.heap.size W4 wr)) (fun v wr => 2 - (intOf v).toNat)
  case atStart => exact ⟨0, rfl, by omega, Hid.mk' (Below.refl _ _)⟩
  case round =>
    obtain ⟨i, rfl, hi, HBW⟩ := hrel
    obtain rfl | rfl | rfl : i = 0 ∨ i = 1 ∨ i = 2 := by omega
    · clear hi
      have hU : Un (.pointer none) wr := (.inl rfl)
      obtain ⟨k0, k1, k2, k3, _⟩ := HCE.out wr HBW.out
      have HA := Hid.mk' (add_no (.pointer none) s 7 n z wr hU)
      have HU := Hid.mk' (fun (W : World) (hW : Below wr.heap.size wr W) => hU.below hW)
      have HKC : Hid (∀ W, Below wr.heap.size wr W → W.cell? ⟨b0, 0, none⟩ = some (.string n) ∧ W.cell? ⟨b0, 1, none⟩ = some (.int .i64 z)) := Hid.mk' (fun W hW => by
        obtain ⟨e0, e1, _⟩ := HCE.out W (HBW.out.trans (hW.mono HBW.out.size))
        exact ⟨e0, e1⟩)
      clear hU
      go_wp2_with fail
      refine HA.out.mono ?_
      rintro e w5 ⟨rfl, b5⟩
      have HC5 := Hid.mk' (change_no (.pointer none) s 7 n z w5 (HU.out w5 b5))
      have HB5 := Hid.mk' b5
      clear k0 k1 k2 k3 b5
      obtain ⟨k0, k1⟩ := HKC.out w5 HB5.out
      go_wp2_with fail
      refine HC5.out.mono ?_
      rintro e w6 ⟨rfl, b6⟩
      have HB6 := Hid.mk' (HB5.out.trans (b6.mono HB5.out.size))
      have HK6 := Hid.mk' (keys_no (.pointer none) s w6 (HU.out w6 HB6.out))
      clear k0 k1 b6
      obtain ⟨k0, k1⟩ := HKC.out w6 HB6.out
      go_wp2_with fail
      refine HK6.out.mono ?_
      rintro e w6' ⟨rfl, rfl⟩
      have HF6 := Hid.mk' (find_no (.pointer none) s n z w6' (HU.out w6' HB6.out))
      go_wp2_with fail
      refine HF6.out.mono ?_
      rintro e w7 ⟨rfl, b7⟩
      have HB7 := Hid.mk' (HB6.out.trans (b7.mono HB6.out.size))
      clear k0 k1 b7
      obtain ⟨k0, k1⟩ := HKC.out w7 HB7.out
      go_upto_region 11 with fail
      go_cut [17, 18, 19] from 64 to 94 (fun v17 v18 v19 wc => v17 = .int .i64 0 ∧ v18 = .int .i64 0 ∧ v19 = .bool false ∧ Hid (Below wr.heap.size wr wc))
      case first =>
        go_region_held3 (fun w' => w'.cell? ⟨b0, 0, none⟩ = some (.string n) ∧ w'.cell? ⟨b0, 1, none⟩ = some (.int .i64 z)) (go_keep) (first
          | (go_at_call 17; refine (newCache_any _).mono ?_; rintro e w8 ⟨rfl, hC8, b8⟩; have hb8 := below_from_drew b8; have HB8 := Hid.mk' hb8; have r0 := (HKC.out w8 (HB7.out.trans (hb8.mono HB7.out.size))).1; have r1 := (HKC.out w8 (HB7.out.trans (hb8.mono HB7.out.size))).2; have HCD := Hid.mk' (cached_un none w7.heap.size s z n w8 (HU.out w8 (HB7.out.trans (hb8.mono HB7.out.size))) (fun g e => by cases e) hC8 HN.out); clear hC8 b8 hb8)
          | (go_at_call 19; refine HCD.out.mono ?_; rintro e w9 ⟨rfl, b9⟩; have HB9 : Hid (Below wr.heap.size wr w9) := Hid.mk' (HB7.out.trans ((HB8.out.trans b9).mono HB7.out.size)); have r2 := (HKC.out w9 HB9.out).1; have r3 := (HKC.out w9 HB9.out).2; clear b9))
        all_goals
          go_wp2_with fail
          go_meet
          exact ⟨rfl, rfl, rfl, HB9⟩
      case rest =>
        obtain ⟨rfl, rfl, rfl, HB10⟩ := hcut
        have HL := Hid.mk' (len_no (.pointer none) wc (HU.out wc HB10.out))
        clear k0 k1
        go_wp2_with fail
        refine HL.out.mono ?_
        rintro e w11 ⟨rfl, rfl⟩
        go_wp2
        go_roundw
        case rel => exact ⟨1, rfl, by omega, Hid.mk' (HBW.out.trans (HB10.out.mono HBW.out.size))⟩
        case measure => decide
    · clear hi
      have hU : Un (.pointer (some ⟨tb, 0, none⟩)) wr := (HCE.out wr HBW.out).2.2.2.2
      obtain ⟨k0, k1, k2, k3, _⟩ := HCE.out wr HBW.out
      have HA := Hid.mk' (add_no (.pointer (some ⟨tb, 0, none⟩)) s 7 n z wr hU)
      have HU := Hid.mk' (fun (W : World) (hW : Below wr.heap.size wr W) => hU.below hW)
      have HKC : Hid (∀ W, Below wr.heap.size wr W → W.cell? ⟨b0, 0, none⟩ = some (.string n) ∧ W.cell? ⟨b0, 1, none⟩ = some (.int .i64 z)) := Hid.mk' (fun W hW => by
        obtain ⟨e0, e1, _⟩ := HCE.out W (HBW.out.trans (hW.mono HBW.out.size))
        exact ⟨e0, e1⟩)
      clear hU
      go_wp2_with fail
      refine HA.out.mono ?_
      rintro e w5 ⟨rfl, b5⟩
      have HC5 := Hid.mk' (change_no (.pointer (some ⟨tb, 0, none⟩)) s 7 n z w5 (HU.out w5 b5))
      have HB5 := Hid.mk' b5
      clear k0 k1 k2 k3 b5
      obtain ⟨k0, k1⟩ := HKC.out w5 HB5.out
      go_wp2_with fail
      refine HC5.out.mono ?_
      rintro e w6 ⟨rfl, b6⟩
      have HB6 := Hid.mk' (HB5.out.trans (b6.mono HB5.out.size))
      have HK6 := Hid.mk' (keys_no (.pointer (some ⟨tb, 0, none⟩)) s w6 (HU.out w6 HB6.out))
      clear k0 k1 b6
      obtain ⟨k0, k1⟩ := HKC.out w6 HB6.out
      go_wp2_with fail
      refine HK6.out.mono ?_
      rintro e w6' ⟨rfl, rfl⟩
      have HF6 := Hid.mk' (find_no (.pointer (some ⟨tb, 0, none⟩)) s n z w6' (HU.out w6' HB6.out))
      go_wp2_with fail
      refine HF6.out.mono ?_
      rintro e w7 ⟨rfl, b7⟩
      have HB7 := Hid.mk' (HB6.out.trans (b7.mono HB6.out.size))
      clear k0 k1 b7
      obtain ⟨k0, k1⟩ := HKC.out w7 HB7.out
      go_upto_region 11 with fail
      go_cut [17, 18, 19] from 64 to 94 (fun v17 v18 v19 wc => v17 = .int .i64 0 ∧ v18 = .int .i64 0 ∧ v19 = .bool false ∧ Hid (Below wr.heap.size wr wc))
      case first =>
        go_region_held3 (fun w' => w'.cell? ⟨b0, 0, none⟩ = some (.string n) ∧ w'.cell? ⟨b0, 1, none⟩ = some (.int .i64 z)) (go_keep) (first
          | (go_at_call 17; refine (newCache_any _).mono ?_; rintro e w8 ⟨rfl, hC8, b8⟩; have hb8 := below_from_drew b8; have HB8 := Hid.mk' hb8; have r0 := (HKC.out w8 (HB7.out.trans (hb8.mono HB7.out.size))).1; have r1 := (HKC.out w8 (HB7.out.trans (hb8.mono HB7.out.size))).2; have HCD := Hid.mk' (cached_un (some ⟨tb, 0, none⟩) w7.heap.size s z n w8 (HU.out w8 (HB7.out.trans (hb8.mono HB7.out.size))) (fun g e => by cases e; exact Nat.lt_of_lt_of_le HTB.out (Nat.le_trans HBW.out.size HB7.out.size)) hC8 HN.out); clear hC8 b8 hb8)
          | (go_at_call 19; refine HCD.out.mono ?_; rintro e w9 ⟨rfl, b9⟩; have HB9 : Hid (Below wr.heap.size wr w9) := Hid.mk' (HB7.out.trans ((HB8.out.trans b9).mono HB7.out.size)); have r2 := (HKC.out w9 HB9.out).1; have r3 := (HKC.out w9 HB9.out).2; clear b9))
        all_goals
          go_wp2_with fail
          go_meet
          exact ⟨rfl, rfl, rfl, HB9⟩
      case rest =>
        obtain ⟨rfl, rfl, rfl, HB10⟩ := hcut
        have HL := Hid.mk' (len_no (.pointer (some ⟨tb, 0, none⟩)) wc (HU.out wc HB10.out))
        clear k0 k1
        go_wp2_with fail
        refine HL.out.mono ?_
        rintro e w11 ⟨rfl, rfl⟩
        go_wp2
        go_roundw
        case rel => exact ⟨2, rfl, by omega, Hid.mk' (HBW.out.trans (HB10.out.mono HBW.out.size))⟩
        case measure => decide
    · clear hi
      rw [show ((2 : Nat) : Int) = (2 : Int) from rfl]
      obtain ⟨W5, hW5⟩ : ∃ W5, (wr.alloc (.cells #[.pointer none, .pointer none, .int .i64 0, .int .i64 0] 75)).alloc (.cells #[.pointer none, .pointer (some ⟨wr.heap.size, 0, none⟩)] 45) = W5 := ⟨_, rfl⟩
      have b5 : Below wr.heap.size wr W5 := by rw [← hW5]; exact ((Below.refl _ _).alloc (Nat.le_refl _) _).alloc (by simp) _
      have q4 : W5.heap[wr.heap.size]? = some (.cells #[.pointer none, .pointer none, .int .i64 0, .int .i64 0] 75 (0, 0)) := by rw [← hW5]; exact sh_old (by simp) (sh_new rfl)
      have q5 : W5.heap[wr.heap.size + 1]? = some (.cells #[.pointer none, .pointer (some ⟨wr.heap.size, 0, none⟩)] 45 (0, 0)) := by rw [← hW5]; exact sh_new (by simp)
      obtain ⟨ub, hub⟩ : ∃ ub, wr.heap.size = ub := ⟨_, rfl⟩
      rw [hub] at q4 q5
      have HCF : Hid (∀ W, Below W5.heap.size W5 W → W.cell? ⟨ub + 1, 0, none⟩ = some (.pointer none) ∧ W.cell? ⟨ub + 1, 1, none⟩ = some (.pointer (some ⟨ub, 0, none⟩)) ∧ Un (.pointer (some ⟨ub, 0, none⟩)) W) := Hid.mk' (fun W hW => by
        obtain ⟨e2, e3⟩ := row_two ((hW.block (ub + 1) (Array.getElem?_eq_some_iff.1 q5).1).trans q5)
        have e4 := (hW.block ub (Array.getElem?_eq_some_iff.1 q4).1).trans q4
        exact ⟨e2, e3, .inr ⟨ub, rfl, by simp [World.cell?, e4]⟩⟩)
      have HB5 : Hid (Below w.heap.size w W5) := Hid.mk' ((HB4.out.trans (HBW.out.mono HB4.out.size)).trans (b5.mono (HB4.out.trans (HBW.out.mono HB4.out.size)).size))
      have HH5 := Hid.mk' hW5
      rw [hub] at HH5
      clear b5 q4 q5 hW5
      go_upto_region 17 with fail
      rw [HH5.out]
      go_loopw [100] (fun v wq => ∃ i : Nat, v = .int .i64 (i : Int) ∧ i ≤ 2 ∧ Hid (Below W5.heap.size W5 wq)) (fun v wq => 2 - (intOf v).toNat)
      case atStart => exact ⟨0, rfl, by omega, Hid.mk' (Below.refl _ _)⟩
      case round =>
        obtain ⟨i, rfl, hi, HBQ⟩ := hrel
        obtain rfl | rfl | rfl : i = 0 ∨ i = 1 ∨ i = 2 := by omega
        · clear hi
          have hU : Un (.pointer none) wr := (.inl rfl)
          obtain ⟨k0, k1, _⟩ := HCF.out wr HBQ.out
          have HF := Hid.mk' (flush_no (.pointer none) wr hU)
          have HK := Hid.mk' (asked_no (.pointer none) wr hU)
          clear hU
          go_wp2_with fail
          refine HF.out.mono ?_
          rintro e w5 ⟨rfl, rfl⟩
          go_wp2_with fail
          refine HK.out.mono ?_
          rintro e w6 ⟨rfl, rfl⟩
          go_wp2
          go_roundw
          case rel => exact ⟨1, rfl, by omega, HBQ⟩
          case measure => decide
        · clear hi
          have hU : Un (.pointer (some ⟨ub, 0, none⟩)) wr := (HCF.out wr HBQ.out).2.2
          obtain ⟨k0, k1, _⟩ := HCF.out wr HBQ.out
          have HF := Hid.mk' (flush_no (.pointer (some ⟨ub, 0, none⟩)) wr hU)
          have HK := Hid.mk' (asked_no (.pointer (some ⟨ub, 0, none⟩)) wr hU)
          clear hU
          go_wp2_with fail
          refine HF.out.mono ?_
          rintro e w5 ⟨rfl, rfl⟩
          go_wp2_with fail
          refine HK.out.mono ?_
          rintro e w6 ⟨rfl, rfl⟩
          go_wp2
          go_roundw
          case rel => exact ⟨2, rfl, by omega, HBQ⟩
          case measure => decide
        · clear hi
          go_wp2
          go_ret
          exact ⟨rfl, HB5.out.trans (HBQ.out.mono HB5.out.size)⟩
end Go.Proofs.Ytmbnkpfaeiellaa
