/- The document's reader of modules: its state, numbers. -/
import Derived.Test.YtkgjmiadgfcbnaaGreatDoorCdI
namespace Go.Proofs.YtkgjmiadgfcbnaaGreatDoor
set_option linter.unusedVariables false
set_option linter.unusedSimpArgs false
open Go.RowKit

/-- The document's reader: what is left to read, or none where something was wrong. -/
structure St (W : World) (rb g : Nat) (s : Option (List UInt8)) : Prop where
  blk : ∃ a n c, W.heap[rb]? = some (.cells #[.slice a n c, .bool s.isSome] 50 (0, 0)) ∧ ∀ L, s = some L → n = L.length ∧ ∃ o, a = some ⟨g, o, none⟩ ∧ Bs W g o L ∧ L.length ≤ c ∧ c ≤ 9223372036854775807
  ne : g ≠ rb
  glt : g < W.heap.size
theorem St.lt {W : World} {rb g : Nat} {s : Option (List UInt8)} (h : St W rb g s) : rb < W.heap.size := by
  obtain ⟨a, n, c, h1, _⟩ := h.blk
  exact (Array.getElem?_eq_some_iff.1 h1).1
theorem St.cells {W : World} {rb g : Nat} {L : List UInt8} (h : St W rb g (some L)) : ∃ o c, W.cell? ⟨rb, 0, none⟩ = some (.slice (some ⟨g, o, none⟩) L.length c) ∧ W.cell? ⟨rb, 1, none⟩ = some (.bool true) ∧ (∀ j, W.frozen? ⟨rb, j, none⟩ = false) ∧ Bs W g o L ∧ L.length ≤ c ∧ c ≤ 9223372036854775807 := by
  obtain ⟨a, n, c, h1, h2⟩ := h.blk
  obtain ⟨rfl, o, rfl, h3, h4, h5⟩ := h2 L rfl
  exact ⟨o, c, (cell_row _ _ _ _ _ h1).trans rfl, (cell_row _ _ _ _ _ h1).trans rfl, thaw_row _ _ _ _ h1, h3, h4, h5⟩
theorem St.flag {W : World} {rb g : Nat} {s : Option (List UInt8)} (h : St W rb g s) : W.cell? ⟨rb, 1, none⟩ = some (.bool s.isSome) ∧ (∀ j, W.frozen? ⟨rb, j, none⟩ = false) := by
  obtain ⟨a, n, c, h1, h2⟩ := h.blk
  exact ⟨(cell_row _ _ _ _ _ h1).trans rfl, thaw_row _ _ _ _ h1⟩
/-- The mark that something was wrong. -/
theorem St.bad {W : World} {rb g : Nat} {s : Option (List UInt8)} (h : St W rb g s) : St (W.setCell ⟨rb, 1, none⟩ (.bool false)) rb g none := by
  obtain ⟨a, n, c, h1, h2⟩ := h.blk
  exact ⟨⟨a, n, c, (set_blk _ h1).trans (by simp), fun L e => by cases e⟩, h.ne, by simpa [World.setCell] using h.glt⟩
theorem St.same {W : World} {rb g : Nat} {s : Option (List UInt8)} (h : St W rb g s) : St (W.setCell ⟨rb, 1, none⟩ (.bool s.isSome)) rb g s := by
  obtain ⟨a, n, c, h1, h2⟩ := h.blk
  exact ⟨⟨a, n, c, (set_blk _ h1).trans rfl, fun L e => by
    obtain ⟨q1, o, q2, q3, q4⟩ := h2 L e
    exact ⟨q1, o, q2, q3.fr (Fr.set _) h.ne, q4⟩⟩, h.ne, by simpa [World.setCell] using h.glt⟩
/-- Some bytes are passed over. -/
theorem St.pass {W : World} {rb g o c : Nat} {L : List UInt8} (h : St W rb g (some L)) (h0 : W.cell? ⟨rb, 0, none⟩ = some (.slice (some ⟨g, o, none⟩) L.length c)) (k : Nat) (hk : k ≤ L.length) (a : Addr) (c' : Nat) (hc : (c = k ∧ a = ⟨g, o, none⟩ ∧ c' = 0) ∨ (¬ c = k ∧ a = ⟨g, o + k, none⟩ ∧ c' = c - k)) :
    St (W.setCell ⟨rb, 0, none⟩ (.slice (some a) (L.length - k) c')) rb g (some (L.drop k)) := by
  obtain ⟨a1, n1, c1, h1, h2⟩ := h.blk
  obtain ⟨rfl, o1, rfl, h3, h4, h5⟩ := h2 L rfl
  have e := (cell_row _ rb 0 _ _ h1).symm.trans h0
  simp at e
  obtain ⟨rfl, rfl⟩ := e
  refine ⟨⟨some a, L.length - k, c', (set_blk _ h1).trans rfl, fun L' e => ?_⟩, h.ne, by simpa [World.setCell] using h.glt⟩
  cases e
  refine ⟨by simp, ?_⟩
  rcases hc with ⟨rfl, rfl, rfl⟩ | ⟨hc, rfl, rfl⟩
  · have e0 : L.drop c1 = [] := by simp; omega
    rw [e0]
    exact ⟨o1, rfl, fun j hj => absurd hj (by simp), by simp, by omega⟩
  · exact ⟨o1 + k, rfl, (h3.drop k).fr (Fr.set _) h.ne, by simp; omega, by omega⟩
theorem St.below {W W' : World} {rb g : Nat} {s : Option (List UInt8)} (h : St W rb g s) (hb : Below W.heap.size W W') : St W' rb g s := by
  obtain ⟨a, n, c, h1, h2⟩ := h.blk
  exact ⟨⟨a, n, c, (hb.block rb h.lt).trans h1, fun L e => by
    obtain ⟨q1, o, q2, q3, q4⟩ := h2 L e
    exact ⟨q1, o, q2, q3.fr (Fr.of_below hb) h.ne, q4⟩⟩, h.ne, Nat.lt_of_lt_of_le h.glt hb.size⟩
theorem St.setNew {W : World} {rb g k j : Nat} {s : Option (List UInt8)} (h : St W rb g s) (v : Value) (h1 : rb ≠ k) (h2 : g ≠ k) : St (W.setCell ⟨k, j, none⟩ v) rb g s := by
  obtain ⟨a, n, c, h3, h4⟩ := h.blk
  exact ⟨⟨a, n, c, (Below.heap_setCell _ _ _ _ h1).trans h3, fun L e => by
    obtain ⟨q1, o, q2, q3, q4⟩ := h4 L e
    exact ⟨q1, o, q2, q3.fr (Fr.set _) h2, q4⟩⟩, h.ne, by simpa [World.setCell] using h.glt⟩
theorem St.grown {rb g : Nat} {X Y : World} {s : Option (List UInt8)} {v : Option Nat} (h : St X rb g s) (hg : X.grownBy Y v) (h1 : v ≠ some rb) (h2 : v ≠ some g) : St Y rb g s := by
  obtain ⟨a, n, c, h3, h4⟩ := h.blk
  refine ⟨⟨a, n, c, (hg.block rb h.lt (Ne.symm h1)).trans h3, fun L e => ?_⟩, h.ne, Nat.lt_of_lt_of_le h.glt hg.size⟩
  obtain ⟨q1, o, q2, q3, q4⟩ := h4 L e
  refine ⟨q1, o, q2, fun j hj => ?_, q4⟩
  rw [World.cell?_of_block (w := X) (hg.block g h.glt (Ne.symm h2))]
  exact q3 j hj
/-- What a reading leaves. -/
def aft {α : Type} (p : List UInt8 → Option (α × List UInt8)) : Option (List UInt8) → Option (α × List UInt8)
  | none => none
  | some L => p L
def After {α : Type} (p : List UInt8 → Option (α × List UInt8)) (s : Option (List UInt8)) (x : α) (s' : Option (List UInt8)) : Prop := (∃ L', aft p s = some (x, L') ∧ s' = some L') ∨ (aft p s = none ∧ s' = none)
/-- A method of the document's reader. -/
def Rrs {α : Type} (p : List UInt8 → Option (α × List UInt8)) (rb g : Nat) (R : World → α → Value → Prop) (s : Option (List UInt8)) (w : World) (e : Ending) (w' : World) : Prop :=
  ∃ x v s', e = .returned v ∧ R w' x v ∧ After p s x s' ∧ St w' rb g s' ∧ Fr rb w w'
theorem sum_u (s b i : Nat) (hs : s < 128 ^ i) (hi : i ≤ 8) (hb : b < 128) : IntKind.u64.wrap ((b : Int) * 2 ^ (7 * i)) = ((b * 128 ^ i : Nat) : Int) ∧ IntKind.u64.wrap ((s : Int) + ((b * 128 ^ i : Nat) : Int)) = ((s + b * 128 ^ i : Nat) : Int) := by
  have e : (128 : Nat) ^ i = 2 ^ (7 * i) := by rw [Nat.pow_mul]
  have hm : 128 ^ (i + 1) ≤ 128 ^ 9 := Nat.pow_le_pow_right (by omega) (by omega)
  rw [Nat.pow_succ] at hm
  have hb1 : b * 128 ^ i ≤ 127 * 128 ^ i := Nat.mul_le_mul_right _ (by omega)
  have w : ∀ n : Int, 0 ≤ n → n < 2 ^ 64 → IntKind.u64.wrap n = n := fun n h0 h1 => by rw [IntKind.wrap_u64]; omega
  have hx : ((b : Int) * 2 ^ (7 * i)) = ((b * 128 ^ i : Nat) : Int) := by rw [e]; simp
  constructor
  · rw [hx, w _ (by omega) (by omega)]
  · rw [w _ (by omega) (by omega)]; omega
set_option maxHeartbeats 4000000 in
set_option maxRecDepth 100000 in
theorem rnum_some {rb g : Nat} {L : List UInt8} (w : World) (h : St w rb g (some L)) :
    Calls Tryz.prog 13 #[.pointer (some ⟨rb, 0, none⟩)] w fun e w' => Rrs numP rb g isNum (some L) w e w' := by
  have HL := Hid.mk' h
  clear h
  go_enter Tryz.func13, Tryz.ntmps13
  go_wp2
  go_loopw [3, 4] (fun s iv wr => ∃ (i n : Nat) (R : List UInt8), s = .int .u64 (n : Int) ∧ iv = .int .i64 (i : Int) ∧ i ≤ 9 ∧ Hid (n < 128 ^ i ∧ numP L = numF (9 - i) i n R) ∧ Hid (St wr rb g (some R)) ∧ Hid (Fr rb w wr)) (fun s iv wr => 9 - (intOf iv).toNat)
  case atStart => exact ⟨0, 0, L, rfl, rfl, by omega, Hid.mk' ⟨by simp, rfl⟩, HL, Hid.mk' (Fr.refl _ _)⟩
  case round =>
    obtain ⟨i, n, R, rfl, rfl, hi, HN, HR, HF⟩ := hrel
    obtain ⟨o, c, c0, c1, cf, hb, hc, hc2⟩ := HR.out.cells
    cases R with
    | nil =>
      simp only [List.length_nil] at c0
      have HBD := Hid.mk' HR.out.bad
      go_wp2
      go_ret
      refine ⟨0, _, none, rfl, rfl, .inr ⟨?_, rfl⟩, HBD.out, HF.out.trans (Fr.set _)⟩
      show numP L = none
      rw [HN.out.2]
      cases h : 9 - i <;> rfl
    | cons b r =>
      have cb := hb 0 (by simp)
      simp only [List.getElem_cons_zero, Nat.add_zero] at cb
      obtain ⟨zb, hzb⟩ : ∃ zb : Int, (b.toNat : Int) = zb := ⟨_, rfl⟩
      rw [hzb] at cb
      simp only [List.length_cons] at c0 hc
      obtain ⟨m, hm⟩ : ∃ m, r.length = m := ⟨_, rfl⟩
      rw [hm] at c0 hc
      have i1 : ¬ ((m : Int) + 1 = 0) := by omega
      have i2 : (0 : Int) < (m : Int) + 1 := by omega
      have HHD : ∀ a c', (c = 1 ∧ a = ⟨g, o, none⟩ ∧ c' = 0) ∨ (¬ c = 1 ∧ a = ⟨g, o + 1, none⟩ ∧ c' = c - 1) → St (wr.setCell ⟨rb, 0, none⟩ (.slice (some a) m c')) rb g (some r) := fun a c' q => by
        have := HR.out.pass (o := o) (c := c) (by rw [c0, List.length_cons, hm]) 1 (by simp) a c' q
        simpa [hm] using this
      have HH := Hid.mk' HHD
      have HQ : Hid (i ≠ 9 → numP L = if b.toNat < 128 then (if b.toNat = 0 ∧ i ≠ 0 then none else some (n + b.toNat * 128 ^ i, r)) else numF (9 - (i + 1)) (i + 1) (n + (b.toNat - 128) * 128 ^ i) r) := Hid.mk' (fun q => by
        rw [HN.out.2, show 9 - i = (8 - i) + 1 by omega, numF, show 8 - i = 9 - (i + 1) by omega])
      have hz0 : 0 ≤ zb := by omega
      have HZ := Hid.mk' hzb
      by_cases h9 : i = 9
      · subst h9
        have HNO : Hid (numP L = none) := Hid.mk' HN.out.2
        by_cases hzz : 0 < zb
        · have HBD := Hid.mk' HR.out.bad
          clear hzb hb HHD
          go_wp2
          go_ret
          exact ⟨0, _, none, rfl, rfl, .inr ⟨HNO.out, rfl⟩, HBD.out, HF.out.trans (Fr.set _)⟩
        · obtain rfl : zb = 0 := by omega
          clear hzb hb HHD
          go_wp2
          all_goals
            go_ret
            refine ⟨0, _, none, rfl, rfl, .inr ⟨HNO.out, rfl⟩, St.bad (s := some r) ?_, HF.out.trans ((Fr.set _).trans (Fr.set _))⟩
            first
              | exact HH.out _ _ (.inl ⟨by assumption, rfl, rfl⟩)
              | exact HH.out _ _ (.inr ⟨by assumption, rfl, rfl⟩)
      · have hbl := UInt8.toNat_lt b
        obtain ⟨hs1, hs2⟩ := sum_u n (b.toNat % 128) i HN.out.1 (by omega) (by omega)
        have hmd : Int.tmod zb 128 = ((b.toNat % 128 : Nat) : Int) := by rw [← hzb]; rfl
        obtain ⟨q, hq⟩ : ∃ q : Int, ((b.toNat % 128 : Nat) : Int) = q := ⟨_, rfl⟩
        have hq0 : 0 ≤ q ∧ q < 128 := by omega
        rw [hq] at hs1 hmd
        have hwq : IntKind.u64.wrap q = q := by rw [IntKind.wrap_u64]; omega
        obtain ⟨M, hM⟩ : ∃ M : Nat, b.toNat % 128 * 128 ^ i = M := ⟨_, rfl⟩
        rw [hM] at hs1 hs2
        obtain ⟨N, hN⟩ : ∃ N : Nat, n + M = N := ⟨_, rfl⟩
        rw [hN] at hs2
        have HNN : Hid (n + b.toNat % 128 * 128 ^ i = N) := Hid.mk' (by rw [hM, hN])
        have hNL : N < 128 ^ (i + 1) := by
          rw [← hN, ← hM, Nat.pow_succ]
          have h1 := HN.out.1
          have : b.toNat % 128 * 128 ^ i ≤ 127 * 128 ^ i := Nat.mul_le_mul_right _ (by omega)
          omega
        have HNL := Hid.mk' hNL
        have hN63 : (N : Int) < 9223372036854775808 := by
          have hm9 : 128 ^ (i + 1) ≤ 128 ^ 9 := Nat.pow_le_pow_right (by omega) (by omega)
          omega
        have hwN : wrap64 (N : Int) = (N : Int) := by unfold wrap64; omega
        have i9 : ((i : Int) == 9) = false := by simp; omega
        have i8 : ¬ (9 : Int) < (i : Int) := by omega
        have i7 : (0 : Int) ≤ 7 * (i : Int) := by omega
        have hw7 : IntKind.u64.wrap (7 * (i : Int)) = 7 * (i : Int) := by rw [IntKind.wrap_u64]; omega
        clear hM hN hNL hN63 hq hzb hb HHD hbl
        by_cases h128 : zb < 128
        · by_cases hzz : zb = 0
          · subst hzz
            by_cases hi0 : i = 0
            · subst hi0
              simp only [Nat.mul_zero, Int.pow_zero, Int.mul_one, hwq] at hs1
              go_wp2
              all_goals
                go_ret
                refine ⟨N, _, some r, rfl, rfl, .inl ⟨r, ?_, rfl⟩, ?_, HF.out.trans (Fr.set _)⟩
                · show numP L = _
                  have := HZ.out
                  have h1 := HNN.out
                  rw [HQ.out (by omega), if_pos (show b.toNat < 128 by omega), if_neg (by omega)]
                  rw [Nat.mod_eq_of_lt (show b.toNat < 128 by omega)] at h1
                  rw [h1]
                · first
                    | exact HH.out _ _ (.inl ⟨by assumption, rfl, rfl⟩)
                    | exact HH.out _ _ (.inr ⟨by assumption, rfl, rfl⟩)
            · have hip : (0 : Int) < (i : Int) := by omega
              go_wp2
              all_goals
                go_ret
                refine ⟨0, _, none, rfl, rfl, .inr ⟨?_, rfl⟩, St.bad (s := some r) ?_, HF.out.trans ((Fr.set _).trans (Fr.set _))⟩
                · show numP L = _
                  have := HZ.out
                  rw [HQ.out h9, if_pos (show b.toNat < 128 by omega), if_pos (by omega)]
                · first
                    | exact HH.out _ _ (.inl ⟨by assumption, rfl, rfl⟩)
                    | exact HH.out _ _ (.inr ⟨by assumption, rfl, rfl⟩)
          · have hzz' : (zb == 0) = false := by simp [hzz]
            go_wp2
            all_goals
              go_ret
              refine ⟨N, _, some r, rfl, rfl, .inl ⟨r, ?_, rfl⟩, ?_, HF.out.trans (Fr.set _)⟩
              · show numP L = _
                have := HZ.out
                have h1 := HNN.out
                rw [HQ.out (by omega), if_pos (show b.toNat < 128 by omega), if_neg (by omega)]
                rw [Nat.mod_eq_of_lt (show b.toNat < 128 by omega)] at h1
                rw [h1]
              · first
                  | exact HH.out _ _ (.inl ⟨by assumption, rfl, rfl⟩)
                  | exact HH.out _ _ (.inr ⟨by assumption, rfl, rfl⟩)
        · go_wp2
          all_goals
            go_roundw
            case rel =>
              refine ⟨i + 1, N, r, rfl, by go_num, by omega, Hid.mk' ⟨HNL.out, ?_⟩, Hid.mk' ?_, Hid.mk' (HF.out.trans (Fr.set _))⟩
              · have := HZ.out
                have h1 := HNN.out
                rw [HQ.out h9, if_neg (show ¬ b.toNat < 128 by omega)]
                rw [show b.toNat % 128 = b.toNat - 128 by have := UInt8.toNat_lt b; omega] at h1
                rw [h1]
              · by_cases hc1 : c = 1
                · rw [if_pos hc1]
                  exact HH.out _ _ (.inl ⟨hc1, rfl, by omega⟩)
                · rw [if_neg hc1]
                  exact HH.out _ _ (.inr ⟨hc1, rfl, rfl⟩)
            case measure => simp [intOf]; omega
set_option maxHeartbeats 1000000 in
set_option maxRecDepth 100000 in
theorem rnum_none {rb g : Nat} (w : World) (h : St w rb g none) :
    Calls Tryz.prog 13 #[.pointer (some ⟨rb, 0, none⟩)] w fun e w' => Rrs numP rb g isNum none w e w' := by
  obtain ⟨c1, cf⟩ := h.flag
  simp only [Option.isSome_none] at c1
  have HB := Hid.mk' h.bad
  clear h
  go_enter Tryz.func13, Tryz.ntmps13
  go_wp2
  go_loop [3, 4] (fun s iv => s = .int .u64 0 ∧ iv = .int .i64 0) (fun s iv => 0)
  case atStart => exact ⟨rfl, rfl⟩
  case round =>
    obtain ⟨rfl, rfl⟩ := hrel
    go_wp2
    go_ret
    exact ⟨0, _, none, rfl, rfl, .inr ⟨rfl, rfl⟩, HB.out, Fr.set _⟩
theorem rnum_any {rb g : Nat} {s : Option (List UInt8)} (w : World) (h : St w rb g s) :
    Calls Tryz.prog 13 #[.pointer (some ⟨rb, 0, none⟩)] w fun e w' => Rrs numP rb g isNum s w e w' := by
  cases s with
  | none => exact rnum_none w h
  | some L => exact rnum_some w h
end Go.Proofs.YtkgjmiadgfcbnaaGreatDoor
