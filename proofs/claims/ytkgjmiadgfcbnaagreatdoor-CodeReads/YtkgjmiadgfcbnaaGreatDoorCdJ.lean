/- Package code: a module out of bytes. -/
import Derived.Test.YtkgjmiadgfcbnaaGreatDoorCdI
import Derived.Defers
import Derived.Recover
namespace Go.Proofs.YtkgjmiadgfcbnaaGreatDoor
set_option linter.unusedVariables false
set_option linter.unusedSimpArgs false
open Go.RowKit

/-- Bytes of a slice. -/
structure Bv (w : World) (a : Option Addr) (c : Nat) (L : List UInt8) : Prop where
  le : L.length ≤ c
  cle : c ≤ 9223372036854775807
  bs : L = [] ∨ ∃ g o, a = some ⟨g, o, none⟩ ∧ Bs w g o L ∧ g < w.heap.size
theorem Bv.below {w w' : World} {a : Option Addr} {c : Nat} {L : List UInt8} (h : Bv w a c L) (hb : Below w.heap.size w w') : Bv w' a c L := by
  refine ⟨h.le, h.cle, ?_⟩
  rcases h.bs with h1 | ⟨g, o, h1, h2, h3⟩
  · exact .inl h1
  · exact .inr ⟨g, o, h1, h2.fr (Fr.of_below (rb := w.heap.size) hb) (by omega), Nat.lt_of_lt_of_le h3 hb.size⟩
set_option maxHeartbeats 2000000 in
set_option maxRecDepth 100000 in
theorem take_short {rb n c : Nat} {a : Option Addr} (z : Int) (w : World) (h : w.heap[rb]? = some (.cells #[.slice a n c] 74 (0, 0))) (hk : (n : Int) < z) :
    Calls Tryz.prog 29 #[.pointer (some ⟨rb, 0, none⟩), .int .i64 z] w fun e w' => e = thrown ∧ w' = w := by
  have c0 := (cell_row _ rb 0 _ _ h).trans rfl
  have i1 : ¬ z ≤ (n : Int) := by omega
  have HH := Hid.mk' hold_no
  clear h
  go_enter Tryz.func29, Tryz.ntmps29
  go_wp2_with (go_at_call 28; refine (HH.out _).mono ?_; rintro e w1 ⟨rfl, hw1⟩; rw [hw1]; clear hw1 w1)
  exact ⟨rfl, rfl, rfl⟩
/-- What a module's reading comes to. -/
def isMod (B : Nat) (W : World) (fs : List Fun) (v : Value) : Prop := ∃ x, v = .agg #[x] ∧ isFuns B W fs x
def Mds (L : List UInt8) (w : World) (e : Ending) (w' : World) : Prop :=
  (∃ fs v, modP L = some fs ∧ e = .returned v ∧ isMod (w.heap.size + 1) w' fs v ∧ Below w.heap.size w w') ∨ (modP L = none ∧ e = thrown ∧ Below w.heap.size w w')
set_option maxHeartbeats 4000000 in
set_option maxRecDepth 100000 in
theorem moduleOf_any {a : Option Addr} {c : Nat} {L : List UInt8} (w : World) (h : Bv w a c L) (hL : L.length ≤ 5000) (hl : LaidL w) :
    Calls Tryz.prog 12 #[.slice a L.length c] w fun e w' => Mds L w e w' := by
  have hmf : ∀ (fn : Fn) (first cap : Array Value) (w : World), (Instr.makeFunc fn first cap).run Tryz.prog w = .ok (.func fn first cap) w := fun _ _ _ _ => rfl
  have hlb : 1 < w.heap.size := World.block_lt_of_cell? w _ (hl 0 (by omega))
  obtain ⟨W1, hW1⟩ : ∃ W1, w.alloc (.cells #[.slice none 0 0] 26) = W1 := ⟨_, rfl⟩
  obtain ⟨W2, hW2⟩ : ∃ W2, W1.alloc (.cells #[.slice a L.length c] 74) = W2 := ⟨_, rfl⟩
  have b1 : Below w.heap.size w W1 := by rw [← hW1]; exact lay_below
  have s1 : W1.heap.size = w.heap.size + 1 := by rw [← hW1]; simp
  have b2 : Below W1.heap.size W1 W2 := by rw [← hW2]; exact lay_below
  have x1 : W1.heap[w.heap.size]? = some (.cells #[.slice none 0 0] 26 (0, 0)) := by rw [← hW1]; exact box_new
  have x2 : W2.heap[W1.heap.size]? = some (.cells #[.slice a L.length c] 74 (0, 0)) := by rw [← hW2]; exact box_new
  have x1' := (b2.block w.heap.size (by omega)).trans x1
  have B2 := b1.trans (b2.mono b1.size)
  have HB2 := Hid.mk' B2
  have HX1 := Hid.mk' x1'
  have HX2 := Hid.mk' x2
  have HL2 := Hid.mk' (hl.fr (rb := w.heap.size) (Fr.of_below B2) (by omega))
  have hV := (h.below b1).below b2
  have s2 : W2.heap.size = w.heap.size + 2 := by rw [← hW2]; simp; omega
  obtain ⟨rb, hrb⟩ : ∃ rb, W1.heap.size = rb := ⟨_, rfl⟩
  obtain ⟨bx, hbx⟩ : ∃ bx, w.heap.size = bx := ⟨_, rfl⟩
  have HH := Hid.mk' hold_ok
  have HO := Hid.mk' hold_no
  rw [hrb] at HX2 s1
  rw [hbx] at s1 HX1 hlb s2
  have HS1 : Hid (rb = bx + 1) := Hid.mk' (by omega)
  by_cases h4 : 4 ≤ L.length
  · obtain ⟨g, o, rfl, hb, hg⟩ : ∃ g o, a = some ⟨g, o, none⟩ ∧ Bs W2 g o L ∧ g < w.heap.size := by
      rcases h.bs with q | ⟨g, o, q1, q2, q3⟩
      · rw [q] at h4; simp at h4
      · exact ⟨g, o, q1, q2.fr (Fr.of_below (rb := w.heap.size) B2) (by omega), q3⟩
    have hR : Rc W2 rb g L := ⟨o, c, HX2.out, hb, h.le, h.cle, by omega, by omega⟩
    have HT := Hid.mk' (take_ok 4 4 rfl W2 hR h4)
    have HM := Hid.mk' (fun L' W (hR : Rc W rb g L') (hL : L'.length ≤ 5000) (hl : LaidL W) => listF_any W hR hL hl (by omega))
    have HG : Hid (g < bx ∧ rb = bx + 1 ∧ w.heap.size = bx ∧ 1 < bx) := Hid.mk' ⟨by omega, by omega, hbx, hlb⟩
    clear h hV hb hg hR hl b1 b2 x1 x2 x1' B2 s1 hlb s2
    go_enter Tryz.func12, Tryz.ntmps12
    go_wp2_with fail
    refine HT.out.mono ?_
    rintro e w1 ⟨o1, c1, rfl, hb1, hc1, hc2, hR1, hF1⟩
    have hcv := conv_bs (c := c1) hb1 9 Tryz.underlying9
    rw [List.length_take, Nat.min_eq_left h4] at hcv
    have HR1 := Hid.mk' hR1
    have HF1 := Hid.mk' hF1
    have HMP : Hid (modP L = if L.take 4 = magic then (lstP funP (L.drop 4)).bind fun x => if x.1 ≠ [] ∧ x.2 = [] then some x.1 else none else none) := Hid.mk' rfl
    obtain ⟨l4, hl4⟩ : ∃ l4, L.take 4 = l4 := ⟨_, rfl⟩
    rw [hl4] at hcv HMP
    clear hb1 hR1 hF1 hl4
    obtain ⟨s4, hs4⟩ : ∃ s4, Sb l4 = s4 := ⟨_, rfl⟩
    rw [hs4] at hcv
    have HS4 := Hid.mk' hs4
    clear hs4
    have HQ : Hid ((s4.toList == [76, 78, 84, 49]) = decide (l4 = magic)) := Hid.mk' (by
      rw [ByteArray.toList_eq, ← HS4.out, Sb_list]
      rw [Bool.eq_iff_iff, beq_iff_eq, decide_eq_true_iff]
      exact Iff.rfl)
    by_cases hm : l4 = magic
    · have hq := HQ.out
      rw [decide_eq_true hm] at hq
      have HMQ : Hid (modP L = (lstP funP (L.drop 4)).bind fun x => if x.1 ≠ [] ∧ x.2 = [] then some x.1 else none) := Hid.mk' (by rw [HMP.out, if_pos hm])
      have HN := Hid.mk' (HM.out (L.drop 4) w1 HR1.out (by simp; omega) (HL2.out.fr HF1.out (by have := HG.out; omega)))
      have HFW : Hid (Below bx w w1) := Hid.mk' (HB2.out.mono (by have := HG.out; omega) |>.trans (HF1.out.below (by have := HG.out; omega) (by have := HB2.out.size; have := HG.out; omega)))
      clear hm HQ HMP
      go_wp2_with (go_at_call 28; refine (HH.out _).mono ?_; rintro e w1 ⟨rfl, hw1⟩; rw [hw1]; clear hw1 w1)
      refine HN.out.mono ?_
      rintro e w2 (⟨fs, R, v2, p2, rfl, hI, hR2, hF2⟩ | ⟨p2, rfl, hF2⟩)
      · have HI2 := Hid.mk' (hI.mono (B' := bx + 1) (by have := HF1.out.size; have := HB2.out.size; have := (Array.getElem?_eq_some_iff.1 HX1.out).1; omega))
        obtain ⟨o2, c2, hA⟩ := hR2
        have HF2 := Hid.mk' (HFW.out.trans (hF2.below (by have := HG.out; omega) (by have := HFW.out.size; have := HG.out; omega)))
        obtain ⟨y1, y2⟩ := (HF1.out.trans hF2).box (k := bx) (by have := HG.out; omega) HX1.out
        have x0 := y1 0 _ rfl
        have hlx : bx < w2.heap.size := World.block_lt_of_cell? _ _ x0
        have hrl : rb < w2.heap.size := hA.lt
        obtain ⟨els, hels, ho, hrows⟩ := hI
        obtain ⟨a2, c3, rfl, _⟩ := own_slice' ho
        have HP2 := Hid.mk' p2
        have hlen : els.length = fs.length := by rw [← hels]; simp
        rw [hlen] at HI2 ⊢
        obtain ⟨nf, hnf⟩ : ∃ nf, fs.length = nf := ⟨_, rfl⟩
        obtain ⟨nr, hnr⟩ : ∃ nr, R.length = nr := ⟨_, rfl⟩
        have hA0 := hA.cells.1
        rw [hnr] at hA0
        rw [hnf] at HI2 ⊢
        have HNF := Hid.mk' hnf
        have HNR := Hid.mk' hnr
        have hne : rb ≠ bx := by have := HG.out; omega
        clear hF2 p2 y1 hels ho hrows hlen hnf hnr hA
        by_cases hf0 : nf = 0
        · subst hf0
          go_wp2_with (go_at_call 28; refine (HO.out _).mono ?_; rintro e w1 ⟨rfl, hw1⟩; rw [hw1]; clear hw1 w1)
          refine ⟨rfl, .inr ⟨?_, rfl, ?_⟩⟩
          · rw [HMQ.out, HP2.out]
            simp only [Option.bind_some]
            rw [if_neg]
            intro q
            exact q.1 (List.eq_nil_of_length_eq_zero HNF.out)
          · rw [HG.out.2.2.1]
            exact HF2.out.alloc (by omega) _
        · have hf1 : (0 : Int) < (nf : Int) := by omega
          by_cases hr0 : nr = 0
          · subst hr0
            go_wp2_with (go_at_call 28; refine (HH.out _).mono ?_; rintro e w1 ⟨rfl, hw1⟩; rw [hw1]; clear hw1 w1)
            refine bodyPost_ret (v := .agg #[.slice a2 nf c3]) ?_ rfl (.inl ⟨fs, _, ?_, rfl, ⟨_, rfl, ?_⟩, ?_⟩)
            · rw [res_cell rfl]
              go_simp
            · rw [HMQ.out, HP2.out]
              simp only [Option.bind_some]
              rw [if_pos]
              exact ⟨fun q => hf0 (by rw [← HNF.out, q]; rfl), List.eq_nil_of_length_eq_zero HNR.out⟩
            · rw [HG.out.2.2.1]
              exact (isFuns.setNew HI2.out (show bx < bx + 1 by omega) _).below lay_below
            · rw [HG.out.2.2.1]
              exact (HF2.out.setCell (p := ⟨bx, 0, none⟩) (Nat.le_refl _) _).alloc (by simp [World.setCell]; omega) _
          · have hr1 : ((nr : Int) == 0) = false := by simp; omega
            go_wp2_with (go_at_call 28; refine (HO.out _).mono ?_; rintro e w1 ⟨rfl, hw1⟩; rw [hw1]; clear hw1 w1)
            refine ⟨rfl, .inr ⟨?_, rfl, ?_⟩⟩
            · rw [HMQ.out, HP2.out]
              simp only [Option.bind_some]
              rw [if_neg]
              intro q
              apply hr0
              rw [← HNR.out, q.2]
              rfl
            · rw [HG.out.2.2.1]
              exact HF2.out.alloc (by omega) _
      · go_wp2
        refine ⟨rfl, .inr ⟨?_, rfl, ?_⟩⟩
        · rw [HMQ.out, p2]
          rfl
        · rw [HG.out.2.2.1]
          exact HFW.out.trans (hF2.below (by have := HG.out; omega) (by have := HFW.out.size; have := HG.out; omega))
    · have hq := HQ.out
      rw [decide_eq_false hm] at hq
      go_wp2_with (go_at_call 28; refine (HO.out _).mono ?_; rintro e w1 ⟨rfl, hw1⟩; rw [hw1]; clear hw1 w1)
      refine ⟨rfl, .inr ⟨?_, rfl, ?_⟩⟩
      · rw [HMP.out, if_neg hm]
      · exact HB2.out.trans (HF1.out.below (by have := HG.out; omega) (by have := HB2.out.size; omega))
  · have HT := Hid.mk' (take_short (rb := rb) 4 W2 HX2.out (by omega))
    clear h hV hl b1 b2 x1 x2 x1' B2 s1 hlb s2
    go_enter Tryz.func12, Tryz.ntmps12
    go_wp2_with fail
    refine HT.out.mono ?_
    rintro e w1 ⟨rfl, hw1⟩
    rw [hw1]
    go_wp2
    refine ⟨rfl, .inr ⟨?_, rfl, HB2.out⟩⟩
    unfold modP
    rw [if_neg]
    intro q
    have := congrArg List.length q
    simp [magic] at this
    omega
end Go.Proofs.YtkgjmiadgfcbnaaGreatDoor
