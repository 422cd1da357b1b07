/- Package code: Show, at the chapter's example. -/
import Derived.Test.YtkgjmiadgfcbnaaGreatDoorCdB2
import Derived.Test.YtkgjmiadgfcbnaaGreatDoorCdE3
import Derived.BigRegion
namespace Go.Proofs.YtkgjmiadgfcbnaaGreatDoor
set_option linter.unusedVariables false
set_option linter.unusedSimpArgs false
open Go.RowKit

def opT (l : List UInt8) : List UInt8 := l.flatMap fun c => 32 :: shw c
def exT (i : Nat) : List UInt8 := UInt8.ofNat (48 + i) :: 32 :: (nmE i ++ opT (letsOf (exO i)) ++ [10])
def exS : Nat → List UInt8
  | 0 => []
  | i + 1 => exS i ++ exT i
theorem exS_two : Sb (exS 2) = ⟨#[48, 32, 76, 111, 97, 100, 32, 114, 48, 32, 48, 10, 49, 32, 82, 101, 116, 117, 114, 110, 32, 114, 48, 10]⟩ := by decide +kernel
/-- The builder and what stands beside it. -/
structure Sw (w : World) (b : Nat) (l : List UInt8) (W : World) : Prop where
  bd : Bld b b l W
  bw : Below b w W
  lt : b < W.heap.size
theorem Sw.below {w W W' : World} {b : Nat} {l : List UInt8} (h : Sw w b l W) (k : Below W.heap.size W W') : Sw w b l W' := ⟨h.bd.below k, h.bw.trans (k.mono (by have := h.lt; omega)), Nat.lt_of_lt_of_le h.lt k.size⟩
/-- Blocks that are no rows of bytes stand. -/
structure Kp (b : Nat) (W W' : World) : Prop where
  size : W.heap.size ≤ W'.heap.size
  same : ∀ (k : Nat) (o : Obj), k ≠ b → (∀ c fz, o ≠ .cells c 5 fz) → W.heap[k]? = some o → W'.heap[k]? = some o
theorem Kp.trans {b : Nat} {X Y Z : World} (h : Kp b X Y) (g : Kp b Y Z) : Kp b X Z := ⟨Nat.le_trans h.size g.size, fun k o hk hv ho => g.same k o hk hv (h.same k o hk hv ho)⟩
theorem Kp.of_below {b : Nat} {X Y : World} (h : Below X.heap.size X Y) : Kp b X Y := ⟨h.size, fun k o _ _ ho => (h.block k (Array.getElem?_eq_some_iff.1 ho).1).trans ho⟩
theorem Kp.box {b k : Nat} {X Y : World} {c : Array Value} {t : TypeId} (h : Kp b X Y) (hk : k ≠ b) (ht : t ≠ 5) (hb : X.heap[k]? = some (.cells c t (0, 0))) : Y.heap[k]? = some (.cells c t (0, 0)) :=
  h.same k _ hk (fun c' fz e => by cases e; exact ht rfl) hb
theorem Sw.byte {w W : World} {b : Nat} {l : List UInt8} (h : Sw w b l W) (x : UInt8) (z : Int) (hz : (x.toNat : Int) = z) (hl : l.length ≤ 1000) :
    Calls Tryz.prog 20 #[.pointer (some ⟨b, 0, none⟩), .int .u8 z] W fun e W' => e = .returned .nilIface ∧ Sw w b (l ++ [x]) W' ∧ Kp b W W' := by
  subst hz
  refine (writeByte_b b b (Lib.byteCells l) (x.toNat : Int) W h.bd (by rw [byteCells_len]; omega) (Nat.le_of_lt h.lt)).mono ?_
  rintro e W' ⟨rfl, i, k, o⟩
  exact ⟨rfl, ⟨by unfold Bld; rw [byteCells_snoc]; exact i, h.bw.trans k, Nat.lt_of_lt_of_le h.lt k.size⟩, ⟨k.size, fun j ob hj hv ho => o j ob ho (fun q => hj (by cases q; rfl)) hv⟩⟩
theorem Sw.text {w W : World} {b : Nat} {l : List UInt8} (h : Sw w b l W) (t : List UInt8) (hl : l.length ≤ 1000) (ht : t.length ≤ 100) :
    Calls Tryz.prog 18 #[.pointer (some ⟨b, 0, none⟩), .string (Sb t)] W fun e W' => (∃ r, e = .returned r) ∧ Sw w b (l ++ t) W' ∧ Kp b W W' := by
  refine (writeString_b b b (Lib.byteCells l) (Sb t) W h.bd (by rw [byteCells_len]; omega) (by rw [Sb_size]; omega) (Nat.le_of_lt h.lt)).mono ?_
  rintro e W' ⟨hr, i, k, o⟩
  rw [Sb_list] at i
  exact ⟨hr, ⟨by unfold Bld; rw [byteCells_app]; exact i, h.bw.trans k, Nat.lt_of_lt_of_le h.lt k.size⟩, ⟨k.size, fun j ob hj hv ho => o j ob ho (fun q => hj (by cases q; rfl)) hv⟩⟩
theorem Sw.iter {w W : World} {b k q : Nat} {l : List UInt8} (h : Sw w b l W) (t : ByteArray) (p : Nat) (hk : W.heap[k]? = some (.stringIter t q)) (hb : b < k) : Sw w b l (W.iterAt k t p) := by
  have key : ∀ p', Lib.BuilderAt 60 5 b b p' (Lib.byteCells l) W → Lib.BuilderAt 60 5 b b p' (Lib.byteCells l) (W.iterAt k t p) := fun p' h => by
    obtain ⟨hB, v, hbk, ho, hn⟩ := h
    exact ⟨hB, v, (Lib.iterAt_other _ _ _ _ _ (by omega)).trans hbk, own_iterAt' ho hk p, hn⟩
  exact ⟨h.bd.imp (key _) (key _), Lib.below_iterAt h.bw (by omega) t p, by rw [Lib.iterAt_size]; exact h.lt⟩
theorem LaidL.sw {w W : World} {b : Nat} {l : List UInt8} (h : LaidL w) (hS : Sw w b l W) (hb : 1 < b) : LaidL W := fun k hk => (hS.bw.cell (p := ⟨1, k, none⟩) hb).trans (h k hk)
theorem LaidNm.sw {w W : World} {b : Nat} {l : List UInt8} (h : LaidNm w) (hS : Sw w b l W) (hb : 0 < b) : LaidNm W := ⟨(hS.bw.cell (p := ⟨0, 0, none⟩) hb).trans h.1, (hS.bw.cell (p := ⟨0, 34, none⟩) hb).trans h.2⟩
theorem exS_len (i : Nat) (h : i ≤ 2) : (exS i).length ≤ 30 := by
  have : i = 0 ∨ i = 1 ∨ i = 2 := by omega
  rcases this with rfl | rfl | rfl <;> decide
theorem ex_lets (i : Nat) (h : i < 2) : (∀ c ∈ letsOf (exO i), c = 114 ∨ c = 110) ∧ (letsOf (exO i)).length ≤ 2 ∧ exO i ≤ 70 ∧ (nmE i).length ≤ 6 ∧ ((i = 0 ∧ (exO i : Int) = 0) ∨ (i = 1 ∧ (exO i : Int) = 34)) := by
  have : i = 0 ∨ i = 1 := by omega
  rcases this with rfl | rfl <;> decide
theorem opT_take (l : List UInt8) (j : Nat) (h : j < l.length) : opT (l.take (j + 1)) = opT (l.take j) ++ 32 :: shw l[j] := by
  unfold opT
  rw [List.take_succ_eq_append_getElem h, List.flatMap_append]
  simp
theorem opT_len (l : List UInt8) : (opT l).length ≤ 3 * l.length := by
  induction l with
  | nil => simp [opT]
  | cons a r ih =>
    have : (shw a).length ≤ 2 := by unfold shw; split <;> simp
    simp only [opT, List.flatMap_cons, List.length_append, List.length_cons] at ih ⊢
    omega
set_option maxHeartbeats 8000000 in
set_option maxRecDepth 100000 in
theorem show_ex {gi : Nat} (w : World) (hL : LaidL w) (hN : LaidNm w) (hx : w.heap[gi]? = some (.cells exRow 35 (0, 0))) :
    Calls Tryz.prog 9 #[.agg #[.string ⟨#[]⟩, .int .i64 0, .bool false, .bool false, .int .i64 1, .slice none 0 0, .slice (some ⟨gi, 0, none⟩) 2 2, .slice none 0 0, .slice none 0 0]] w fun e w' => e = .returned (.string (Sb (exS 2))) ∧ Below w.heap.size w w' := by
  obtain ⟨W1, hW1⟩ : ∃ W1, w.alloc (.cells #[.string ⟨#[]⟩, .int .i64 0, .bool false, .bool false, .int .i64 1, .slice none 0 0, .slice (some ⟨gi, 0, none⟩) 2 2, .slice none 0 0, .slice none 0 0] 42) = W1 := ⟨_, rfl⟩
  obtain ⟨W2, hW2⟩ : ∃ W2, W1.alloc (.cells #[.pointer none, .slice none 0 0] 60) = W2 := ⟨_, rfl⟩
  have b1 : Below w.heap.size w W1 := by rw [← hW1]; exact lay_below
  have b2 : Below W1.heap.size W1 W2 := by rw [← hW2]; exact lay_below
  have s1 : W1.heap.size = w.heap.size + 1 := by rw [← hW1]; simp
  have s2 : W2.heap.size = w.heap.size + 2 := by rw [← hW2]; simp; omega
  have q1 : W1.heap[w.heap.size]? = some (.cells #[.string ⟨#[]⟩, .int .i64 0, .bool false, .bool false, .int .i64 1, .slice none 0 0, .slice (some ⟨gi, 0, none⟩) 2 2, .slice none 0 0, .slice none 0 0] 42 (0, 0)) := by rw [← hW1]; exact box_new
  have hg1 : gi < w.heap.size := (Array.getElem?_eq_some_iff.1 hx).1
  have hx1 := (b1.block gi hg1).trans hx
  have hSw : Sw W1 W1.heap.size [] W2 := ⟨by rw [← hW2]; exact Lib.fresh_isBuilder _ _ W1, b2, by omega⟩
  have hlb : 1 < w.heap.size := World.block_lt_of_cell? w _ (hL 0 (by omega))
  have hnb : 0 < w.heap.size := World.block_lt_of_cell? w _ hN.1
  have HLL : Hid (LaidL W1) := Hid.mk' (hL.fr (rb := w.heap.size) (Fr.of_below b1) (by omega))
  have HNN : Hid (LaidNm W1) := Hid.mk' ⟨(Fr.of_below (rb := w.heap.size) b1).cell (by omega) hN.1, (Fr.of_below (rb := w.heap.size) b1).cell (by omega) hN.2⟩
  obtain ⟨bf, hbf⟩ : ∃ bf, w.heap.size = bf := ⟨_, rfl⟩
  obtain ⟨b, hb⟩ : ∃ b, bf + 1 = b := ⟨_, rfl⟩
  rw [hbf] at q1 s1 s2 hg1 hlb hnb
  rw [s1, hb] at hSw
  have HQ1 := Hid.mk' q1
  have HX1 := Hid.mk' hx1
  have HSw := Hid.mk' hSw
  have HB1 := Hid.mk' b1
  have HLT : Hid (bf < b ∧ gi < b ∧ 1 < b ∧ 0 < b) := Hid.mk' ⟨by omega, by omega, by omega, by omega⟩
  have HOP := Hid.mk' (fun op h70 W hW => operands_any op W h70 hW)
  have HO0 := Hid.mk' (fun z W => operands0 z W)
  have r6 : W2.cell? ⟨bf, 6, none⟩ = some (.slice (some ⟨gi, 0, none⟩) 2 2) := (cell_row _ bf 6 _ _ ((b2.block bf (by omega)).trans q1)).trans rfl
  have HBF := Hid.mk' hbf
  clear hL hN hx b1 b2 s2 q1 hx1 hSw hlb hnb hg1
  go_enter Tryz.func9, Tryz.ntmps9
  go_wp2
  go_loopw [12] (fun iv wr => ∃ i : Nat, iv = .int .i64 (i : Int) ∧ i ≤ 2 ∧ Hid (Sw W1 b (exS i) wr)) (fun iv wr => 2 - (intOf iv).toNat)
  case atStart => exact ⟨0, rfl, by omega, HSw⟩
  case round =>
    obtain ⟨i, rfl, hi, HS⟩ := hrel
    have hel := exS_len i hi
    by_cases hlt : i < 2
    · obtain ⟨kA, k2, k70, kn, kz⟩ := ex_lets i hlt
      have hb0 := (HS.out.bw.block gi HLT.out.2.1).trans HX1.out
      have e0 : wr.cell? ⟨gi, i * 5, none⟩ = some (.int .i64 (exO i : Int)) := by
        have := (cell_row _ gi (i * 5 + 0) _ _ hb0).trans (exRow_get i 0 hlt (by omega))
        simpa using this
      have e1 : wr.cell? ⟨gi, i * 5 + 1, none⟩ = some (.int .i64 0) := (cell_row _ gi (i * 5 + 1) _ _ hb0).trans (exRow_get i 1 hlt (by omega))
      have e2 : wr.cell? ⟨gi, i * 5 + 2, none⟩ = some (.int .i64 0) := (cell_row _ gi (i * 5 + 2) _ _ hb0).trans (exRow_get i 2 hlt (by omega))
      have e3 : wr.cell? ⟨gi, i * 5 + 3, none⟩ = some (.int .i64 0) := (cell_row _ gi (i * 5 + 3) _ _ hb0).trans (exRow_get i 3 hlt (by omega))
      have e4 : wr.cell? ⟨gi, i * 5 + 4, none⟩ = some (.int .i64 0) := (cell_row _ gi (i * 5 + 4) _ _ hb0).trans (exRow_get i 4 hlt (by omega))
      have i1 : (i : Int) < 2 := by omega
      have HOPi := Hid.mk' (fun W hW => HOP.out (exO i) k70 W hW)
      have HNMi := Hid.mk' (fun W hW => name_ex i (exO i : Int) kz W hW)
      have HISi := Hid.mk' (fun W => isOp_any (exO i : Int) W)
      rw [decide_eq_true (show 0 ≤ (exO i : Int) ∧ (exO i : Int) ≤ 70 by omega)] at HISi
      have HITi := Hid.mk' (fun W => itoa_small i hlt W)
      have HTX : Hid (exS (i + 1) = exS i ++ ([UInt8.ofNat (48 + i)] ++ 32 :: (nmE i ++ opT (letsOf (exO i)) ++ [10]))) := Hid.mk' rfl
      obtain ⟨dg, hdg⟩ : ∃ dg, [UInt8.ofNat (48 + i)] = dg := ⟨_, rfl⟩
      have hdl : dg.length = 1 := by rw [← hdg]; rfl
      rw [hdg] at HTX HITi
      obtain ⟨nm, hnm⟩ : ∃ nm, nmE i = nm := ⟨_, rfl⟩
      rw [hnm] at HTX HNMi kn
      obtain ⟨es, hes⟩ : ∃ es, exS i = es := ⟨_, rfl⟩
      rw [hes] at HTX HS hel
      have HDL := Hid.mk' hdl
      clear hdg hnm hdl hes
      obtain ⟨l, hl⟩ : ∃ l, letsOf (exO i) = l := ⟨_, rfl⟩
      simp only [hl] at HOPi HTX kA k2
      obtain ⟨zo, hzo⟩ : ∃ zo : Int, (exO i : Int) = zo := ⟨_, rfl⟩
      rw [hzo] at e0 HOPi HNMi HISi
      have HK := Hid.mk' kA
      have HKN := Hid.mk' kn
      have HEL := Hid.mk' hel
      clear hb0 kA kn kz k70 hl hzo hel
      obtain ⟨XA, hXA⟩ : ∃ XA, wr.alloc (.cells #[.int .i64 zo, .int .i64 0, .int .i64 0, .int .i64 0, .int .i64 0] 35) = XA := ⟨_, rfl⟩
      have bA : Below wr.heap.size wr XA := by rw [← hXA]; exact lay_below
      have qA : XA.heap[wr.heap.size]? = some (.cells #[.int .i64 zo, .int .i64 0, .int .i64 0, .int .i64 0, .int .i64 0] 35 (0, 0)) := by rw [← hXA]; exact box_new
      have HSA := Hid.mk' (HS.out.below bA)
      have hlt2 := HS.out.lt
      obtain ⟨bi, hbi⟩ : ∃ bi, wr.heap.size = bi := ⟨_, rfl⟩
      rw [hbi] at qA hlt2
      have hne : bi ≠ b := by omega
      have HQA := Hid.mk' qA
      have HH1 := Hid.mk' hXA
      have HH2 := Hid.mk' hbi
      have HBI := Hid.mk' hlt2
      clear bA qA hXA hbi hlt2
      go_wp2_with fail
      simp only [HH1.out, HH2.out]
      refine (HITi.out _).mono ?_
      rintro e w0 ⟨rfl, hw0⟩
      rw [hw0]
      clear hw0 w0
      have HN1 := Hid.mk' (HSA.out.text dg (Nat.le_trans HEL.out (by decide)) (by rw [HDL.out]; decide))
      clear e0 e1 e2 e3 e4
      go_wp2_with fail
      refine HN1.out.mono ?_
      rintro e w1 ⟨⟨r1, rfl⟩, hS1, hK1⟩
      have q1 := hK1.box hne (by decide) HQA.out
      have HQ1' := Hid.mk' q1
      have HN2 := Hid.mk' (hS1.byte 32 32 rfl (by rw [List.length_append, HDL.out]; have := HEL.out; omega))
      clear hS1 hK1 q1
      go_wp2_with fail
      refine HN2.out.mono ?_
      rintro e w2 ⟨rfl, hS2, hK2⟩
      have q2 := hK2.box hne (by decide) HQ1'.out
      have c0 : w2.cell? ⟨bi, 0, none⟩ = some (.int .i64 zo) := (cell_row _ bi 0 _ _ q2).trans rfl
      have c1 : w2.cell? ⟨bi, 1, none⟩ = some (.int .i64 0) := (cell_row _ bi 1 _ _ q2).trans rfl
      have c2 : w2.cell? ⟨bi, 2, none⟩ = some (.int .i64 0) := (cell_row _ bi 2 _ _ q2).trans rfl
      have c3 : w2.cell? ⟨bi, 3, none⟩ = some (.int .i64 0) := (cell_row _ bi 3 _ _ q2).trans rfl
      have c4 : w2.cell? ⟨bi, 4, none⟩ = some (.int .i64 0) := (cell_row _ bi 4 _ _ q2).trans rfl
      have HQ2 := Hid.mk' q2
      have HS2 := Hid.mk' hS2
      have HNM := Hid.mk' (HNMi.out w2 (Hid.mk' (HNN.out.sw hS2 HLT.out.2.2.2)))
      have HN3 := Hid.mk' (hS2.text nm (by rw [List.length_append, List.length_append, HDL.out, List.length_singleton]; have := HEL.out; omega) (Nat.le_trans HKN.out (by decide)))
      clear hS2 hK2 q2
      go_wp2_with (go_at_call 21; refine (HISi.out _).mono ?_; rintro e w9 ⟨rfl, hw9⟩; rw [hw9]; clear hw9 w9)
      refine HNM.out.mono ?_
      rintro e w9 ⟨rfl, hw9⟩
      rw [hw9]
      clear hw9 w9
      go_wp2_with fail
      refine HN3.out.mono ?_
      rintro e w3 ⟨⟨r3, rfl⟩, hS3, hK3⟩
      have q3 := hK3.box hne (by decide) HQ2.out
      clear c0 c1 c2 c3 c4
      have c0 : w3.cell? ⟨bi, 0, none⟩ = some (.int .i64 zo) := (cell_row _ bi 0 _ _ q3).trans rfl
      have c1 : w3.cell? ⟨bi, 1, none⟩ = some (.int .i64 0) := (cell_row _ bi 1 _ _ q3).trans rfl
      have c2 : w3.cell? ⟨bi, 2, none⟩ = some (.int .i64 0) := (cell_row _ bi 2 _ _ q3).trans rfl
      have c3 : w3.cell? ⟨bi, 3, none⟩ = some (.int .i64 0) := (cell_row _ bi 3 _ _ q3).trans rfl
      have c4 : w3.cell? ⟨bi, 4, none⟩ = some (.int .i64 0) := (cell_row _ bi 4 _ _ q3).trans rfl
      have HQ3 := Hid.mk' q3
      have HS3 := Hid.mk' hS3
      clear hS3 hK3 q3
      go_wp2_with fail
      refine (HO0.out _ _).mono ?_
      rintro e w4 ⟨rfl, hb4⟩
      obtain ⟨w5, hw5⟩ : ∃ w5, w4.alloc (.cells #[.int .i64 0, .int .i64 0, .int .i64 0, .int .i64 0] 68) = w5 := ⟨_, rfl⟩
      have b5 : Below w4.heap.size w4 w5 := by rw [← hw5]; exact lay_below
      have q5 : w5.heap[w4.heap.size]? = some (.cells #[.int .i64 0, .int .i64 0, .int .i64 0, .int .i64 0] 68 (0, 0)) := by rw [← hw5]; exact box_new
      have B5 := hb4.trans (b5.mono hb4.size)
      have s5 : w5.heap.size = w4.heap.size + 1 := by rw [← hw5]; simp
      have hbi3 : bi < w3.heap.size := (Array.getElem?_eq_some_iff.1 HQ3.out).1
      have hq4 := (hb4.block bi hbi3).trans HQ3.out
      have HS5 := Hid.mk' (HS3.out.below B5)
      have HO5 := Hid.mk' (HOPi.out w5 (Hid.mk' (HLL.out.sw HS5.out HLT.out.2.2.1)))
      have d0 : w4.cell? ⟨bi, 0, none⟩ = some (.int .i64 zo) := (cell_row _ bi 0 _ _ hq4).trans rfl
      have d1 : bi < w4.heap.size := Nat.lt_of_lt_of_le hbi3 hb4.size
      obtain ⟨ar, har⟩ : ∃ ar, w4.heap.size = ar := ⟨_, rfl⟩
      rw [har] at q5 s5
      have HA5 := Hid.mk' q5
      have HS5Z := Hid.mk' s5
      have HAB : Hid (b < ar ∧ bi < ar) := Hid.mk' ⟨by have := HBI.out; omega, by omega⟩
      have HH3 := Hid.mk' hw5
      have HH4 := Hid.mk' har
      clear c0 c1 c2 c3 c4 hb4 b5 q5 B5 s5 hbi3 hq4 hw5 har
      go_wp2_with fail
      simp only [HH3.out, HH4.out]
      have hsz : (Sb l).size = l.length := Sb_size l
      have HSZ := Hid.mk' hsz
      obtain ⟨t, ht⟩ : ∃ t, Sb l = t := ⟨_, rfl⟩
      simp only [ht] at HO5 HSZ
      have HTT := Hid.mk' ht
      clear hsz ht d0 d1
      refine HO5.out.mono ?_
      rintro e w9 ⟨rfl, hw9⟩
      rw [hw9]
      clear hw9 w9
      go_wp2_with fail
      have HB6 : Hid (Below w5.heap.size w5 (w5.iter t 0)) := Hid.mk' ((Below.refl _ _).alloc (Nat.le_refl _) _)
      have HIT := Hid.mk' (World.iter_heap w5 t 0)
      obtain ⟨it, hit⟩ : ∃ it, w5.heap.size = it := ⟨_, rfl⟩
      have HITE : Hid (it = ar + 1) := Hid.mk' (by rw [← hit]; exact HS5Z.out)
      rw [hit] at HIT
      have HSI := Hid.mk' (HS5.out.below HB6.out)
      have HAI := Hid.mk' ((HB6.out.block ar (by rw [hit, HITE.out]; omega)).trans HA5.out)
      simp only [hit]
      clear hit
      obtain ⟨A3, hA3⟩ : ∃ A3, es ++ dg ++ [32] ++ nm = A3 := ⟨_, rfl⟩
      rw [hA3] at HSI
      have hA3l : A3.length ≤ 100 := by rw [← hA3, List.length_append, List.length_append, List.length_append, HDL.out, List.length_singleton]; have := HEL.out; have := HKN.out; omega
      have HA3L := Hid.mk' hA3l
      have HTX2 : Hid (A3 ++ opT l ++ [10] = exS (i + 1)) := Hid.mk' (by rw [HTX.out, ← hA3]; simp)
      clear hA3 hA3l
      go_loopw [7] (fun v w8 => ∃ j : Nat, j ≤ l.length ∧ Hid (w8.heap[it]? = some (.stringIter t j)) ∧ Hid (w8.heap[ar]? = some (.cells #[.int .i64 0, .int .i64 0, .int .i64 0, .int .i64 0] 68 (0, 0))) ∧ Hid (Sw W1 b (A3 ++ opT (l.take j)) w8)) (fun _ w8 => l.length - w8.iterPos it)
      case atStart => exact ⟨0, Nat.zero_le _, HIT, HAI, Hid.mk' (by simpa [opT] using HSI.out)⟩
      case round =>
        obtain ⟨j, hj, HI8, HA8, HS8⟩ := hrel
        by_cases hjl : j < l.length
        · have hs1 : j < t.size := by rw [HSZ.out]; exact hjl
          have ht1 : t[j]'hs1 = l[j]'hjl := by
            have e1 : t.data.toList = l := by rw [← HTT.out, Sb_list]
            have e2 : t[j]'hs1 = t.data.toList[j]'(by rw [e1]; exact hjl) := by
              show t.data[j] = _
              rw [Array.getElem_toList]
            rw [e2]
            simp only [e1]
          have hc := HK.out (l[j]'hjl) (List.getElem_mem _)
          have hbt : (t[j]'hs1).toNat < 128 := by
            rw [ht1]
            rcases hc with q | q <;> rw [q] <;> decide
          have hnx : ∀ ty, (Instr.next (.pointer (some ⟨it, 0, none⟩)) true ty).run Tryz.prog wr = _ := fun ty => Lib.run_next_ascii_at wr it t j ty HI8.out hs1 hbt
          rw [ht1] at hnx
          have HOT : Hid (opT (l.take (j + 1)) = opT (l.take j) ++ 32 :: shw (l[j]'hjl)) := Hid.mk' (opT_take l j hjl)
          obtain ⟨c, hcc⟩ : ∃ c, l[j]'hjl = c := ⟨_, rfl⟩
          rw [hcc] at hnx hc HOT
          have HSH := Hid.mk' (fun W => shown_ex (.slice none 0 0) c hc W)
          obtain ⟨zc, hzc⟩ : ∃ zc : Int, (c.toNat : Int) = zc := ⟨_, rfl⟩
          rw [hzc] at HSH
          simp only [hzc] at hnx
          obtain ⟨sc, hsc⟩ : ∃ sc, shw c = sc := ⟨_, rfl⟩
          rw [hsc] at HOT HSH
          have hscl : sc.length ≤ 2 := by rw [← hsc]; unfold shw; split <;> simp
          obtain ⟨oj, hoj⟩ : ∃ oj, opT (l.take j) = oj := ⟨_, rfl⟩
          have hojl : oj.length ≤ 12 := by rw [← hoj]; have := opT_len (l.take j); have : (l.take j).length ≤ l.length := by simp; omega
                                           omega
          rw [hoj] at HOT HS8
          have hSX := HS8.out.iter (k := it) t (j + 1) HI8.out (by have := HITE.out; have := HAB.out; omega)
          have HAX := Hid.mk' ((Lib.iterAt_other wr it ar t (j + 1) (by have := HITE.out; omega)).trans HA8.out)
          have HIX := Hid.mk' (Lib.iterAt_heap wr it t j (j + 1) HI8.out)
          have HPS : Hid (wr.iterPos it = j) := Hid.mk' (by simp only [World.iterPos, HI8.out])
          have HNB := Hid.mk' (hSX.byte 32 32 rfl (by rw [List.length_append]; have := HA3L.out; omega))
          obtain ⟨X, hX⟩ : ∃ X, wr.iterAt it t (j + 1) = X := ⟨_, rfl⟩
          rw [hX] at HNB HAX HIX
          simp only [hX] at hnx
          have i4 : (j : Int) < 4 := by omega
          have i0 : (0 : Int) ≤ (j : Int) := by omega
          have HSCL := Hid.mk' hscl
          have HOJL := Hid.mk' hojl
          have HHC := Hid.mk' hc
          clear hSX hX hcc hzc hsc hoj hscl hojl hc hbt ht1
          go_wp2_with fail
          refine HNB.out.mono ?_
          rintro e wa ⟨rfl, hSa, hKa⟩
          have HIa := Hid.mk' (hKa.same it _ (by have := HITE.out; have := HAB.out; omega) (fun c fz e => by cases e) HIX.out)
          have HAa := Hid.mk' (hKa.box (by have := HAB.out; omega) (by decide) HAX.out)
          have ya : wa.cell? ⟨ar, j, none⟩ = some (.int .i64 0) := (cell_row _ ar j _ _ HAa.out).trans (arr4_get [] j (by omega))
          have yf : wa.cell? ⟨bf, 5, none⟩ = some (.slice none 0 0) := (cell_row _ bf 5 _ _ ((hSa.bw.block bf HLT.out.1).trans HQ1.out)).trans rfl
          have HSa := Hid.mk' hSa
          have HNT : Hid (∀ W, Below wa.heap.size wa W → Calls Tryz.prog 18 #[.pointer (some ⟨b, 0, none⟩), .string (Sb sc)] W fun e W' => (∃ r, e = .returned r) ∧ Sw W1 b ((A3 ++ oj ++ [32]) ++ sc) W' ∧ Kp b W W') := Hid.mk' (fun W hW => (HSa.out.below hW).text sc (by rw [List.length_append, List.length_append, List.length_singleton]; have := HA3L.out; have := HOJL.out; omega) (Nat.le_trans HSCL.out (by decide)))
          obtain ⟨ssc, hssc⟩ : ∃ ssc, Sb sc = ssc := ⟨_, rfl⟩
          rw [hssc] at HNT HSH
          clear hSa hKa hssc
          go_wp2_with fail
          go_region_with (first | (go_at_call 25; refine (HSH.out _).mono ?_; rintro e wx ⟨rfl, hwx⟩; rw [hwx]; clear hwx wx) | (go_at_call 18; refine (HNT.out _ ((Below.refl _ _).drew)).mono ?_; rintro e wb ⟨⟨rr, rfl⟩, hSb, hKb⟩))
          all_goals
            have HIb := Hid.mk' (hKb.same it _ (by have := HITE.out; have := HAB.out; omega) (fun c fz e => by cases e) HIa.out)
            have HAb := Hid.mk' (hKb.box (by have := HAB.out; omega) (by decide) HAa.out)
            have HSb : Hid (Sw W1 b (A3 ++ opT (l.take (j + 1))) wb) := Hid.mk' (by
              rw [HOT.out]
              simpa using hSb)
            clear hSb hKb ya yf
            go_wp2
            go_roundw
            case rel => exact ⟨j + 1, hjl, HIb, HAb, HSb⟩
            case measure =>
              have e5 : wb.iterPos it = j + 1 := by simp only [World.iterPos, HIb.out]
              rw [HPS.out, e5]
              omega
        · obtain rfl : j = l.length := by omega
          have hnx : ∀ ty, (Instr.next (.pointer (some ⟨it, 0, none⟩)) true ty).run Tryz.prog wr = _ := fun ty => Lib.run_next_end_at wr it t l.length ty HI8.out (by rw [HSZ.out]; exact hjl)
          have hSE : Sw W1 b (A3 ++ opT l) wr := by have := HS8.out; rw [List.take_length] at this; exact this
          have HNE := Hid.mk' (hSE.byte 10 10 rfl (by rw [List.length_append]; have := HA3L.out; have := opT_len l; omega))
          clear hSE
          go_wp2_with fail
          refine HNE.out.mono ?_
          rintro e we ⟨rfl, hSe, hKe⟩
          have HSe : Hid (Sw W1 b (exS (i + 1)) we) := Hid.mk' (by rw [← HTX2.out]; exact hSe)
          clear hSe hKe
          go_wp2
          go_roundw
          case rel => exact ⟨i + 1, by go_num, hlt, HSe⟩
          case measure => simp [intOf]; omega
    · obtain rfl : i = 2 := by omega
      have HST := Hid.mk' (Tryz.Builder_String_any b b (exS 2) wr HS.out.bd (Nat.le_of_lt HS.out.lt))
      go_wp2_with fail
      refine HST.out.mono ?_
      rintro e w2 ⟨rfl, hbw⟩
      go_wp2
      go_ret
      refine ⟨rfl, ?_⟩
      rw [HBF.out]
      have h1 : Below bf w W1 := by rw [← HBF.out]; exact HB1.out
      exact h1.trans ((HS.out.bw.trans hbw).mono (by omega))
end Go.Proofs.YtkgjmiadgfcbnaaGreatDoor
