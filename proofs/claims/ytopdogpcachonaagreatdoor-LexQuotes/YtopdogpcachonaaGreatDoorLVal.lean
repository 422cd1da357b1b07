/- lex.value at one letter and an end; templates' pieces. -/
import Derived.Test.YtopdogpcachonaaGreatDoorLBd
namespace Go.Proofs.YtopdogpcachonaaGreatDoor
set_option linter.unusedVariables false
open Go.RowKit Go.Shelf

theorem Rdr.belowB {B b : Nat} {W W' : World} {rb : Nat} {S : ByteArray} {a f : Int} {ov : Value} {op : List Int} (h : Rdr B W rb S a f ov op) (hb : Below b W W') (h1 : rb < b) (h2 : ∀ k, ov.ownBlock = some k → k < b) : Rdr B W' rb S a f ov op := by
  refine ⟨(hb.block rb h1).trans h.blk, ⟨h.own.1, ?_⟩, h.ge⟩
  rcases h.own.2 with hn | ⟨g, cap, cur, rfl, hB, hg, rest⟩
  · exact .inl hn
  · exact .inr ⟨g, cap, cur, rfl, hB, (hb.block g (h2 g rfl)).trans hg, rest⟩
theorem TF.via {F : Nat → Prop} {B : Nat} {w X Y : World} (h : TF F B w X) (k : Below w.heap.size X Y) : TF F B w Y :=
  ⟨k.os.trans h.os, k.tape.trans h.tape, k.output.trans h.output, Nat.le_trans h.size k.size, fun j o hj ho => (k.block j (Array.getElem?_eq_some_iff.1 ho).1).trans (h.same j o hj ho)⟩
theorem w64 (z : Int) (h0 : 0 ≤ z) (h1 : z ≤ 1000000) : wrap64 z = z := by unfold wrap64; omega
theorem value_bd (p en n : Nat) (h : p + 1 + en ≤ n) (hn : (n : Int) ≤ 262144) : wrap64 (1 + (en : Int)) = 1 + (en : Int) ∧ wrap64 ((p : Int) + (1 + (en : Int))) = (p : Int) + (1 + (en : Int)) := ⟨w64 _ (by omega) (by omega), w64 _ (by omega) (by omega)⟩
set_option maxHeartbeats 4000000 in
set_option maxRecDepth 100000 in
theorem value_c {B rb : Nat} {S : ByteArray} {f : Int} {ov : Value} {op : List Int} {R : ByteArray} (p c en eb : Nat) (E : ByteArray) (b0 b1 : Bool) (x : UInt8) (w : World) (h : Rdr B w rb S (p : Nat) f ov op) (hs : (S.size : Int) ≤ 262144)
    (ce0 : w.cell? ⟨eb, 0, none⟩ = some (.string ⟨#[96]⟩)) (ce1 : w.cell? ⟨eb, 1, none⟩ = some (.string ⟨#[36, 123]⟩)) (HRR : Hid (S.extract p S.size = R)) (hR : 2 ≤ R.size) (hpn : p + 1 + en ≤ S.size) (hen : (E.size : Int) = en) (hne : E.toList.isEmpty = false)
    (hR1 : 1 < R.size) (hy : R[1].toNat < 128) (hx0 : R.data.toList[0]? = some x) (hx : x.toNat = c) (hc : c < 128) (q1 : ((c : Int) == 92) = false) (q2 : ((c : Int) == 10) = false) (q3 : ((c : Int) == 13) = false) (q4 : x ≠ 96) (q5 : x ≠ 36)
    (h0 : Lib.hasPrefix (R.extract 1 R.size).data.toList [96] = b0) (h1 : Lib.hasPrefix (R.extract 1 R.size).data.toList [36, 123] = b1) (hE : (if b0 then (⟨#[96]⟩ : ByteArray) else if b1 then ⟨#[36, 123]⟩ else ⟨#[]⟩) = E) :
    Calls Tryz.prog 87 #[.pointer (some ⟨rb, 0, none⟩), .slice (some ⟨eb, 0, none⟩) 2 2] w fun e w' => e = .returned (.tuple #[.string ⟨(pb c).toArray⟩, .string E]) ∧ Rdr B w' rb S ((p + 1 + en : Nat) : Int) f ov op ∧ TF (RdF rb ov) B w w' := by
  obtain ⟨W1, hW1⟩ : ∃ W1, w.alloc (.cells #[.pointer none, .slice none 0 0] 39) = W1 := ⟨_, rfl⟩
  have b1' : Below w.heap.size w W1 := by rw [← hW1]; exact below_new
  have hbx : W1.heap[w.heap.size]? = some (.cells #[.pointer none, .slice none 0 0] 39 (0, 0)) := by rw [← hW1]; exact World.alloc_heap_new w _
  have hR1 := h.below b1'
  obtain ⟨c0, c1, c2, c3, cf⟩ := hR1.cells
  have e0 : W1.cell? ⟨eb, 0, none⟩ = some (.string ⟨#[96]⟩) := (b1'.cell (p := ⟨eb, 0, none⟩) (World.block_lt_of_cell? w _ ce0)).trans ce0
  have i1 : (p : Int) ≤ (S.size : Int) := by omega
  have HX := Hid.mk' hbx
  have HB1 := Hid.mk' b1'
  have HH := Hid.mk' h
  clear h hbx hR1 b1'
  go_enter Tryz.func87, Tryz.ntmps87
  go_wp2_with fail
  go_quiet (fail)
  rw [HRR.out]
  go_wp2
  obtain ⟨X0, hX0⟩ : ∃ X0, (W1.drewN nq).iter R 0 = X0 := ⟨_, rfl⟩
  obtain ⟨kb, hkb⟩ : ∃ kb, W1.heap.size = kb := ⟨_, rfl⟩
  obtain ⟨bb, hbb⟩ : ∃ bb, w.heap.size = bb := ⟨_, rfl⟩
  have hdz : (W1.drewN nq).heap.size = W1.heap.size := by simp
  have hit0 : X0.heap[kb]? = some (.stringIter R 0) := by
    rw [← hX0, ← hkb, ← hdz]; exact World.iter_heap (W1.drewN nq) R 0
  have bX : Below W1.heap.size W1 X0 := by
    rw [← hX0]
    exact (below_draws (Below.refl _ _) nq).trans ((Below.refl _ _).alloc (by rw [hdz]; exact Nat.le_refl _) _)
  have hlt1 : bb < kb := by rw [← hkb, ← hbb]; exact (Array.getElem?_eq_some_iff.1 HX.out).1
  have hbx0 : X0.heap[bb]? = some (.cells #[.pointer none, .slice none 0 0] 39 (0, 0)) := by
    rw [← hbb]
    exact (bX.block _ (by rw [hkb, hbb]; exact hlt1)).trans HX.out
  have bX0 : Below bb w X0 := by rw [← hbb]; exact HB1.out.trans (bX.mono (by rw [hkb, hbb]; omega))
  simp only [hX0, hkb, hbb]
  have HIT := Hid.mk' hit0
  have HBX := Hid.mk' hbx0
  have HBW := Hid.mk' bX0
  have HKB := Hid.mk' hlt1
  have HBB := Hid.mk' hbb
  have hsz0 : kb < X0.heap.size := (Array.getElem?_eq_some_iff.1 hit0).1
  clear c0 c1 c2 c3 cf e0 hX0 hkb hdz hit0 bX hlt1 hbx0 bX0 HX HB1 hbb hW1
  go_loopw [9] (fun v wr => (v = .int .i64 0 ∧ wr = X0) ∨ (v = .int .i64 1 ∧ Hid (wr.heap[kb]? = some (.stringIter R 1)) ∧ Hid (Lib.IsBuilder 39 5 bb bb (Lib.byteCells (pb c)) wr) ∧ Hid (Below bb w wr))) (fun v _ => 1 - (intOf v).toNat)
  case atStart => exact .inl ⟨rfl, rfl⟩
  case round =>
    have hebw : eb < bb := by rw [← HBB.out]; exact World.block_lt_of_cell? w _ ce0
    rcases hrel with ⟨rfl, hwr⟩ | ⟨rfl, HI, HS, HW⟩
    · subst hwr
      have hp : 0 < R.size := by omega
      have hget : R[0] = x := by
        have e := hx0
        rw [List.getElem?_eq_getElem (by simpa using hp)] at e
        exact Option.some.inj e
      have hdec : Utf8.decode R 0 = (c, 1) := by rw [decode_ascii R 0 hp (by rw [hget, hx]; exact hc), hget, hx]
      have hnx : ∀ ty, (Instr.next (.pointer (some ⟨kb, 0, none⟩)) true ty).run Tryz.prog wr = _ := fun ty => Lib.run_next_any_at wr kb R 0 ty HIT.out hp
      simp only [hdec] at hnx
      have hit2 := Lib.iterAt_heap wr kb R 0 (0 + 1) HIT.out
      have hby := Lib.below_iterAt HBW.out (k := kb) (Nat.le_of_lt HKB.out) R (0 + 1)
      have hbk : (wr.iterAt kb R (0 + 1)).heap[bb]? = some (.cells #[.pointer none, .slice none 0 0] 39 (0, 0)) := by
        rw [Lib.iterAt_other _ _ _ _ _ (fun e => by have := HKB.out; omega)]
        exact HBX.out
      obtain ⟨Y, hY⟩ : ∃ Y, wr.iterAt kb R (0 + 1) = Y := ⟨_, rfl⟩
      have e0 : Y.cell? ⟨eb, 0, none⟩ = some (.string ⟨#[96]⟩) := by rw [← hY]; exact (hby.cell (p := ⟨eb, 0, none⟩) hebw).trans ce0
      have e1 : Y.cell? ⟨eb, 1, none⟩ = some (.string ⟨#[36, 123]⟩) := by rw [← hY]; exact (hby.cell (p := ⟨eb, 1, none⟩) hebw).trans ce1
      rw [hY] at hit2 hby hbk
      have HE0 := Hid.mk' (endAhead_c R eb false false Y e0 e1 (pre_no R x hx0 96 [] q4) (pre_no R x hx0 36 [123] q5))
      have HPA := Hid.mk' (fun W => partAhead_c R c true W hc q1 q2 q3)
      have HWS := Hid.mk' (fun (W : World) (hW : Below Y.heap.size Y W) => writeString_new bb ⟨(pb c).toArray⟩ W ((hW.block bb (Array.getElem?_eq_some_iff.1 hbk).1).trans hbk) (by have := pb_length c; show (((pb c).length : Nat) : Int) ≤ _; omega))
      have HIY := Hid.mk' hit2
      have HBY := Hid.mk' hby
      have hYs : bb < Y.heap.size := (Array.getElem?_eq_some_iff.1 hbk).1
      have i0 : (0 : Int) ≤ (R.size : Int) := by omega
      clear hit2 hby hbk hdec hget e0 e1
      simp only [hY] at hnx
      have HX0 := Hid.mk' hx0
      have HXC := Hid.mk' hx
      clear hY hx0 hx h0 h1 hE hen hpn q4 q5 ce0 ce1 hp q1 q2 q3 hc hne
      go_wp2_with fail
      refine HE0.out.mono ?_; rintro e w1 ⟨rfl, hw1⟩; rw [hw1]; clear hw1 w1
      simp only [Bool.false_eq_true, if_false]
      go_wp2_with fail
      refine (HPA.out _).mono ?_; rintro e w1 ⟨rfl, k1⟩
      go_wp2_with fail
      refine (HWS.out _ k1).mono ?_; rintro e w2 ⟨⟨v, rfl⟩, s2, k2, n2⟩
      have HF : Hid (w2.heap[kb]? = some (.stringIter R 1)) := Hid.mk' (n2.same kb _ (by have := HKB.out; omega) ((k1.block kb (Array.getElem?_eq_some_iff.1 HIY.out).1).trans HIY.out))
      have HG : Hid (Below bb w w2) := Hid.mk' ((HBY.out.trans (k1.mono (Nat.le_of_lt hYs))).trans k2)
      have HS2 := Hid.mk' s2
      clear k1 k2 n2 s2
      go_wp2
      go_roundw
      case rel => exact .inr ⟨rfl, HF, HS2, HG⟩
      case measure => simp [intOf]
    · have hp : 1 < R.size := by omega
      have hdec : Utf8.decode R 1 = (R[1].toNat, 1) := decode_ascii R 1 hp hy
      obtain ⟨d, hd⟩ : ∃ d, R[1].toNat = d := ⟨_, rfl⟩
      rw [hd] at hdec
      have hnx : ∀ ty, (Instr.next (.pointer (some ⟨kb, 0, none⟩)) true ty).run Tryz.prog wr = _ := fun ty => Lib.run_next_any_at wr kb R 1 ty HI.out hp
      simp only [hdec] at hnx
      have hby := Lib.below_iterAt HW.out (k := kb) (Nat.le_of_lt HKB.out) R (1 + 1)
      have hbd : Lib.IsBuilder 39 5 bb bb (Lib.byteCells (pb c)) (wr.iterAt kb R (1 + 1)) := by
        rcases HS.out with ⟨hB, v, hb, ho, hn⟩ | ⟨hB, v, hb, ho, hn⟩
        · exact .inl ⟨hB, v, by rw [Lib.iterAt_other _ _ _ _ _ (fun e => by have := HKB.out; omega)]; exact hb, own_iterAt ho HI.out _, hn⟩
        · exact .inr ⟨hB, v, by rw [Lib.iterAt_other _ _ _ _ _ (fun e => by have := HKB.out; omega)]; exact hb, own_iterAt ho HI.out _, hn⟩
      obtain ⟨Y, hY⟩ : ∃ Y, wr.iterAt kb R (1 + 1) = Y := ⟨_, rfl⟩
      rw [hY] at hby hbd
      have e0 : Y.cell? ⟨eb, 0, none⟩ = some (.string ⟨#[96]⟩) := (hby.cell (p := ⟨eb, 0, none⟩) hebw).trans ce0
      have e1 : Y.cell? ⟨eb, 1, none⟩ = some (.string ⟨#[36, 123]⟩) := (hby.cell (p := ⟨eb, 1, none⟩) hebw).trans ce1
      have HE1 := Hid.mk' (endAhead_c (R.extract 1 R.size) eb b0 b1 Y e0 e1 h0 h1)
      rw [hE] at HE1
      have hRd : Rdr B Y rb S (p : Nat) f ov op := by
        have q := HH.out
        rw [← HBB.out] at hby
        exact q.below hby
      obtain ⟨c0, c1, c2, c3, cf⟩ := hRd.cells
      have hRs := hRd.setAt ((p : Int) + (1 + (en : Int)))
      have hsb : Lib.IsBuilder 39 5 bb bb (Lib.byteCells (pb c)) (Y.setCell ⟨rb, 1, none⟩ (.int .i64 ((p : Int) + (1 + (en : Int))))) := by
        have hne1 : rb ≠ bb := by have := HH.out.lt; rw [HBB.out] at this; omega
        have hrn : ∀ v : Value, Y.ownsRow bb 5 1 v (Lib.byteCells (pb c)).length (Lib.byteCells (pb c)) → v.ownBlock ≠ some rb := fun v ho e => by
          have := (ho.lt rb e).1
          have h2 := HH.out.lt
          rw [HBB.out] at h2
          omega
        rcases hbd with ⟨hB, v, hb, ho, hn⟩ | ⟨hB, v, hb, ho, hn⟩
        · exact .inl ⟨hB, v, (Below.heap_setCell _ _ _ _ hne1.symm).trans hb, own_set _ ho (hrn v ho), hn⟩
        · exact .inr ⟨hB, v, (Below.heap_setCell _ _ _ _ hne1.symm).trans hb, own_set _ ho (hrn v ho), hn⟩
      have hysz : bb ≤ Y.heap.size := by have := hby.size; have h2 := HBB.out; omega
      have HST := Hid.mk' (Tryz.Builder_String_any bb bb (pb c) _ hsb (by rw [show (Y.setCell ⟨rb, 1, none⟩ (.int .i64 ((p : Int) + (1 + (en : Int))))).heap.size = Y.heap.size by simp [World.setCell]]; exact hysz))
      have HRS := Hid.mk' hRs
      have HBY := Hid.mk' hby
      have i0 : (1 : Int) ≤ (R.size : Int) := by omega
      obtain ⟨x1, x2⟩ := value_bd p en S.size hpn hs
      have HPN := Hid.mk' hpn
      clear hby hbd hRd hRs hsb hdec e0 e1 hE h0 h1 hx0 hx q1 q2 q3 q4 q5 hc hpn ce0 ce1 hp hd hysz
      simp only [hY] at hnx
      clear hY
      go_wp2_with fail
      refine HE1.out.mono ?_; rintro e w1 ⟨rfl, hw1⟩; rw [hw1]; clear hw1 w1
      go_wp2_with fail
      refine HST.out.mono ?_; rintro e w1 ⟨rfl, k1⟩
      go_wp2
      go_ret2
      refine ⟨rfl, ?_, ?_⟩
      · rw [show ((p + 1 + en : Nat) : Int) = (p : Int) + (1 + (en : Int)) by omega]
        exact HRS.out.belowB k1 (by rw [← HBB.out]; exact HH.out.lt) (fun k hk => by rw [← HBB.out]; exact (HH.out.own.lt k hk).2)
      · have k0 : TF (RdF rb ov) B w Y := by
          have q := HBY.out
          rw [← HBB.out] at q
          exact TF.of_below q
        rw [← HBB.out] at k1
        exact (k0.trans (RdF.set _ HH.out.ge)).via k1
set_option maxHeartbeats 1000000 in
set_option maxRecDepth 100000 in
theorem piece_c {B rb : Nat} {S : ByteArray} {f : Int} {ov : Value} {op : List Int} {t : ByteArray} {E : ByteArray} {bl : Bool} (p q : Nat) (w : World) (h : Rdr B w rb S (p : Nat) f ov op) (hs : (p : Int) + 1 ≤ 262144) (hE : (E.toList == [96]) = bl)
    (HV : ∀ (W : World) (eb : Nat), Rdr B W rb S ((p + 1 : Nat) : Int) f ov op → W.cell? ⟨eb, 0, none⟩ = some (.string ⟨#[96]⟩) → W.cell? ⟨eb, 1, none⟩ = some (.string ⟨#[36, 123]⟩) →
      Calls Tryz.prog 87 #[.pointer (some ⟨rb, 0, none⟩), .slice (some ⟨eb, 0, none⟩) 2 2] W fun e w' => e = .returned (.tuple #[.string t, .string E]) ∧ Rdr B w' rb S (q : Nat) f ov op ∧ TF (RdF rb ov) B W w') :
    Calls Tryz.prog 88 #[.pointer (some ⟨rb, 0, none⟩)] w fun e w' => e = .returned (.tuple #[.string t, .bool bl]) ∧ Rdr B w' rb S (q : Nat) f ov op ∧ TF (RdF rb ov) B w w' := by
  obtain ⟨c0, c1, c2, c3, cf⟩ := h.cells
  have x1 : wrap64 ((p : Int) + 1) = (p : Int) + 1 := w64 _ (by omega) (by omega)
  have hR1 := h.setAt ((p : Int) + 1)
  rw [show (p : Int) + 1 = ((p + 1 : Nat) : Int) by omega] at hR1
  obtain ⟨W1, hW1⟩ : ∃ W1, w.setCell ⟨rb, 1, none⟩ (.int .i64 ((p : Int) + 1)) = W1 := ⟨_, rfl⟩
  rw [show ((p + 1 : Nat) : Int) = (p : Int) + 1 by omega, hW1, show (p : Int) + 1 = ((p + 1 : Nat) : Int) by omega] at hR1
  have hT1 : TF (RdF rb ov) B w W1 := by rw [← hW1]; exact RdF.set _ h.ge
  obtain ⟨W2, hW2⟩ : ∃ W2, W1.alloc (.cells #[.string ⟨#[96]⟩, .string ⟨#[36, 123]⟩] 9) = W2 := ⟨_, rfl⟩
  have b2 : Below W1.heap.size W1 W2 := by rw [← hW2]; exact below_new
  have hbx : W2.heap[W1.heap.size]? = some (.cells #[.string ⟨#[96]⟩, .string ⟨#[36, 123]⟩] 9 (0, 0)) := by rw [← hW2]; exact World.alloc_heap_new W1 _
  have HVV := Hid.mk' (HV W2 W1.heap.size (hR1.below b2) (by rw [cell_of_row _ _ 0 _ _ _ hbx]; rfl) (by rw [cell_of_row _ _ 1 _ _ _ hbx]; rfl))
  have HT := Hid.mk' (hT1.trans (TF.of_below b2))
  clear HV hR1 hT1 hbx b2 h
  go_enter Tryz.func88, Tryz.ntmps88
  go_wp2_with fail
  refine HVV.out.mono ?_; rintro e w3 ⟨rfl, hR3, hT3⟩
  go_wp2
  go_ret2
  exact ⟨rfl, hR3, HT.out.trans hT3⟩
end Go.Proofs.YtopdogpcachonaaGreatDoor
