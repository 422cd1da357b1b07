/- LexQuotes: lex.value, text, token, next at what Quote writes; any units are written as a text literal, which is one token with those units. -/
import Derived.Test.YtopdogpcachonaaGreatDoorLQe
import Derived.Test.YtopdogpcachonaaGreatDoorLQq
import Derived.Test.YtopdogpcachonaaGreatDoorLWa
namespace Go.Proofs.YtopdogpcachonaaGreatDoor
set_option linter.unusedVariables false
open Go.RowKit Go.Shelf

set_option maxHeartbeats 1000000 in
set_option maxRecDepth 100000 in
theorem endAhead_q (R : ByteArray) (eb : Nat) (b0 : Bool) (w : World) (c0 : w.cell? ⟨eb, 0, none⟩ = some (.string ⟨#[34]⟩)) (h0 : Lib.hasPrefix R.data.toList [34] = b0) :
    Calls Tryz.prog 103 #[.string R, .slice (some ⟨eb, 0, none⟩) 1 1] w fun e w' => e = .returned (.string (if b0 then ⟨#[34]⟩ else ⟨#[]⟩)) ∧ w' = w := by
  have HP0 := Hid.mk' (fun W => Tryz.strings_HasPrefix R ⟨#[34]⟩ W)
  rw [show (⟨#[34]⟩ : ByteArray).data.toList = [34] from rfl, h0] at HP0
  clear h0
  go_enter Tryz.func103, Tryz.ntmps103
  go_wp2
  go_loop [9] (fun v => v = .int .i64 0 ∨ (b0 = false ∧ v = .int .i64 1)) (fun v => 1 - (intOf v).toNat)
  case atStart => exact .inl rfl
  case round =>
    rcases hrel with rfl | ⟨rfl, rfl⟩
    · cases b0
      · go_wp2_with (go_at_call 55; refine (HP0.out _).mono ?_; rintro e w1 ⟨rfl, hw1⟩; rw [hw1]; clear hw1 w1)
        go_round
        case rel => exact .inr (by simp)
        case measure => simp [intOf]
      · go_wp2_with (go_at_call 55; refine (HP0.out _).mono ?_; rintro e w1 ⟨rfl, hw1⟩; rw [hw1]; clear hw1 w1)
        go_ret
        exact ⟨rfl, rfl⟩
    · go_wp2
      go_ret
      exact ⟨rfl, rfl⟩
theorem qU_head (u : Nat) (hu : u < 65536) (m : List UInt8) : ∃ x, (qU u ++ m)[0]? = some x ∧ x ≠ 34 ∧ x.toNat < 128 := by
  by_cases q1 : u = 34 ∨ u = 92
  · rw [qU_esc u q1]; exact ⟨92, rfl, by decide, by decide⟩
  · by_cases q2 : 32 ≤ u ∧ u ≤ 126
    · rw [qU_plain u q1 q2]
      refine ⟨u.toUInt8, rfl, fun e => ?_, by rw [u8_lt u (by omega)]; omega⟩
      have := congrArg UInt8.toNat e
      rw [u8_lt u (by omega)] at this
      exact q1 (.inl this)
    · rw [qU_hex u q1 q2]; exact ⟨92, rfl, by decide, by decide⟩
theorem Bld.iterAt {B b k : Nat} {l : List UInt8} {W : World} {R : ByteArray} {i : Nat} (h : Bld B b l W) (hk : W.heap[k]? = some (.stringIter R i)) (hne : b ≠ k) (q : Nat) : Bld B b l (W.iterAt k R q) := by
  rcases h with ⟨hB, v, hb, ho, hn⟩ | ⟨hB, v, hb, ho, hn⟩
  · exact .inl ⟨hB, v, by rw [Lib.iterAt_other _ _ _ _ _ hne]; exact hb, own_iterAt ho hk _, hn⟩
  · exact .inr ⟨hB, v, by rw [Lib.iterAt_other _ _ _ _ _ hne]; exact hb, own_iterAt ho hk _, hn⟩
theorem qv_bd (p i n : Nat) (h : p + i + 1 = n) (hn : (n : Int) ≤ 262144) : wrap64 ((i : Int) + 1) = (i : Int) + 1 ∧ wrap64 ((p : Int) + ((i : Int) + 1)) = (p : Int) + ((i : Int) + 1) ∧ (n : Int) = (p : Int) + ((i : Int) + 1) := ⟨w64 _ (by omega) (by omega), w64 _ (by omega) (by omega), by omega⟩
theorem pb_ub (u : Nat) (h : u < 65536) : pb u = ub u := by unfold pb; rw [if_pos h]
set_option maxHeartbeats 4000000 in
set_option maxRecDepth 100000 in
theorem value_q {B rb : Nat} {S : ByteArray} {f : Int} {ov : Value} {op : List Int} (us : List Nat) (hus : ∀ u ∈ us, u < 65536) (p eb : Nat) (w : World) (h : Rdr B w rb S (p : Nat) f ov op) (hs : (S.size : Int) ≤ 262144)
    (ce0 : w.cell? ⟨eb, 0, none⟩ = some (.string ⟨#[34]⟩)) (HRR : Hid (S.extract p S.size = Sb (qB us ++ [34]))) (hp : p + (qB us).length + 1 = S.size) (hul : us.length ≤ 1000) :
    Calls Tryz.prog 87 #[.pointer (some ⟨rb, 0, none⟩), .slice (some ⟨eb, 0, none⟩) 1 1] w fun e w' => e = .returned (.tuple #[.string (Sb (mkB us)), .string ⟨#[34]⟩]) ∧ Rdr B w' rb S (S.size : Nat) f ov op ∧ TF (RdF rb ov) B w w' := by
  obtain ⟨W1, hW1⟩ : ∃ W1, w.alloc (.cells #[.pointer none, .slice none 0 0] 39) = W1 := ⟨_, rfl⟩
  have b1' : Below w.heap.size w W1 := by rw [← hW1]; exact below_new
  have hbx : Bld w.heap.size w.heap.size [] W1 := by rw [← hW1]; exact Lib.fresh_isBuilder _ _ w
  have hsz1 : w.heap.size < W1.heap.size := by rw [← hW1]; simp
  have hR1 := h.below b1'
  obtain ⟨c0, c1, c2, c3, cf⟩ := hR1.cells
  have e0 : W1.cell? ⟨eb, 0, none⟩ = some (.string ⟨#[34]⟩) := (b1'.cell (p := ⟨eb, 0, none⟩) (World.block_lt_of_cell? w _ ce0)).trans ce0
  have i1 : (p : Int) ≤ (S.size : Int) := by omega
  have HX := Hid.mk' hbx
  have HB1 := Hid.mk' b1'
  have HH := Hid.mk' h
  obtain ⟨R, hR⟩ : ∃ R, Sb (qB us ++ [34]) = R := ⟨_, rfl⟩
  have hRs : R.size = (qB us).length + 1 := by rw [← hR, Sb_size]; simp
  have HRA : Hid (∀ i (h : i < R.size), R[i].toNat < 128) := Hid.mk' (fun i h => by
    subst hR
    rw [Sb_get]
    have hm := List.getElem_mem (l := qB us ++ [34]) (n := i) (by rw [← Sb_size]; exact h)
    rcases List.mem_append.1 hm with h1 | h1
    · exact qB_ascii us _ h1
    · rw [List.mem_singleton.1 h1]; decide)
  have HRD : Hid (∀ i, R.extract i R.size = Sb ((qB us ++ [34]).drop i)) := Hid.mk' (fun i => by rw [← hR]; exact Sb_rest _ i)
  rw [hR] at HRR
  have HUS := Hid.mk' hus
  have HRZ := Hid.mk' hRs
  clear h hbx hR1 b1' hus hR hRs
  go_enter Tryz.func87, Tryz.ntmps87
  go_wp2_with fail
  go_quiet (fail)
  rw [HRR.out]
  go_wp2
  obtain ⟨X0, hX0⟩ : ∃ X0, (W1.drewN nq).iter R 0 = X0 := ⟨_, rfl⟩
  obtain ⟨kb, hkb⟩ : ∃ kb, W1.heap.size = kb := ⟨_, rfl⟩
  obtain ⟨bb, hbb⟩ : ∃ bb, w.heap.size = bb := ⟨_, rfl⟩
  have hdz : (W1.drewN nq).heap.size = W1.heap.size := by simp
  have hit0 : X0.heap[kb]? = some (.stringIter R 0) := by
    rw [← hX0, ← hkb, ← hdz]; exact World.iter_heap (W1.drewN nq) R 0
  have bX : Below W1.heap.size W1 X0 := by
    rw [← hX0]
    exact (below_draws (Below.refl _ _) nq).trans ((Below.refl _ _).alloc (by rw [hdz]; exact Nat.le_refl _) _)
  have hlt1 : bb < kb := by rw [← hkb, ← hbb]; exact hsz1
  have hbx0 : Bld bb bb (mkB (us.take 0)) X0 := by
    rw [← hbb]
    exact Bld.below HX.out bX
  have bX0 : Below bb w X0 := by rw [← hbb]; exact HB1.out.trans (bX.mono (Nat.le_of_lt hsz1))
  simp only [hX0, hkb, hbb]
  have HIT := Hid.mk' hit0
  have HBX := Hid.mk' hbx0
  have HBW := Hid.mk' bX0
  have HKB := Hid.mk' hlt1
  have HBB := Hid.mk' hbb
  clear c0 c1 c2 c3 cf e0 hX0 hkb hdz hit0 bX hlt1 hbx0 bX0 HX HB1 hbb hW1 hsz1
  go_loopw [9] (fun v wr => ∃ k i : Nat, v = .int .i64 (qO us k) ∧ k ≤ us.length ∧ i ≤ qO us k ∧ Hid (wr.heap[kb]? = some (.stringIter R i)) ∧ Hid (Bld bb bb (mkB (us.take k)) wr) ∧ Hid (Below bb w wr)) (fun _ wr => R.size - wr.iterPos kb)
  case atStart => exact ⟨0, 0, by rw [qO_zero]; rfl, Nat.zero_le _, Nat.zero_le _, HIT, HBX, HBW⟩
  case round =>
    clear HIT HBX HBW
    have hebw : eb < bb := by rw [← HBB.out]; exact World.block_lt_of_cell? w _ ce0
    obtain ⟨k, i, rfl, hk, hik, HI, HS, HW⟩ := hrel
    have hql := qO_le us k
    have hiR : i < R.size := by rw [HRZ.out]; omega
    have hdec : Utf8.decode R i = (R[i].toNat, 1) := decode_ascii R i hiR (HRA.out i hiR)
    have hnx : ∀ ty, (Instr.next (.pointer (some ⟨kb, 0, none⟩)) true ty).run Tryz.prog wr = _ := fun ty => Lib.run_next_any_at wr kb R i ty HI.out hiR
    simp only [hdec] at hnx
    have hit2 := Lib.iterAt_heap wr kb R i (i + 1) HI.out
    have hby := Lib.below_iterAt HW.out (k := kb) (Nat.le_of_lt HKB.out) R (i + 1)
    have hbd := HS.out.iterAt HI.out (fun e => by have := HKB.out; omega) (i + 1)
    have HM : Hid (∀ W : World, W.heap[kb]? = some (.stringIter R (i + 1)) → R.size - W.iterPos kb < R.size - wr.iterPos kb) := Hid.mk' (fun W hWi => by
      have h2 := HI.out
      simp only [World.iterPos, hWi, h2]
      omega)
    obtain ⟨Y, hY⟩ : ∃ Y, wr.iterAt kb R (i + 1) = Y := ⟨_, rfl⟩
    rw [hY] at hit2 hby hbd
    simp only [hY] at hnx
    have e0 : Y.cell? ⟨eb, 0, none⟩ = some (.string ⟨#[34]⟩) := (hby.cell (p := ⟨eb, 0, none⟩) hebw).trans ce0
    obtain ⟨x, hx⟩ : ∃ x, R[i] = x := ⟨_, rfl⟩
    rw [hx] at hnx
    have hYb : bb ≤ Y.heap.size := by have := hby.size; have := (Array.getElem?_eq_some_iff.1 hit2).1; have := HKB.out; omega
    have j0 : (0 : Int) ≤ (i : Int) := by omega
    have j1 : (i : Int) ≤ (R.size : Int) := by omega
    by_cases hlt : i < qO us k
    · have HIY := Hid.mk' hit2
      have HBY := Hid.mk' hby
      have HBD := Hid.mk' hbd
      have HL := Hid.mk' hlt
      obtain ⟨q, hq⟩ : ∃ q : Int, (qO us k : Int) = q := ⟨_, rfl⟩
      have hlt' : (i : Int) < q := by omega
      have HQ := Hid.mk' hq
      rw [hq]
      clear hit2 hby hbd hdec hY hx hlt hq hql hik ce0 e0
      go_wp2
      go_roundw
      case rel => exact ⟨k, i + 1, by rw [HQ.out], hk, HL.out, HIY, HBD, HBY⟩
      case measure => exact HM.out _ HIY.out
    have hi : i = qO us k := by omega
    rw [← hi]
    have HI' := Hid.mk' hi
    have jlt : ¬ (i : Int) < (i : Int) := by omega
    clear hlt
    by_cases hkn : k < us.length
    · have hu := HUS.out us[k] (List.getElem_mem _)
      obtain ⟨u, hu'⟩ : ∃ u, us[k] = u := ⟨_, rfl⟩
      have hdr := HRD.out (qO us k)
      rw [q_drop us k hkn, hu', ← hi] at hdr
      obtain ⟨m, hm⟩ : ∃ m, qB (us.drop (k + 1)) ++ [34] = m := ⟨_, rfl⟩
      rw [hm] at hdr
      rw [hu'] at hu
      obtain ⟨x', hx0, hx34, _⟩ := qU_head u hu m
      have hxx : x = x' := by
        have q : (R.extract i R.size).data.toList[0]? = some R[i] := rest_first R _ hiR
        rw [hdr, Sb_list, hx0, hx] at q
        exact (Option.some.inj q).symm
      subst hxx
      have HE0 := Hid.mk' (endAhead_q (Sb (qU u ++ m)) eb false Y e0 (pre_no (Sb (qU u ++ m)) x (by rw [Sb_list]; exact hx0) 34 [] hx34))
      have HPA := Hid.mk' (fun W => part_q u hu m x hx0 W)
      rw [← hdr] at HE0 HPA
      have hqs := qO_succ us k hkn
      rw [hu'] at hqs
      have HMK : Hid (mkB (us.take (k + 1)) = mkB (us.take k) ++ pb u) := Hid.mk' (by rw [mkB_take us k hkn, hu', pb_ub u hu])
      have hlen : ((Lib.byteCells (mkB (us.take k))).length : Int) ≤ 1048576 := by
        rw [byteCells_len, mkB_length, List.length_take]; omega
      have HWS := Hid.mk' (fun (W : World) (hW : Below Y.heap.size Y W) => writeString_b bb bb (Lib.byteCells (mkB (us.take k))) ⟨(pb u).toArray⟩ W (hbd.below hW) hlen (by have := pb_length u; show (((pb u).length : Nat) : Int) ≤ _; omega) (Nat.le_trans hYb hW.size))
      have HIY := Hid.mk' hit2
      have HBY := Hid.mk' hby
      have HYB := Hid.mk' hYb
      obtain ⟨sz, hsz⟩ : ∃ sz : Int, ((qU u).length : Int) = sz := ⟨_, rfl⟩
      have hszb := qU_len u
      have hs0 : 1 ≤ sz := by omega
      have hs1 : sz ≤ 6 := by omega
      have hib : (i : Int) ≤ 262144 := by have := HRZ.out; omega
      have HNX : Hid ((qO us (k + 1) : Int) = (i : Int) + sz) := Hid.mk' (by rw [hqs]; omega)
      have HLE : Hid (i + 1 ≤ qO us (k + 1)) := Hid.mk' (by omega)
      have xs := w64 ((i : Int) + sz) (by omega) (by omega)
      rw [hsz] at HPA
      have hpu : (⟨(pb u).toArray⟩ : ByteArray).data.toList = pb u := by simp
      have HPU := Hid.mk' hpu
      obtain ⟨T, hT⟩ : ∃ T : ByteArray, (⟨(pb u).toArray⟩ : ByteArray) = T := ⟨_, rfl⟩
      rw [hT] at HPA HWS HPU
      clear hit2 hby hbd hdec hY hx hql hik ce0 e0 hi hu hu' hdr hm hx0 hx34 hqs hlen hszb hsz hpu hT hYb
      go_wp2_with fail
      refine HE0.out.mono ?_; rintro e w1 ⟨rfl, hw1⟩; rw [hw1]; clear hw1 w1
      simp only [Bool.false_eq_true, if_false]
      go_wp2_with fail
      refine (HPA.out _).mono ?_; rintro e w1 ⟨rfl, k1⟩
      go_wp2_with fail
      refine (HWS.out _ k1).mono ?_; rintro e w2 ⟨⟨v, rfl⟩, s2, k2, n2⟩
      have HF : Hid (w2.heap[kb]? = some (.stringIter R (i + 1))) := Hid.mk' (n2.iter ((k1.block kb (Array.getElem?_eq_some_iff.1 HIY.out).1).trans HIY.out) (by have := HKB.out; omega))
      have HG : Hid (Below bb w w2) := Hid.mk' ((HBY.out.trans (k1.mono HYB.out)).trans k2)
      have HS2 : Hid (Bld bb bb (mkB (us.take (k + 1))) w2) := Hid.mk' (by
        unfold Bld
        rw [HMK.out, byteCells_app, ← HPU.out]
        exact s2)
      clear k1 k2 n2 s2
      go_wp2
      go_roundw
      case rel => exact ⟨k + 1, i + 1, by rw [HNX.out], hkn, HLE.out, HF, HS2, HG⟩
      case measure => exact HM.out _ HF.out
    · obtain rfl : k = us.length := by omega
      have hdr := HRD.out (qO us us.length)
      rw [q_drop_end, ← hi] at hdr
      have HE1 := Hid.mk' (endAhead_q (Sb [34]) eb true Y e0 (by rw [Sb_list]; rfl))
      rw [← hdr] at HE1
      have hiq : i = (qB us).length := by rw [hi, qO_end]
      rw [List.take_length] at hbd
      have hRd : Rdr B Y rb S (p : Nat) f ov op := by
        have q := HH.out
        have hby' := hby
        rw [← HBB.out] at hby'
        exact q.below hby'
      obtain ⟨c0, c1, c2, c3, cf⟩ := hRd.cells
      have hRs' := hRd.setAt ((p : Int) + ((i : Int) + 1))
      have hsb : Bld bb bb (mkB us) (Y.setCell ⟨rb, 1, none⟩ (.int .i64 ((p : Int) + ((i : Int) + 1)))) := by
        have hne1 : rb ≠ bb := by have := HH.out.lt; rw [HBB.out] at this; omega
        have hrn : ∀ v : Value, Y.ownsRow bb 5 1 v (Lib.byteCells (mkB us)).length (Lib.byteCells (mkB us)) → v.ownBlock ≠ some rb := fun v ho e => by
          have := (ho.lt rb e).1
          have h2 := HH.out.lt
          rw [HBB.out] at h2
          omega
        rcases hbd with ⟨hB, v, hb, ho, hn⟩ | ⟨hB, v, hb, ho, hn⟩
        · exact .inl ⟨hB, v, (Below.heap_setCell _ _ _ _ hne1.symm).trans hb, own_set _ ho (hrn v ho), hn⟩
        · exact .inr ⟨hB, v, (Below.heap_setCell _ _ _ _ hne1.symm).trans hb, own_set _ ho (hrn v ho), hn⟩
      have HST := Hid.mk' (Tryz.Builder_String_any bb bb (mkB us) _ hsb (by rw [show (Y.setCell ⟨rb, 1, none⟩ (.int .i64 ((p : Int) + ((i : Int) + 1)))).heap.size = Y.heap.size by simp [World.setCell]]; exact hYb))
      have HRS := Hid.mk' hRs'
      have HBY := Hid.mk' hby
      obtain ⟨x1, x2, x3⟩ := qv_bd p i S.size (by rw [hiq]; exact hp) hs
      have HPN := Hid.mk' x3
      clear x3
      clear hby hbd hRd hRs' hsb hdec hY hx hql hik ce0 e0 hi hdr hiq hYb hp hit2 hul
      go_wp2_with fail
      refine HE1.out.mono ?_; rintro e w1 ⟨rfl, hw1⟩; rw [hw1]; clear hw1 w1
      simp only [if_true]
      go_wp2_with fail
      refine HST.out.mono ?_; rintro e w1 ⟨rfl, k1⟩
      go_wp2
      go_ret2
      refine ⟨rfl, ?_, ?_⟩
      · rw [HPN.out]
        exact HRS.out.belowB k1 (by rw [← HBB.out]; exact HH.out.lt) (fun k hk => by rw [← HBB.out]; exact (HH.out.own.lt k hk).2)
      · have k0 : TF (RdF rb ov) B w Y := by
          have q := HBY.out
          rw [← HBB.out] at q
          exact TF.of_below q
        rw [← HBB.out] at k1
        exact (k0.trans (RdF.set _ HH.out.ge)).via k1

set_option maxHeartbeats 2000000 in
set_option maxRecDepth 100000 in
theorem token_text {B rb : Nat} {S : ByteArray} {f : Int} {ov : Value} {op : List Int} {t : Tk} {at' : Int} {op' : List Int} (an : Nat) (w : World) (h : Rdr B w rb S (an : Nat) f ov op) (hs : (S.size : Int) ≤ 262144) {R : ByteArray} {z : Int} (HRR : Hid (S.extract an S.size = R)) (ha : (an : Int) < (S.size : Int)) (hz : PlainAid.bt R 0 = z) (hn : nmN R.data.toList 0 = 0) (hz34 : z = 34)
    (HM : ∀ W, Below w.heap.size w W → Calls Tryz.prog 67 #[.pointer (some ⟨rb, 0, none⟩)] W fun e w' => Gv B rb S f ov t at' op' W e w') :
    Calls Tryz.prog 43 #[.pointer (some ⟨rb, 0, none⟩)] w fun e w' => Gv B rb S f ov t at' op' w e w' := by
  have h46 : (z == 46) = false := by rw [hz34]; rfl
  have hd : digZ z = false := by rw [hz34]; rfl
  have i1 : (an : Int) ≤ (S.size : Int) := by omega
  have hrs : 1 ≤ (R.size : Int) := by rw [← HRR.out]; simp; omega
  have hne : R.toList.isEmpty = false := ne_empty (by omega)
  have hbt := PlainAid.get_bt R
  have HNA := Hid.mk' (fun W => nameAhead_any R W (by rw [← HRR.out]; simp; omega))
  rw [hn] at HNA
  have HNU := Hid.mk' (fun W => numberAhead_c R z W hrs hz h46)
  rw [hd] at HNU
  clear hn hd h46
  subst hz34
  have hst : ∀ (p : Addr) (x : Nat) (md : Mode) (W : World), (store p (.float .f64 x) md).run Tryz.prog W = stored Tryz.prog W p (.float .f64 x) md := fun p x md W => run_store Tryz.prog W p _ md rfl
  obtain ⟨W1, hW1⟩ : ∃ W1, w.alloc (.cells tok0 31) = W1 := ⟨_, rfl⟩
  have b1 : Below w.heap.size w W1 := by rw [← hW1]; exact below_new
  have hbx : W1.heap[w.heap.size]? = some (.cells tok0 31 (0, 0)) := by rw [← hW1]; exact World.alloc_heap_new w _
  have hA := h.away (Nat.le_refl _)
  have hR := h.below b1
  obtain ⟨c0, c1, c2, c3, cf⟩ := hR.cells
  have HA := Hid.mk' hA
  have HB1 := Hid.mk' b1
  have HX := Hid.mk' hbx
  have HL := Hid.mk' (show w.heap.size < W1.heap.size by rw [← hW1]; simp)
  have HMM := Hid.mk' HM
  obtain ⟨bx, hbxn⟩ : ∃ bx, w.heap.size = bx := ⟨_, rfl⟩
  clear h hR b1 hbx hA HM
  go_enter Tryz.func43, Tryz.ntmps43
  go_wp2_with fail
  go_quiet (fail)
  rw [HRR.out]
  go_wp2_with fail
  refine (HNA.out _).mono ?_; rintro e w1 ⟨rfl, hw1⟩; rw [hw1]; clear hw1 w1
  go_wp2_with fail
  refine (HNU.out _).mono ?_; rintro e w1 ⟨rfl, hw1⟩; rw [hw1]; clear hw1 w1
  go_wp2_with fail
  refine (HMM.out _ (below_draws HB1.out nq)).mono ?_
  rintro e w1 ⟨rfl, ov', hR1, hT1, hN1⟩
  obtain ⟨y1, y2⟩ := hT1.box (k := bx) (by rw [← hbxn]; exact HA.out) (by rw [← hbxn]; exact HX.out)
  have z0 := y1 0 _ rfl
  have z1 := y1 1 _ rfl
  have z2 := y1 2 _ rfl
  have z3 := y1 3 _ rfl
  have z4 := y1 4 _ rfl
  have z5 := y1 5 _ rfl
  have z6 := y1 6 _ rfl
  have HR1 := Hid.mk' hR1
  have HT1 := Hid.mk' hT1
  have HN1 := Hid.mk' hN1
  have HBN := Hid.mk' hbxn
  obtain ⟨kd, tx, sr, nu, fr, to, li⟩ := t
  simp only [Tk.agg]
  clear y1 hR1 hT1 hN1 c0 c1 c2 c3 cf hbxn hW1
  go_wp2
  refine bodyPost_ret (v := .agg #[.int .i64 kd, .string tx, .string sr, .float .f64 nu, .int .i64 fr, .int .i64 to, .bool li]) ?_ rfl ⟨rfl, ov', ?_, ?_, ?_⟩
  · rw [results_cell rfl]
    go_simp
  · have q1 : bx ≠ rb := by rw [← HBN.out]; exact HA.out.1
    have q2 : ov'.ownBlock ≠ some bx := fun e => by
      rcases HN1.out bx e with h1 | h1
      · exact HA.out.2 (by rw [HBN.out]; exact h1)
      · have h2 := HL.out
        rw [HBN.out] at h2
        have h3 : (W1.drewN nq).heap.size = W1.heap.size := by simp
        omega
    repeat (refine Rdr.setOther ?_ _ q1 q2)
    exact HR1.out
  · repeat (refine TF.setNew ?_ (by rw [HBN.out]; exact Nat.le_refl _) _)
    exact (TF.of_below (below_draws HB1.out nq)).trans HT1.out
  · intro g hg
    rcases HN1.out g hg with h1 | h1
    · exact .inl h1
    · exact .inr (Nat.le_trans (below_draws HB1.out nq).size h1)
set_option maxHeartbeats 2000000 in
set_option maxRecDepth 100000 in
theorem text_c {B rb : Nat} {S : ByteArray} {f : Int} {ov : Value} {op : List Int} {t : ByteArray} (p q : Nat) (w : World) (h : Rdr B w rb S (p : Nat) f ov op) (hs : (S.size : Int) ≤ 262144) (hp : p + 1 ≤ S.size) (HSS : Hid (S.extract p (p + 1) = ⟨#[34]⟩))
    (HV : ∀ (W : World) (eb : Nat), Rdr B W rb S ((p + 1 : Nat) : Int) f ov op → W.cell? ⟨eb, 0, none⟩ = some (.string ⟨#[34]⟩) →
      Calls Tryz.prog 87 #[.pointer (some ⟨rb, 0, none⟩), .slice (some ⟨eb, 0, none⟩) 1 1] W fun e w' => e = .returned (.tuple #[.string t, .string ⟨#[34]⟩]) ∧ Rdr B w' rb S (q : Nat) f ov op ∧ TF (RdF rb ov) B W w') :
    Calls Tryz.prog 67 #[.pointer (some ⟨rb, 0, none⟩)] w fun e w' => Gives B rb S f ov op ⟨5, ⟨#[]⟩, t, 0, 0, 0, false⟩ (q : Nat) w e w' := by
  have hst : ∀ (p : Addr) (x : Nat) (md : Mode) (W : World), (store p (.float .f64 x) md).run Tryz.prog W = stored Tryz.prog W p (.float .f64 x) md := fun p x md W => run_store Tryz.prog W p _ md rfl
  obtain ⟨W1, hW1⟩ : ∃ W1, w.alloc (.cells tok0 31) = W1 := ⟨_, rfl⟩
  have b1 : Below w.heap.size w W1 := by rw [← hW1]; exact below_new
  have hbx : W1.heap[w.heap.size]? = some (.cells tok0 31 (0, 0)) := by rw [← hW1]; exact World.alloc_heap_new w _
  have hA := h.away (Nat.le_refl _)
  have hR := h.below b1
  obtain ⟨c0, c1, c2, c3, cf⟩ := hR.cells
  have HA := Hid.mk' hA
  have HB1 := Hid.mk' b1
  have HX := Hid.mk' hbx
  have HRW := Hid.mk' hR
  have HGE := Hid.mk' h.ge
  obtain ⟨bx, hbxn⟩ : ∃ bx, w.heap.size = bx := ⟨_, rfl⟩
  have HVV := Hid.mk' HV
  have x1 : wrap64 ((p : Int) + 1) = (p : Int) + 1 := w64 _ (by omega) (by omega)
  have i0 : (0 : Int) ≤ (p : Int) := by omega
  have i1 : (p : Int) + 1 ≤ (S.size : Int) := by omega
  have i2 : (p : Int) ≤ (p : Int) + 1 := by omega
  have i3 : ((p : Int) + 1).toNat = p + 1 := by omega
  clear h hR b1 hbx hA HV hs hp
  go_enter Tryz.func67, Tryz.ntmps67
  go_wp2_with fail
  go_quiet (fail)
  rw [HSS.out]
  obtain ⟨W2, hW2⟩ : ∃ W2, W1.drewN nq = W2 := ⟨_, rfl⟩
  have b2 : Below W1.heap.size W1 W2 := by rw [← hW2]; exact below_draws (Below.refl _ _) nq
  have hR2 := HRW.out.below b2
  have hR3 := hR2.setAt ((p : Int) + 1)
  obtain ⟨W3, hW3⟩ : ∃ W3, W2.setCell ⟨rb, 1, none⟩ (.int .i64 ((p : Int) + 1)) = W3 := ⟨_, rfl⟩
  rw [hW3, show (p : Int) + 1 = ((p + 1 : Nat) : Int) by omega] at hR3
  have hT3 : TF (RdF rb ov) B W2 W3 := by rw [← hW3]; exact RdF.set _ HGE.out
  obtain ⟨W4, hW4⟩ : ∃ W4, W3.alloc (.cells #[.string ⟨#[34]⟩] 9) = W4 := ⟨_, rfl⟩
  have b4 : Below W3.heap.size W3 W4 := by rw [← hW4]; exact below_new
  have hrow : W4.heap[W3.heap.size]? = some (.cells #[.string ⟨#[34]⟩] 9 (0, 0)) := by rw [← hW4]; exact World.alloc_heap_new W3 _
  have HV4 := Hid.mk' (HVV.out W4 W3.heap.size (hR3.below b4) (by rw [cell_of_row _ _ 0 _ _ _ hrow]; rfl))
  have hT4 : TF (RdF rb ov) B W1 W4 := ((TF.of_below b2).trans hT3).trans (TF.of_below b4)
  obtain ⟨d0, d1, d2, d3, df⟩ := hR2.cells
  have HT4 := Hid.mk' hT4
  have HBN := Hid.mk' hbxn
  simp only [hW2]
  clear hT4 b4 b2 hrow hT3 hR3 hR2 c0 c1 c2 c3 cf hW1 hW2 HRW HSS HVV hbxn
  go_wp2_with fail
  refine HV4.out.mono ?_
  rintro e w5 ⟨rfl, hR5, hT5⟩
  have hT15 := HT4.out.trans hT5
  obtain ⟨y1, y2⟩ := hT15.box (k := bx) (by rw [← HBN.out]; exact HA.out) (by rw [← HBN.out]; exact HX.out)
  have z0 := y1 0 _ rfl
  have z1 := y1 1 _ rfl
  have z2 := y1 2 _ rfl
  have z3 := y1 3 _ rfl
  have z4 := y1 4 _ rfl
  have z5 := y1 5 _ rfl
  have z6 := y1 6 _ rfl
  have HR5 := Hid.mk' hR5
  have HT15 := Hid.mk' hT15
  clear y1 hR5 hT5 hT15 d0 d1 d2 d3 df
  go_wp2
  refine bodyPost_ret (v := .agg #[.int .i64 5, .string ⟨#[]⟩, .string t, .float .f64 0, .int .i64 0, .int .i64 0, .bool false]) ?_ rfl ⟨rfl, ?_, ?_⟩
  · rw [results_cell rfl]
    go_simp
  · have q1 : bx ≠ rb := by rw [← HBN.out]; exact HA.out.1
    have q2 : ov.ownBlock ≠ some bx := by rw [← HBN.out]; exact HA.out.2
    repeat (refine Rdr.setOther ?_ _ q1 q2)
    exact HR5.out
  · repeat (refine TF.setNew ?_ (by rw [HBN.out]; exact Nat.le_refl _) _)
    exact (TF.of_below HB1.out).trans HT15.out
section
variable {w0 : World} {nv : Bool} {op : List Int}
/-- next at what Quote writes: one token, all of it. -/
theorem nx_text (us : List Nat) (hus : ∀ u ∈ us, u < 65536) (hul : us.length ≤ 1000) : NextIs w0 (Sb (qT us)) nv 0 0 op ⟨5, ⟨#[]⟩, Sb (mkB us), 0, 0, ((Sb (qT us)).size : Int), false⟩ 0 (Sb (qT us)).size 0 op := by
  have hsz : (Sb (qT us)).size = (qB us).length + 2 := by rw [Sb_size]; unfold qT; simp
  have hql := qB_len us
  have hs : ((Sb (qT us)).size : Int) ≤ 262144 := by rw [hsz]; omega
  have hby : by' (Sb (qT us)) 0 = 34 := rfl
  have g : Gap (Sb (qT us)) 0 0 := gap0 _ 0 (by omega) (by
    unfold stp
    rw [hby]
    rw [Bool.or_eq_true]
    exact .inr (by decide))
  have hR : (Sb (qT us)).extract 0 (Sb (qT us)).size = Sb (qT us) := by rw [Sb_rest]; rfl
  intro B rb ov w hB hkp hnv h
  exact next_ok (t := ⟨5, ⟨#[]⟩, Sb (mkB us), 0, 0, 0, false⟩) w h (fun W hW => skip_gap g hs W hW)
    (fun W _ hW => token_text 0 W hW hs (Hid.mk' hR) (by omega) (z := 34) (by rw [bt_by]; rfl) (by rw [Sb_list]; rfl) rfl
      (fun W' hb => (text_c 0 (Sb (qT us)).size W' (hW.below hb) hs (by omega) (Hid.mk' (by rw [Sb_extract]; rfl))
        (fun W2 eb h2 ce => value_q us hus 1 eb W2 h2 hs ce (Hid.mk' (by rw [Sb_rest]; rfl)) (by rw [hsz]; omega) hul)).mono (fun e w' q => q.gv)))
end

def TQ (us : List Nat) : List (Tk × Int) := [(⟨5, ⟨#[]⟩, Sb (mkB us), 0, 0, ((Sb (qT us)).size : Int), false⟩, 0), (⟨0, ⟨#[]⟩, ⟨#[]⟩, 0, ((Sb (qT us)).size : Int), ((Sb (qT us)).size : Int), false⟩, 0)]
theorem qsize (us : List Nat) : (Sb (qT us)).size = (qB us).length + 2 := by rw [Sb_size]; unfold qT; simp
theorem runQ (w0 : World) (us : List Nat) (hus : ∀ u ∈ us, u < 65536) (hul : us.length ≤ 1000) : Run w0 (Sb (qT us)) true 0 0 [] (TQ us) := by
  have hsz := qsize us
  have hql := qB_len us
  have g : Gap (Sb (qT us)) (Sb (qT us)).size 0 := gap0 _ _ (Nat.le_refl _) (by
    unfold stp
    rw [Bool.or_eq_true]
    exact .inl (by simp))
  exact .more (nx_text us hus hul) (show ¬ (5 : Int) = 0 by decide) (by omega) (Nat.le_refl _) (.last (nx_end g (by omega) rfl) (.inr rfl))
theorem scanQ (us : List Nat) (hus : ∀ u ∈ us, u < 65536) (hul : us.length ≤ 1000) (w : World) : Calls Tryz.prog 8 #[.string (Sb (qT us))] w fun e w' => (∃ v, e = .returned (.tuple #[v, .int .i64 0, .int .i64 0]) ∧ w'.ownsRow w.heap.size 31 7 v 2 (flat (TQ us))) ∧ Below w.heap.size w w' := by
  obtain ⟨bs, hbs⟩ := ascii_ofS (qT us) (qT_ascii us)
  have hsz := qsize us
  have hql := qB_len us
  refine (scan_any (Sb (qT us)) bs (TQ us) w (by omega) hbs (runQ w us hus hul) (by simp [TQ])).mono ?_
  rintro e w' ⟨⟨v, h1, _, h2⟩ | ⟨x, q, h1, h2, _⟩, hb⟩
  · exact ⟨⟨v, h1, h2⟩, hb⟩
  · exact absurd (h1.subset (List.mem_append_right q (List.mem_singleton.2 rfl))) (fun hm => h2 (by simp [TQ] at hm; rcases hm with rfl | rfl <;> rfl))
theorem even_mk (s : ByteArray) : s.extract 0 (s.size / 2 * 2) = Sb (mkB (uns s)) := Sb_ext (by rw [mkB_uns]; exact evenS_bytes s)
set_option maxHeartbeats 4000000 in
set_option maxRecDepth 100000 in
theorem quotes_walk (s : ByteArray) (w : World) (hs : (s.size : Int) ≤ 140737488351232) (hl : LaidN w) :
    Calls Tryz.prog 3 #[.string s] w fun e w' => e = .returned (.bool true) ∧ Below w.heap.size w w' := by
  have HA := Hid.mk' (awake_l w hl)
  clear hl
  by_cases hlen : (2000 : Int) < (s.size : Int)
  · go_enter Tryz.func3, Tryz.ntmps3
    go_wp2_with fail
    refine HA.out.mono ?_
    rintro e w1 ⟨rfl, b1⟩
    go_wp2
    go_ret
    exact ⟨rfl, b1⟩
  · have HQ := Hid.mk' (fun W => quote_any s W (by omega))
    have HRQ := Hid.mk' (fun W => rquote_any s W hs)
    have HSC := Hid.mk' (fun W => scanQ (uns s) (uns_lt s) (by rw [uns_length]; omega) W)
    have hT := even_mk s
    have hsz := qsize (uns s)
    obtain ⟨q, hq⟩ : ∃ q, Sb (qT (uns s)) = q := ⟨_, rfl⟩
    obtain ⟨T, hTT⟩ : ∃ T, Sb (mkB (uns s)) = T := ⟨_, rfl⟩
    unfold TQ at HSC
    rw [hq, hTT] at HSC
    rw [hq] at HQ HRQ
    rw [hTT] at hT
    have hT' : s.extract 0 ((s.size : Int) / 2 * 2).toNat = T := by rw [← hT]; congr 1
    have h1 : (s.size : Int) / 2 * 2 ≤ (s.size : Int) := by omega
    have h2 : (0 : Int) ≤ (s.size : Int) / 2 * 2 := by omega
    have HT := Hid.mk' (And.intro hT hT')
    clear hq hTT hsz hT hT'
    go_enter Tryz.func3, Tryz.ntmps3
    go_wp2_with fail
    refine HA.out.mono ?_
    rintro e w1 ⟨rfl, b1⟩
    go_wp2_with fail
    refine (HQ.out _).mono ?_; rintro e w2 ⟨rfl, b2⟩
    go_wp2_with fail
    refine (HRQ.out _).mono ?_; rintro e w3 ⟨rfl, b3⟩
    go_wp2_with fail
    refine (HSC.out _).mono ?_; rintro e w4 ⟨⟨v, rfl, o4⟩, b4⟩
    obtain ⟨a4, c4, rfl, _⟩ := own_slice' o4
    obtain ⟨g4, rfl⟩ := own_some o4 (by decide)
    have k4 := own_cap o4
    have y0 := row_cell o4 0 (.int .i64 5) rfl
    have y2 := row_cell o4 2 (.string T) rfl
    have y5 := row_cell o4 5 (.int .i64 (q.size : Int)) rfl
    have c2 : Below w.heap.size w w2 := b1.trans (b2.mono b1.size)
    have c3 : Below w.heap.size w w3 := c2.trans (b3.mono c2.size)
    have HB := Hid.mk' (c3.trans (b4.mono c3.size))
    obtain ⟨t1, t2⟩ := HT.out
    clear b1 b2 b3 b4 c2 c3 o4
    go_wp2_with fail
    go_quiet (fail)
    go_wp2
    go_ret
    exact ⟨rfl, below_draws HB.out nq⟩
theorem quotes_all (s : ByteArray) (w : World) (hs : s.size ≤ 140737488351232) (hl : LaidN w) :
    Calls Tryz.prog 3 #[.string s] w fun e w' => e = .returned (.bool true) ∧ Below w.heap.size w w' := quotes_walk s w (by omega) hl
end Go.Proofs.YtopdogpcachonaaGreatDoor
