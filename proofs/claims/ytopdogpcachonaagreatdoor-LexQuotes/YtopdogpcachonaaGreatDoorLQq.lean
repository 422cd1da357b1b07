/- strings.Builder: bytes and texts written behind what it holds; lex.Quote: a text literal. -/
import Derived.Lib.OthersKept
import Derived.Test.YtopdogpcachonaaGreatDoorLQr
import Derived.Test.YtopdogpcachonaaGreatDoorLVal
import Derived.Test.YtopdogpcachonaaGreatDoorUnits
namespace Go.Proofs.YtopdogpcachonaaGreatDoor
set_option linter.unusedVariables false
open Go.RowKit Go.Shelf

abbrev Bld (B b : Nat) (l : List UInt8) (w : World) : Prop := Lib.IsBuilder 39 5 B b (Lib.byteCells l) w
abbrev OK8 (b : Nat) (w w' : World) : Prop := Lib.OthersKept 5 (some b) w w'
set_option maxHeartbeats 1000000 in
set_option maxRecDepth 100000 in
theorem copyCheck_used (b : Nat) (w : World) (h0 : w.cell? ⟨b, 0, none⟩ = some (.pointer (some ⟨b, 0, none⟩))) :
    Calls Tryz.prog 19 #[.pointer (some ⟨b, 0, none⟩)] w fun e w' => e = .returned (.tuple #[]) ∧ w' = w := by
  obtain ⟨j, hj, _⟩ := Option.map_eq_some_iff.1 infoB
  have hq := Lib.run_neq_ptr_same (P := Tryz.prog) w ⟨b, 0, none⟩ Tryz.underlying36 hj
  go_enter Tryz.func19, Tryz.ntmps19
  go_wp2
  try rw [hq]
  go_wp2
  go_end0
  exact ⟨rfl, rfl⟩
set_option maxHeartbeats 1000000 in
set_option maxRecDepth 100000 in
theorem copyCheck_fresh (b : Nat) (v : Value) (w : World) (h0 : w.heap[b]? = some (.cells #[.pointer none, v] 39 (0, 0))) :
    Calls Tryz.prog 19 #[.pointer (some ⟨b, 0, none⟩)] w fun e w' => e = .returned (.tuple #[]) ∧ w' = w.setCell ⟨b, 0, none⟩ (.pointer (some ⟨b, 0, none⟩)) := by
  have hsh : w.shape? b = some (39, 2) := by simp [World.shape?, h0]
  have c0 : w.cell? ⟨b, 0, none⟩ = some (.pointer none) := by rw [cell_of_row _ b 0 _ _ _ h0]; rfl
  have hf : w.frozen? ⟨b, 0, none⟩ = false := by simp only [World.frozen?, h0]; simp
  have h1 := conv_there b w hsh
  have h2 := conv_back b w hsh
  have h3 := noEsc (.pointer (some ⟨b, 0, none⟩)) w
  clear h0 hsh
  go_enter Tryz.func19, Tryz.ntmps19
  go_wp2
  go_end0
  exact ⟨rfl, rfl⟩
theorem copyCheck_b (B b : Nat) (bs : List Value) (w : World) (h : Lib.IsBuilder 39 5 B b bs w) :
    Calls Tryz.prog 19 #[.pointer (some ⟨b, 0, none⟩)] w fun e w' => e = .returned (.tuple #[]) ∧ Lib.BuilderAt 39 5 B b (.pointer (some ⟨b, 0, none⟩)) bs w' ∧ Below B w w' ∧ OK8 b w w' := by
  rcases h with h | h
  · obtain ⟨hB, v, hb, ho, hn⟩ := h
    refine (copyCheck_fresh b v w hb).mono ?_
    rintro e w' ⟨rfl, rfl⟩
    exact ⟨rfl, Lib.BuilderAt.used ⟨hB, v, hb, ho, hn⟩ _, (Below.refl B w).setCell (p := ⟨b, 0, none⟩) hB _, (Lib.OthersKept.refl _ _ w).setCell ⟨b, 0, none⟩ rfl _⟩
  · refine (copyCheck_used b w h.cell0).mono ?_
    rintro e w' ⟨rfl, rfl⟩
    exact ⟨rfl, h, Below.refl B _, Lib.OthersKept.refl _ _ _⟩
theorem neB8 : (39 : TypeId) ≠ 5 := by decide
theorem byteCells_snoc (l : List UInt8) (x : UInt8) : Lib.byteCells (l ++ [x]) = Lib.byteCells l ++ [.int .u8 (x.toNat : Int)] := by simp [Lib.byteCells]
theorem byteCells_app (l m : List UInt8) : Lib.byteCells (l ++ m) = Lib.byteCells l ++ Lib.byteCells m := by simp [Lib.byteCells]
theorem byteCells_len (l : List UInt8) : (Lib.byteCells l).length = l.length := by simp [Lib.byteCells]
set_option maxHeartbeats 2000000 in
set_option maxRecDepth 100000 in
theorem writeByte_b (B b : Nat) (bs : List Value) (c : Int) (w : World) (h : Lib.IsBuilder 39 5 B b bs w) (hlen : (bs.length : Int) ≤ 1048576) (hBw : B ≤ w.heap.size) :
    Calls Tryz.prog 10 #[.pointer (some ⟨b, 0, none⟩), .int .u8 c] w fun e w' => e = .returned .nilIface ∧ Lib.IsBuilder 39 5 B b (bs ++ [.int .u8 c]) w' ∧ Below B w w' ∧ OK8 b w w' := by
  obtain ⟨i0, hi, hz0, hz1, hz2⟩ := info_parts info8
  have HC := Hid.mk' (copyCheck_b B b bs w h)
  clear h
  go_enter Tryz.func10, Tryz.ntmps10
  go_wp2_with fail
  refine HC.out.mono ?_
  rintro e w1 ⟨rfl, h1, hb1, hk1⟩
  obtain ⟨hB, v, hbk, hown, hne⟩ := h1
  have c0 : w1.cell? ⟨b, 0, none⟩ = some (.pointer (some ⟨b, 0, none⟩)) := by rw [Lib.cell_of_heap hbk]; rfl
  have c1 : w1.cell? ⟨b, 1, none⟩ = some v := by rw [Lib.cell_of_heap hbk]; rfl
  go_wp2_with (at_builtin; refine wpList_append_own _ rfl _ _ 37 rfl B 5 i0 (.int .u8 0) 1 1 Tryz.underlying37 hi hz0 hz1 hz2 rfl (by decide) _ _ _ rfl (hown.alloc _) ⟨w1.heap.size, 0, none⟩ 1 1 [.int .u8 c] rfl rfl ?c1 ?c2 ?c3 ?c4 ?c5 ?_)
  case c1 =>
    intro j u hj
    match j, hj with
    | 0, hj => simp at hj; subst hj; simp [Addr.add]
  case c2 => intro u hu; simp at hu; subst hu; rfl
  case c3 => unfold maxLen; omega
  case c4 => omega
  case c5 => have := hb1.size; simp; omega
  intro v' w2 hown' hgrow _
  have hlt : b < w1.heap.size := (Array.getElem?_eq_some_iff.1 hbk).1
  have hb2 : w2.heap[b]? = some (.cells #[.pointer (some ⟨b, 0, none⟩), v] 39 (0, 0)) := by
    rw [hgrow.block b (by simp; omega) (fun e => hne e.symm), Lib.alloc_old w1 _ b hlt]
    exact hbk
  have d0 : w2.cell? ⟨b, 0, none⟩ = some (.pointer (some ⟨b, 0, none⟩)) := by rw [Lib.cell_of_heap hb2]; rfl
  have d1 : w2.cell? ⟨b, 1, none⟩ = some v := by rw [Lib.cell_of_heap hb2]; rfl
  have f1 : w2.frozen? ⟨b, 1, none⟩ = false := Lib.frozen_of_heap hb2 1
  obtain ⟨a', cap, rfl, _⟩ := own_slice' hown'
  obtain ⟨g, rfl⟩ := own_some hown' (by omega)
  go_wp2
  go_ret
  refine ⟨rfl, ?_, ?_, ((hk1.alloc _).grown hgrow (fun g hg => kind_own (hown.alloc _) g hg)).setCell ⟨b, 1, none⟩ rfl _⟩
  · exact .inr (Lib.BuilderAt.put (T := 39) (e := 5) hB hb2 (bs' := bs ++ [.int .u8 c]) (by simpa using hown') neB8)
  · exact ((hb1.alloc (by have := hb1.size; omega) _).grown hgrow (by have := hb1.size; simp; omega) (fun k hk => (hown.lt k hk).1)).setCell (p := ⟨b, 1, none⟩) hB _
set_option maxHeartbeats 2000000 in
set_option maxRecDepth 100000 in
theorem writeString_b (B b : Nat) (bs : List Value) (s : ByteArray) (w : World) (h : Lib.IsBuilder 39 5 B b bs w) (hlen : (bs.length : Int) ≤ 1048576) (hs : (s.size : Int) ≤ 1048576) (hBw : B ≤ w.heap.size) :
    Calls Tryz.prog 12 #[.pointer (some ⟨b, 0, none⟩), .string s] w fun e w' => (∃ v, e = .returned v) ∧ Lib.IsBuilder 39 5 B b (bs ++ Lib.byteCells s.data.toList) w' ∧ Below B w w' ∧ OK8 b w w' := by
  obtain ⟨i0, hi, hz0, hz1, hz2⟩ := info_parts info8
  have HC := Hid.mk' (copyCheck_b B b bs w h)
  clear h
  go_enter Tryz.func12, Tryz.ntmps12
  go_wp2_with fail
  refine HC.out.mono ?_
  rintro e w1 ⟨rfl, h1, hb1, hk1⟩
  obtain ⟨hB, v, hbk, hown, hne⟩ := h1
  have c0 : w1.cell? ⟨b, 0, none⟩ = some (.pointer (some ⟨b, 0, none⟩)) := by rw [Lib.cell_of_heap hbk]; rfl
  have c1 : w1.cell? ⟨b, 1, none⟩ = some v := by rw [Lib.cell_of_heap hbk]; rfl
  have hsz : B ≤ w1.heap.size := by have := hb1.size; omega
  go_wp2_with (at_builtin; refine Lib.wpList_append_own_string _ rfl _ _ 37 9 rfl B 5 i0 Tryz.underlying37 Tryz.underlying9 hi hz0 hz1 hz2 _ _ _ rfl hown s rfl (by unfold maxLen; omega) (by omega) hsz ?_)
  intro v' w2 hown' hgrow _
  have hlt : b < w1.heap.size := (Array.getElem?_eq_some_iff.1 hbk).1
  have hb2 : w2.heap[b]? = some (.cells #[.pointer (some ⟨b, 0, none⟩), v] 39 (0, 0)) := by
    rw [hgrow.block b hlt (fun e => hne e.symm)]
    exact hbk
  have d0 : w2.cell? ⟨b, 0, none⟩ = some (.pointer (some ⟨b, 0, none⟩)) := by rw [Lib.cell_of_heap hb2]; rfl
  have d1 : w2.cell? ⟨b, 1, none⟩ = some v := by rw [Lib.cell_of_heap hb2]; rfl
  have f1 : w2.frozen? ⟨b, 1, none⟩ = false := Lib.frozen_of_heap hb2 1
  have HF : Hid (Lib.IsBuilder 39 5 B b (bs ++ Lib.byteCells s.data.toList) (w2.setCell ⟨b, 1, none⟩ v') ∧ Below B w (w2.setCell ⟨b, 1, none⟩ v') ∧ OK8 b w (w2.setCell ⟨b, 1, none⟩ v')) := Hid.mk' (by
    refine ⟨.inr (Lib.BuilderAt.put (T := 39) (e := 5) hB hb2 (bs' := bs ++ Lib.byteCells s.data.toList) ?_ neB8), (hb1.grown hgrow hsz (fun k hk => (hown.lt k hk).1)).setCell (p := ⟨b, 1, none⟩) hB _, (hk1.grown hgrow (fun g hg => kind_own hown g hg)).setCell ⟨b, 1, none⟩ rfl _⟩
    have o3 := hown'
    rw [strCells_bytes] at o3
    rw [List.length_append, byteCells_len]
    exact o3)
  obtain ⟨x', c', rfl, _⟩ := own_slice' hown'
  clear hown' hgrow hb2 hbk hown hne
  go_wp2
  go_ret2
  exact ⟨⟨_, rfl⟩, HF.out⟩

theorem own_ok8 {W W' : World} {B b : Nat} {e : TypeId} {sz : Nat} {v : Value} {n : Nat} {xs : List Value} (h : W.ownsRow B e sz v n xs) (k : OK8 b W W') (hb : v.ownBlock ≠ some b) (hne : e ≠ 5) : W'.ownsRow B e sz v n xs := by
  refine ⟨h.1, ?_⟩
  rcases h.2 with hn | ⟨g, cap, cur, rfl, hB, hg, rest⟩
  · exact .inl hn
  · exact .inr ⟨g, cap, cur, rfl, hB, k g _ hg (fun q => hb (by rw [← q]; rfl)) (fun c fz q => hne (by cases q; rfl)), rest⟩
theorem BuilderAt_below {B b : Nat} {p : Value} {bs : List Value} {W W' : World} (h : Lib.BuilderAt 39 5 B b p bs W) (k : Below W.heap.size W W') : Lib.BuilderAt 39 5 B b p bs W' := by
  obtain ⟨hB, v, hb, ho, hn⟩ := h
  exact ⟨hB, v, (k.block b (Array.getElem?_eq_some_iff.1 hb).1).trans hb, own_below ho k, hn⟩
theorem Bld.below {B b : Nat} {l : List UInt8} {W W' : World} (h : Bld B b l W) (k : Below W.heap.size W W') : Bld B b l W' := h.imp (fun h => BuilderAt_below h k) (fun h => BuilderAt_below h k)
/-- A builder with these bytes, and a row of units beside it. -/
structure QS (b B2 : Nat) (v : Value) (n : Nat) (xs : List Value) (w W : World) (l : List UInt8) : Prop where
  bd : Bld b b l W
  bw : Below b w W
  row : W.ownsRow B2 45 1 v n xs
  off : v.ownBlock ≠ some b
  lt : b ≤ W.heap.size
theorem QS.byte {b B2 : Nat} {v : Value} {n : Nat} {xs : List Value} {w W : World} {l : List UInt8} (h : QS b B2 v n xs w W l) (x : UInt8) (hl : (l.length : Int) ≤ 1048576) :
    Calls Tryz.prog 10 #[.pointer (some ⟨b, 0, none⟩), .int .u8 (x.toNat : Int)] W fun e W' => e = .returned .nilIface ∧ QS b B2 v n xs w W' (l ++ [x]) := by
  refine (writeByte_b b b (Lib.byteCells l) (x.toNat : Int) W h.bd (by rw [byteCells_len]; exact hl) h.lt).mono ?_
  rintro e W' ⟨rfl, i, k, o⟩
  exact ⟨rfl, by unfold Bld; rw [byteCells_snoc]; exact i, h.bw.trans k, own_ok8 h.row o h.off (by decide), h.off, Nat.le_trans h.lt k.size⟩
theorem QS.text {b B2 : Nat} {v : Value} {n : Nat} {xs : List Value} {w W : World} {l : List UInt8} (h : QS b B2 v n xs w W l) (s : ByteArray) (hl : (l.length : Int) ≤ 1048576) (hs : (s.size : Int) ≤ 1048576) :
    Calls Tryz.prog 12 #[.pointer (some ⟨b, 0, none⟩), .string s] W fun e W' => (∃ r, e = .returned r) ∧ QS b B2 v n xs w W' (l ++ s.data.toList) := by
  refine (writeString_b b b (Lib.byteCells l) s W h.bd (by rw [byteCells_len]; exact hl) hs h.lt).mono ?_
  rintro e W' ⟨hr, i, k, o⟩
  exact ⟨hr, by unfold Bld; rw [byteCells_app]; exact i, h.bw.trans k, own_ok8 h.row o h.off (by decide), h.off, Nat.le_trans h.lt k.size⟩
set_option maxHeartbeats 4000000 in
set_option maxRecDepth 100000 in
theorem quote_any (s : ByteArray) (w : World) (hs : (s.size : Int) ≤ 100000) :
    Calls Tryz.prog 6 #[.string s] w fun e w' => e = .returned (.string (Sb (qT (uns s)))) ∧ Below w.heap.size w w' := by
  have HU := Hid.mk' (fun W => units_any s W (by omega))
  obtain ⟨W1, hW1⟩ : ∃ W1, w.alloc (.cells #[.pointer none, .slice none 0 0] 39) = W1 := ⟨_, rfl⟩
  have hbd : Bld w.heap.size w.heap.size [] W1 := by rw [← hW1]; exact Lib.fresh_isBuilder _ _ w
  have hb1 : Below w.heap.size w W1 := by rw [← hW1]; exact below_new
  have hsz1 : w.heap.size < W1.heap.size := by rw [← hW1]; simp
  obtain ⟨b, hb⟩ : ∃ b, w.heap.size = b := ⟨_, rfl⟩
  rw [hb] at hbd hb1 hsz1 ⊢
  have HB1 := Hid.mk' (writeByte_b b b [] 34 W1 hbd (by simp) (Nat.le_of_lt hsz1))
  have HBB := Hid.mk' hb1
  obtain ⟨n, hn⟩ : ∃ n, s.size / 2 = n := ⟨_, rfl⟩
  have hun : (uns s).length = n := by rw [uns_length]; exact hn
  have hn' : (n : Int) ≤ 50000 := by omega
  obtain ⟨us, hus⟩ : ∃ us, uns s = us := ⟨_, rfl⟩
  have hgu : ∀ k (h : k < us.length), us[k] = un s k := fun k h => by subst hus; simp [uns]
  rw [hus] at hun ⊢
  have HG := Hid.mk' hgu
  rw [hn] at HU
  clear hbd hb1 hgu hus
  go_enter Tryz.func6, Tryz.ntmps6
  go_wp2_with fail
  refine HB1.out.mono ?_; rintro e w1 ⟨rfl, i1, b1, k1⟩
  go_wp2_with fail
  refine (HU.out _).mono ?_; rintro e w2 ⟨v, rfl, o2, b2⟩
  obtain ⟨a2, c2, rfl, hcase⟩ := own_slice' o2
  have hsz2 : b < w1.heap.size := Nat.lt_of_lt_of_le hsz1 b1.size
  have hQ : Hid (QS b w1.heap.size (.slice a2 n c2) n (uc s n) w w2 (34 :: qB (us.take 0))) := Hid.mk' ⟨Bld.below (l := [34]) i1 b2, HBB.out.trans (b1.trans (b2.mono (Nat.le_of_lt hsz2))), o2, fun e => by have := (o2.lt b e).1; omega, by have := b2.size; omega⟩
  obtain ⟨B2, hB2⟩ : ∃ B2, w1.heap.size = B2 := ⟨_, rfl⟩
  rw [hB2] at hQ
  clear hB2 hcase o2 i1 b1 k1 b2 hW1 hsz1 hsz2 hn
  go_wp2
  go_loopw [11] (fun v wr => ∃ k : Nat, v = .int .i64 k ∧ k ≤ n ∧ Hid (QS b B2 (.slice a2 n c2) n (uc s n) w wr (34 :: qB (us.take k)))) (fun v _ => n - (intOf v).toNat)
  case atStart => exact ⟨0, rfl, Nat.zero_le _, hQ⟩
  case round =>
    clear hQ HB1 HU
    obtain ⟨k, rfl, hk, HQ⟩ := hrel
    have hlen : ((34 :: qB (us.take k)).length : Int) ≤ 1048000 := by
      have h1 := qB_len (us.take k)
      rw [List.length_take] at h1
      rw [List.length_cons]
      omega
    by_cases hlt : k < n
    · obtain ⟨g, rfl⟩ := own_some HQ.out.row (by omega)
      have hcl : wr.cell? ⟨g, k, none⟩ = some (.int .u16 (un s k)) := own_cell HQ.out.row (uc_get s _ k hlt)
      obtain ⟨u, hu'⟩ : ∃ u, un s k = u := ⟨_, rfl⟩
      have hu := un_lt s k
      have htk : qB (us.take (k + 1)) = qB (us.take k) ++ qU u := by
        rw [qB_take _ k (by omega), HG.out k (by omega), hu']
      rw [hu'] at hu hcl
      obtain ⟨z, hz⟩ : ∃ z : Int, (u : Int) = z := ⟨_, rfl⟩
      rw [hz] at hcl
      have HFIN : Hid (∀ m : List UInt8, qU u = m → 34 :: qB (us.take (k + 1)) = (34 :: qB (us.take k)) ++ m) := Hid.mk' (fun m hm => by rw [htk, hm]; rfl)
      clear htk hu'
      obtain ⟨pre, hpre⟩ : ∃ pre, 34 :: qB (us.take k) = pre := ⟨_, rfl⟩
      rw [hpre] at HFIN HQ hlen
      clear hpre
      have H92 := Hid.mk' (HQ.out.byte 92 (by omega))
      by_cases q1 : u = 34 ∨ u = 92
      · obtain ⟨x, hx⟩ : ∃ x, u.toUInt8 = x := ⟨_, rfl⟩
        have HF := Hid.mk' (HFIN.out [92, x] (by rw [qU_esc u q1, hx]))
        have hxz : (x.toNat : Int) = z := by rw [← hx, u8_lt u (by omega)]; exact hz
        have HX := Hid.mk' (fun W (h : QS b B2 (.slice (some ⟨g, 0, none⟩) n c2) n (uc s n) w W (pre ++ [92])) => h.byte x (by rw [List.length_append]; simp only [List.length_singleton]; omega))
        rw [hxz] at HX
        have hcv : IntKind.u8.wrap z = z := by rw [IntKind.wrap_u8]; omega
        clear hx hxz
        rcases (show z = 34 ∨ z = 92 by omega) with rfl | rfl
        all_goals
          clear hz hu q1 hcv
          go_wp2_with fail
          refine H92.out.mono ?_; rintro e w3 ⟨rfl, h3⟩
          go_wp2_with fail
          refine (HX.out _ h3).mono ?_; rintro e w4 ⟨rfl, h4⟩
          have HF4 : Hid (QS b B2 (.slice (some ⟨g, 0, none⟩) n c2) n (uc s n) w w4 (34 :: qB (us.take (k + 1)))) := Hid.mk' (by rw [HF.out, ← List.singleton_append (l := [x]), ← List.append_assoc]; exact h4)
          clear h3 h4
          go_wp2
          go_roundw
          case rel => exact ⟨k + 1, by go_num, hlt, HF4⟩
          case measure => simp [intOf]; omega
      have e1 : (z == 34) = false := by simp; omega
      have e2 : (z == 92) = false := by simp; omega
      by_cases q3 : 32 ≤ u ∧ u ≤ 126
      · obtain ⟨x, hx⟩ : ∃ x, u.toUInt8 = x := ⟨_, rfl⟩
        have HF := Hid.mk' (HFIN.out [x] (by rw [qU_plain u q1 q3, hx]))
        have hxz : (x.toNat : Int) = z := by rw [← hx, u8_lt u (by omega)]; exact hz
        have HX := Hid.mk' (HQ.out.byte x (by omega))
        rw [hxz] at HX
        have hcv : IntKind.u8.wrap z = z := by rw [IntKind.wrap_u8]; omega
        have q4 : 32 ≤ z := by omega
        have q5 : z ≤ 126 := by omega
        clear hx hxz hz hu q1 q3
        go_wp2_with fail
        refine HX.out.mono ?_; rintro e w4 ⟨rfl, h4⟩
        have HF4 : Hid (QS b B2 (.slice (some ⟨g, 0, none⟩) n c2) n (uc s n) w w4 (34 :: qB (us.take (k + 1)))) := Hid.mk' (by rw [HF.out]; exact h4)
        clear h4 q4 q5 e1 e2 hcv
        go_wp2
        go_roundw
        case rel => exact ⟨k + 1, by go_num, hlt, HF4⟩
        case measure => simp [intOf]; omega
      have HF := Hid.mk' (HFIN.out _ (qU_hex u q1 q3))
      have q3' : ¬ 32 ≤ z ∨ (32 ≤ z ∧ ¬ z ≤ 126) := by omega
      obtain ⟨d3, x3, hd3, a3, b3, hx3, g3, en3⟩ := hexfact (u / 4096 % 16) (Nat.mod_lt _ (by decide))
      obtain ⟨d2, x2, hd2, a2, b2, hx2, g2, en2⟩ := hexfact (u / 256 % 16) (Nat.mod_lt _ (by decide))
      obtain ⟨d1, x1, hd1, a1, b1', hx1, g1, en1⟩ := hexfact (u / 16 % 16) (Nat.mod_lt _ (by decide))
      obtain ⟨d0, x0, hd0, a0, b0, hx0, g0, en0⟩ := hexfact (u % 16) (Nat.mod_lt _ (by decide))
      have m3 := mask16 (z / 4096) (u / 4096 % 16) (by omega) (by omega) (by omega)
      have m2 := mask16 (z / 256) (u / 256 % 16) (by omega) (by omega) (by omega)
      have m1 := mask16 (z / 16) (u / 16 % 16) (by omega) (by omega) (by omega)
      have m0 := mask16 z (u % 16) (by omega) (by omega) (by omega)
      rw [hd3] at m3
      rw [hd2] at m2
      rw [hd1] at m1
      rw [hd0] at m0
      unfold hxs at HF
      rw [hx3, hx2, hx1, hx0] at HF
      have HU2 := Hid.mk' (HQ.out.text ⟨#[92, 117]⟩ (by omega) (by decide))
      have HXX := Hid.mk' (fun W (l : List UInt8) (x : UInt8) (hl : l.length ≤ 6) (h : QS b B2 (.slice (some ⟨g, 0, none⟩) n c2) n (uc s n) w W (pre ++ l)) => h.byte x (by rw [List.length_append]; omega))
      have M3 := Hid.mk' (And.intro m3 (And.intro g3 (And.intro a3 b3)))
      have M2 := Hid.mk' (And.intro m2 (And.intro g2 (And.intro a2 b2)))
      have M1 := Hid.mk' (And.intro m1 (And.intro g1 (And.intro a1 b1')))
      have M0 := Hid.mk' (And.intro m0 (And.intro g0 (And.intro a0 b0)))
      clear hd3 hd2 hd1 hd0 hx3 hx2 hx1 hx0 m3 m2 m1 m0 g3 g2 g1 g0 en3 en2 en1 en0 a3 a2 a1 a0 b3 b2 b1' b0 q1 q3 hz hu
      rcases q3' with q4 | ⟨q4, q5⟩
      all_goals
        go_wp2_with fail
        refine HU2.out.mono ?_; rintro e w3 ⟨⟨r3, rfl⟩, h3⟩
        have H3 : Hid (QS b B2 (.slice (some ⟨g, 0, none⟩) n c2) n (uc s n) w w3 (pre ++ [92, 117])) := Hid.mk' h3
        clear h3
        go_wp2
        go_loopw [6] (fun v wr => (v = .int .i64 12 ∧ Hid (QS b B2 (.slice (some ⟨g, 0, none⟩) n c2) n (uc s n) w wr (pre ++ [92, 117]))) ∨ (v = .int .i64 8 ∧ Hid (QS b B2 (.slice (some ⟨g, 0, none⟩) n c2) n (uc s n) w wr (pre ++ [92, 117, x3]))) ∨ (v = .int .i64 4 ∧ Hid (QS b B2 (.slice (some ⟨g, 0, none⟩) n c2) n (uc s n) w wr (pre ++ [92, 117, x3, x2]))) ∨ (v = .int .i64 0 ∧ Hid (QS b B2 (.slice (some ⟨g, 0, none⟩) n c2) n (uc s n) w wr (pre ++ [92, 117, x3, x2, x1]))) ∨ (v = .int .i64 (-4) ∧ Hid (QS b B2 (.slice (some ⟨g, 0, none⟩) n c2) n (uc s n) w wr (pre ++ [92, 117, x3, x2, x1, x0])))) (fun v _ => (intOf v + 4).toNat)
        case atStart => exact .inl ⟨rfl, H3⟩
        case round =>
          rcases hrel with ⟨rfl, H4⟩ | ⟨rfl, H4⟩ | ⟨rfl, H4⟩ | ⟨rfl, H4⟩ | ⟨rfl, H4⟩
          · obtain ⟨mm, gg, aa, bb⟩ := M3.out
            go_wp2_with fail
            refine (HXX.out _ _ x3 (by simp) H4.out).mono ?_; rintro e w5 ⟨rfl, h5⟩
            have H5 := Hid.mk' h5
            rw [List.append_assoc] at H5
            clear h5 mm gg aa bb
            go_wp2
            go_roundw
            case rel => exact .inr (.inl ⟨rfl, H5⟩)
            case measure => simp [intOf]
          · obtain ⟨mm, gg, aa, bb⟩ := M2.out
            go_wp2_with fail
            refine (HXX.out _ _ x2 (by simp) H4.out).mono ?_; rintro e w5 ⟨rfl, h5⟩
            have H5 := Hid.mk' h5
            rw [List.append_assoc] at H5
            clear h5 mm gg aa bb
            go_wp2
            go_roundw
            case rel => exact .inr (.inr (.inl ⟨rfl, H5⟩))
            case measure => simp [intOf]
          · obtain ⟨mm, gg, aa, bb⟩ := M1.out
            go_wp2_with fail
            refine (HXX.out _ _ x1 (by simp) H4.out).mono ?_; rintro e w5 ⟨rfl, h5⟩
            have H5 := Hid.mk' h5
            rw [List.append_assoc] at H5
            clear h5 mm gg aa bb
            go_wp2
            go_roundw
            case rel => exact .inr (.inr (.inr (.inl ⟨rfl, H5⟩)))
            case measure => simp [intOf]
          · obtain ⟨mm, gg, aa, bb⟩ := M0.out
            go_wp2_with fail
            refine (HXX.out _ _ x0 (by simp) H4.out).mono ?_; rintro e w5 ⟨rfl, h5⟩
            have H5 := Hid.mk' h5
            rw [List.append_assoc] at H5
            clear h5 mm gg aa bb
            go_wp2
            go_roundw
            case rel => exact .inr (.inr (.inr (.inr ⟨rfl, H5⟩)))
            case measure => simp [intOf]
          · have HF4 : Hid (QS b B2 (.slice (some ⟨g, 0, none⟩) n c2) n (uc s n) w wr (34 :: qB (us.take (k + 1)))) := Hid.mk' (by rw [HF.out]; exact H4.out)
            go_wp2
            go_roundw
            case rel => exact ⟨k + 1, by go_num, hlt, HF4⟩
            case measure => simp [intOf]; omega
    · obtain rfl : k = n := by omega
      have H34 := Hid.mk' (HQ.out.byte 34 (by omega))
      have HE : Hid (34 :: qB (us.take k) ++ [34] = qT us) := Hid.mk' (by rw [List.take_of_length_le (by omega)]; rfl)
      have HST := Hid.mk' (fun W (h : QS b B2 (.slice a2 k c2) k (uc s k) w W (34 :: qB (us.take k) ++ [34])) => Tryz.Builder_String_any b b _ W h.bd h.lt)
      rw [HE.out] at HST
      have H34' : Hid (Calls Tryz.prog 10 #[.pointer (some ⟨b, 0, none⟩), .int .u8 34] wr fun e W' => e = .returned .nilIface ∧ QS b B2 (.slice a2 k c2) k (uc s k) w W' (qT us)) := by
        have q := H34
        rw [HE.out] at q
        exact q
      clear H34 HE
      go_wp2_with fail
      refine H34'.out.mono ?_; rintro e w3 ⟨rfl, h3⟩
      go_wp2_with fail
      refine (HST.out _ (by assumption)).mono ?_; rintro e w4 ⟨rfl, k4⟩
      have HK : Hid (Below b w w4) := Hid.mk' (h3.bw.trans k4)
      clear h3 k4
      go_wp2
      go_ret
      exact ⟨rfl, HK.out⟩
end Go.Proofs.YtopdogpcachonaaGreatDoor
