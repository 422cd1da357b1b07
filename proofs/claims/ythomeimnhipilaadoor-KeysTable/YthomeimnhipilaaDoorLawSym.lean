/- KeysSymbols: the law's walk. -/
import Derived.Test.YthomeimnhipilaaDoorKAb2
import Derived.Test.YthomeimnhipilaaDoorKFew
import Derived.Test.YthomeimnhipilaaDoorKTel
namespace Go.Proofs.YthomeimnhipilaaDoor
set_option linter.unusedVariables false
open Go.RowKit Go.Maps

/-- A list of texts in memory. -/
def RdT (w : World) (v : Value) (ss : List ByteArray) : Prop :=
  (∃ a c, v = .slice a 0 c ∧ ss = []) ∨ ∃ g o c, v = .slice (some ⟨g, o, none⟩) ss.length c ∧ ss.length ≤ c ∧ g < w.heap.size ∧ ∀ (j : Nat) (h : j < ss.length), w.cell? ⟨g, o + j, none⟩ = some (.string ss[j])
theorem RdT.below {w w' : World} {v : Value} {ss : List ByteArray} (h : RdT w v ss) (hb : Below w.heap.size w w') : RdT w' v ss := by
  rcases h with h | ⟨g, o, c, rfl, hl, hg, hc⟩
  · exact .inl h
  · exact .inr ⟨g, o, c, rfl, hl, Nat.lt_of_lt_of_le hg hb.size, fun j hj => (hb.cell (p := ⟨g, o + j, none⟩) hg).trans (hc j hj)⟩
theorem RdT.at {w : World} {x : Option Addr} {c : Nat} {ss : List ByteArray} (h : RdT w (.slice x ss.length c) ss) (k : Nat) (hk : k < ss.length) : ∃ g o, x = some ⟨g, o, none⟩ ∧ w.cell? ⟨g, o + k, none⟩ = some (.string ss[k]) ∧ ss.length ≤ c := by
  rcases h with ⟨a, c', e, h0⟩ | ⟨g, o, c', e, hl, hg, hc⟩
  · rw [h0] at hk; simp at hk
  · simp at e
    obtain ⟨rfl, rfl⟩ := e
    exact ⟨g, o, rfl, hc k hk, hl⟩

theorem ebs_even (s : ByteArray) : ebs (evenS s) = ebs s := by
  have h1 := ebs_length s
  have h2 : (evenS s).size = (ebs s).length := by rw [← evenS_bytes]; simp
  have h3 : (evenS s).size / 2 * 2 = (ebs s).length := by omega
  show (evenS s).data.toList.take _ = _
  rw [evenS_bytes, h3, List.take_length]
theorem cb_self : ∀ l : List UInt8, Lib.compareBytes l l = 0
  | [] => rfl
  | a :: r => by
    have := cb_neg (a :: r) (a :: r)
    omega
theorem cmp_even (s : ByteArray) : cmpK (evenS (evenS s)) s 0 = 0 := by
  unfold cmpK
  rw [ebs_even, ebs_even]
  exact cb_self _
theorem evens_take (ss : List ByteArray) (k : Nat) (h : k < ss.length) : (ss.take (k + 1)).map evenS = (ss.take k).map evenS ++ [evenS ss[k]] := by
  rw [List.take_succ_eq_append_getElem h, List.map_append]
  rfl

/-- About, whatever the key. -/
theorem about_any {B g mb : Nat} {vt vs : Value} {ts ss : List ByteArray} {D : DataW Unit} (s : ByteArray) (z : Int) (w : World) (h : Tab B g mb vt vs ts ss D w) (hz : ∀ t ∈ ss, (t.size : Int) ≤ 140737488351232) (hn : ss.length < 10000) :
    Calls Tryd.prog 22 #[.pointer (some ⟨g, 0, none⟩), .agg #[.string s, .int .i64 z]] w fun e w' => ∃ d er, e = .returned (.tuple #[.string d, .int .i64 er]) ∧ ((0 < z ∧ z ≤ ss.length ∧ er = 0) ∨ (0 < z ∧ ¬ z ≤ ss.length ∧ er = 41) ∨ (¬ 0 < z ∧ er = 41)) ∧ Below w.heap.size w w' := by
  by_cases h0 : 0 < z
  · by_cases h1 : z ≤ ss.length
    · obtain ⟨i, hi⟩ : ∃ i : Nat, z = (i : Int) + 1 := ⟨(z - 1).toNat, by omega⟩
      subst hi
      exact (about_in s i w h (by omega) hz hn).mono fun e w' ⟨he, hb⟩ => ⟨_, _, he, .inl ⟨h0, h1, rfl⟩, hb⟩
    · exact (about_far s z w h h0 (by omega)).mono fun e w' ⟨he, hb⟩ => ⟨_, _, he, .inr (.inl ⟨h0, h1, rfl⟩), hb⟩
  · exact (about_text s z w h h0).mono fun e w' ⟨he, hb⟩ => ⟨_, _, he, .inr (.inr ⟨h0, rfl⟩), hb⟩

/-- The law's own key in its box. -/
structure KBoxed (w : World) (b : Nat) (ks : ByteArray) (kz : Int) : Prop where
  c0 : w.cell? ⟨b, 0, none⟩ = some (.string ks)
  c1 : w.cell? ⟨b, 1, none⟩ = some (.int .i64 kz)
  lt : b < w.heap.size
theorem KBoxed.below {w w' : World} {B b : Nat} {ks : ByteArray} {kz : Int} (h : KBoxed w b ks kz) (hb : Below B w w') (hB : b < B) : KBoxed w' b ks kz :=
  ⟨(hb.cell (p := ⟨b, 0, none⟩) hB).trans h.c0, (hb.cell (p := ⟨b, 1, none⟩) hB).trans h.c1, Nat.lt_of_lt_of_le h.lt hb.size⟩
theorem KBoxed.new (w : World) (ks : ByteArray) (kz : Int) : KBoxed (w.alloc (.cells #[.string ks, .int .i64 kz] 25)) w.heap.size ks kz :=
  ⟨World.cell?_alloc_new w _ _ _, World.cell?_alloc_new w _ _ _, by simp⟩

/-- The list of two tables that New did not make. -/
structure Two (w : World) (q : Nat) : Prop where
  c0 : w.cell? ⟨q, 0, none⟩ = some (.pointer none)
  d0 : w.cell? ⟨q + 1, 0, none⟩ = some (.pointer none)
  d1 : w.cell? ⟨q + 1, 1, none⟩ = some (.pointer (some ⟨q, 0, none⟩))
  lt : q + 1 < w.heap.size
theorem Two.below {w w' : World} {q : Nat} (h : Two w q) (hb : Below w.heap.size w w') : Two w' q :=
  ⟨(hb.cell (p := ⟨q, 0, none⟩) (Nat.lt_of_succ_lt h.lt)).trans h.c0, (hb.cell (p := ⟨q + 1, 0, none⟩) h.lt).trans h.d0, (hb.cell (p := ⟨q + 1, 1, none⟩) h.lt).trans h.d1, Nat.lt_of_lt_of_le h.lt hb.size⟩
theorem Two.at {w : World} {q : Nat} (h : Two w q) (k : Nat) (hk : k < 2) : ∃ p, w.cell? ⟨q + 1, k, none⟩ = some p ∧ NoTab w p := by
  match k, hk with
  | 0, _ => exact ⟨_, h.d0, .inl rfl⟩
  | 1, _ => exact ⟨_, h.d1, .inr ⟨q, rfl, Nat.lt_of_succ_lt h.lt, h.c0⟩⟩
theorem Two.new (w : World) : Two ((w.alloc (.cells #[.pointer none, .map none, .slice none 0 0, .slice none 0 0] 52)).alloc (.cells #[.pointer none, .pointer (some ⟨w.heap.size, 0, none⟩)] 34)) w.heap.size := by
  have e : (w.alloc (.cells #[.pointer none, .map none, .slice none 0 0, .slice none 0 0] 52)).heap.size = w.heap.size + 1 := by simp
  have hb := (Below.refl _ (w.alloc (.cells #[.pointer none, .map none, .slice none 0 0, .slice none 0 0] 52))).alloc (Nat.le_refl _) (.cells #[.pointer none, .pointer (some ⟨w.heap.size, 0, none⟩)] 34)
  refine ⟨(hb.cell (p := ⟨w.heap.size, 0, none⟩) (by simp)).trans (World.cell?_alloc_new w _ _ _), ?_, ?_, by simp⟩
  · rw [← e]; exact World.cell?_alloc_new _ _ _ _
  · rw [← e]; exact World.cell?_alloc_new _ _ _ _

set_option maxHeartbeats 8000000 in
set_option maxRecDepth 100000 in
theorem symbols_walk (x : Option Addr) (c : Nat) (ss : List ByteArray) (ks : ByteArray) (kz : Int) (w : World) (hv : RdT w (.slice x ss.length c) ss) (hz : ∀ s ∈ ss, (s.size : Int) ≤ 140737488351232) (hk : (ks.size : Int) ≤ 140737488351232) (hP : P10 w) :
    Calls Tryd.prog 6 #[.slice x ss.length c, .agg #[.string ks, .int .i64 kz]] w fun e w' => e = .returned (.bool true) ∧ Below w.heap.size w w' := by
  have B0 : Below w.heap.size w (w.alloc (.cells #[.string ks, .int .i64 kz] 25)) := (Below.refl _ _).alloc (Nat.le_refl _) _
  have HA := Hid.mk' (awake_any _ (hP.below B0))
  have HV := Hid.mk' (hv.below B0)
  have HKB := Hid.mk' (KBoxed.new w ks kz)
  have HZ := Hid.mk' hz
  have HK := Hid.mk' hk
  have s0 : w.heap.size < (w.alloc (.cells #[.string ks, .int .i64 kz] 25)).heap.size := by simp
  clear hv hz hk hP
  go_enter Tryd.func6, Tryd.ntmps6
  go_wp2_with fail
  refine (HA.out).mono ?_
  rintro e w1 ⟨rfl, b1⟩
  have HV1 := Hid.mk' (HV.out.below b1)
  have HKB1 := Hid.mk' (HKB.out.below b1 s0)
  have B1 : Below w.heap.size w w1 := B0.trans (b1.mono B0.size)
  have s1 : w.heap.size < w1.heap.size := Nat.lt_of_lt_of_le s0 b1.size
  clear HA HV HKB b1 B0 s0
  have q0 := HKB1.out.c0
  have q1 := HKB1.out.c1
  by_cases hl : (100 : Int) < (ss.length : Int)
  · go_wp2
    go_ret
    exact ⟨rfl, B1⟩
  · have hrd : RdK (w1.alloc (.cells #[.string ks, .int .i64 kz] 25)) (.slice (some ⟨w1.heap.size, 0, none⟩) 1 1) [(ks, kz)] := by
      refine .inr ⟨w1.heap.size, 0, 1, rfl, by simp, by simp, fun j hj => ?_⟩
      rw [World.cell?_alloc_new, World.cell?_alloc_new]
      match j, hj with
      | 0, _ => exact ⟨rfl, rfl⟩
    have HF := Hid.mk' (few_any [(ks, kz)] (by simp) (fun p hp => by simp at hp; subst hp; exact HK.out) _ _ hrd)
    clear hrd
    go_wp2_with fail
    refine (HF.out).mono ?_
    rintro e w2 ⟨⟨fb, rfl⟩, b2⟩
    have ba : Below w1.heap.size w1 (w1.alloc (.cells #[.string ks, .int .i64 kz] 25)) := (Below.refl _ _).alloc (Nat.le_refl _) _
    have b12 := ba.trans (b2.mono ba.size)
    have HV2 := Hid.mk' (HV1.out.below b12)
    have HKB2 := Hid.mk' (HKB1.out.below b12 s1)
    have B2 : Below w.heap.size w w2 := B1.trans (b12.mono B1.size)
    have s2 : w.heap.size < w2.heap.size := Nat.lt_of_lt_of_le s1 b12.size
    clear HF HV1 HKB1 b2 ba b12 q0 q1 B1 s1
    cases fb
    · go_wp2
      go_ret
      exact ⟨rfl, B2⟩
    · go_wp2_with fail
      refine (new_any _).mono ?_
      rintro e w3 ⟨g, mb, rfl, hT, b3⟩
      have HT0 := Hid.mk' hT
      clear hT
      go_wp2
      go_loopw [41] (fun vi wr => ∃ (k : Nat) (vs : Value), vi = .int .i64 k ∧ k ≤ ss.length ∧ Hid (Tab w2.heap.size g mb (.slice none 0 0) vs [] ((ss.take k).map evenS) (.map []) wr) ∧ Below w2.heap.size w2 wr) (fun vi _ => ss.length - (intOf vi).toNat)
      case atStart => exact ⟨0, _, rfl, Nat.zero_le _, HT0, b3⟩
      case round =>
        obtain ⟨k, vs, rfl, hk, HT, bk⟩ := hrel
        clear HT0 b3
        by_cases hlt : k < ss.length
        · obtain ⟨gx, ox, rfl, hc, hcl⟩ := (HV2.out.below bk).at k hlt
          have hlen : ((ss.take k).map evenS).length = k := by simp; omega
          have HS := Hid.mk' (symbol_yes ss[k] wr HT.out (HZ.out _ (List.getElem_mem hlt)) (by rw [hlen]; omega))
          rw [← evens_take ss k hlt, hlen] at HS
          generalize ss[k] = s at HS hc
          have i1 : (k : Int) < (ss.length : Int) := by omega
          have hwr := bk.size
          clear HT hlen HV2 HKB2 HZ HK
          go_wp2_with fail
          refine HS.out.mono ?_
          rintro e w4 ⟨rfl, ⟨vs4, hT4⟩, b4⟩
          have HT4 := Hid.mk' hT4
          have B4 : Below w2.heap.size w2 w4 := bk.trans b4
          have hw4 := B4.size
          clear hT4 HS b4 bk
          go_wp2
          go_roundw
          case rel =>
            refine ⟨k + 1, vs4, by go_num, by omega, Hid.mk' (HT4.out.below ?_), B4.trans (Below.mono ?_ hw4)⟩
            all_goals repeat' (first | exact Below.refl _ _ | refine Below.alloc ?_ (by simp <;> omega) _ | refine Below.setCell ?_ (by simp <;> omega) _)
          case measure => simp [intOf]; omega
        · obtain rfl : k = ss.length := by omega
          have HTn : Hid (Tab w2.heap.size g mb (.slice none 0 0) vs [] (ss.map evenS) (.map []) wr) := Hid.mk' (by have := HT.out; rwa [List.take_length] at this)
          clear HT
          go_wp2
          go_loopw [69] (fun vi wq => ∃ (k : Nat), vi = .int .i64 k ∧ k ≤ ss.length ∧ Hid (Tab w2.heap.size g mb (.slice none 0 0) vs [] (ss.map evenS) (.map []) wq) ∧ Below w2.heap.size w2 wq) (fun vi _ => ss.length - (intOf vi).toNat)
          case atStart => exact ⟨0, rfl, Nat.zero_le _, HTn, bk⟩
          case round =>
            obtain ⟨k, rfl, hk, HT, bq⟩ := hrel
            clear HTn bk
            have HZ2 : Hid (∀ t ∈ ss.map evenS, (t.size : Int) ≤ 140737488351232) := Hid.mk' (fun t ht => by
              obtain ⟨u, hu, rfl⟩ := List.mem_map.1 ht
              have := HZ.out u hu
              rw [even_size']
              omega)
            by_cases hlt : k < ss.length
            · obtain ⟨gx, ox, rfl, hc, hcl⟩ := (HV2.out.below bq).at k hlt
              have HAb := Hid.mk' (about_in ⟨#[]⟩ k wr HT.out (by simpa using hlt) HZ2.out (by rw [List.length_map]; omega))
              rw [List.getElem_map] at HAb
              have hsz := HZ.out _ (List.getElem_mem hlt)
              have HC := Hid.mk' (fun W => rcompare_wide (evenS (evenS ss[k])) ss[k] W (by rw [even_size', even_size']; omega) hsz)
              rw [cmp_even] at HC
              generalize ss[k] = s at HAb HC hc
              generalize evenS (evenS s) = d at HAb HC
              have i1 : (k : Int) < (ss.length : Int) := by omega
              have HT' := HT
              clear HT HV2 HKB2 HZ HK HZ2 hsz
              go_wp2_with fail
              refine HAb.out.mono ?_
              rintro e w4 ⟨rfl, b4⟩
              go_wp2_with fail
              refine (HC.out _).mono ?_
              rintro e w5 ⟨rfl, b5⟩
              have b45 := b4.trans (b5.mono b4.size)
              clear HAb HC b4 b5
              go_wp2
              go_roundw
              case rel => exact ⟨k + 1, by go_num, by omega, Hid.mk' (HT'.out.below b45), bq.trans (b45.mono bq.size)⟩
              case measure => simp [intOf]; omega
            · obtain rfl : k = ss.length := by omega
              have hkb := HKB2.out.below bq s2
              have q0 := hkb.c0
              have q1 := hkb.c1
              have ql := hkb.lt
              have HAb := Hid.mk' (about_any ks kz wr HT.out HZ2.out (by rw [List.length_map]; omega))
              rw [List.length_map] at HAb
              have BQ : Below w.heap.size w wr := B2.trans (bq.mono B2.size)
              have hl2 : (ss.length : Int) ≤ 100 := by omega
              clear HT HV2 HKB2 HZ HK HZ2 bq hlt B2
              go_wp2_with fail
              refine HAb.out.mono ?_
              rintro e w4 ⟨d, er, rfl, hcase, b4⟩
              have p0 := (b4.cell (p := ⟨w.heap.size, 0, none⟩) ql).trans q0
              have p1 := (b4.cell (p := ⟨w.heap.size, 1, none⟩) ql).trans q1
              have pl := Nat.lt_of_lt_of_le ql b4.size
              have B4 : Below w.heap.size w w4 := BQ.trans (b4.mono BQ.size)
              clear q0 q1 ql b4 BQ HAb
              rcases hcase with ⟨h1, h2, rfl⟩ | ⟨h1, h2, rfl⟩ | ⟨h1, rfl⟩
              all_goals
                go_wp2
                go_loopw [115] (fun vi wq => ∃ (k : Nat), vi = .int .i64 k ∧ k ≤ 2 ∧ Hid (Two wq w4.heap.size) ∧ Below w4.heap.size w4 wq) (fun vi _ => 2 - (intOf vi).toNat)
                case atStart => exact ⟨0, rfl, by omega, Hid.mk' (Two.new w4), ((Below.refl _ _).alloc (Nat.le_refl _) _).alloc (by simp) _⟩
                case round =>
                  obtain ⟨k, rfl, hk, HTw, bq⟩ := hrel
                  have q0 := (bq.cell (p := ⟨w.heap.size, 0, none⟩) pl).trans p0
                  have q1 := (bq.cell (p := ⟨w.heap.size, 1, none⟩) pl).trans p1
                  have ql := Nat.lt_of_lt_of_le pl bq.size
                  by_cases hlt : k < 2
                  · obtain ⟨p, hc, hN⟩ := HTw.out.at k hlt
                    have i1 : (k : Int) < 2 := by omega
                    have hql := HTw.out.lt
                    have HN := Hid.mk' hN
                    clear hN p0 p1 pl
                    go_wp2_with fail
                    refine (name_no p 0 _ HN.out).mono ?_
                    rintro e w5 ⟨rfl, hw5⟩
                    rw [hw5]; clear hw5 w5
                    go_wp2_with fail
                    refine (symbol_no p _ _ HN.out).mono ?_
                    rintro e w5 ⟨rfl, b5⟩
                    have q0 := (b5.cell (p := ⟨w.heap.size, 0, none⟩) ql).trans q0
                    have q1 := (b5.cell (p := ⟨w.heap.size, 1, none⟩) ql).trans q1
                    have ql5 := Nat.lt_of_lt_of_le ql b5.size
                    have HN5 := Hid.mk' (HN.out.below b5)
                    have HTw5 := Hid.mk' (HTw.out.below b5)
                    have hne5 : w.heap.size ≠ w5.heap.size := by omega
                    have B5 : Below w4.heap.size w4 w5 := bq.trans (b5.mono bq.size)
                    clear b5 HN HTw
                    go_wp2_with fail
                    refine (about_no p ks kz _ (HN5.out.below ?_)).mono ?_
                    · repeat' (first | exact Below.refl _ _ | refine Below.alloc ?_ (by simp <;> omega) _ | refine Below.setCell ?_ (by simp <;> omega) _)
                    rintro e w6 ⟨rfl, b6⟩
                    have b56 : Below w5.heap.size w5 w6 := by
                      refine Below.trans ?_ (b6.mono (by simp))
                      repeat' (first | exact Below.refl _ _ | refine Below.alloc ?_ (by simp <;> omega) _ | refine Below.setCell ?_ (by simp <;> omega) _)
                    have HN6 := Hid.mk' (HN5.out.below b56)
                    have HTw6 := Hid.mk' (HTw5.out.below b56)
                    have B6 : Below w4.heap.size w4 w6 := B5.trans (b56.mono B5.size)
                    clear b6 b56 HN5 HTw5 B5 q0 q1
                    go_wp2_with fail
                    refine (intern_no p _ _ HN6.out).mono ?_
                    rintro e w7 ⟨rfl, hw7⟩
                    rw [hw7]; clear hw7 w7
                    go_wp2_with fail
                    refine (len_no p _ HN6.out).mono ?_
                    rintro e w7 ⟨rfl, hw7⟩
                    rw [hw7]; clear hw7 w7
                    go_wp2_with fail
                    refine (tells_no p _ HN6.out).mono ?_
                    rintro e w7 ⟨rfl, b7⟩
                    have HTw7 := Hid.mk' (HTw6.out.below b7)
                    have B7 : Below w4.heap.size w4 w7 := B6.trans (b7.mono B6.size)
                    clear b7 HTw6 B6 HN6
                    go_wp2
                    go_roundw
                    case rel => exact ⟨k + 1, by go_num, by omega, HTw7, B7⟩
                    case measure => simp [intOf]; omega
                  · obtain rfl : k = 2 := by omega
                    go_wp2
                    go_ret
                    exact ⟨rfl, B4.trans (bq.mono B4.size)⟩

theorem symbols_all (x : Option Addr) (c : Nat) (ss : List ByteArray) (ks : ByteArray) (kz : Int) (w : World) (hv : RdT w (.slice x ss.length c) ss) (hz : ∀ s ∈ ss, (s.size : Int) ≤ 140737488351232) (_ : (ss.length : Int) * 16 ≤ 140737488351232) (hk : (ks.size : Int) ≤ 140737488351232) (_ : Lit.wf (.int .i64 kz) = true) (hP : P10 w) :
    Calls Tryd.prog 6 #[.slice x ss.length c, .agg #[.string ks, .int .i64 kz]] w fun e w' => e = .returned (.bool true) ∧ Below w.heap.size w w' := symbols_walk x c ss ks kz w hv hz hk hP

end Go.Proofs.YthomeimnhipilaaDoor
