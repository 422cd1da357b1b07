/- lintelref04.Name, Same; awake: chapter 4's examples. -/
import Derived.Test.YtcjpoabknlpopaaDoorKTab
import Derived.Test.YtcjpoabknlpopaaDoorRAsc
import Derived.Deep.RegionHeld3
namespace Go.Proofs.YtcjpoabknlpopaaDoor
set_option linter.unusedVariables false
open Go.RowKit

/-- Keys alike, as the document's Same tells. -/
def sameK (a b : ByteArray × Int) : Bool := if 0 < a.2 ∨ 0 < b.2 then a.2 == b.2 else cmpK a.1 b.1 0 == 0

set_option maxHeartbeats 1000000 in
set_option maxRecDepth 100000 in
theorem same_any (a b : ByteArray) (x y : Int) (w : World) (ha : (a.size : Int) ≤ 140737488351232) (hb : (b.size : Int) ≤ 140737488351232) :
    Calls Tryd.prog 8 #[.agg #[.string a, .int .i64 x], .agg #[.string b, .int .i64 y]] w fun e w' => e = .returned (.bool (sameK (a, x) (b, y))) ∧ Below w.heap.size w w' := by
  have HC := Hid.mk' (fun W => rcompare_wide a b W ha hb)
  have bb : Below w.heap.size w ((w.alloc (.cells #[.string a, .int .i64 x] 25)).alloc (.cells #[.string b, .int .i64 y] 25)) := ((Below.refl _ _).alloc (Nat.le_refl _) _).alloc (by simp) _
  have HB := Hid.mk' bb
  clear bb ha hb
  by_cases hx : 0 < x
  · have HE : Hid (sameK (a, x) (b, y) = (x == y)) := Hid.mk' (by unfold sameK; rw [if_pos (.inl hx)])
    go_enter Tryd.func8, Tryd.ntmps8
    go_wp2
    go_ret
    exact ⟨by rw [HE.out]; rfl, HB.out⟩
  · by_cases hy : 0 < y
    · have HE : Hid (sameK (a, x) (b, y) = (x == y)) := Hid.mk' (by unfold sameK; rw [if_pos (.inr hy)])
      go_enter Tryd.func8, Tryd.ntmps8
      go_wp2
      go_ret
      exact ⟨by rw [HE.out]; rfl, HB.out⟩
    · have HE : Hid (sameK (a, x) (b, y) = (cmpK a b 0 == 0)) := Hid.mk' (by unfold sameK; rw [if_neg (by rintro (h | h) <;> contradiction)])
      go_enter Tryd.func8, Tryd.ntmps8
      go_wp2_with (go_at_call 22; refine (HC.out _).mono ?_; rintro e w1 ⟨rfl, b1⟩)
      go_ret
      exact ⟨by rw [HE.out]; rfl, HB.out.trans (b1.mono HB.out.size)⟩

set_option maxHeartbeats 1000000 in
set_option maxRecDepth 100000 in
theorem rname_any (s : ByteArray) (q : ByteArray) (hq : ofFst (ofS s) = q) (w : World) (hs : (s.size : Int) ≤ 524288) :
    Calls Tryd.prog 13 #[.string s] w fun e w' => e = .returned (.agg #[.string q, .int .i64 0]) ∧ Below w.heap.size w w' := by
  have HA := Hid.mk' (fun W => rascii_any s W hs)
  rw [hq] at HA
  clear hq
  go_enter Tryd.func13, Tryd.ntmps13
  go_wp2_with fail
  refine (HA.out _).mono ?_
  rintro e w1 ⟨rfl, b1⟩
  have c0 := (b1.cell (p := ⟨w.heap.size, 0, none⟩) (by simp)).trans (World.cell?_alloc_new _ _ _ _)
  have c1 := (b1.cell (p := ⟨w.heap.size, 1, none⟩) (by simp)).trans (World.cell?_alloc_new _ _ _ _)
  have f0 := (b1.frozen (p := ⟨w.heap.size, 0, none⟩) (by simp)).trans (World.frozen?_alloc_new _ _ _ _)
  have f1 := (b1.frozen (p := ⟨w.heap.size, 1, none⟩) (by simp)).trans (World.frozen?_alloc_new _ _ _ _)
  simp only [List.getElem?_toArray, List.getElem?_cons_zero, List.getElem?_cons_succ] at c0 c1
  go_wp2
  (try simp only [Exit.inBlock, Exit.then])
  refine bodyPost_ret (v := .agg #[.string q, .int .i64 0]) ?_ rfl ⟨rfl, ?_⟩
  · rw [results_cell rfl]
    go_simp
  · have b0 : Below w.heap.size w (w.alloc (.cells #[.string ⟨#[]⟩, .int .i64 0] 25)) := (Below.refl _ _).alloc (Nat.le_refl _) _
    have b3 := b0.trans (b1.mono b0.size)
    repeat' (first | exact b3 | refine Below.setCell ?_ (by simp) _)

theorem asc (l : List UInt8) (h : ∀ c ∈ l, c.toNat < 128) : ofFst (ofS (Sb l)) = ⟨(mkB (l.map (·.toNat))).toArray⟩ := by rw [ofS_ascii l h]; rfl

theorem srt_ex : srt [2, 10, 1] = [1, 2, 10] := by
  first
    | (simp [srt, List.mergeSort, List.MergeSort.Internal.splitInTwo, List.splitAt, List.splitAt.go]; done)
    | decide
    | rfl
theorem asc_n : ofFst (ofS ⟨#[52, 50, 57, 52, 57, 54, 55, 50, 57, 52]⟩) = ⟨#[0, 52, 0, 50, 0, 57, 0, 52, 0, 57, 0, 54, 0, 55, 0, 50, 0, 57, 0, 52]⟩ := (asc [52, 50, 57, 52, 57, 54, 55, 50, 57, 52] (by decide)).trans rfl
theorem asc_01 : ofFst (ofS ⟨#[48, 49]⟩) = ⟨#[0, 48, 0, 49]⟩ := (asc [48, 49] (by decide)).trans rfl
theorem asc_b : ofFst (ofS ⟨#[98]⟩) = ⟨#[0, 98]⟩ := (asc [98] (by decide)).trans rfl
theorem asc_2 : ofFst (ofS ⟨#[50]⟩) = ⟨#[0, 50]⟩ := (asc [50] (by decide)).trans rfl
theorem asc_a : ofFst (ofS ⟨#[97]⟩) = ⟨#[0, 97]⟩ := (asc [97] (by decide)).trans rfl
theorem asc_10 : ofFst (ofS ⟨#[49, 48]⟩) = ⟨#[0, 49, 0, 48]⟩ := (asc [49, 48] (by decide)).trans rfl
theorem asc_1 : ofFst (ofS ⟨#[49]⟩) = ⟨#[0, 49]⟩ := (asc [49] (by decide)).trans rfl
theorem asc_x : ofFst (ofS ⟨#[120]⟩) = ⟨#[0, 120]⟩ := (asc [120] (by decide)).trans rfl
theorem idx_n : idxE ⟨#[0, 52, 0, 50, 0, 57, 0, 52, 0, 57, 0, 54, 0, 55, 0, 50, 0, 57, 0, 52]⟩ = .returned (.tuple #[.int .u32 4294967294, .bool true]) := by kernel_rfl
theorem idx_01 : idxE ⟨#[0, 48, 0, 49]⟩ = .returned (.tuple #[.int .u32 0, .bool false]) := by kernel_rfl
/-- The example's keys. -/
def exK : KL := [(⟨#[0, 98]⟩, 0), (⟨#[0, 50]⟩, 0), (⟨#[0, 97]⟩, 0), (⟨#[0, 49, 0, 48]⟩, 0), (⟨#[0, 49]⟩, 0)]
theorem ixs_ex : ixs exK = [2, 10, 1] := by kernel_rfl
theorem txs_ex : txs exK = [(⟨#[0, 98]⟩, 0), (⟨#[0, 97]⟩, 0)] := by kernel_rfl
theorem sys_ex : sys exK = [] := by kernel_rfl
theorem ofs_ex : ofs [1, 2, 10] = [(⟨#[0, 49]⟩, 0), (⟨#[0, 50]⟩, 0), (⟨#[0, 49, 0, 48]⟩, 0)] := by
  have h : keyT 1 = ⟨#[0, 49]⟩ ∧ keyT 2 = ⟨#[0, 50]⟩ ∧ keyT 10 = ⟨#[0, 49, 0, 48]⟩ := by
    unfold keyT
    rw [Lib.decDigits_one (by omega), Lib.decDigits_one (by omega), Lib.decDigits_two (by omega) (by omega)]
    exact ⟨rfl, rfl, rfl⟩
  simp [ofs, h]
theorem ord_ex : ordK exK = [(⟨#[0, 49]⟩, 0), (⟨#[0, 50]⟩, 0), (⟨#[0, 49, 0, 48]⟩, 0), (⟨#[0, 98]⟩, 0), (⟨#[0, 97]⟩, 0)] := by
  unfold ordK
  rw [ixs_ex, txs_ex, sys_ex]
  show ofs (srt [2, 10, 1]) ++ _ ++ _ = _
  rw [srt_ex, ofs_ex]
  rfl

theorem Tab.below {B g mb : Nat} {vt vs : Value} {ts ss : List ByteArray} {D : DataW Unit} {w w' : World} (h : Tab B g mb vt vs ts ss D w) (hb : Below w.heap.size w w') : Tab B g mb vt vs ts ss D w' :=
  ⟨h.gB, h.mB, (hb.block g h.lt.1).trans h.row, own_below h.t hb, own_below h.s hb, own_map_below h.m hb, h.ok, h.ap⟩
theorem same_ex1 : sameK (⟨#[0, 49]⟩, 0) (⟨#[0, 49]⟩, 0) = true := by kernel_rfl
theorem same_ex2 : sameK (⟨#[0, 98]⟩, 0) (⟨#[0, 98]⟩, 0) = true := by kernel_rfl

theorem chain5 {w wB w5 w6 w7 w8 w9 : World} (h : Below w.heap.size w wB) (b5 : Below wB.heap.size wB w5) (b6 : Below w5.heap.size w5 w6) (b7 : Below w6.heap.size w6 w7) (b8 : Below w7.heap.size w7 w8) (b9 : Below w8.heap.size w8 w9) : Below w.heap.size w w9 := by
  have h5 := h.trans (b5.mono h.size)
  have h6 := h5.trans (b6.mono h5.size)
  have h7 := h6.trans (b7.mono h6.size)
  have h8 := h7.trans (b8.mono h7.size)
  exact h8.trans (b9.mono h8.size)
theorem intern_x {B g mb : Nat} {wB w5 w6 w7 w8 w9 : World} (hT : Tab B g mb (.slice none 0 0) (.slice none 0 0) [] [] (.map []) wB) (b5 : Below wB.heap.size wB w5) (b6 : Below w5.heap.size w5 w6) (b7 : Below w6.heap.size w6 w7) (b8 : Below w7.heap.size w7 w8) (b9 : Below w8.heap.size w8 w9) :
    Calls Tryd.prog 15 #[.pointer (some ⟨g, 0, none⟩), .string ⟨#[0, 120]⟩] w9 fun e w' => e = .returned (.int .i64 0) ∧ Below B w9 w' :=
  intern_new ⟨#[0, 120]⟩ w9 (((((hT.below b5).below b6).below b7).below b8).below b9) (by decide) (List.not_mem_nil) (by decide)

set_option maxHeartbeats 4000000 in
set_option maxRecDepth 100000 in
theorem awake_any (w : World) (hP : P10 w) : Calls Tryd.prog 4 #[] w fun e w' => e = .returned (.bool true) ∧ Below w.heap.size w w' := by
  have HAn := Hid.mk' (fun W => rascii_any ⟨#[52, 50, 57, 52, 57, 54, 55, 50, 57, 52]⟩ W (by decide))
  have HA0 := Hid.mk' (fun W => rascii_any ⟨#[48, 49]⟩ W (by decide))
  have HAx := Hid.mk' (fun W => rascii_any ⟨#[120]⟩ W (by decide))
  rw [asc_n] at HAn
  rw [asc_01] at HA0
  rw [asc_x] at HAx
  have HIn := Hid.mk' (fun W => index_any ⟨#[0, 52, 0, 50, 0, 57, 0, 52, 0, 57, 0, 54, 0, 55, 0, 50, 0, 57, 0, 52]⟩ W (by decide))
  have HI0 := Hid.mk' (fun W => index_any ⟨#[0, 48, 0, 49]⟩ W (by decide))
  rw [idx_n] at HIn
  rw [idx_01] at HI0
  have HP := Hid.mk' hP
  clear hP
  go_enter Tryd.func4, Tryd.ntmps4
  go_wp2_with fail
  refine (HAn.out _).mono ?_
  rintro e w1 ⟨rfl, b1⟩
  go_wp2_with fail
  refine (HIn.out _).mono ?_
  rintro e w2 ⟨rfl, n2, hw2⟩
  rw [hw2]; clear hw2 w2
  go_wp2_with fail
  refine (HA0.out _).mono ?_
  rintro e w3 ⟨rfl, b3⟩
  go_wp2_with fail
  refine (HI0.out _).mono ?_
  rintro e w4 ⟨rfl, n4, hw4⟩
  rw [hw4]; clear hw4 w4
  have B3 : Below w.heap.size w w3 := b1.trans (Below.trans (below_drewN (Below.refl _ _) n2) b3 |>.mono b1.size)
  go_wp2_with fail
  refine (rname_any _ _ asc_b _ (by decide)).mono ?_
  rintro e w5 ⟨rfl, b5⟩
  go_wp2_with fail
  refine (rname_any _ _ asc_2 _ (by decide)).mono ?_
  rintro e w6 ⟨rfl, b6⟩
  go_wp2_with fail
  refine (rname_any _ _ asc_a _ (by decide)).mono ?_
  rintro e w7 ⟨rfl, b7⟩
  go_wp2_with fail
  refine (rname_any _ _ asc_10 _ (by decide)).mono ?_
  rintro e w8 ⟨rfl, b8⟩
  go_wp2_with fail
  refine (rname_any _ _ asc_1 _ (by decide)).mono ?_
  rintro e w9 ⟨rfl, b9⟩
  go_wp2_with fail
  have B9 : Below w.heap.size w w9 := by
    have q5 : Below w.heap.size w w5 := B3.trans ((Below.trans (below_drewN (Below.refl _ _) n4) b5).mono B3.size)
    have q6 := q5.trans (b6.mono q5.size)
    have q7 := q6.trans (b7.mono q6.size)
    have q8 := q7.trans (b8.mono q7.size)
    exact q8.trans (b9.mono q8.size)
  have BA : Below w.heap.size w (w9.alloc (.cells #[.string ⟨#[0, 98]⟩, .int .i64 0, .string ⟨#[0, 50]⟩, .int .i64 0, .string ⟨#[0, 97]⟩, .int .i64 0, .string ⟨#[0, 49, 0, 48]⟩, .int .i64 0, .string ⟨#[0, 49]⟩, .int .i64 0] 25)) := B9.alloc B9.size _
  have hrd : RdK (w9.alloc (.cells #[.string ⟨#[0, 98]⟩, .int .i64 0, .string ⟨#[0, 50]⟩, .int .i64 0, .string ⟨#[0, 97]⟩, .int .i64 0, .string ⟨#[0, 49, 0, 48]⟩, .int .i64 0, .string ⟨#[0, 49]⟩, .int .i64 0] 25)) (.slice (some ⟨w9.heap.size, 0, none⟩) 5 5) exK := by
    refine .inr ⟨w9.heap.size, 0, 5, rfl, by decide, by simp, fun j hj => ?_⟩
    rw [World.cell?_alloc_new, World.cell?_alloc_new]
    match j, hj with
    | 0, _ => exact ⟨rfl, rfl⟩
    | 1, _ => exact ⟨rfl, rfl⟩
    | 2, _ => exact ⟨rfl, rfl⟩
    | 3, _ => exact ⟨rfl, rfl⟩
    | 4, _ => exact ⟨rfl, rfl⟩
  have HOr := Hid.mk' (order_any 12 sort_small exK (by rw [ixs_ex]; decide) (by decide) (by decide) _ _ hrd (HP.out.below BA))
  rw [ord_ex] at HOr
  clear hrd b1 b3 b5 b6 b7 b8 b9 B3 B9
  refine (HOr.out).mono ?_
  rintro e wA ⟨vA, rfl, oA, bA⟩
  have B10 := BA.trans (bA.mono BA.size)
  clear BA bA HOr
  go_wp2_with fail
  refine (new_any _).mono ?_
  rintro e wB ⟨g, mb, rfl, hT, bB⟩
  have oB := own_below oA bB
  have B11 := B10.trans (bB.mono B10.size)
  obtain ⟨xo, co, rfl, _⟩ := own_slice' oB
  obtain ⟨go, rfl⟩ := own_some oB (by decide)
  have rd := RdK.own (l := [(⟨#[0, 49]⟩, 0), (⟨#[0, 50]⟩, 0), (⟨#[0, 49, 0, 48]⟩, 0), (⟨#[0, 98]⟩, 0), (⟨#[0, 97]⟩, 0)]) oB
  have cs : (wB.cell? ⟨go, 0, none⟩ = some (.string ⟨#[0, 49]⟩) ∧ wB.cell? ⟨go, 1, none⟩ = some (.int .i64 0)) ∧ (wB.cell? ⟨go, 6, none⟩ = some (.string ⟨#[0, 98]⟩) ∧ wB.cell? ⟨go, 7, none⟩ = some (.int .i64 0)) ∧ go < wB.heap.size := by
    rcases rd with ⟨_, _, h, _⟩ | ⟨g', o', c', h, _, hlt, hc⟩
    · simp at h
    · simp at h
      obtain ⟨⟨rfl, rfl⟩, _⟩ := h
      exact ⟨by simpa using hc 0 (by decide), by simpa using hc 3 (by decide), hlt⟩
  obtain ⟨⟨k0, k1⟩, ⟨k6, k7⟩, kl⟩ := cs
  have HT := Hid.mk' hT
  have HB := Hid.mk' B11
  have gl := (oA.lt go rfl).2
  have hBA : w.heap.size ≤ wA.heap.size := B10.size
  clear oA oB rd hT B10 bB
  have HS1 := Hid.mk' (fun W => same_any ⟨#[0, 49]⟩ ⟨#[0, 49]⟩ 0 0 W (by decide) (by decide))
  have HS2 := Hid.mk' (fun W => same_any ⟨#[0, 98]⟩ ⟨#[0, 98]⟩ 0 0 W (by decide) (by decide))
  rw [same_ex1] at HS1
  rw [same_ex2] at HS2
  go_wp2_with fail
  go_region_held3 (fun w' => w'.cell? ⟨go, 0, none⟩ = some (.string ⟨#[0, 49]⟩) ∧ w'.cell? ⟨go, 1, none⟩ = some (.int .i64 0) ∧ w'.cell? ⟨go, 6, none⟩ = some (.string ⟨#[0, 98]⟩) ∧ w'.cell? ⟨go, 7, none⟩ = some (.int .i64 0)) (first | exact ⟨j0, j1, j6, j7⟩ | exact ⟨i0, i1, i6, i7⟩ | exact ⟨m0, m1, m6, m7⟩ | exact ⟨n0, n1, n6, n7⟩ | exact ⟨q0, q1, q6, q7⟩ | exact ⟨r0, r1, r6, r7⟩ | go_keep) (first | (go_at_call_of 13 (Value.string ⟨#[49]⟩); refine (rname_any _ _ asc_1 _ (by decide)).mono ?_; rintro e w5 ⟨rfl, b5⟩; have j0 := (b5.cell (p := ⟨go, 0, none⟩) kl).trans k0; have j1 := (b5.cell (p := ⟨go, 1, none⟩) kl).trans k1; have j6 := (b5.cell (p := ⟨go, 6, none⟩) kl).trans k6; have j7 := (b5.cell (p := ⟨go, 7, none⟩) kl).trans k7; have jl := Nat.lt_of_lt_of_le kl b5.size) | (go_at_call_of 8 (Value.string ⟨#[0, 49]⟩); refine (HS1.out _).mono ?_; rintro e w6 ⟨rfl, b6⟩; have i0 := (b6.cell (p := ⟨go, 0, none⟩) jl).trans j0; have i1 := (b6.cell (p := ⟨go, 1, none⟩) jl).trans j1; have i6 := (b6.cell (p := ⟨go, 6, none⟩) jl).trans j6; have i7 := (b6.cell (p := ⟨go, 7, none⟩) jl).trans j7; have il := Nat.lt_of_lt_of_le jl b6.size) | (go_at_call_of 13 (Value.string ⟨#[98]⟩); refine (rname_any _ _ asc_b _ (by decide)).mono ?_; rintro e w7 ⟨rfl, b7⟩; have m0 := (b7.cell (p := ⟨go, 0, none⟩) il).trans i0; have m1 := (b7.cell (p := ⟨go, 1, none⟩) il).trans i1; have m6 := (b7.cell (p := ⟨go, 6, none⟩) il).trans i6; have m7 := (b7.cell (p := ⟨go, 7, none⟩) il).trans i7; have ml := Nat.lt_of_lt_of_le il b7.size) | (go_at_call_of 8 (Value.string ⟨#[0, 98]⟩); refine (HS2.out _).mono ?_; rintro e w8 ⟨rfl, b8⟩; have n0 := (b8.cell (p := ⟨go, 0, none⟩) ml).trans m0; have n1 := (b8.cell (p := ⟨go, 1, none⟩) ml).trans m1; have n6 := (b8.cell (p := ⟨go, 6, none⟩) ml).trans m6; have n7 := (b8.cell (p := ⟨go, 7, none⟩) ml).trans m7; have nl := Nat.lt_of_lt_of_le ml b8.size) | (go_at_call 12; refine (HAx.out _).mono ?_; rintro e w9 ⟨rfl, b9⟩; have q0 := (b9.cell (p := ⟨go, 0, none⟩) nl).trans n0; have q1 := (b9.cell (p := ⟨go, 1, none⟩) nl).trans n1; have q6 := (b9.cell (p := ⟨go, 6, none⟩) nl).trans n6; have q7 := (b9.cell (p := ⟨go, 7, none⟩) nl).trans n7; have c5 : Below wB.heap.size wB w5 := ((Below.refl wB.heap.size wB).drew).trans b5; have HI := Hid.mk' (intern_x HT.out c5 b6 b7 b8 b9); have bz := chain5 HB.out c5 b6 b7 b8 b9) | (go_at_call 15; refine (HI.out).mono ?_; rintro e wI ⟨rfl, bI⟩; have r0 := (bI.cell (p := ⟨go, 0, none⟩) gl).trans q0; have r1 := (bI.cell (p := ⟨go, 1, none⟩) gl).trans q1; have r6 := (bI.cell (p := ⟨go, 6, none⟩) gl).trans q6; have r7 := (bI.cell (p := ⟨go, 7, none⟩) gl).trans q7; have bF : Below w.heap.size w wI := bz.trans (bI.mono hBA)))
  all_goals
    go_wp2
    go_ret
    exact ⟨rfl, bF⟩

end Go.Proofs.YtcjpoabknlpopaaDoor
