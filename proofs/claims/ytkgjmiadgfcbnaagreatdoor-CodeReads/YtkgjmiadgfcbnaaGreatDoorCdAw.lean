/- The chapter's example, awake. -/
import Derived.Test.YtkgjmiadgfcbnaaGreatDoorCdB3
import Derived.Test.YtkgjmiadgfcbnaaGreatDoorCdE6
import Derived.Test.YtkgjmiadgfcbnaaGreatDoorCdL
import Derived.Test.YtkgjmiadgfcbnaaGreatDoorCdSa
namespace Go.Proofs.YtkgjmiadgfcbnaaGreatDoor
set_option linter.unusedVariables false
set_option linter.unusedSimpArgs false
open Go.RowKit

theorem exB_mod : ∃ f, modP exB = some [f] ∧ f.code.length = 2 := by
  refine ⟨_, rfl, rfl⟩
theorem Bv.own {w : World} {B : Nat} {a : Option Addr} {n c : Nat} {L : List UInt8} (h : w.ownsRow B 5 1 (.slice a n c) n (Lib.byteCells L)) : Bv w a c L ∧ L.length = n := by
  have h1 : L.length = n := by have := h.1; simpa [Lib.byteCells_length] using this
  refine ⟨?_, h1⟩
  rcases h.2 with ⟨h2, h3⟩ | ⟨g, cap, cur, h2, h3, h4, h5, h6, h7, h8⟩
  · simp at h2
    obtain ⟨rfl, rfl, rfl⟩ := h2
    exact ⟨by omega, by omega, .inl (List.eq_nil_of_length_eq_zero h1)⟩
  · simp at h2
    obtain ⟨rfl, rfl⟩ := h2
    unfold maxLen at h6
    refine ⟨by omega, by omega, .inr ⟨g, 0, rfl, fun j hj => ?_, (Array.getElem?_eq_some_iff.1 h4).1⟩⟩
    rw [Nat.zero_add, cell_row _ g j _ _ h4, ← Array.getElem?_toList]
    have : (cur.toList.take (n * 1))[j]? = cur.toList[j]? := List.getElem?_take_of_lt (by omega)
    rw [← this, h8]
    simp [Lib.byteCells, hj]
theorem LaidL.below {B : Nat} {X Y : World} (h : LaidL X) (hb : Below B X Y) (hB : 1 < B) : LaidL Y := fun k hk => (hb.cell (p := ⟨1, k, none⟩) hB).trans (h k hk)
theorem LaidNm.below {B : Nat} {X Y : World} (h : LaidNm X) (hb : Below B X Y) (hB : 0 < B) : LaidNm Y := ⟨(hb.cell (p := ⟨0, 0, none⟩) hB).trans h.1, (hb.cell (p := ⟨0, 34, none⟩) hB).trans h.2⟩
set_option maxHeartbeats 2000000 in
set_option maxRecDepth 100000 in
theorem awake_any (w : World) (hL : LaidL w) (hN : LaidNm w) : Calls Tryz.prog 4 #[] w fun e w' => e = .returned (.bool true) ∧ Below w.heap.size w w' := by
  have hlb : 1 < w.heap.size := World.block_lt_of_cell? w _ (hL 0 (by omega))
  have hnb : 0 < w.heap.size := World.block_lt_of_cell? w _ hN.1
  obtain ⟨W1, hW1⟩ : ∃ W1, w.alloc (.cells #[.int .i64 0, .int .i64 0, .int .i64 0, .int .i64 0, .int .i64 0, .int .i64 34, .int .i64 0, .int .i64 0, .int .i64 0, .int .i64 0] 35) = W1 := ⟨_, rfl⟩
  obtain ⟨W2, hW2⟩ : ∃ W2, W1.alloc (.cells #[.string ⟨#[]⟩, .int .i64 0, .bool false, .bool false, .int .i64 1, .slice none 0 0, .slice (some ⟨w.heap.size, 0, none⟩) 2 2, .slice none 0 0, .slice none 0 0] 42) = W2 := ⟨_, rfl⟩
  obtain ⟨W3, hW3⟩ : ∃ W3, W2.alloc (.cells #[.string ⟨#[]⟩, .int .i64 0, .bool false, .bool false, .int .i64 1, .slice none 0 0, .slice (some ⟨w.heap.size, 0, none⟩) 2 2, .slice none 0 0, .slice none 0 0] 42) = W3 := ⟨_, rfl⟩
  have b1 : Below w.heap.size w W1 := by rw [← hW1]; exact lay_below
  have b2 : Below W1.heap.size W1 W2 := by rw [← hW2]; exact lay_below
  have b3 : Below W2.heap.size W2 W3 := by rw [← hW3]; exact lay_below
  have s1 : W1.heap.size = w.heap.size + 1 := by rw [← hW1]; simp
  have s2 : W2.heap.size = w.heap.size + 1 + 1 := by rw [← hW2]; simp; omega
  have s3 : W3.heap.size = w.heap.size + 3 := by rw [← hW3]; simp; omega
  have q1 : W1.heap[w.heap.size]? = some (.cells exRow 35 (0, 0)) := by rw [← hW1]; exact box_new
  have q2 : W2.heap[W1.heap.size]? = some (.cells #[.string ⟨#[]⟩, .int .i64 0, .bool false, .bool false, .int .i64 1, .slice none 0 0, .slice (some ⟨w.heap.size, 0, none⟩) 2 2, .slice none 0 0, .slice none 0 0] 42 (0, 0)) := by rw [← hW2]; exact box_new
  have q3 : W3.heap[W2.heap.size]? = some (.cells #[.string ⟨#[]⟩, .int .i64 0, .bool false, .bool false, .int .i64 1, .slice none 0 0, .slice (some ⟨w.heap.size, 0, none⟩) 2 2, .slice none 0 0, .slice none 0 0] 42 (0, 0)) := by rw [← hW3]; exact box_new
  have B23 := b2.trans (b3.mono (by omega))
  have B3 := b1.trans (B23.mono b1.size)
  have q1' := (B23.block w.heap.size (by omega)).trans q1
  have q2' := (b3.block W1.heap.size (by omega)).trans q2
  rw [s1] at q2'
  rw [s2] at q3
  obtain ⟨bi, hbi⟩ : ∃ bi, w.heap.size = bi := ⟨_, rfl⟩
  rw [hbi] at q1' q2' q3 s3 s2 s1
  have HE := Hid.mk' (encode_ex W3 (hL.below B3 hlb) q1' q3)
  have HQ1 := Hid.mk' q1'
  have HQ2 := Hid.mk' q2'
  have HB3 := Hid.mk' B3
  have HS3 := Hid.mk' s3
  have HLL := Hid.mk' (show LaidL W3 from hL.below B3 hlb)
  have HLN := Hid.mk' (show LaidNm W3 from hN.below B3 hnb)
  have HLB := Hid.mk' hlb
  have HNB := Hid.mk' hnb
  have HBI := Hid.mk' hbi
  rw [hbi] at hW2 hW3
  have HH1 := Hid.mk' hW1
  have HH2 := Hid.mk' hW2
  have HH3 := Hid.mk' hW3
  clear hL hN b1 b2 b3 q1 q2 q3 q1' q2' B23 B3 hW1 hW2 hW3 s1 s2 s3 hlb hnb
  go_enter Tryz.func4, Tryz.ntmps4
  go_wp2_with fail
  rw [HH1.out]
  try rw [hbi]
  rw [HH2.out, HH3.out]
  refine HE.out.mono ?_
  rintro e w4 ⟨a, c, rfl, hO, hB4⟩
  have hBv := Bv.own hO
  have HD : Hid (Calls Tryz.prog 5 #[.slice a 19 c] w4 fun e w' => Dec exB w4 e w') := Hid.mk' (by
    have := decode_any w4 hBv.1 (by rw [hBv.2]; omega) (HLL.out.below hB4 (by have := HLB.out; have := HS3.out; have := HBI.out; omega))
    rw [hBv.2] at this
    exact this)
  have HB4 := Hid.mk' hB4
  clear hO hB4 hBv
  go_wp2_with fail
  refine HD.out.mono ?_
  rintro e w5 (⟨fs, x, hm, rfl, hF, hB5⟩ | ⟨hm, _⟩)
  rotate_left
  · obtain ⟨f, h1, _⟩ := exB_mod
    rw [h1] at hm
    cases hm
  obtain ⟨f, h1, hcl⟩ := exB_mod
  rw [h1] at hm
  obtain rfl : [f] = fs := Option.some.inj hm
  obtain ⟨els, he, ho, hr⟩ := hF
  obtain ⟨q, rfl⟩ : ∃ q, els = [q] := by
    have : els.length = 1 := by have := congrArg List.length he; simpa using this
    exact List.length_eq_one_iff.1 this
  obtain ⟨ax, cx, hx, _⟩ := own_slice' ho
  rw [List.length_singleton] at hx ho
  subst hx
  obtain ⟨g, hg, hc⟩ := own_at fv_len ho rfl 0 (by simp)
  subst hg
  have hqf : q.f = f := by simpa using he
  have hri := (hr q (by simp)).i
  rw [hqf, hcl] at hri
  obtain ⟨ay, cy, hy, _⟩ := own_slice' hri
  have A6 : w5.cell? ⟨g, 6, none⟩ = some (.slice ay 2 cy) := by
    have := hc 6 q.y (by decide) rfl
    rw [hy] at this
    simpa using this
  obtain ⟨W6, hW6⟩ : ∃ W6, w5.alloc (.cells #[.slice (some ⟨g, 0, none⟩) 1 cx] 26) = W6 := ⟨_, rfl⟩
  have b6 : Below w5.heap.size w5 W6 := by rw [← hW6]; exact lay_below
  have A0 : W6.cell? ⟨w5.heap.size, 0, none⟩ = some (.slice (some ⟨g, 0, none⟩) 1 cx) := by rw [← hW6]; exact (cell_row _ _ 0 _ _ box_new).trans rfl
  have B36 : Below W3.heap.size W3 W6 := HB4.out.trans ((hB5.trans (b6.mono hB5.size)).mono HB4.out.size)
  have A6' : W6.cell? ⟨g, 6, none⟩ = some (.slice ay 2 cy) := (b6.cell (World.block_lt_of_cell? w5 _ A6)).trans A6
  have Q2 := (B36.block (bi + 1) (by have := HS3.out; omega)).trans HQ2.out
  have c0 : W6.cell? ⟨bi + 1, 0, none⟩ = some (.string ⟨#[]⟩) := (cell_row _ (bi + 1) 0 _ _ Q2).trans rfl
  have c1 : W6.cell? ⟨bi + 1, 1, none⟩ = some (.int .i64 0) := (cell_row _ (bi + 1) 1 _ _ Q2).trans rfl
  have c2 : W6.cell? ⟨bi + 1, 2, none⟩ = some (.bool false) := (cell_row _ (bi + 1) 2 _ _ Q2).trans rfl
  have c3 : W6.cell? ⟨bi + 1, 3, none⟩ = some (.bool false) := (cell_row _ (bi + 1) 3 _ _ Q2).trans rfl
  have c4 : W6.cell? ⟨bi + 1, 4, none⟩ = some (.int .i64 1) := (cell_row _ (bi + 1) 4 _ _ Q2).trans rfl
  have c5 : W6.cell? ⟨bi + 1, 5, none⟩ = some (.slice none 0 0) := (cell_row _ (bi + 1) 5 _ _ Q2).trans rfl
  have c6 : W6.cell? ⟨bi + 1, 6, none⟩ = some (.slice (some ⟨bi, 0, none⟩) 2 2) := (cell_row _ (bi + 1) 6 _ _ Q2).trans rfl
  have c7 : W6.cell? ⟨bi + 1, 7, none⟩ = some (.slice none 0 0) := (cell_row _ (bi + 1) 7 _ _ Q2).trans rfl
  have c8 : W6.cell? ⟨bi + 1, 8, none⟩ = some (.slice none 0 0) := (cell_row _ (bi + 1) 8 _ _ Q2).trans rfl
  have HSH : Hid (∀ W, Below W6.heap.size W6 W → Calls Tryz.prog 9 #[.agg #[.string ⟨#[]⟩, .int .i64 0, .bool false, .bool false, .int .i64 1, .slice none 0 0, .slice (some ⟨bi, 0, none⟩) 2 2, .slice none 0 0, .slice none 0 0]] W fun e w' => e = .returned (.string ⟨#[48, 32, 76, 111, 97, 100, 32, 114, 48, 32, 48, 10, 49, 32, 82, 101, 116, 117, 114, 110, 32, 114, 48, 10]⟩) ∧ Below W.heap.size W w') := Hid.mk' (fun W hW => by
    have B := B36.trans (hW.mono B36.size)
    rw [← exS_two]
    exact show_ex W (HLL.out.below B (by have := HLB.out; have := HS3.out; have := HBI.out; omega)) (HLN.out.below B (by have := HNB.out; have := HS3.out; have := HBI.out; omega)) ((B.block bi (by have := HS3.out; omega)).trans HQ1.out))
  have H6 := Hid.mk' hW6
  have HB6 := Hid.mk' B36
  clear hm h1 he ho hr hc hqf hri hy A6 b6 B36 Q2 hB5 hcl
  go_wp2_with fail
  refine (HSH.out _ (Below.refl _ _)).mono ?_
  rintro e w7 ⟨rfl, b7⟩
  have HB7 := Hid.mk' b7
  clear b7
  go_wp2
  go_ret
  exact ⟨rfl, HB3.out.trans ((HB6.out.trans (HB7.out.mono HB6.out.size)).mono HB3.out.size)⟩
end Go.Proofs.YtkgjmiadgfcbnaaGreatDoor
