/- The law: the program reads bytes as the document's reader does. -/
import Derived.Test.YtkgjmiadgfcbnaaGreatDoorCdAw
import Derived.Test.YtkgjmiadgfcbnaaGreatDoorCdSc
import Derived.Test.YtkgjmiadgfcbnaaGreatDoorCdZ
import Derived.Laws.OwnMore
namespace Go.Proofs.YtkgjmiadgfcbnaaGreatDoor
set_option linter.unusedVariables false
set_option linter.unusedSimpArgs false
open Go.RowKit

def fsL (L : List UInt8) : List Fun := (modP L).getD []
def zL (L : List UInt8) : Int := if (modP L).isSome then 0 else 110
theorem Dec.one {L : List UInt8} {w w' : World} {e : Ending} (h : Dec L w e w') : ∃ ax k cx, e = .returned (.tuple #[.agg #[.slice ax k cx], .int .i64 (zL L)]) ∧ isFuns w.heap.size w' (fsL L) (.slice ax k cx) ∧ Below w.heap.size w w' := by
  rcases h with ⟨fs, x, hm, rfl, hF, hB⟩ | ⟨hm, rfl, hB⟩
  · obtain ⟨els, he, ho, hr⟩ := hF
    obtain ⟨a, c, hx, _⟩ := own_slice' ho
    subst hx
    exact ⟨a, els.length, c, by simp [zL, hm], ⟨els, by simp [fsL, hm, he], ho, hr⟩, hB⟩
  · exact ⟨none, 0, 0, by simp [zL, hm], ⟨[], by simp [fsL, hm], World.ownsRow_nil _ _ _ _, fun q hq => by cases hq⟩, hB⟩
theorem fsL_nice {L : List UInt8} (hL : L.length ≤ 5000) : (∀ f ∈ fsL L, Nice f) ∧ (fsL L).length ≤ 5000 := by
  rcases h : modP L with _ | fs
  · simp [fsL, h]
  · simpa [fsL, h] using mod_nice hL h
/-- Bytes that came in. -/
structure Bw (w : World) (a : Option Addr) (c : Nat) (L : List UInt8) : Prop where
  bv : Bv w a c L
  at_ : (a = none ∧ L = [] ∧ c = 0) ∨ ∃ ad, a = some ad ∧ ∀ (j : Nat) (u : Value), (Lib.byteCells L)[j]? = some u → w.cell? (ad.add j) = some u
theorem Bw.below {w w' : World} {a : Option Addr} {c : Nat} {L : List UInt8} (h : Bw w a c L) (hb : Below w.heap.size w w') : Bw w' a c L := by
  refine ⟨h.bv.below hb, ?_⟩
  rcases h.at_ with h | ⟨ad, h1, h2⟩
  · exact .inl h
  · exact .inr ⟨ad, h1, fun j u hu => (hb.cell (World.block_lt_of_cell? w _ (h2 j u hu))).trans (h2 j u hu)⟩
theorem wpList_append_bw {P : Program} (w : World) {ops : Array Oper} {rest : List Oper} {o : Oper} {a : Act} {Q : Exit → Act → World → Prop} (hgd : o.guard = none) (s x : Operand) (t : TypeId)
    (ho : o.op = .call { callee := .builtin .append, args := #[s, x], argTypes := #[t, t] })
    (e : TypeId) (i : TypeInfo) (z : Value) (ht : P.underlying t = some (.slice e)) (hi : P.info? e = some i) (hz : i.zero = some z)
    (hsize : i.size = 1) (hby : i.bytes = 1) (hzs : z.cells.size = 1)
    (hs : a.eval s = .slice none 0 0) (ya : Option Addr) (m c : Nat) (L : List UInt8) (hx : a.eval x = .slice ya m c) (hm : L.length = m) (hb : Bw w ya c L) (hM : m ≤ 5000)
    (h : ∀ v' w', w'.ownsRow w.heap.size e 1 v' m (Lib.byteCells L) → w.grownBy w' none → wpList P ops Q rest (a.put o.dst v') w') : wpList P ops Q (o :: rest) a w := by
  have hown : w.ownsRow w.heap.size e 1 (.slice none 0 0) 0 [] := World.ownsRow_nil _ _ _ _
  rcases hb.at_ with ⟨rfl, rfl, rfl⟩ | ⟨ad, rfl, hc⟩
  · simp at hm
    subst hm
    refine wpList_plain hgd fun K hK' => ?_
    have hrun := run_append_owned_none (P := P) w w.heap.size t o.type e i 1 ht hi _ _ _ hown
    unfold Oper.wp
    simp [execOp, ho, resolve, invoke, builtin, hs, hx, hrun, Result.andThen]
    exact hK' _ _ (by simpa [Lib.byteCells] using h (.slice none 0 0) w (by simpa [Lib.byteCells] using hown) (World.grownBy.refl _ _))
  · refine wpList_append_own_at w hgd s x t ho w.heap.size e i z 1 1 ht hi hz hsize hby hzs (by decide) _ _ _ hs hown ad m c (Lib.byteCells L) hx (by rw [Lib.byteCells_length]; omega) hc (oneCell_bytes L) (by unfold maxLen; omega) (by omega) (Nat.le_refl _) (fun v' w' a b _ _ => h v' w' (by simpa using a) b)
set_option maxHeartbeats 4000000 in
set_option maxRecDepth 100000 in
theorem reads_all (a : Option Addr) (c : Nat) (L : List UInt8) (w : World) (hb : Bw w a c L) (hz : (L.length : Int) ≤ 140737488351232) (hLd : LaidL w ∧ LaidNm w) :
    Calls Tryz.prog 3 #[.slice a L.length c] w fun e w' => e = .returned (.bool true) ∧ Below w.heap.size w w' := by
  obtain ⟨i0, hi, hz0, hz1, hz2⟩ := info_parts info8
  have hlb : 1 < w.heap.size := World.block_lt_of_cell? w _ (hLd.1 0 (by omega))
  have HA := Hid.mk' (awake_any w hLd.1 hLd.2)
  have HBW := Hid.mk' hb
  have HLD := Hid.mk' hLd.1
  have HLB := Hid.mk' hlb
  obtain ⟨n, hn⟩ : ∃ n, L.length = n := ⟨_, rfl⟩
  rw [hn] at hz ⊢
  have HN := Hid.mk' hn
  clear hb hLd hlb hn
  by_cases h5 : (n : Int) > 5000
  · go_enter Tryz.func3, Tryz.ntmps3
    go_wp2_with fail
    refine HA.out.mono ?_
    rintro e w1 ⟨rfl, b1⟩
    have HB1 := Hid.mk' b1
    clear b1
    go_wp2
    go_ret
    exact ⟨rfl, HB1.out⟩
  · have hL : n ≤ 5000 := by omega
    have HNI := Hid.mk' (fsL_nice (L := L) (by rw [HN.out]; exact hL))
    go_enter Tryz.func3, Tryz.ntmps3
    go_wp2_with fail
    refine HA.out.mono ?_
    rintro e w1 ⟨rfl, b1⟩
    have HB1 := Hid.mk' b1
    have HBW1 := Hid.mk' (HBW.out.below b1)
    clear b1
    go_wp2_with (at_builtin; refine wpList_append_bw _ rfl _ _ 22 rfl 5 i0 (.int .u8 0) Tryz.underlying22 hi hz0 hz1 hz2 rfl rfl a n c L rfl HN.out HBW1.out hL ?_)
    intro v w2 ho hg
    obtain ⟨a2, c2, hv, _⟩ := own_slice' ho
    subst hv
    have b2 : Below w1.heap.size w1 w2 := (Below.refl _ _).grown hg (Nat.le_refl _) (fun k hk => by cases hk)
    have hBv := Bv.own ho
    have B2 := HB1.out.trans (b2.mono HB1.out.size)
    have HD : Hid (Calls Tryz.prog 5 #[.slice a2 n c2] w2 fun e w' => Dec L w2 e w') := Hid.mk' (by
      have := decode_any w2 hBv.1 (by rw [hBv.2]; exact hL) (HLD.out.below B2 HLB.out)
      rw [hBv.2] at this
      exact this)
    have HBW2 := Hid.mk' (HBW1.out.below b2)
    have HB2 := Hid.mk' B2
    clear ho hg hBv b2 B2
    go_wp2_with fail
    refine HD.out.mono ?_
    intro e w3 hDec
    obtain ⟨ax, k, cx, rfl, hF, b3⟩ := hDec.one
    obtain ⟨z, hzL⟩ : ∃ z, zL L = z := ⟨_, rfl⟩
    rw [hzL]
    obtain ⟨W4, hW4⟩ : ∃ W4, w3.alloc (.cells #[.slice ax k cx] 26) = W4 := ⟨_, rfl⟩
    have b4 : Below w3.heap.size w3 W4 := by rw [← hW4]; exact lay_below
    have q4 : W4.heap[w3.heap.size]? = some (.cells #[.slice ax k cx] 26 (0, 0)) := by rw [← hW4]; exact box_new
    have B24 := b3.trans (b4.mono b3.size)
    have HR : Hid (Calls Tryz.prog 6 #[.slice a n c] W4 fun e w' => Dec L W4 e w') := Hid.mk' (by
      have := rdecode_any W4 ((HBW2.out.below B24).bv) (by rw [HN.out]; exact hL)
      rw [HN.out] at this
      exact this)
    have HF4 := Hid.mk' (hF.below b4)
    have HQ4 := Hid.mk' q4
    have HB4 := Hid.mk' (HB2.out.trans (B24.mono HB2.out.size))
    have HH4 := Hid.mk' hW4
    have HZL := Hid.mk' hzL
    have HLT : Hid (w3.heap.size < W4.heap.size) := Hid.mk' (by rw [← hW4]; simp)
    obtain ⟨g3, hg3⟩ : ∃ g3, w3.heap.size = g3 := ⟨_, rfl⟩
    rw [hg3] at HQ4 HLT
    clear hDec hF b3 b4 q4 B24 hW4 hzL
    go_wp2_with fail
    rw [HH4.out]
    refine HR.out.mono ?_
    intro e w5 hDec
    obtain ⟨ay, k', cy, rfl, hG, b5⟩ := hDec.one
    rw [HZL.out]
    obtain ⟨W6, hW6⟩ : ∃ W6, w5.alloc (.cells #[.slice ay k' cy] 26) = W6 := ⟨_, rfl⟩
    have b6 : Below w5.heap.size w5 W6 := by rw [← hW6]; exact lay_below
    have A6 : W6.cell? ⟨w5.heap.size, 0, none⟩ = some (.slice ay k' cy) := by rw [← hW6]; exact (cell_row _ _ 0 _ _ box_new).trans rfl
    have B46 := b5.trans (b6.mono b5.size)
    have A3 : W6.cell? ⟨g3, 0, none⟩ = some (.slice ax k cx) := (cell_row _ g3 0 _ _ ((B46.block g3 HLT.out).trans HQ4.out)).trans rfl
    have HSM := Hid.mk' (rSame_self (fsL L) HNI.out.1 HNI.out.2 W6 (HF4.out.below B46) (hG.below b6))
    have HB6 := Hid.mk' (HB4.out.trans (B46.mono HB4.out.size))
    obtain ⟨g5, hg5⟩ : ∃ g5, w5.heap.size = g5 := ⟨_, rfl⟩
    rw [hg5] at A6
    clear hDec hG b5 b6 B46
    go_wp2_with fail
    refine HSM.out.mono ?_
    rintro e w7 ⟨rfl, b7⟩
    have HB7 := Hid.mk' b7
    clear b7
    go_wp2
    go_ret
    exact ⟨rfl, HB6.out.trans (HB7.out.mono HB6.out.size)⟩
end Go.Proofs.YtkgjmiadgfcbnaaGreatDoor
