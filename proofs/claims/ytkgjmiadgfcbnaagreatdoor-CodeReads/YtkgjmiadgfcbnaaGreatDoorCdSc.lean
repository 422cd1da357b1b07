/- The document's Same, of two modules that were read of the same bytes. -/
import Derived.Test.YtkgjmiadgfcbnaaGreatDoorCdSa
import Derived.Test.YtkgjmiadgfcbnaaGreatDoorCdL
namespace Go.Proofs.YtkgjmiadgfcbnaaGreatDoor
set_option linter.unusedVariables false
set_option linter.unusedSimpArgs false
open Go.RowKit

theorem lst_all {α : Type} {p : List UInt8 → Option (α × List UInt8)} {Q : α → Prop} {m : Nat} (hp : ∀ L x R, L.length ≤ m → p L = some (x, R) → Q x ∧ R.length ≤ m) : ∀ (n : Nat) (L : List UInt8) (xs : List α) (R : List UInt8), L.length ≤ m → lst p n L = some (xs, R) → ∀ x ∈ xs, Q x
  | 0, L, xs, R, hL, h => by simp [lst] at h; rw [h.1]; intro x hx; cases hx
  | n + 1, L, xs, R, hL, h => by
    unfold lst at h
    obtain ⟨y, hy, h⟩ := Option.bind_eq_some_iff.1 h
    obtain ⟨z, hz, h⟩ := Option.map_eq_some_iff.1 h
    have h1 := hp L y.1 y.2 hL hy
    have h2 := lst_all hp n y.2 z.1 z.2 h1.2 hz
    simp at h
    rw [← h.1]
    intro x hx
    rcases List.mem_cons.1 hx with rfl | hx
    · exact h1.1
    · exact h2 x hx
theorem const_num {L R : List UInt8} {c : Cst} (h : constP L = some (c, R)) : c.num < 18446744073709551616 := by
  unfold constP at h
  obtain ⟨y, hy, h⟩ := Option.bind_eq_some_iff.1 h
  split at h
  · obtain ⟨z, hz, h⟩ := Option.map_eq_some_iff.1 h
    unfold bitsP at hz
    split at hz
    · split at hz
      · simp at hz
      · rename_i h8 _
        simp at hz h
        rw [← h.1, ← hz]
        have hw := wordP_lt (y.2.take 8) 0
        rw [List.length_take, Nat.min_eq_left h8] at hw
        simpa using hw
    · simp at hz
  · split at h
    · obtain ⟨z, hz, h⟩ := Option.map_eq_some_iff.1 h
      simp at h
      rw [← h.1]
      show (0 : Nat) < 18446744073709551616
      omega
    · simp at h
/-- A function that was read of few bytes. -/
def Nice (f : Fun) : Prop := Fine f ∧ f.consts.length ≤ 5000 ∧ f.code.length ≤ 5000 ∧ f.tries.length ≤ 5000 ∧ f.caps.length ≤ 5000
theorem lstP_few {α : Type} {p : List UInt8 → Option (α × List UInt8)} (hp : Eats p) {L R : List UInt8} {xs : List α} (h : lstP p L = some (xs, R)) : xs.length ≤ L.length := by
  unfold lstP at h
  obtain ⟨y, hy, h⟩ := Option.bind_eq_some_iff.1 h
  have h1 := numP_len (n := y.1) (R := y.2) hy
  have h2 := lst_len hp _ _ _ _ h
  omega
theorem fun_nice {L R : List UInt8} {f : Fun} (hL : L.length ≤ 5000) (h : funP L = some (f, R)) : Nice f := by
  unfold funP at h
  obtain ⟨a, ha, h⟩ := Option.bind_eq_some_iff.1 h
  obtain ⟨b, hb, h⟩ := Option.bind_eq_some_iff.1 h
  obtain ⟨c, hc, h⟩ := Option.bind_eq_some_iff.1 h
  obtain ⟨d, hd, h⟩ := Option.bind_eq_some_iff.1 h
  obtain ⟨e, he, h⟩ := Option.bind_eq_some_iff.1 h
  obtain ⟨f', hf, h⟩ := Option.bind_eq_some_iff.1 h
  obtain ⟨g, hg, h⟩ := Option.bind_eq_some_iff.1 h
  obtain ⟨i, hi, h⟩ := Option.bind_eq_some_iff.1 h
  obtain ⟨j, hj, h⟩ := Option.map_eq_some_iff.1 h
  have h1 := eats_text _ a.1 a.2 ha
  have h2 := eats_num _ b.1 b.2 hb
  have h3 := eats_flag _ c.1 c.2 hc
  have h4 := eats_flag _ d.1 d.2 hd
  have h5 := eats_num _ e.1 e.2 he
  have h6 := lstP_len eats_const _ f'.1 f'.2 hf
  have h7 := lstP_len eats_ins _ g.1 g.2 hg
  have h8 := lstP_len eats_tri _ i.1 i.2 hi
  have k1 := lstP_few eats_const (xs := f'.1) (R := f'.2) hf
  have k2 := lstP_few eats_ins (xs := g.1) (R := g.2) hg
  have k3 := lstP_few eats_tri (xs := i.1) (R := i.2) hi
  have k4 := lstP_few eats_cap (xs := j.1) (R := j.2) hj
  have k5 : ∀ q ∈ f'.1, q.num < 18446744073709551616 := by
    unfold lstP at hf
    obtain ⟨y, hy, hf⟩ := Option.bind_eq_some_iff.1 hf
    exact lst_all (Q := fun q : Cst => q.num < 18446744073709551616) (m := y.2.length) (fun L x R hL h => ⟨const_num h, by have := eats_const _ _ _ h; omega⟩) _ _ _ _ (Nat.le_refl _) hf
  simp at h
  rw [← h.1]
  refine ⟨k5, ?_, ?_, ?_, ?_⟩ <;> dsimp only <;> omega
theorem mod_nice {L : List UInt8} {fs : List Fun} (hL : L.length ≤ 5000) (h : modP L = some fs) : (∀ f ∈ fs, Nice f) ∧ fs.length ≤ 5000 := by
  unfold modP at h
  split at h
  · obtain ⟨y, hy, h⟩ := Option.bind_eq_some_iff.1 h
    split at h
    · simp at h
      subst h
      have hd : (L.drop 4).length ≤ 5000 := by simp; omega
      refine ⟨?_, by have := lstP_few eats_fun (xs := y.1) (R := y.2) hy; omega⟩
      unfold lstP at hy
      obtain ⟨z, hz, hy⟩ := Option.bind_eq_some_iff.1 hy
      have h1 := numP_len (n := z.1) (R := z.2) hz
      exact lst_all (Q := Nice) (m := 5000) (fun L x R hL h => ⟨fun_nice hL h, by have := eats_fun _ _ _ h; omega⟩) _ _ _ _ (by omega) hy
    · simp at h
  · simp at h
set_option maxHeartbeats 4000000 in
set_option maxRecDepth 100000 in
theorem rSame_self (fs : List Fun) (hf : ∀ f ∈ fs, Nice f) (hl : fs.length ≤ 5000) {B1 B2 : Nat} {x y : Value} (w : World) (h1 : isFuns B1 w fs x) (h2 : isFuns B2 w fs y) :
    Calls Tryz.prog 7 #[.agg #[x], .agg #[y]] w fun e w' => e = .returned (.bool true) ∧ Below w.heap.size w w' := by
  obtain ⟨es1, he1, ho1, hr1⟩ := h1
  obtain ⟨es2, he2, ho2, hr2⟩ := h2
  obtain ⟨a1, c1, rfl, _⟩ := own_slice' ho1
  obtain ⟨a2, c2, rfl, _⟩ := own_slice' ho2
  have hn1 : es1.length = fs.length := by rw [← he1]; simp
  have hn2 : es2.length = fs.length := by rw [← he2]; simp
  obtain ⟨n, hn⟩ : ∃ n, fs.length = n := ⟨_, rfl⟩
  rw [hn] at hn1 hn2 hl
  rw [hn1] at ho1 ⊢
  rw [hn2] at ho2 ⊢
  obtain ⟨W1, hW1⟩ : ∃ W1, w.alloc (.cells #[.slice a1 n c1] 26) = W1 := ⟨_, rfl⟩
  obtain ⟨W2, hW2⟩ : ∃ W2, W1.alloc (.cells #[.slice a2 n c2] 26) = W2 := ⟨_, rfl⟩
  have b1 : Below w.heap.size w W1 := by rw [← hW1]; exact lay_below
  have b2 : Below W1.heap.size W1 W2 := by rw [← hW2]; exact lay_below
  have s1 : W1.heap.size = w.heap.size + 1 := by rw [← hW1]; simp
  have s2 : W2.heap.size = w.heap.size + 2 := by rw [← hW2]; simp; omega
  have q1 : W1.heap[w.heap.size]? = some (.cells #[.slice a1 n c1] 26 (0, 0)) := by rw [← hW1]; exact box_new
  have q2 : W2.heap[W1.heap.size]? = some (.cells #[.slice a2 n c2] 26 (0, 0)) := by rw [← hW2]; exact box_new
  have q1' := (b2.block w.heap.size (by omega)).trans q1
  have B2' := b1.trans (b2.mono b1.size)
  have HO1 := Hid.mk' (own_below ho1 B2')
  have HO2 := Hid.mk' (own_below ho2 B2')
  have HR1 : Hid (∀ q ∈ es1, q.rows W2 B1) := Hid.mk' (fun q hq => Rows.below (hr1 q hq) B2')
  have HR2 : Hid (∀ q ∈ es2, q.rows W2 B2) := Hid.mk' (fun q hq => Rows.below (hr2 q hq) B2')
  have HFF : Hid (∀ (i : Nat) (h1 : i < es1.length) (h2 : i < es2.length), es1[i].f = es2[i].f ∧ Nice es1[i].f) := Hid.mk' (fun i h1 h2 => by
    have e1 : fs[i]'(by omega) = es1[i].f := by simp [← he1]
    have e2 : fs[i]'(by omega) = es2[i].f := by simp [← he2]
    exact ⟨by rw [← e1, ← e2], by rw [← e1]; exact hf _ (List.getElem_mem _)⟩)
  rw [s1] at q2
  obtain ⟨ba, hba⟩ : ∃ ba, w.heap.size = ba := ⟨_, rfl⟩
  obtain ⟨bb, hbb⟩ : ∃ bb, ba + 1 = bb := ⟨_, rfl⟩
  rw [hba, hbb] at q2
  rw [hba] at q1' s1 s2
  have HQ1 := Hid.mk' q1'
  have HQ2 := Hid.mk' q2
  have A0 : W2.cell? ⟨ba, 0, none⟩ = some (.slice a1 n c1) := (cell_row _ ba 0 _ _ q1').trans rfl
  have D0 : W2.cell? ⟨bb, 0, none⟩ = some (.slice a2 n c2) := (cell_row _ bb 0 _ _ q2).trans rfl
  have HZA : Hid (ba < W2.heap.size ∧ bb < W2.heap.size) := Hid.mk' ⟨by omega, by omega⟩
  have HB := Hid.mk' B2'
  have hli : (n : Int) ≤ 5000 := by omega
  have HE1 := Hid.mk' hn1
  have HE2 := Hid.mk' hn2
  clear ho1 ho2 hr1 hr2 q1 q1' q2 b1 b2 B2' s2 he1 he2 hf
  go_enter Tryz.func7, Tryz.ntmps7
  go_wp2
  go_loopw [16] (fun iv wr => ∃ i : Nat, iv = .int .i64 (i : Int) ∧ i ≤ n ∧ Hid (Below W2.heap.size W2 wr)) (fun iv wr => n - (intOf iv).toNat)
  case atStart => exact ⟨0, rfl, Nat.zero_le _, Hid.mk' (Below.refl _ _)⟩
  case round =>
    obtain ⟨i, rfl, hi, HBW⟩ := hrel
    have p0 := (HBW.out.block ba HZA.out.1).trans HQ1.out
    have p1 := (HBW.out.block bb HZA.out.2).trans HQ2.out
    have ya : wr.cell? ⟨ba, 0, none⟩ = some (.slice a1 n c1) := (cell_row _ ba 0 _ _ p0).trans rfl
    have yb : wr.cell? ⟨bb, 0, none⟩ = some (.slice a2 n c2) := (cell_row _ bb 0 _ _ p1).trans rfl
    by_cases hlt : i < n
    · obtain ⟨ga, rfl, hca⟩ := own_at fv_len (own_below HO1.out HBW.out) hn1 i (by omega)
      obtain ⟨gb, rfl, hcb⟩ := own_at fv_len (own_below HO2.out HBW.out) hn2 i (by omega)
      have i1 : (i : Int) < (n : Int) := by omega
      have i2 : (i : Int) < 5000 := by omega
      obtain ⟨hff, hnc⟩ := HFF.out i (by omega) (by omega)
      have hra : (es1[i]'(by omega)).rows wr B1 := Rows.below (HR1.out _ (List.getElem_mem _)) HBW.out
      have hrb : (es2[i]'(by omega)).rows wr B2 := Rows.below (HR2.out _ (List.getElem_mem _)) HBW.out
      obtain ⟨qa, hqa⟩ : ∃ qa, es1[i]'(by omega) = qa := ⟨_, rfl⟩
      obtain ⟨qb, hqb⟩ : ∃ qb, es2[i]'(by omega) = qb := ⟨_, rfl⟩
      rw [hqa] at hca hff hnc hra
      rw [hqb] at hcb hff hrb
      obtain ⟨f, x1, x2, x3, x4⟩ := qa
      obtain ⟨f', y1, y2, y3, y4⟩ := qb
      dsimp only at hff hnc
      subst hff
      have HSF : Hid (∀ W, Below wr.heap.size wr W → Calls Tryz.prog 15 #[.agg (fcs f x1 x2 x3 x4).toArray, .agg (fcs f y1 y2 y3 y4).toArray] W fun e w' => e = .returned (.bool true) ∧ Below W.heap.size W w') := Hid.mk' (fun W hW => sameFn_self f hnc.1 W (Rows.below hra hW) (Rows.below hrb hW) ⟨by have := hnc.2; omega, by have := hnc.2; omega, by have := hnc.2; omega, by have := hnc.2; omega⟩)
      obtain ⟨k1, k2, k3, k4, k5, k6, k7, k8, k9⟩ := f
      simp only [fcs] at HSF
      simp only [FV.cs, fcs] at hca hcb
      obtain ⟨u1, d1, hx, _⟩ := own_slice' hra.c
      dsimp only at hx
      subst hx
      obtain ⟨u2, d2, hx, _⟩ := own_slice' hra.i
      dsimp only at hx
      subst hx
      obtain ⟨u3, d3, hx, _⟩ := own_slice' hra.t
      dsimp only at hx
      subst hx
      obtain ⟨u4, d4, hx, _⟩ := own_slice' hra.p
      dsimp only at hx
      subst hx
      obtain ⟨v1, e1, hx, _⟩ := own_slice' hrb.c
      dsimp only at hx
      subst hx
      obtain ⟨v2, e2, hx, _⟩ := own_slice' hrb.i
      dsimp only at hx
      subst hx
      obtain ⟨v3, e3, hx, _⟩ := own_slice' hrb.t
      dsimp only at hx
      subst hx
      obtain ⟨v4, e4, hx, _⟩ := own_slice' hrb.p
      dsimp only at hx
      subst hx
      try dsimp only at hca hcb HSF
      obtain ⟨m6, hm6⟩ : ∃ m, k6.length = m := ⟨_, rfl⟩
      obtain ⟨m7, hm7⟩ : ∃ m, k7.length = m := ⟨_, rfl⟩
      obtain ⟨m8, hm8⟩ : ∃ m, k8.length = m := ⟨_, rfl⟩
      obtain ⟨m9, hm9⟩ : ∃ m, k9.length = m := ⟨_, rfl⟩
      simp only [hm6, hm7, hm8, hm9] at hca hcb HSF
      have f0 : wr.cell? ⟨ga, i * 9, none⟩ = some (.string k1) := by have := hca 0 (.string k1) (by omega) rfl; simpa using this
      have g0 : wr.cell? ⟨gb, i * 9, none⟩ = some (.string k1) := by have := hcb 0 (.string k1) (by omega) rfl; simpa using this
      have f1 : wr.cell? ⟨ga, i * 9 + 1, none⟩ = some (.int .i64 k2) := by have := hca 1 (.int .i64 k2) (by omega) rfl; simpa using this
      have g1 : wr.cell? ⟨gb, i * 9 + 1, none⟩ = some (.int .i64 k2) := by have := hcb 1 (.int .i64 k2) (by omega) rfl; simpa using this
      have f2 : wr.cell? ⟨ga, i * 9 + 2, none⟩ = some (.bool k3) := by have := hca 2 (.bool k3) (by omega) rfl; simpa using this
      have g2 : wr.cell? ⟨gb, i * 9 + 2, none⟩ = some (.bool k3) := by have := hcb 2 (.bool k3) (by omega) rfl; simpa using this
      have f3 : wr.cell? ⟨ga, i * 9 + 3, none⟩ = some (.bool k4) := by have := hca 3 (.bool k4) (by omega) rfl; simpa using this
      have g3 : wr.cell? ⟨gb, i * 9 + 3, none⟩ = some (.bool k4) := by have := hcb 3 (.bool k4) (by omega) rfl; simpa using this
      have f4 : wr.cell? ⟨ga, i * 9 + 4, none⟩ = some (.int .i64 k5) := by have := hca 4 (.int .i64 k5) (by omega) rfl; simpa using this
      have g4 : wr.cell? ⟨gb, i * 9 + 4, none⟩ = some (.int .i64 k5) := by have := hcb 4 (.int .i64 k5) (by omega) rfl; simpa using this
      have f5 : wr.cell? ⟨ga, i * 9 + 5, none⟩ = some (.slice u1 m6 d1) := by have := hca 5 (.slice u1 m6 d1) (by omega) rfl; simpa using this
      have g5 : wr.cell? ⟨gb, i * 9 + 5, none⟩ = some (.slice v1 m6 e1) := by have := hcb 5 (.slice v1 m6 e1) (by omega) rfl; simpa using this
      have f6 : wr.cell? ⟨ga, i * 9 + 6, none⟩ = some (.slice u2 m7 d2) := by have := hca 6 (.slice u2 m7 d2) (by omega) rfl; simpa using this
      have g6 : wr.cell? ⟨gb, i * 9 + 6, none⟩ = some (.slice v2 m7 e2) := by have := hcb 6 (.slice v2 m7 e2) (by omega) rfl; simpa using this
      have f7 : wr.cell? ⟨ga, i * 9 + 7, none⟩ = some (.slice u3 m8 d3) := by have := hca 7 (.slice u3 m8 d3) (by omega) rfl; simpa using this
      have g7 : wr.cell? ⟨gb, i * 9 + 7, none⟩ = some (.slice v3 m8 e3) := by have := hcb 7 (.slice v3 m8 e3) (by omega) rfl; simpa using this
      have f8 : wr.cell? ⟨ga, i * 9 + 8, none⟩ = some (.slice u4 m9 d4) := by have := hca 8 (.slice u4 m9 d4) (by omega) rfl; simpa using this
      have g8 : wr.cell? ⟨gb, i * 9 + 8, none⟩ = some (.slice v4 m9 e4) := by have := hcb 8 (.slice v4 m9 e4) (by omega) rfl; simpa using this
      clear hca hcb p0 p1 hra hrb hqa hqb hnc hm6 hm7 hm8 hm9
      go_wp2_with fail
      go_region_with (go_at_call 15; refine (HSF.out _ ((Below.refl _ _).drew)).mono ?_; rintro e w1 ⟨rfl, bw⟩)
      all_goals
        have HBn := Hid.mk' (HBW.out.trans ((drewB bw).mono HBW.out.size))
        clear bw
        go_wp2
        go_roundw
        case rel => exact ⟨i + 1, by go_num, hlt, HBn⟩
        case measure => exact meas_up n i hlt
    · have i1 : ¬ (i : Int) < (n : Int) := by omega
      clear p0 p1
      go_wp2
      go_ret
      exact ⟨rfl, by rw [← hba]; exact HB.out.trans (HBW.out.mono HB.out.size)⟩
end Go.Proofs.YtkgjmiadgfcbnaaGreatDoor
