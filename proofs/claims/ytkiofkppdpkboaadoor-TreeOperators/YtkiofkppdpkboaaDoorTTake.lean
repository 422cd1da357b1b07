/- The checker in memory; (*checker).take. -/
import Derived.Test.YtkiofkppdpkboaaDoorTDeep
namespace Go.Proofs.YtkiofkppdpkboaaDoor
set_option linter.unusedVariables false
open Go.RowKit

/-- The checker's cells. -/
def ckC (nv : Value) (rb tb N : Nat) (cnt : Int) : List Value := nv :: (rowsC rb ++ [.slice (some ⟨tb, 0, none⟩) N N, .int .i64 cnt])
theorem ckC_0 (nv : Value) (rb tb N : Nat) (cnt : Int) : (ckC nv rb tb N cnt)[0]? = some nv := rfl
theorem ckC_t (nv : Value) (rb tb N : Nat) (cnt : Int) : (ckC nv rb tb N cnt)[229]? = some (.slice (some ⟨tb, 0, none⟩) N N) := by
  unfold ckC
  rw [List.getElem?_cons_succ, List.getElem?_append_right (by rw [rowsC_len]; omega), rowsC_len]
  rfl
theorem ckC_n (nv : Value) (rb tb N : Nat) (cnt : Int) : (ckC nv rb tb N cnt)[230]? = some (.int .i64 cnt) := by
  unfold ckC
  rw [List.getElem?_cons_succ, List.getElem?_append_right (by rw [rowsC_len]; omega), rowsC_len]
  rfl
theorem ckC_row (nv : Value) (rb tb N : Nat) (cnt : Int) (j : Nat) (hj : j < 228) : (ckC nv rb tb N cnt)[j + 1]? = (rowsC rb)[j]? := by
  unfold ckC
  rw [List.getElem?_cons_succ, List.getElem?_append_left (by rw [rowsC_len]; omega)]
theorem ckC_set (nv : Value) (rb tb N : Nat) (cnt c' : Int) : (ckC nv rb tb N cnt).set 230 (.int .i64 c') = ckC nv rb tb N c' := by
  unfold ckC
  rw [List.set_cons_succ, List.set_append_right _ _ (by rw [rowsC_len]; omega), rowsC_len]
  rfl

/-- The checker c at block q, over nodes nv, with those taken at block tb. -/
structure Ck (w : World) (q tb rb : Nat) (nv : Value) (T : List Bool) (cnt : Int) (wr : World) : Prop where
  b : Below w.heap.size w wr
  hq : wr.heap[q]? = some (.cells (ckC nv rb tb T.length cnt).toArray 62 (0, 0))
  ht : wr.heap[tb]? = some (.cells (T.map Value.bool).toArray 4 (0, 0))
  m : ∀ (i j : Nat) (c : Array Value) (t : TypeId) (v : Value), mustObjs[i]? = some (.cells c t) → c[j]? = some v → wr.cell? ⟨rb + 1 + i, j, none⟩ = some v ∧ rb + 1 + i ≠ q ∧ rb + 1 + i ≠ tb
  qB : w.heap.size ≤ q
  tB : w.heap.size ≤ tb
  ne : q ≠ tb
theorem Ck.ql {w wr : World} {q tb rb : Nat} {nv : Value} {T : List Bool} {cnt : Int} (h : Ck w q tb rb nv T cnt wr) : q < wr.heap.size := (Array.getElem?_eq_some_iff.1 h.hq).1
theorem Ck.tl {w wr : World} {q tb rb : Nat} {nv : Value} {T : List Bool} {cnt : Int} (h : Ck w q tb rb nv T cnt wr) : tb < wr.heap.size := (Array.getElem?_eq_some_iff.1 h.ht).1
theorem Ck.grow {w wr w1 : World} {q tb rb : Nat} {nv : Value} {T : List Bool} {cnt : Int} (h : Ck w q tb rb nv T cnt wr) (hb : Below wr.heap.size wr w1) : Ck w q tb rb nv T cnt w1 :=
  ⟨h.b.trans (hb.mono h.b.size), (hb.block _ h.ql).trans h.hq, (hb.block _ h.tl).trans h.ht,
   fun i j c t v hi hj => ⟨(hb.cell (p := ⟨rb + 1 + i, j, none⟩) (World.block_lt_of_cell? wr _ (h.m i j c t v hi hj).1)).trans (h.m i j c t v hi hj).1, (h.m i j c t v hi hj).2⟩, h.qB, h.tB, h.ne⟩
theorem Ck.cell {w wr : World} {q tb rb : Nat} {nv : Value} {T : List Bool} {cnt : Int} (h : Ck w q tb rb nv T cnt wr) (j : Nat) (v : Value) (hj : (ckC nv rb tb T.length cnt)[j]? = some v) : wr.cell? ⟨q, j, none⟩ = some v := by
  rw [cell_of_row _ _ _ _ _ _ h.hq]; simpa using hj
theorem Ck.fq {w wr : World} {q tb rb : Nat} {nv : Value} {T : List Bool} {cnt : Int} (h : Ck w q tb rb nv T cnt wr) (j : Nat) : wr.frozen? ⟨q, j, none⟩ = false := by simp [World.frozen?, h.hq]
theorem Ck.tk {w wr : World} {q tb rb : Nat} {nv : Value} {T : List Bool} {cnt : Int} (h : Ck w q tb rb nv T cnt wr) (n : Nat) (hn : n < T.length) : wr.cell? ⟨tb, n, none⟩ = some (.bool T[n]) := by
  rw [cell_of_row _ _ _ _ _ _ h.ht]; simp [hn]
theorem Ck.ft {w wr : World} {q tb rb : Nat} {nv : Value} {T : List Bool} {cnt : Int} (h : Ck w q tb rb nv T cnt wr) (j : Nat) : wr.frozen? ⟨tb, j, none⟩ = false := by simp [World.frozen?, h.ht]
theorem Ck.take {w wr : World} {q tb rb : Nat} {nv : Value} {T : List Bool} {cnt : Int} (h : Ck w q tb rb nv T cnt wr) (n : Nat) : Ck w q tb rb nv (T.set n true) cnt (wr.setCell ⟨tb, n, none⟩ (.bool true)) := by
  refine ⟨h.b.setCell (p := ⟨tb, n, none⟩) h.tB _, ?_, ?_, fun i j c t v hi hj => ?_, h.qB, h.tB, h.ne⟩
  · have hne : ¬ tb = q := fun e => h.ne e.symm
    simp only [World.setCell, Array.getElem?_modify, List.length_set]
    rw [if_neg hne]
    exact h.hq
  · simp [World.setCell, Array.getElem?_modify, h.ht, List.map_set]
  · have h1 := h.m i j c t v hi hj
    refine ⟨?_, h1.2⟩
    rw [World.cell?_setCell_other _ _ _ _ (by intro e; cases e; exact h1.2.2 rfl)]
    exact h1.1
theorem Ck.count {w wr : World} {q tb rb : Nat} {nv : Value} {T : List Bool} {cnt : Int} (h : Ck w q tb rb nv T cnt wr) (c' : Int) : Ck w q tb rb nv T c' (wr.setCell ⟨q, 230, none⟩ (.int .i64 c')) := by
  refine ⟨h.b.setCell (p := ⟨q, 230, none⟩) h.qB _, ?_, ?_, fun i j c t v hi hj => ?_, h.qB, h.tB, h.ne⟩
  · simp only [World.setCell, Array.getElem?_modify]
    rw [if_pos trivial, h.hq]
    have e := ckC_set nv rb tb T.length cnt c'
    simp only [Option.map_some, Option.some.injEq, Obj.cells.injEq, and_true, Option.isSome_none, Bool.false_eq_true, if_false]
    rw [← e]
    simp
  · have hne : ¬ q = tb := h.ne
    simp only [World.setCell, Array.getElem?_modify]
    rw [if_neg hne]
    exact h.ht
  · have h1 := h.m i j c t v hi hj
    refine ⟨?_, h1.2⟩
    rw [World.cell?_setCell_other _ _ _ _ (by intro e; cases e; exact h1.2.1 rfl)]
    exact h1.1

/-- Taking kids: whether all may be, those taken then, their number. -/
def takeN (i : Int) : List Int → List Bool → Int → Bool × List Bool × Int
  | [], T, c => (true, T, c)
  | k :: r, T, c => if 0 ≤ k ∧ k < i then (if T.getD k.toNat false then (false, T, c) else takeN i r (T.set k.toNat true) (c + 1)) else (false, T, c)

set_option maxHeartbeats 4000000 in
set_option maxRecDepth 100000 in
theorem take_any (L : List Nd) (hn : (L.length : Int) * 64 ≤ 140737488351232) (hks : ∀ n ∈ L, (n.kids.length : Int) * 8 ≤ 140737488351232) (x : Option Addr) (cx : Nat) (q tb rb : Nat) (T : List Bool) (cnt : Int) (w0 w : World) (i : Nat) (hi : i < L.length)
    (hv : RdN w0 (.slice x L.length cx) L) (hC : Ck w0 q tb rb (.slice x L.length cx) T cnt w) (hT : T.length = L.length) (hc : 0 ≤ cnt ∧ cnt ≤ 4611686018427387904) :
    Calls Tryd.prog 25 #[.pointer (some ⟨q, 0, none⟩), .int .i64 i] w fun e w' => e = .returned (.bool (takeN i L[i].kids T cnt).1) ∧ Ck w0 q tb rb (.slice x L.length cx) (takeN i L[i].kids T cnt).2.1 (takeN i L[i].kids T cnt).2.2 w' := by
  obtain ⟨n, hnn⟩ : ∃ n, L[i] = n := ⟨_, rfl⟩
  have hnk : (n.kids.length : Int) * 8 ≤ 140737488351232 := by rw [← hnn]; exact hks _ (List.getElem_mem hi)
  rcases hv with ⟨a', c', e', h'⟩ | ⟨g, o, c', e', hlc, hg, hcc⟩
  · rw [h'] at hi; simp at hi
  simp only [Value.slice.injEq] at e'
  obtain ⟨rfl, _, rfl⟩ := e'
  obtain ⟨hr, hkd⟩ := hcc i hi
  rw [hnn] at hr hkd ⊢
  have HKD := Hid.mk' hkd
  have m4 := (hC.b.cell (p := ⟨g, o + i * 6 + 4, none⟩) hg).trans (hr 4 _ rfl)
  obtain ⟨nk, nt, ns, nn, kp, ks, kcap, pl⟩ := n
  dsimp only at m4 hnk ⊢
  obtain ⟨kl, hkl⟩ : ∃ kl, ks.length = kl := ⟨_, rfl⟩
  rw [hkl] at m4 hnk
  have c0 := hC.cell 0 _ (ckC_0 _ _ _ _ _)
  have zi : (i : Int) < (L.length : Int) := by omega
  have HC := Hid.mk' hC
  obtain ⟨N, hN⟩ : ∃ N, L.length = N := ⟨_, rfl⟩
  rw [hN] at c0 zi HC hT hi hn ⊢
  clear hkd hr hcc hnn hlc hC hks
  go_enter Tryd.func25, Tryd.ntmps25
  go_wp2_with fail
  go_loopw [16] (fun vj wr => ∃ (j : Nat) (T' : List Bool) (c' : Int), vj = .int .i64 j ∧ j ≤ kl ∧ T'.length = N ∧ (0 ≤ c' ∧ c' ≤ 4611686018427387904 + (j : Int)) ∧ Hid (Ck w0 q tb rb (.slice (some ⟨g, o, none⟩) N cx) T' c' wr) ∧ Hid (takeN i (ks.drop j) T' c' = takeN i ks T cnt)) (fun vj _ => kl - (intOf vj).toNat)
  case atStart => exact ⟨0, T, cnt, rfl, Nat.zero_le _, hT, by omega, HC, Hid.mk' rfl⟩
  case round =>
    clear HC c0 m4
    obtain ⟨j, T', c', rfl, hj, hT', hc', HC', HE⟩ := hrel
    have e229 := HC'.out.cell 229 _ (ckC_t _ _ _ _ _)
    have e230 := HC'.out.cell 230 _ (ckC_n _ _ _ _ _)
    rw [hT'] at e229
    have ql := HC'.out.ql
    have tl := HC'.out.tl
    by_cases hlt : j < kl
    · have zj : (j : Int) < (kl : Int) := by omega
      obtain ⟨kg, ko, hkp, hkg, hkc⟩ := HKD.out j (by dsimp only; omega)
      dsimp only at hkp hkc
      subst hkp
      obtain ⟨kk, hkk⟩ : ∃ kk, ks[j]'(by omega) = kk := ⟨_, rfl⟩
      rw [hkk] at hkc
      have ck := (HC'.out.b.cell (p := ⟨kg, ko + j, none⟩) hkg).trans hkc
      have hdr : ks.drop j = kk :: ks.drop (j + 1) := by rw [List.drop_eq_getElem_cons (by omega), hkk]
      have HE2 : Hid (takeN i (kk :: ks.drop (j + 1)) T' c' = takeN i ks T cnt) := Hid.mk' (by rw [← hdr]; exact HE.out)
      have HA := Hid.mk' (fun W => ahead_any kk i W)
      clear hkc hkk hdr HE
      by_cases hah : 0 ≤ kk ∧ kk < (i : Int)
      · rw [show decide (0 ≤ kk ∧ kk < (i : Int)) = true from by simp [hah]] at HA
        obtain ⟨ku, hku⟩ : ∃ ku : Nat, kk = (ku : Int) := ⟨kk.toNat, by omega⟩
        subst hku
        have hkT : ku < T'.length := by omega
        have ct := HC'.out.tk ku hkT
        have ft := HC'.out.ft ku
        obtain ⟨tv, htv⟩ : ∃ tv, T'[ku] = tv := ⟨_, rfl⟩
        rw [htv] at ct
        have HTV : Hid (T'.getD ku false = tv) := Hid.mk' (by rw [List.getD_eq_getElem?_getD, List.getElem?_eq_getElem hkT, htv]; rfl)
        have HAH := Hid.mk' hah
        have zk : (ku : Int) < (N : Int) := by omega
        clear htv hah
        cases tv
        · have C1 := HC'.out.take ku
          have f230 := C1.cell 230 _ (ckC_n _ _ _ _ _)
          have fq := C1.fq 230
          have x1 : wrap64 (c' + 1) = c' + 1 := by unfold wrap64; omega
          have HC1 := Hid.mk' (C1.count (c' + 1))
          clear C1
          go_wp2_with (first | (go_at_call 20; refine (HA.out _).mono ?_; rintro e w5 ⟨rfl, hw5⟩; rw [hw5]; clear hw5 w5))
          go_roundw
          case rel =>
            refine ⟨j + 1, T'.set ku true, c' + 1, by go_num, by omega, by simpa using hT', by omega, HC1, Hid.mk' ?_⟩
            have := HE2.out
            rw [takeN, if_pos HAH.out, Int.toNat_natCast, HTV.out] at this
            simpa using this
          case measure => simp [intOf]; omega
        · go_wp2_with (first | (go_at_call 20; refine (HA.out _).mono ?_; rintro e w5 ⟨rfl, hw5⟩; rw [hw5]; clear hw5 w5))
          go_ret
          have := HE2.out
          rw [takeN, if_pos HAH.out, Int.toNat_natCast, HTV.out, if_pos rfl] at this
          rw [← this]
          exact ⟨rfl, HC'.out⟩
      · rw [show decide (0 ≤ kk ∧ kk < (i : Int)) = false from by simp [hah]] at HA
        have HAH := Hid.mk' hah
        clear hah
        go_wp2_with (first | (go_at_call 20; refine (HA.out _).mono ?_; rintro e w5 ⟨rfl, hw5⟩; rw [hw5]; clear hw5 w5))
        go_ret
        have := HE2.out
        rw [takeN, if_neg HAH.out] at this
        rw [← this]
        exact ⟨rfl, HC'.out⟩
    · obtain rfl : j = kl := by omega
      have zj : ¬ (j : Int) < (j : Int) := by omega
      have hnil : ks.drop j = [] := List.drop_of_length_le (by omega)
      have HE2 : Hid ((true, T', c') = takeN i ks T cnt) := Hid.mk' (by have := HE.out; rw [hnil, takeN] at this; exact this)
      clear hnil HE
      go_wp2_with fail
      go_ret
      rw [← HE2.out]
      exact ⟨rfl, HC'.out⟩
end Go.Proofs.YtkiofkppdpkboaaDoor
