/- tree.kidsOf: each node's kids in memory of their own. -/
import Derived.Test.YtkiofkppdpkboaaDoorTWk1
import Derived.Test.YtkiofkppdpkboaaDoorTDeep
import Derived.Test.YtkiofkppdpkboaaDoorShelf
namespace Go.Proofs.YtkiofkppdpkboaaDoor
set_option linter.unusedVariables false
open Go.RowKit Go.Shelf

/-- A row of numbers in memory, behind block B. -/
def CI (B : Nat) (W : World) (v : Value) (ks : List Int) : Prop :=
  (∃ a c, v = .slice a 0 c ∧ ks = []) ∨ ∃ g o c, v = .slice (some ⟨g, o, none⟩) ks.length c ∧ ks.length ≤ c ∧ B < g ∧ ∀ j (h : j < ks.length), W.cell? ⟨g, o + j, none⟩ = some (.int .i64 ks[j])
theorem CI.keep {B : Nat} {W W' : World} {v : Value} {ks : List Int} (h : CI B W v ks) (hk : KN B W W') : CI B W' v ks := by
  rcases h with h | ⟨g, o, c, e, hl, hne, hc⟩
  · exact .inl h
  · exact .inr ⟨g, o, c, e, hl, hne, fun j hj => hk.cell (by omega) (hc j hj)⟩
theorem CI.rd {B Bk : Nat} {W : World} {v : Value} {ks : List Int} (h : CI B W v ks) (hk : Bk ≤ B) : RdI Bk W v ks := by
  rcases h with h | ⟨g, o, c, e, hl, hne, hc⟩
  · exact .inl h
  · exact .inr ⟨g, o, c, e, hl, by omega, hc⟩
theorem CI.form {B : Nat} {W : World} {v : Value} {ks : List Int} (h : CI B W v ks) : ∃ x n c, v = .slice x n c := by
  rcases h with ⟨a, c, rfl, rfl⟩ | ⟨g, o, c, rfl, _⟩
  · exact ⟨_, _, _, rfl⟩
  · exact ⟨_, _, _, rfl⟩
theorem CI.own {B B0 n : Nat} {W : World} {v : Value} {ks : List Int} (hB : B < B0) (hn : n = ks.length) (h : W.ownsRow B0 3 1 v n (ks.map (Value.int .i64))) : CI B W v ks := by
  subst hn
  rcases h.2 with ⟨e, h0⟩ | ⟨g, cap, cur, e, hb, hg, hl, _, hs, ht⟩
  · exact .inl ⟨none, 0, e, List.eq_nil_of_length_eq_zero (by omega)⟩
  · refine .inr ⟨g, 0, cap, e, by omega, by omega, fun j hj => ?_⟩
    rw [cell_of_row _ g (0 + j) _ _ _ hg]
    have := congrArg (·[j]?) ht
    simp [hj] at this
    rw [Nat.zero_add]
    exact this
theorem clone_any (kp : Option Addr) (ks : List Int) (kc B : Nat) (W : World) (hB : B < W.heap.size) (hl : (ks.length : Int) * 8 ≤ 140737488351232)
    (hkd : ∀ j (h : j < ks.length), ∃ g o, kp = some ⟨g, o, none⟩ ∧ W.cell? ⟨g, o + j, none⟩ = some (.int .i64 ks[j])) :
    Calls Tryd.prog 38 #[.slice kp ks.length kc] W fun e w' => ∃ v, e = .returned v ∧ CI B w' v ks ∧ Below W.heap.size W w' := by
  by_cases h0 : ks.length = 0
  · have hk0 : ks = [] := List.eq_nil_of_length_eq_zero h0
    subst hk0
    cases kp with
    | none => exact (Tryd.slices_Clone_int_nil 0 kc W).mono (fun e w' h => ⟨_, h.1, .inl ⟨_, _, rfl, rfl⟩, by rw [h.2]; exact Below.refl _ _⟩)
    | some a => exact (Tryd.slices_Clone_int_zero a kc W).mono (fun e w' h => by
        obtain ⟨v, he, ho, _, hb⟩ := h
        exact ⟨v, he, CI.own hB rfl ho, hb⟩)
  · obtain ⟨g, o, rfl, _⟩ := hkd 0 (by omega)
    refine (Tryd.slices_Clone_int g o ks.length kc ks W (Nat.le_refl _) (by omega) (fun j hj => ?_)).mono (fun e w' h => ?_)
    · obtain ⟨g', o', e', hc⟩ := hkd j hj
      simp only [Option.some.injEq, Addr.mk.injEq, and_true] at e'
      obtain ⟨rfl, rfl⟩ := e'
      rw [hc, List.getD_eq_getElem?_getD, List.getElem?_eq_getElem hj]
      rfl
    · obtain ⟨v, he, ho, _, hb⟩ := h
      rw [List.take_of_length_le (Nat.le_refl _)] at ho
      exact ⟨v, he, CI.own hB rfl ho, hb⟩
/-- The row of rows while kidsOf fills it. -/
structure KR (w : World) (L : List Nd) (i : Nat) (wr : World) : Prop where
  b : Below w.heap.size w wr
  hk : ∃ cs : List Value, wr.heap[w.heap.size]? = some (.cells cs.toArray 30 (0, 0)) ∧ cs.length = L.length ∧ ∀ j (h : j < L.length), j < i → ∃ vj, cs[j]? = some vj ∧ CI w.heap.size wr vj L[j].kids
theorem KR.grow {w wr w1 : World} {L : List Nd} {i : Nat} (h : KR w L i wr) (hb : Below wr.heap.size wr w1) : KR w L i w1 := by
  obtain ⟨cs, h1, h2, h3⟩ := h.hk
  refine ⟨h.b.trans (hb.mono h.b.size), cs, (hb.block _ (Array.getElem?_eq_some_iff.1 h1).1).trans h1, h2, fun j hj hji => ?_⟩
  obtain ⟨vj, e, hc⟩ := h3 j hj hji
  exact ⟨vj, e, hc.keep (KN.of_below hb)⟩
theorem KR.lt {w wr : World} {L : List Nd} {i : Nat} (h : KR w L i wr) : w.heap.size < wr.heap.size := by
  obtain ⟨cs, h1, _⟩ := h.hk
  exact (Array.getElem?_eq_some_iff.1 h1).1
theorem KR.cell {w wr : World} {L : List Nd} {i : Nat} (h : KR w L i wr) (j : Nat) (hj : j < L.length) : (∃ v, wr.cell? ⟨w.heap.size, j, none⟩ = some v) ∧ wr.frozen? ⟨w.heap.size, j, none⟩ = false := by
  obtain ⟨cs, h1, h2, _⟩ := h.hk
  refine ⟨⟨cs[j]'(by omega), ?_⟩, by simp [World.frozen?, h1]⟩
  rw [cell_of_row _ _ _ _ _ _ h1]
  simp
theorem KR.set {w wr : World} {L : List Nd} {i : Nat} (h : KR w L i wr) (hi : i < L.length) (v : Value) (hv : CI w.heap.size wr v L[i].kids) : KR w L (i + 1) (wr.setCell ⟨w.heap.size, i, none⟩ v) := by
  obtain ⟨cs, h1, h2, h3⟩ := h.hk
  have hkn : KN w.heap.size wr (wr.setCell ⟨w.heap.size, i, none⟩ v) := KN.set _ _ _ _
  refine ⟨h.b.setCell (Nat.le_refl _) _, cs.set i v, ?_, by simpa using h2, fun j hj hji => ?_⟩
  · simp [World.setCell, Array.getElem?_modify, h1]
  · by_cases e : j = i
    · subst e
      exact ⟨v, by simp [h2, hj], hv.keep hkn⟩
    · obtain ⟨vj, e1, hc⟩ := h3 j hj (by omega)
      exact ⟨vj, by rw [List.getElem?_set_ne (by omega)]; exact e1, hc.keep hkn⟩
theorem KR.done {w wr : World} {L : List Nd} (h : KR w L L.length wr) (Bk : Nat) (hB : Bk < w.heap.size) (c : Nat) (hc : L.length ≤ c) : RdK2 Bk wr (.slice (some ⟨w.heap.size, 0, none⟩) L.length c) (L.map (fun n => n.kids)) := by
  obtain ⟨cs, h1, h2, h3⟩ := h.hk
  refine ⟨w.heap.size, c, by rw [List.length_map], by rw [List.length_map]; exact hc, by omega, fun j hj => ?_⟩
  rw [List.length_map] at hj
  obtain ⟨vj, e, hci⟩ := h3 j hj hj
  refine ⟨vj, ?_, by rw [List.getElem_map]; exact hci.rd (by omega)⟩
  rw [cell_of_row _ _ _ _ _ _ h1, List.getElem?_toArray]
  exact e
theorem infoS : (Tryd.prog.info? 30).map (fun i => (i.zero, i.size, i.bytes)) = some (some (.slice none 0 0), 1, 24) := by kernel_rfl
theorem made_slices (n : Nat) : madeCells (Value.slice none 0 0).cells n = Array.replicate n (.slice none 0 0) := by
  apply Array.ext
  · simp [size_madeCells]
  · intro i h1 h2
    simp [madeCells, Value.cells, Nat.mod_one]
theorem alloc_heap_new' (w : World) (o : Obj) : (w.alloc o).heap[w.heap.size]? = some o := by
  show (w.heap.push o)[w.heap.size]? = some o
  simp
theorem KR.new (w : World) (L : List Nd) : KR w L 0 (w.alloc (.cells (Array.replicate L.length (.slice none 0 0)) 30)) :=
  ⟨(Below.refl _ _).alloc (Nat.le_refl _) _, List.replicate L.length (.slice none 0 0), by rw [alloc_heap_new']; simp, by simp, fun j _ h => absurd h (by omega)⟩

set_option maxHeartbeats 4000000 in
set_option maxRecDepth 100000 in
theorem kidsOf_any (L : List Nd) (hn : (L.length : Int) * 64 ≤ 140737488351232) (hks : ∀ n ∈ L, (n.kids.length : Int) * 8 ≤ 140737488351232) (x : Option Addr) (c : Nat) (w : World) (hv : RdN w (.slice x L.length c) L) :
    Calls Tryd.prog 19 #[.slice x L.length c] w fun e w' => e = .returned (.slice (some ⟨w.heap.size, 0, none⟩) L.length L.length) ∧ KR w L L.length w' := by
  have HV := Hid.mk' hv
  have HKS := Hid.mk' hks
  obtain ⟨i0, hi0, hz0, hz1, hz2⟩ := info_parts infoS
  have HKN := Hid.mk' (KR.new w L)
  obtain ⟨N, hN⟩ : ∃ N, L.length = N := ⟨_, rfl⟩
  rw [hN] at hn HV HKN ⊢
  have HLN := Hid.mk' hN
  have mk : ∀ W : World, (Instr.makeSlice 48 (.int .i64 (N : Int)) (.int .i64 (N : Int))).run Tryd.prog W = .ok (.slice (some ⟨W.heap.size, 0, none⟩) N N) (W.alloc (.cells (Array.replicate N (.slice none 0 0)) 30)) := fun W => by
    have h := run_make (P := Tryd.prog) W 48 30 i0 (.slice none 0 0) Tryd.underlying48 hi0 hz0 .i64 .i64 (N : Int) (N : Int) (by omega) (by omega) (by rw [hz2]; omega) (by omega)
    rw [made_slices, hz1] at h
    simpa using h
  clear hv hks hN hi0 hz0 hz1 hz2
  go_enter Tryd.func19, Tryd.ntmps19
  go_wp2_with fail
  go_loopw [11] (fun vi wr => ∃ i : Nat, vi = .int .i64 i ∧ i ≤ N ∧ Hid (KR w L i wr)) (fun vi _ => N - (intOf vi).toNat)
  case atStart => exact ⟨0, rfl, Nat.zero_le _, HKN⟩
  case round =>
    clear HKN mk
    obtain ⟨i, rfl, hi, HR⟩ := hrel
    by_cases hlt : i < N
    · have zi : (i : Int) < (N : Int) := by omega
      have hiL : i < L.length := by rw [HLN.out]; exact hlt
      rcases HV.out with ⟨a', c', e', h'⟩ | ⟨g, o, c', e', hlc, hg, hcc⟩
      · rw [h'] at hiL; simp at hiL
      obtain rfl : x = some ⟨g, o, none⟩ := by injection e'
      obtain ⟨hr, hkd⟩ := hcc i hiL
      have hnk := HKS.out _ (List.getElem_mem hiL)
      have HST : Hid (∀ W v, KR w L i W → CI w.heap.size W v L[i].kids → KR w L (i + 1) (W.setCell ⟨w.heap.size, i, none⟩ v)) := Hid.mk' (fun W v h hv => h.set hiL v hv)
      obtain ⟨n, hnn⟩ : ∃ n, L[i] = n := ⟨_, rfl⟩
      rw [hnn] at hr hkd hnk HST
      have cc : ∀ j v, n.cells[j]? = some v → wr.cell? ⟨g, o + i * 6 + j, none⟩ = some v := fun j v hj => (HR.out.b.cell (p := ⟨g, o + i * 6 + j, none⟩) hg).trans (hr j v hj)
      have m0 := cc 0 _ rfl; have m1 := cc 1 _ rfl; have m2 := cc 2 _ rfl; have m3 := cc 3 _ rfl; have m4 := cc 4 _ rfl; have m5 := cc 5 _ rfl
      simp only [Nat.add_zero] at m0
      obtain ⟨nk, nt, ns, nn, kp, ks, kcap, pl⟩ := n
      dsimp only at m0 m1 m2 m3 m4 m5 hnk HST
      have hst : ∀ (p : Addr) (x : Nat) (md : Mode) (W : World), (store p (.float .f64 x) md).run Tryd.prog W = stored Tryd.prog W p (.float .f64 x) md := fun p x md W => run_store Tryd.prog W p _ md rfl
      have HBX : Hid (∀ o : Obj, KR w L i (wr.alloc o)) := Hid.mk' (fun o => HR.out.grow ((Below.refl _ _).alloc (Nat.le_refl _) _))
      have HCL : Hid (∀ W, KR w L i W → Calls Tryd.prog 38 #[.slice kp ks.length kcap] W fun e w' => ∃ x n c, e = .returned (.slice x n c) ∧ CI w.heap.size w' (.slice x n c) ks ∧ KR w L i w' ∧ Below W.heap.size W w') := Hid.mk' (fun W hW =>
        (clone_any kp ks kcap w.heap.size W hW.lt hnk (fun j hj => by
          obtain ⟨g', o', e1, e2, e3⟩ := hkd j hj
          exact ⟨g', o', e1, (hW.b.cell (p := ⟨g', o' + j, none⟩) e2).trans e3⟩)).mono (fun e w' h => by
          obtain ⟨v, he, hc, hb⟩ := h
          obtain ⟨x, n, c, rfl⟩ := hc.form
          exact ⟨x, n, c, he, hc, hW.grow hb, hb⟩))
      have HCE : Hid (∀ W, KR w L i W → (∃ v, W.cell? ⟨w.heap.size, i, none⟩ = some v) ∧ W.frozen? ⟨w.heap.size, i, none⟩ = false) := Hid.mk' (fun W hW => hW.cell i hiL)
      obtain ⟨kl, hkl⟩ : ∃ kl, ks.length = kl := ⟨_, rfl⟩
      rw [hkl] at m4 HCL
      clear cc hr hcc hnn hkd hlc hnk hkl e'
      go_wp2_with fail
      refine (HCL.out _ (HBX.out _)).mono ?_
      rintro e w1 ⟨x1, n1, c1, rfl, hci, hkr, b1⟩
      have HS := Hid.mk' (HST.out _ _ hkr hci)
      obtain ⟨⟨v0, cv⟩, fv⟩ := HCE.out _ hkr
      clear hci hkr HST HCL HBX HCE m0 m1 m2 m3 m4 m5 hst
      go_wp2
      go_roundw
      case rel => exact ⟨i + 1, by go_num, by omega, HS⟩
      case measure => simp [intOf]; omega
    · obtain rfl : i = N := by omega
      have zi : ¬ (i : Int) < (i : Int) := by omega
      go_wp2
      go_ret
      exact ⟨rfl, HR.out⟩
end Go.Proofs.YtkiofkppdpkboaaDoor
