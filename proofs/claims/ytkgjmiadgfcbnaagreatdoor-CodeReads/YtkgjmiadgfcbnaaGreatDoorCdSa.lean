/- The document's Same: modules that are alike are. -/
import Derived.Test.YtkgjmiadgfcbnaaGreatDoorCdI
import Derived.BigRegion
namespace Go.Proofs.YtkgjmiadgfcbnaaGreatDoor
set_option linter.unusedVariables false
set_option linter.unusedSimpArgs false
open Go.RowKit

theorem flat_get {α : Type} {cs : α → List Value} {sz : Nat} (hcs : ∀ x, (cs x).length = sz) : ∀ (els : List α) (j k : Nat) (hj : j < els.length), k < sz → (els.flatMap cs)[j * sz + k]? = (cs els[j])[k]?
  | [], j, k, hj, _ => by simp at hj
  | a :: r, 0, k, hj, hk => by
    simp only [List.flatMap_cons, Nat.zero_mul, Nat.zero_add, List.getElem_cons_zero]
    rw [List.getElem?_append_left (by rw [hcs]; exact hk)]
  | a :: r, j + 1, k, hj, hk => by
    simp only [List.flatMap_cons, List.getElem_cons_succ]
    have hl := hcs a
    rw [List.getElem?_append_right (by rw [hl, Nat.succ_mul]; omega), hl, show (j + 1) * sz + k - sz = j * sz + k by rw [Nat.succ_mul]; omega]
    exact flat_get hcs r j k (by simpa using hj) hk
theorem own_at {α : Type} {cs : α → List Value} {sz : Nat} (hcs : ∀ x, (cs x).length = sz) {w : World} {B : Nat} {e : TypeId} {a : Option Addr} {n c : Nat} {els : List α} (h : w.ownsRow B e sz (.slice a n c) n (els.flatMap cs)) (hn : els.length = n) (j : Nat) (hj : j < els.length) : ∃ g, a = some ⟨g, 0, none⟩ ∧ ∀ k u, k < sz → (cs els[j])[k]? = some u → w.cell? ⟨g, j * sz + k, none⟩ = some u := by
  obtain ⟨g, rfl⟩ := own_some h (by omega)
  refine ⟨g, rfl, fun k u hk hu => ?_⟩
  have := h.cells (g := g) rfl (j * sz + k) u (by rw [flat_get hcs els j k hj hk]; exact hu)
  rw [Addr.add_lit] at this
  simpa using this
set_option maxHeartbeats 1000000 in
set_option maxRecDepth 100000 in
theorem rsame_self (u : Nat) (hu : u < 18446744073709551616) (w : World) : Calls Tryz.prog 57 #[.float .f64 u, .float .f64 u, .int .i64 2] w fun e w' => e = .returned (.bool true) ∧ w' = w := by
  have HB := Hid.mk' (fun W => bad_any u W hu)
  have HS := Hid.mk' (fun W => signbit_any u W hu)
  have heq := isnan_eq u hu
  by_cases hn : Fl.nan u
  · rw [decide_eq_true hn] at HB
    clear hn heq
    go_enter Tryz.func57, Tryz.ntmps57
    go_wp2_with (first | (go_at_call 77; refine (HB.out _).mono ?_; rintro e w1 ⟨rfl, hw1⟩; rw [hw1]; clear hw1 w1) | (go_at_call 78; refine (HS.out _).mono ?_; rintro e w1 ⟨rfl, hw1⟩; rw [hw1]; clear hw1 w1))
    go_ret
    exact ⟨rfl, rfl⟩
  · rw [decide_eq_false hn] at HB
    obtain ⟨sg, hsg⟩ : ∃ sg, decide (9223372036854775808 ≤ u) = sg := ⟨_, rfl⟩
    rw [hsg] at HS
    have hord : FloatKind.f64.format.order u u = some .eq := by
      rw [decide_eq_false hn] at heq
      simpa using heq
    clear hn heq hsg
    go_enter Tryz.func57, Tryz.ntmps57
    go_wp2_with (first | (go_at_call 77; refine (HB.out _).mono ?_; rintro e w1 ⟨rfl, hw1⟩; rw [hw1]; clear hw1 w1) | (go_at_call 78; refine (HS.out _).mono ?_; rintro e w1 ⟨rfl, hw1⟩; rw [hw1]; clear hw1 w1))
    go_ret
    exact ⟨rfl, rfl⟩
set_option maxHeartbeats 1000000 in
set_option maxRecDepth 100000 in
theorem sameV_self (k : Int) (u : Nat) (t : ByteArray) (r : Int) (hu : u < 18446744073709551616) (w : World) : Calls Tryz.prog 36 #[.agg #[.int .i64 k, .float .f64 u, .string t, .int .i64 r], .agg #[.int .i64 k, .float .f64 u, .string t, .int .i64 r]] w fun e w' => e = .returned (.bool true) ∧ Below w.heap.size w w' := by
  have HS := Hid.mk' (fun W => rsame_self u hu W)
  have HB : Hid (Below w.heap.size w ((w.alloc (.cells #[.int .i64 k, .float .f64 u, .string t, .int .i64 r] 83)).alloc (.cells #[.int .i64 k, .float .f64 u, .string t, .int .i64 r] 83))) := Hid.mk' ((lay_below).alloc (by simp) _)
  go_enter Tryz.func36, Tryz.ntmps36
  go_wp2_with (go_at_call 57; refine (HS.out _).mono ?_; rintro e w1 ⟨rfl, hw1⟩; rw [hw1]; clear hw1 w1)
  all_goals
    go_ret
    exact ⟨by first | rfl | simp, HB.out⟩
theorem meas_up (K j : Nat) (h : j < K) : K - (intOf (.int .i64 ((j : Int) + 1))).toNat < K - (intOf (.int .i64 (j : Int))).toNat := by simp [intOf]; omega
theorem drewB {X w1 : World} (h : Below X.drew.heap.size X.drew w1) : Below X.heap.size X w1 := ((Below.refl _ X).drew).trans h
theorem cst_len (x : Cst) : x.cs.length = 4 := rfl
theorem ins_len (x : Ins) : x.cs.length = 5 := rfl
theorem tri_len (x : Tri) : x.cs.length = 4 := rfl
theorem cap_len (x : Cap) : x.cs.length = 2 := rfl
theorem fv_len (x : FV) : x.cs.length = 9 := rfl
/-- The numbers of a function's constants are words. -/
def Fine (f : Fun) : Prop := ∀ c ∈ f.consts, c.num < 18446744073709551616
set_option maxHeartbeats 4000000 in
set_option maxRecDepth 100000 in
theorem sameFn_self (f : Fun) (hf : Fine f) {B1 B2 : Nat} {x y z u x' y' z' u' : Value} (w : World) (h1 : Rows w B1 f x y z u) (h2 : Rows w B2 f x' y' z' u') (hs : (f.consts.length : Int) ≤ 5000 ∧ (f.code.length : Int) ≤ 5000 ∧ (f.tries.length : Int) ≤ 5000 ∧ (f.caps.length : Int) ≤ 5000) :
    Calls Tryz.prog 15 #[.agg (fcs f x y z u).toArray, .agg (fcs f x' y' z' u').toArray] w fun e w' => e = .returned (.bool true) ∧ Below w.heap.size w w' := by
  obtain ⟨a1, c1, rfl, _⟩ := own_slice' h1.c
  obtain ⟨a2, c2, rfl, _⟩ := own_slice' h1.i
  obtain ⟨a3, c3, rfl, _⟩ := own_slice' h1.t
  obtain ⟨a4, c4, rfl, _⟩ := own_slice' h1.p
  obtain ⟨a5, c5, rfl, _⟩ := own_slice' h2.c
  obtain ⟨a6, c6, rfl, _⟩ := own_slice' h2.i
  obtain ⟨a7, c7, rfl, _⟩ := own_slice' h2.t
  obtain ⟨a8, c8, rfl, _⟩ := own_slice' h2.p
  obtain ⟨f1, f2, f3, f4, f5, cs, is, ts, us⟩ := f
  simp only [fcs]
  dsimp only at h1 h2 hs
  obtain ⟨n1, hn1⟩ : ∃ n1, cs.length = n1 := ⟨_, rfl⟩
  obtain ⟨n2, hn2⟩ : ∃ n2, is.length = n2 := ⟨_, rfl⟩
  obtain ⟨n3, hn3⟩ : ∃ n3, ts.length = n3 := ⟨_, rfl⟩
  obtain ⟨n4, hn4⟩ : ∃ n4, us.length = n4 := ⟨_, rfl⟩
  have k1 := h1.c
  have k2 := h1.i
  have k3 := h1.t
  have k4 := h1.p
  have k5 := h2.c
  have k6 := h2.i
  have k7 := h2.t
  have k8 := h2.p
  dsimp only at k1 k2 k3 k4 k5 k6 k7 k8
  rw [hn1] at k1 k5
  rw [hn2] at k2 k6
  rw [hn3] at k3 k7
  rw [hn4] at k4 k8
  rw [hn1, hn2, hn3, hn4] at hs
  simp only [hn1, hn2, hn3, hn4]
  obtain ⟨W1, hW1⟩ : ∃ W1, w.alloc (.cells #[.string f1, .int .i64 f2, .bool f3, .bool f4, .int .i64 f5, .slice a1 n1 c1, .slice a2 n2 c2, .slice a3 n3 c3, .slice a4 n4 c4] 42) = W1 := ⟨_, rfl⟩
  obtain ⟨W2, hW2⟩ : ∃ W2, W1.alloc (.cells #[.string f1, .int .i64 f2, .bool f3, .bool f4, .int .i64 f5, .slice a5 n1 c5, .slice a6 n2 c6, .slice a7 n3 c7, .slice a8 n4 c8] 42) = W2 := ⟨_, rfl⟩
  have b1 : Below w.heap.size w W1 := by rw [← hW1]; exact lay_below
  have b2 : Below W1.heap.size W1 W2 := by rw [← hW2]; exact lay_below
  have s1 : W1.heap.size = w.heap.size + 1 := by rw [← hW1]; simp
  have q1 : W1.heap[w.heap.size]? = some (.cells #[.string f1, .int .i64 f2, .bool f3, .bool f4, .int .i64 f5, .slice a1 n1 c1, .slice a2 n2 c2, .slice a3 n3 c3, .slice a4 n4 c4] 42 (0, 0)) := by rw [← hW1]; exact box_new
  have q2 : W2.heap[W1.heap.size]? = some (.cells #[.string f1, .int .i64 f2, .bool f3, .bool f4, .int .i64 f5, .slice a5 n1 c5, .slice a6 n2 c6, .slice a7 n3 c7, .slice a8 n4 c8] 42 (0, 0)) := by rw [← hW2]; exact box_new
  have q1' := (b2.block w.heap.size (by omega)).trans q1
  have B2' := b1.trans (b2.mono b1.size)
  have HK1 := Hid.mk' (own_below k1 B2')
  have HK2 := Hid.mk' (own_below k2 B2')
  have HK3 := Hid.mk' (own_below k3 B2')
  have HK4 := Hid.mk' (own_below k4 B2')
  have HK5 := Hid.mk' (own_below k5 B2')
  have HK6 := Hid.mk' (own_below k6 B2')
  have HK7 := Hid.mk' (own_below k7 B2')
  have HK8 := Hid.mk' (own_below k8 B2')
  have HFI : Hid (∀ c ∈ cs, c.num < 18446744073709551616) := Hid.mk' hf
  have HB := Hid.mk' B2'
  have s2 : W2.heap.size = w.heap.size + 2 := by rw [← hW2]; simp; omega
  rw [s1] at q2
  obtain ⟨ba, hba⟩ : ∃ ba, w.heap.size = ba := ⟨_, rfl⟩
  obtain ⟨bb, hbb⟩ : ∃ bb, ba + 1 = bb := ⟨_, rfl⟩
  rw [hba, hbb] at q2
  rw [hba] at q1' s2 s1
  have HQ1 := Hid.mk' q1'
  have HQ2 := Hid.mk' q2
  have HZA : Hid (ba < W2.heap.size ∧ bb < W2.heap.size) := Hid.mk' ⟨by omega, by omega⟩
  have HSV := Hid.mk' (fun e0 e1 e2 e3 W (h : e1 < 18446744073709551616) => sameV_self e0 e1 e2 e3 h W)
  have A0 : W2.cell? ⟨ba, 0, none⟩ = some (.string f1) := (cell_row _ ba 0 _ _ q1').trans rfl
  have D0 : W2.cell? ⟨bb, 0, none⟩ = some (.string f1) := (cell_row _ bb 0 _ _ q2).trans rfl
  have A1 : W2.cell? ⟨ba, 1, none⟩ = some (.int .i64 f2) := (cell_row _ ba 1 _ _ q1').trans rfl
  have D1 : W2.cell? ⟨bb, 1, none⟩ = some (.int .i64 f2) := (cell_row _ bb 1 _ _ q2).trans rfl
  have A2 : W2.cell? ⟨ba, 2, none⟩ = some (.bool f3) := (cell_row _ ba 2 _ _ q1').trans rfl
  have D2 : W2.cell? ⟨bb, 2, none⟩ = some (.bool f3) := (cell_row _ bb 2 _ _ q2).trans rfl
  have A3 : W2.cell? ⟨ba, 3, none⟩ = some (.bool f4) := (cell_row _ ba 3 _ _ q1').trans rfl
  have D3 : W2.cell? ⟨bb, 3, none⟩ = some (.bool f4) := (cell_row _ bb 3 _ _ q2).trans rfl
  have A4 : W2.cell? ⟨ba, 4, none⟩ = some (.int .i64 f5) := (cell_row _ ba 4 _ _ q1').trans rfl
  have D4 : W2.cell? ⟨bb, 4, none⟩ = some (.int .i64 f5) := (cell_row _ bb 4 _ _ q2).trans rfl
  have A5 : W2.cell? ⟨ba, 5, none⟩ = some (.slice a1 n1 c1) := (cell_row _ ba 5 _ _ q1').trans rfl
  have D5 : W2.cell? ⟨bb, 5, none⟩ = some (.slice a5 n1 c5) := (cell_row _ bb 5 _ _ q2).trans rfl
  have A6 : W2.cell? ⟨ba, 6, none⟩ = some (.slice a2 n2 c2) := (cell_row _ ba 6 _ _ q1').trans rfl
  have D6 : W2.cell? ⟨bb, 6, none⟩ = some (.slice a6 n2 c6) := (cell_row _ bb 6 _ _ q2).trans rfl
  have A7 : W2.cell? ⟨ba, 7, none⟩ = some (.slice a3 n3 c3) := (cell_row _ ba 7 _ _ q1').trans rfl
  have D7 : W2.cell? ⟨bb, 7, none⟩ = some (.slice a7 n3 c7) := (cell_row _ bb 7 _ _ q2).trans rfl
  have A8 : W2.cell? ⟨ba, 8, none⟩ = some (.slice a4 n4 c4) := (cell_row _ ba 8 _ _ q1').trans rfl
  have D8 : W2.cell? ⟨bb, 8, none⟩ = some (.slice a8 n4 c8) := (cell_row _ bb 8 _ _ q2).trans rfl
  clear k1 k2 k3 k4 k5 k6 k7 k8 h1 h2 hf q1 q1' q2 b1 b2 B2' s2
  go_enter Tryz.func15, Tryz.ntmps15
  go_wp2
  go_loopw [79] (fun iv wr => ∃ i : Nat, iv = .int .i64 (i : Int) ∧ i ≤ n1 ∧ Hid (Below W2.heap.size W2 wr)) (fun iv wr => n1 - (intOf iv).toNat)
  case atStart => exact ⟨0, rfl, by omega, Hid.mk' (Below.refl _ _)⟩
  case round =>
    obtain ⟨i, rfl, hi, HBW⟩ := hrel
    have p0 := (HBW.out.block ba HZA.out.1).trans HQ1.out
    have p1 := (HBW.out.block bb HZA.out.2).trans HQ2.out
    have ya : wr.cell? ⟨ba, 5, none⟩ = some (.slice a1 n1 c1) := (cell_row _ ba 5 _ _ p0).trans rfl
    have yb : wr.cell? ⟨bb, 5, none⟩ = some (.slice a5 n1 c5) := (cell_row _ bb 5 _ _ p1).trans rfl
    by_cases hlt : i < n1
    · obtain ⟨ga, rfl, hca⟩ := own_at cst_len (own_below HK1.out HBW.out) hn1 i (by omega)
      obtain ⟨gb, rfl, hcb⟩ := own_at cst_len (own_below HK5.out HBW.out) hn1 i (by omega)
      have i1 : (i : Int) < (n1 : Int) := by omega
      have i2 : (i : Int) < 5000 := by omega
      have hu : (cs[i]'(by omega)).num < 18446744073709551616 := HFI.out _ (List.getElem_mem _)
      cases he : (cs[i]'(by omega)) with
      | mk e0 e1 e2 e3 =>
        have u0 : wr.cell? ⟨ga, i * 4, none⟩ = some (.int .i64 e0) := by have := hca 0 (.int .i64 e0) (by omega) (by rw [he]; rfl); simpa using this
        have v0 : wr.cell? ⟨gb, i * 4, none⟩ = some (.int .i64 e0) := by have := hcb 0 (.int .i64 e0) (by omega) (by rw [he]; rfl); simpa using this
        have u1 : wr.cell? ⟨ga, i * 4 + 1, none⟩ = some (.float .f64 e1) := by have := hca 1 (.float .f64 e1) (by omega) (by rw [he]; rfl); simpa using this
        have v1 : wr.cell? ⟨gb, i * 4 + 1, none⟩ = some (.float .f64 e1) := by have := hcb 1 (.float .f64 e1) (by omega) (by rw [he]; rfl); simpa using this
        have u2 : wr.cell? ⟨ga, i * 4 + 2, none⟩ = some (.string e2) := by have := hca 2 (.string e2) (by omega) (by rw [he]; rfl); simpa using this
        have v2 : wr.cell? ⟨gb, i * 4 + 2, none⟩ = some (.string e2) := by have := hcb 2 (.string e2) (by omega) (by rw [he]; rfl); simpa using this
        have u3 : wr.cell? ⟨ga, i * 4 + 3, none⟩ = some (.int .i64 e3) := by have := hca 3 (.int .i64 e3) (by omega) (by rw [he]; rfl); simpa using this
        have v3 : wr.cell? ⟨gb, i * 4 + 3, none⟩ = some (.int .i64 e3) := by have := hcb 3 (.int .i64 e3) (by omega) (by rw [he]; rfl); simpa using this
        clear hca hcb p0 p1
        rw [he] at hu
        dsimp only at hu
        clear he
        go_wp2_with fail
        go_region_with (go_at_call 36; refine (HSV.out _ _ _ _ _ hu).mono ?_; rintro e w1 ⟨rfl, bw⟩)
        all_goals
          have HBn := Hid.mk' (HBW.out.trans ((drewB bw).mono HBW.out.size))
          clear bw
          go_wp2
          go_roundw
          case rel => exact ⟨i + 1, by go_num, hlt, HBn⟩
          case measure => exact meas_up n1 i hlt
    · have i1 : ¬ (i : Int) < (n1 : Int) := by omega
      have r0 : wr.cell? ⟨ba, 6, none⟩ = some (.slice a2 n2 c2) := (cell_row _ ba 6 _ _ p0).trans rfl
      clear p0 p1
      go_wp2
      clear r0 ya yb i1 hlt hi
      go_loopw [98] (fun iv wr => ∃ i : Nat, iv = .int .i64 (i : Int) ∧ i ≤ n2 ∧ Hid (Below W2.heap.size W2 wr)) (fun iv wr => n2 - (intOf iv).toNat)
      case atStart => exact ⟨0, rfl, Nat.zero_le _, HBW⟩
      case round =>
        obtain ⟨i, rfl, hi, HBW⟩ := hrel
        have p0 := (HBW.out.block ba HZA.out.1).trans HQ1.out
        have p1 := (HBW.out.block bb HZA.out.2).trans HQ2.out
        have ya : wr.cell? ⟨ba, 6, none⟩ = some (.slice a2 n2 c2) := (cell_row _ ba 6 _ _ p0).trans rfl
        have yb : wr.cell? ⟨bb, 6, none⟩ = some (.slice a6 n2 c6) := (cell_row _ bb 6 _ _ p1).trans rfl
        by_cases hlt : i < n2
        · obtain ⟨ga, rfl, hca⟩ := own_at ins_len (own_below HK2.out HBW.out) hn2 i (by omega)
          obtain ⟨gb, rfl, hcb⟩ := own_at ins_len (own_below HK6.out HBW.out) hn2 i (by omega)
          have i1 : (i : Int) < (n2 : Int) := by omega
          have i2 : (i : Int) < 5000 := by omega
          cases he : (is[i]'(by omega)) with
          | mk e0 e1 e2 e3 e4 =>
            have u0 : wr.cell? ⟨ga, i * 5, none⟩ = some (.int .i64 e0) := by have := hca 0 (.int .i64 e0) (by omega) (by rw [he]; rfl); simpa using this
            have v0 : wr.cell? ⟨gb, i * 5, none⟩ = some (.int .i64 e0) := by have := hcb 0 (.int .i64 e0) (by omega) (by rw [he]; rfl); simpa using this
            have u1 : wr.cell? ⟨ga, i * 5 + 1, none⟩ = some (.int .i64 e1) := by have := hca 1 (.int .i64 e1) (by omega) (by rw [he]; rfl); simpa using this
            have v1 : wr.cell? ⟨gb, i * 5 + 1, none⟩ = some (.int .i64 e1) := by have := hcb 1 (.int .i64 e1) (by omega) (by rw [he]; rfl); simpa using this
            have u2 : wr.cell? ⟨ga, i * 5 + 2, none⟩ = some (.int .i64 e2) := by have := hca 2 (.int .i64 e2) (by omega) (by rw [he]; rfl); simpa using this
            have v2 : wr.cell? ⟨gb, i * 5 + 2, none⟩ = some (.int .i64 e2) := by have := hcb 2 (.int .i64 e2) (by omega) (by rw [he]; rfl); simpa using this
            have u3 : wr.cell? ⟨ga, i * 5 + 3, none⟩ = some (.int .i64 e3) := by have := hca 3 (.int .i64 e3) (by omega) (by rw [he]; rfl); simpa using this
            have v3 : wr.cell? ⟨gb, i * 5 + 3, none⟩ = some (.int .i64 e3) := by have := hcb 3 (.int .i64 e3) (by omega) (by rw [he]; rfl); simpa using this
            have u4 : wr.cell? ⟨ga, i * 5 + 4, none⟩ = some (.int .i64 e4) := by have := hca 4 (.int .i64 e4) (by omega) (by rw [he]; rfl); simpa using this
            have v4 : wr.cell? ⟨gb, i * 5 + 4, none⟩ = some (.int .i64 e4) := by have := hcb 4 (.int .i64 e4) (by omega) (by rw [he]; rfl); simpa using this
            clear hca hcb p0 p1 he
            go_wp2_with fail
            go_quiet (fail)
            go_wp2
            go_roundw
            case rel => exact ⟨i + 1, by go_num, hlt, Hid.mk' (HBW.out.trans (kept_drewN _ 0 _ _).1)⟩
            case measure => exact meas_up n2 i hlt
        · have i1 : ¬ (i : Int) < (n2 : Int) := by omega
          have r0 : wr.cell? ⟨ba, 7, none⟩ = some (.slice a3 n3 c3) := (cell_row _ ba 7 _ _ p0).trans rfl
          clear p0 p1
          go_wp2
          clear r0 ya yb i1 hlt hi
          go_loopw [116] (fun iv wr => ∃ i : Nat, iv = .int .i64 (i : Int) ∧ i ≤ n3 ∧ Hid (Below W2.heap.size W2 wr)) (fun iv wr => n3 - (intOf iv).toNat)
          case atStart => exact ⟨0, rfl, Nat.zero_le _, HBW⟩
          case round =>
            obtain ⟨i, rfl, hi, HBW⟩ := hrel
            have p0 := (HBW.out.block ba HZA.out.1).trans HQ1.out
            have p1 := (HBW.out.block bb HZA.out.2).trans HQ2.out
            have ya : wr.cell? ⟨ba, 7, none⟩ = some (.slice a3 n3 c3) := (cell_row _ ba 7 _ _ p0).trans rfl
            have yb : wr.cell? ⟨bb, 7, none⟩ = some (.slice a7 n3 c7) := (cell_row _ bb 7 _ _ p1).trans rfl
            by_cases hlt : i < n3
            · obtain ⟨ga, rfl, hca⟩ := own_at tri_len (own_below HK3.out HBW.out) hn3 i (by omega)
              obtain ⟨gb, rfl, hcb⟩ := own_at tri_len (own_below HK7.out HBW.out) hn3 i (by omega)
              have i1 : (i : Int) < (n3 : Int) := by omega
              have i2 : (i : Int) < 5000 := by omega
              cases he : (ts[i]'(by omega)) with
              | mk e0 e1 e2 e3 =>
                have u0 : wr.cell? ⟨ga, i * 4, none⟩ = some (.int .i64 e0) := by have := hca 0 (.int .i64 e0) (by omega) (by rw [he]; rfl); simpa using this
                have v0 : wr.cell? ⟨gb, i * 4, none⟩ = some (.int .i64 e0) := by have := hcb 0 (.int .i64 e0) (by omega) (by rw [he]; rfl); simpa using this
                have u1 : wr.cell? ⟨ga, i * 4 + 1, none⟩ = some (.int .i64 e1) := by have := hca 1 (.int .i64 e1) (by omega) (by rw [he]; rfl); simpa using this
                have v1 : wr.cell? ⟨gb, i * 4 + 1, none⟩ = some (.int .i64 e1) := by have := hcb 1 (.int .i64 e1) (by omega) (by rw [he]; rfl); simpa using this
                have u2 : wr.cell? ⟨ga, i * 4 + 2, none⟩ = some (.int .i64 e2) := by have := hca 2 (.int .i64 e2) (by omega) (by rw [he]; rfl); simpa using this
                have v2 : wr.cell? ⟨gb, i * 4 + 2, none⟩ = some (.int .i64 e2) := by have := hcb 2 (.int .i64 e2) (by omega) (by rw [he]; rfl); simpa using this
                have u3 : wr.cell? ⟨ga, i * 4 + 3, none⟩ = some (.int .i64 e3) := by have := hca 3 (.int .i64 e3) (by omega) (by rw [he]; rfl); simpa using this
                have v3 : wr.cell? ⟨gb, i * 4 + 3, none⟩ = some (.int .i64 e3) := by have := hcb 3 (.int .i64 e3) (by omega) (by rw [he]; rfl); simpa using this
                clear hca hcb p0 p1 he
                go_wp2_with fail
                go_quiet (fail)
                go_wp2
                go_roundw
                case rel => exact ⟨i + 1, by go_num, hlt, Hid.mk' (HBW.out.trans (kept_drewN _ 0 _ _).1)⟩
                case measure => exact meas_up n3 i hlt
            · have i1 : ¬ (i : Int) < (n3 : Int) := by omega
              have r0 : wr.cell? ⟨ba, 8, none⟩ = some (.slice a4 n4 c4) := (cell_row _ ba 8 _ _ p0).trans rfl
              clear p0 p1
              go_wp2
              clear r0 ya yb i1 hlt hi
              go_loopw [134] (fun iv wr => ∃ i : Nat, iv = .int .i64 (i : Int) ∧ i ≤ n4 ∧ Hid (Below W2.heap.size W2 wr)) (fun iv wr => n4 - (intOf iv).toNat)
              case atStart => exact ⟨0, rfl, Nat.zero_le _, HBW⟩
              case round =>
                obtain ⟨i, rfl, hi, HBW⟩ := hrel
                have p0 := (HBW.out.block ba HZA.out.1).trans HQ1.out
                have p1 := (HBW.out.block bb HZA.out.2).trans HQ2.out
                have ya : wr.cell? ⟨ba, 8, none⟩ = some (.slice a4 n4 c4) := (cell_row _ ba 8 _ _ p0).trans rfl
                have yb : wr.cell? ⟨bb, 8, none⟩ = some (.slice a8 n4 c8) := (cell_row _ bb 8 _ _ p1).trans rfl
                by_cases hlt : i < n4
                · obtain ⟨ga, rfl, hca⟩ := own_at cap_len (own_below HK4.out HBW.out) hn4 i (by omega)
                  obtain ⟨gb, rfl, hcb⟩ := own_at cap_len (own_below HK8.out HBW.out) hn4 i (by omega)
                  have i1 : (i : Int) < (n4 : Int) := by omega
                  have i2 : (i : Int) < 5000 := by omega
                  cases he : (us[i]'(by omega)) with
                  | mk e0 e1 =>
                    have u0 : wr.cell? ⟨ga, i * 2, none⟩ = some (.bool e0) := by have := hca 0 (.bool e0) (by omega) (by rw [he]; rfl); simpa using this
                    have v0 : wr.cell? ⟨gb, i * 2, none⟩ = some (.bool e0) := by have := hcb 0 (.bool e0) (by omega) (by rw [he]; rfl); simpa using this
                    have u1 : wr.cell? ⟨ga, i * 2 + 1, none⟩ = some (.int .i64 e1) := by have := hca 1 (.int .i64 e1) (by omega) (by rw [he]; rfl); simpa using this
                    have v1 : wr.cell? ⟨gb, i * 2 + 1, none⟩ = some (.int .i64 e1) := by have := hcb 1 (.int .i64 e1) (by omega) (by rw [he]; rfl); simpa using this
                    clear hca hcb p0 p1 he
                    go_wp2_with fail
                    go_quiet (fail)
                    go_wp2
                    go_roundw
                    case rel => exact ⟨i + 1, by go_num, hlt, Hid.mk' (HBW.out.trans (kept_drewN _ 0 _ _).1)⟩
                    case measure => exact meas_up n4 i hlt
                · have i1 : ¬ (i : Int) < (n4 : Int) := by omega
                  skip
                  clear p0 p1
                  go_wp2
                  go_ret
                  exact ⟨rfl, by rw [← hba]; exact HB.out.trans (HBW.out.mono HB.out.size)⟩
end Go.Proofs.YtkgjmiadgfcbnaaGreatDoor
