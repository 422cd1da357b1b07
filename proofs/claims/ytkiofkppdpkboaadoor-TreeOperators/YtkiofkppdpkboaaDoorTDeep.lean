/- tree.Deep, whatever the nodes. -/
import Derived.Test.YtkiofkppdpkboaaDoorTSm
import Derived.Deep.CutRange
import Derived.Laws.MakeOwn
namespace Go.Proofs.YtkiofkppdpkboaaDoor
set_option linter.unusedVariables false
open Go.RowKit

/-- The most of the kids' depths that count, from m on. -/
def dMax (ds : List Int) (m : Int) (ks : List Int) : Int := ks.foldl (fun (m : Int) (k : Int) => if 0 ≤ k ∧ k < (ds.length : Int) then max m (ds.getD k.toNat 0) else m) m
/-- The depths of nodes, each behind those ahead of it. -/
def dAll : List Nd → List Int → List Int
  | [], ds => ds
  | n :: r, ds => dAll r (ds ++ [dMax ds 0 n.kids + 1])
theorem dAll_snoc : ∀ (L : List Nd) (n : Nd) (ds : List Int), dAll (L ++ [n]) ds = dAll L ds ++ [dMax (dAll L ds) 0 n.kids + 1]
  | [], n, ds => rfl
  | x :: r, n, ds => by rw [List.cons_append, dAll, dAll, dAll_snoc r]
theorem dAll_length : ∀ (L : List Nd) (ds : List Int), (dAll L ds).length = ds.length + L.length
  | [], ds => by simp [dAll]
  | n :: r, ds => by rw [dAll, dAll_length r]; simp; omega
theorem dMax_snoc (ds : List Int) (m : Int) (ks : List Int) (k : Int) : dMax ds m (ks ++ [k]) = if 0 ≤ k ∧ k < (ds.length : Int) then max (dMax ds m ks) (ds.getD k.toNat 0) else dMax ds m ks := by simp [dMax]
theorem dMax_range (ds : List Int) (b : Int) (hb : 0 ≤ b) (hd : ∀ d ∈ ds, 0 ≤ d ∧ d ≤ b) : ∀ (ks : List Int) (m : Int), 0 ≤ m ∧ m ≤ b → 0 ≤ dMax ds m ks ∧ dMax ds m ks ≤ b
  | [], m, h => h
  | k :: r, m, h => by
    show 0 ≤ dMax ds _ r ∧ dMax ds _ r ≤ b
    refine dMax_range ds b hb hd r _ ?_
    dsimp only
    split
    · rename_i hk
      have hm : ds.getD k.toNat 0 ∈ ds := by
        rw [List.getD_eq_getElem?_getD, List.getElem?_eq_getElem (by omega)]
        exact List.getElem_mem _
      have := hd _ hm
      omega
    · exact h
theorem dAll_range : ∀ (L : List Nd) (ds : List Int) (b : Int), 0 ≤ b → (∀ d ∈ ds, 0 ≤ d ∧ d ≤ b) → ∀ d ∈ dAll L ds, 0 ≤ d ∧ d ≤ b + L.length
  | [], ds, b, hb, h, d, hd => by have := h d hd; simp; omega
  | n :: r, ds, b, hb, h, d, hd => by
    have h1 := dMax_range ds b hb h n.kids 0 ⟨by omega, hb⟩
    have := dAll_range r (ds ++ [dMax ds 0 n.kids + 1]) (b + 1) (by omega) (fun e he => by
      rcases List.mem_append.1 he with he | he
      · have := h e he; omega
      · simp at he; omega) d hd
    simp only [List.length_cons]
    omega
/-- Deep. -/
def deepN (L : List Nd) : Int := (dAll L []).getLastD 0

/-- The row of depths in memory. -/
structure DR (w0 : World) (ds : List Int) (wr : World) : Prop where
  b : Below w0.heap.size w0 wr
  u : wr.heap[w0.heap.size]? = some (.cells (ds.map (Value.int .i64)).toArray 3 (0, 0))
theorem DR.lt {w0 wr : World} {ds : List Int} (h : DR w0 ds wr) : w0.heap.size < wr.heap.size := (Array.getElem?_eq_some_iff.1 h.u).1
theorem DR.grow {w0 wr w1 : World} {ds : List Int} (h : DR w0 ds wr) (hb : Below wr.heap.size wr w1) : DR w0 ds w1 :=
  ⟨h.b.trans (hb.mono (Nat.le_of_lt h.lt)), (hb.block _ h.lt).trans h.u⟩
theorem DR.cell {w0 wr : World} {ds : List Int} (h : DR w0 ds wr) (n : Nat) (hn : n < ds.length) : wr.cell? ⟨w0.heap.size, n, none⟩ = some (.int .i64 ds[n]) := by
  rw [cell_of_row _ _ _ _ _ _ h.u]; simp [hn]
theorem DR.frozen {w0 wr : World} {ds : List Int} (h : DR w0 ds wr) (n : Nat) : wr.frozen? ⟨w0.heap.size, n, none⟩ = false := by
  simp [World.frozen?, h.u]
theorem DR.set {w0 wr : World} {ds : List Int} (h : DR w0 ds wr) (n : Nat) (x : Int) : DR w0 (ds.set n x) (wr.setCell ⟨w0.heap.size, n, none⟩ (.int .i64 x)) := by
  refine ⟨h.b.setCell (p := ⟨w0.heap.size, n, none⟩) (Nat.le_refl _) _, ?_⟩
  simp [World.setCell, Array.getElem?_modify, h.u, List.map_set]
theorem DR.new (w0 : World) (n : Nat) : DR w0 (List.replicate n 0) (w0.alloc (.cells (Array.replicate n (.int .i64 0)) 3)) := by
  refine ⟨(Below.refl _ _).alloc (Nat.le_refl _) _, ?_⟩
  rw [heap_alloc_new]
  simp
theorem infoI : (Tryd.prog.info? 3).map (fun i => (i.zero, i.size, i.bytes)) = some (some (.int .i64 0), 1, 8) := by kernel_rfl
theorem made_ints (n : Nat) : madeCells (Value.int .i64 0).cells n = Array.replicate n (.int .i64 0) := by
  apply Array.ext
  · simp [size_madeCells]
  · intro i h1 h2
    simp [madeCells, Value.cells, Nat.mod_one]
/-- What the row holds behind i nodes, with m for the next one. -/
def dRow (N : Nat) (ds : List Int) (m : Int) : List Int := ds ++ (if ds.length < N then m :: List.replicate (N - ds.length - 1) 0 else [])

theorem dRow_length (N : Nat) (ds : List Int) (m : Int) (h : ds.length ≤ N) : (dRow N ds m).length = N := by
  unfold dRow
  split
  · simp; omega
  · simp; omega
theorem dRow_at (N : Nat) (ds : List Int) (m : Int) (h : ds.length < N) : (dRow N ds m)[ds.length]? = some m := by
  unfold dRow
  rw [if_pos h, List.getElem?_append_right (Nat.le_refl _), Nat.sub_self]
  rfl
theorem dRow_lt (N : Nat) (ds : List Int) (m : Int) (k : Nat) (h : k < ds.length) : (dRow N ds m)[k]? = some ds[k] := by
  unfold dRow
  rw [List.getElem?_append_left h, List.getElem?_eq_getElem h]
theorem dRow_set (N : Nat) (ds : List Int) (m x : Int) (h : ds.length < N) : (dRow N ds m).set ds.length x = dRow N ds x := by
  unfold dRow
  rw [if_pos h, if_pos h, List.set_append_right _ _ (Nat.le_refl _), Nat.sub_self]
  rfl
theorem dRow_next (N : Nat) (ds : List Int) (x : Int) (h : ds.length < N) : dRow N ds x = dRow N (ds ++ [x]) 0 := by
  unfold dRow
  rw [if_pos h, List.append_assoc]
  congr 1
  by_cases h2 : (ds ++ [x]).length < N
  · rw [if_pos h2]
    simp only [List.length_append, List.length_cons, List.length_nil] at h2 ⊢
    rw [show N - ds.length - 1 = (N - (ds.length + (0 + 1)) - 1) + 1 from by omega, List.replicate_succ]
    rfl
  · rw [if_neg h2]
    simp only [List.length_append, List.length_cons, List.length_nil] at h2
    rw [show N - ds.length - 1 = 0 from by omega]
    rfl
theorem dRow_start (N : Nat) : dRow N [] 0 = List.replicate N 0 := by
  unfold dRow
  cases N with
  | zero => rfl
  | succ n => simp [List.replicate_succ]

set_option maxHeartbeats 8000000 in
set_option maxRecDepth 100000 in
theorem deep_any (L : List Nd) (hn : (L.length : Int) * 64 ≤ 140737488351232) (hks : ∀ n ∈ L, (n.kids.length : Int) * 8 ≤ 140737488351232) (v : Value) (w : World) (hv : RdN w v L) :
    Calls Tryd.prog 9 #[v] w fun e w' => e = .returned (.int .i64 (deepN L)) ∧ Below w.heap.size w w' := by
  have HV := Hid.mk' hv
  have HKS := Hid.mk' hks
  obtain ⟨x, c, rfl⟩ := hv.form
  clear hv hks
  by_cases h0 : L.length = 0
  · have hL : L = [] := List.eq_nil_of_length_eq_zero h0
    subst hL
    go_enter Tryd.func9, Tryd.ntmps9
    go_wp2
    go_ret
    exact ⟨rfl, Below.refl _ _⟩
  · obtain ⟨N, hN⟩ : ∃ N, L.length = N := ⟨_, rfl⟩
    obtain ⟨i0, hi0, hz0, hz1, hz2⟩ := info_parts infoI
    rw [hN]
    have mk : ∀ W : World, (Instr.makeSlice 30 (.int .i64 (N : Int)) (.int .i64 (N : Int))).run Tryd.prog W = .ok (.slice (some ⟨W.heap.size, 0, none⟩) N N) (W.alloc (.cells (Array.replicate N (.int .i64 0)) 3)) := fun W => by
      have h := run_make (P := Tryd.prog) W 30 3 i0 (.int .i64 0) Tryd.underlying30 hi0 hz0 .i64 .i64 (N : Int) (N : Int) (by omega) (by omega) (by rw [hz2]; omega) (by omega)
      rw [made_ints, hz1] at h
      simpa using h
    have z0 : ((N : Int) == 0) = false := by simp; omega
    have HDN := Hid.mk' (DR.new w N)
    go_enter Tryd.func9, Tryd.ntmps9
    go_wp2_with fail
    go_loopw [16] (fun vi wr => ∃ i : Nat, vi = .int .i64 i ∧ i ≤ N ∧ Hid (DR w (dRow N (dAll (L.take i) []) 0) wr)) (fun vi _ => N - (intOf vi).toNat)
    case atStart => exact ⟨0, rfl, Nat.zero_le _, Hid.mk' (by rw [List.take_zero, dAll, dRow_start]; exact HDN.out)⟩
    case round =>
      clear HDN mk
      obtain ⟨i, rfl, hi, HD⟩ := hrel
      obtain ⟨ds, hds⟩ : ∃ ds, dAll (L.take i) [] = ds := ⟨_, rfl⟩
      rw [hds] at HD
      have hdl : ds.length = i := by rw [← hds, dAll_length]; simp; omega
      have hdr : ∀ d ∈ ds, 0 ≤ d ∧ d ≤ (i : Int) := by
        have := dAll_range (L.take i) [] 0 (by omega) (fun d hd => by cases hd)
        rw [hds] at this
        intro d hd
        have h2 := this d hd
        have h3 : (L.take i).length ≤ i := by simp; omega
        omega
      by_cases hlt : i < N
      · have zi : (i : Int) < (N : Int) := by omega
        obtain ⟨n, hnn⟩ : ∃ n, L[i] = n := ⟨_, rfl⟩
        have hnk : (n.kids.length : Int) * 8 ≤ 140737488351232 := by rw [← hnn]; exact HKS.out _ (List.getElem_mem (by omega))
        have HNX : Hid (dAll (L.take (i + 1)) [] = ds ++ [dMax ds 0 n.kids + 1]) := Hid.mk' (by
          rw [List.take_succ_eq_append_getElem (by omega), dAll_snoc, hds, hnn])
        rcases HV.out with ⟨a', c', e', h'⟩ | ⟨g, o, c', e', hlc, hg, hc⟩
        · rw [h'] at hN; simp at hN; omega
        simp only [Value.slice.injEq] at e'
        obtain ⟨rfl, _, rfl⟩ := e'
        obtain ⟨hr, hkd⟩ := hc i (by omega)
        rw [hnn] at hr hkd
        have HKD := Hid.mk' hkd
        have cc : ∀ j v, n.cells[j]? = some v → wr.cell? ⟨g, o + i * 6 + j, none⟩ = some v := fun j v hj => (HD.out.b.cell (p := ⟨g, o + i * 6 + j, none⟩) hg).trans (hr j v hj)
        have m0 := cc 0 _ rfl; have m1 := cc 1 _ rfl; have m2 := cc 2 _ rfl; have m3 := cc 3 _ rfl; have m4 := cc 4 _ rfl; have m5 := cc 5 _ rfl
        simp only [Nat.add_zero] at m0
        obtain ⟨nk, nt, ns, nn, kp, ks, kcap, pl⟩ := n
        dsimp only at m0 m1 m2 m3 m4 m5 HNX
        obtain ⟨kl, hkl⟩ : ∃ kl, ks.length = kl := ⟨_, rfl⟩
        rw [hkl] at m4
        dsimp only at hnk
        rw [hkl] at hnk
        have hst : ∀ (p : Addr) (x : Nat) (md : Mode) (W : World), (store p (.float .f64 x) md).run Tryd.prog W = stored Tryd.prog W p (.float .f64 x) md := fun p x md W => run_store Tryd.prog W p _ md rfl
        have HBX : Hid (DR w (dRow N ds 0) (wr.alloc (.cells #[.int .i64 nk, .string nt, .string ns, .float .f64 nn, .slice kp kl kcap, .int .i64 pl] 39))) := Hid.mk' (HD.out.grow ((Below.refl _ _).alloc (Nat.le_refl _) _))
        have HDS := Hid.mk' (And.intro hdl hdr)
        clear cc hr hc hnn hds hdr hkd hlc
        go_wp2_with fail
        go_loopw [24] (fun vj wr => ∃ (j : Nat) (m : Int), vj = .int .i64 j ∧ j ≤ kl ∧ Hid (m = dMax ds 0 (ks.take j)) ∧ Hid (DR w (dRow N ds m) wr)) (fun vj _ => kl - (intOf vj).toNat)
        case atStart => exact ⟨0, 0, rfl, Nat.zero_le _, Hid.mk' rfl, HBX⟩
        case round =>
          clear HBX m0 m1 m2 m3 m4 m5 hst
          obtain ⟨j, m, rfl, hj, HM, HD2⟩ := hrel
          have hrow := dRow_length N ds m (by omega)
          have cI := HD2.out.cell i (by omega)
          have fI := HD2.out.frozen i
          have eI : (dRow N ds m)[i]'(by omega) = m := by
            have := dRow_at N ds m (by omega)
            rw [hdl, List.getElem?_eq_getElem (by omega)] at this
            exact Option.some.inj this
          rw [eI] at cI
          have hmr : 0 ≤ m ∧ m ≤ (i : Int) := by
            rw [HM.out]; exact dMax_range ds i (by omega) HDS.out.2 _ 0 ⟨by omega, by omega⟩
          clear eI hrow
          by_cases hlt2 : j < kl
          · have zj : (j : Int) < (kl : Int) := by omega
            obtain ⟨kg, ko, hkp, hkg, hkc⟩ := HKD.out j (by dsimp only; omega)
            dsimp only at hkp hkc
            subst hkp
            obtain ⟨kk, hkk⟩ : ∃ kk, ks[j]'(by omega) = kk := ⟨_, rfl⟩
            rw [hkk] at hkc
            have ck := (HD2.out.b.cell (p := ⟨kg, ko + j, none⟩) hkg).trans hkc
            have HTK : Hid (dMax ds 0 (ks.take (j + 1)) = if 0 ≤ kk ∧ kk < (ds.length : Int) then max m (ds.getD kk.toNat 0) else m) := Hid.mk' (by
              rw [List.take_succ_eq_append_getElem (by omega), hkk, dMax_snoc, ← HM.out])
            have HA := Hid.mk' (fun W => ahead_any kk i W)
            clear hkc hkk
            by_cases hah : 0 ≤ kk ∧ kk < (i : Int)
            · rw [show decide (0 ≤ kk ∧ kk < (i : Int)) = true from by simp [hah]] at HA
              obtain ⟨ku, hku⟩ : ∃ ku : Nat, kk = (ku : Int) := ⟨kk.toNat, by omega⟩
              subst hku
              have hku2 : ku < ds.length := by omega
              have cK := HD2.out.cell ku (by have := dRow_length N ds m (by omega); omega)
              have eK : (dRow N ds m)[ku]'(by have := dRow_length N ds m (by omega); omega) = ds[ku] := by
                have := dRow_lt N ds m ku hku2
                rw [List.getElem?_eq_getElem (by have := dRow_length N ds m (by omega); omega)] at this
                exact Option.some.inj this
              rw [eK] at cK
              obtain ⟨dk, hdk⟩ : ∃ dk, ds[ku] = dk := ⟨_, rfl⟩
              rw [hdk] at cK
              have HTK2 : Hid (dMax ds 0 (ks.take (j + 1)) = if m < dk then dk else m) := Hid.mk' (by
                rw [show (if m < dk then dk else m) = max m dk from by by_cases h : m < dk <;> simp [h] <;> omega]
                rw [HTK.out, if_pos (by omega), Int.toNat_natCast, List.getD_eq_getElem?_getD, List.getElem?_eq_getElem hku2, hdk]; rfl)
              have zk : (ku : Int) < (N : Int) := by omega
              clear eK hdk HTK hah
              go_wp2_with (first | (go_at_call 20; refine (HA.out _).mono ?_; rintro e w5 ⟨rfl, hw5⟩; rw [hw5]; clear hw5 w5))
              go_region
              all_goals go_wp2
              all_goals go_roundw
              case rel =>
                refine ⟨j + 1, if m < dk then dk else m, by go_num, by omega, Hid.mk' HTK2.out.symm, Hid.mk' ?_⟩
                have := (HD2.out.set i (if m < dk then dk else m))
                rw [← hdl, dRow_set N ds m _ (by omega)] at this
                rw [hdl] at this
                exact this.grow ((Below.refl _ _).drew)
              case measure => simp [intOf]; omega
            · rw [show decide (0 ≤ kk ∧ kk < (i : Int)) = false from by simp [hah]] at HA
              have HTK2 : Hid (dMax ds 0 (ks.take (j + 1)) = m) := Hid.mk' (by rw [HTK.out, if_neg (by rw [hdl]; exact hah)])
              clear HTK hah
              go_wp2_with (first | (go_at_call 20; refine (HA.out _).mono ?_; rintro e w5 ⟨rfl, hw5⟩; rw [hw5]; clear hw5 w5))
              go_roundw
              case rel => exact ⟨j + 1, m, by go_num, by omega, Hid.mk' HTK2.out.symm, HD2⟩
              case measure => simp [intOf]; omega
          · obtain rfl : j = kl := by omega
            have zj : ¬ (j : Int) < (j : Int) := by omega
            have HMX : Hid (m = dMax ds 0 ks) := Hid.mk' (by rw [HM.out, List.take_of_length_le (by omega)])
            have x1 : wrap64 (m + 1) = m + 1 := by unfold wrap64; omega
            go_wp2_with fail
            go_roundw
            case rel =>
              refine ⟨i + 1, by go_num, by omega, Hid.mk' ?_⟩
              rw [HNX.out, ← HMX.out, ← dRow_next N ds _ (by omega)]
              have := (HD2.out.set i (m + 1))
              rw [← hdl, dRow_set N ds m _ (by omega)] at this
              rw [hdl] at this
              exact this
            case measure => simp [intOf]; omega
      · obtain rfl : i = N := by omega
        have zi : ¬ (i : Int) < (i : Int) := by omega
        have hLi : L.take i = L := List.take_of_length_le (by omega)
        rw [hLi] at hds
        have hne : 0 < ds.length := by omega
        have hDE : deepN L = ds[i - 1]'(by omega) := by
          unfold deepN
          rw [hds, List.getLastD_eq_getLast?, List.getLast?_eq_getElem?, show ds.length - 1 = i - 1 from by omega, List.getElem?_eq_getElem (by omega)]
          rfl
        have hrl := dRow_length i ds 0 (by omega)
        have cL := HD.out.cell (i - 1) (by omega)
        have eL : (dRow i ds 0)[i - 1]'(by omega) = deepN L := by
          have := dRow_lt i ds 0 (i - 1) (by omega)
          rw [List.getElem?_eq_getElem (by omega)] at this
          rw [hDE]
          exact Option.some.inj this
        rw [eL] at cL
        have z1 : (0 : Int) ≤ (i : Int) - 1 := by omega
        have z2 : (i : Int) - 1 < (i : Int) := by omega
        clear eL hDE hds hLi hrl
        go_wp2_with fail
        go_ret
        exact ⟨rfl, HD.out.b⟩
end Go.Proofs.YtkiofkppdpkboaaDoor
