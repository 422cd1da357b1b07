/- tree.Check's first region: the checker built, in whatever order. -/
import Derived.Test.YtkiofkppdpkboaaDoorTChk1
import Derived.Deep.Cut
namespace Go.Proofs.YtkiofkppdpkboaaDoor
set_option linter.unusedVariables false
open Go.RowKit

section
variable {ops : Array Oper} {o : Oper} {a : Act} {w W : World} {K : Act → World → Prop} {Q : Exit → Act → World → Prop} {E : Prop} {N : Nat}
theorem stepR {m b : Option Nat} (hg : o.guard = none) (hop : o.op = Op.call { callee := Callee.value (Operand.func 24), args := #[], argTypes := #[] }) (hP : Pt w none m b N W)
    (hK : ∀ rb v W', Hid (v = .agg (rowsC rb).toArray) → Pt w (some rb) m b N W' → K (a.put o.dst v) W') :
    if Region.wanted o (yielded ops a.tmps) = true then Oper.wp Tryd.prog o a W K Q else E :=
  tstep0 hg 24 hop (enters_of Tryd.func24 (by kernel_rfl) rfl) (rows_any _) (by
    rintro e w2 ⟨rfl, hR⟩
    exact ⟨_, rfl, hK _ _ _ (Hid.mk' rfl) (hP.rows hR)⟩)
theorem stepM {r b : Option Nat} (hN : N ≤ 100000) (hg : o.guard = none) (hop : o.op = Op.makeSlice 43 (.tmp 13) (.tmp 13)) (hx : a.eval (.tmp 13) = .int .i64 (N : Int)) (hP : Pt w r none b N W)
    (hK : ∀ tb W', Pt w r (some tb) b N W' → K (a.put o.dst (.slice (some ⟨tb, 0, none⟩) N N)) W') :
    if Region.wanted o (yielded ops a.tmps) = true then Oper.wp Tryd.prog o a W K Q else E :=
  step_make hg 43 (.tmp 13) (.tmp 13) hop _ _ _ hx hx (make_bools N hN _) (hK _ _ hP.make)
theorem stepA {r m : Option Nat} (hg : o.guard = none) (hop : o.op = Op.alloc 62) (hP : Pt w r m none N W)
    (hK : ∀ q W', Pt w r m (some q) N W' → K (a.put o.dst (.pointer (some ⟨q, 0, none⟩))) W') :
    if Region.wanted o (yielded ops a.tmps) = true then Oper.wp Tryd.prog o a W K Q else E :=
  step_alloc hg 62 hop _ (alloc_ck _) (hK _ _ hP.box)
theorem stepB {x : Option Addr} {c rb tb : Nat} {vr : Value} (hvr : Hid (vr = .agg (rowsC rb).toArray)) (hg : o.guard = none) (hop : o.op = Op.build 62 #[(0, .tmp 10), (1, .tmp 11), (2, .tmp 14)])
    (hx : a.eval (.tmp 10) = .slice x N c) (hy : a.eval (.tmp 11) = vr) (hz : a.eval (.tmp 14) = .slice (some ⟨tb, 0, none⟩) N N)
    (hK : ∀ v, Hid (v = .agg (ckC (.slice x N c) rb tb N 0).toArray) → K (a.put o.dst v) W) :
    if Region.wanted o (yielded ops a.tmps) = true then Oper.wp Tryd.prog o a W K Q else E :=
  step_build3 hg 62 0 1 2 (.tmp 10) (.tmp 11) (.tmp 14) hop _ _ _ _ hx (hy.trans hvr.out) hz (build_ck _ _ _ _ _ _ _) (hK _ (Hid.mk' rfl))
theorem stepS {x : Option Addr} {c rb tb q : Nat} {v : Value} (hv : Hid (v = .agg (ckC (.slice x N c) rb tb N 0).toArray)) (hg : o.guard = none) (hop : o.op = .store 62 (.tmp 4) (.tmp 15)) (hx : a.eval (.tmp 4) = .pointer (some ⟨q, 0, none⟩)) (hy : a.eval (.tmp 15) = v)
    (hP : Pt w (some rb) (some tb) (some q) N W)
    (hK : ∀ W', Ck w q tb rb (.slice x N c) (List.replicate N false) 0 W' → K (a.put o.dst undef) W') :
    if Region.wanted o (yielded ops a.tmps) = true then Oper.wp Tryd.prog o a W K Q else E :=
  step_store_mid hg 62 (.tmp 4) (.tmp 15) hop _ _ _ hx (hy.trans hv.out) (by rw [List.size_toArray, ckC_len]; exact hP.there) (by rw [List.size_toArray, ckC_len]; exact infoCk) (by rw [List.all_toArray]; exact ckC_one ..) (hK _ (hP.ck _))
end

set_option maxHeartbeats 4000000 in
set_option maxRecDepth 100000 in
theorem check_all (L : List Nd) (F : Nat → Bool) (hlen : L.length ≤ 100000) (hks : ∀ n ∈ L, (n.kids.length : Int) * 8 ≤ 140737488351232) (x : Option Addr) (c : Nat) (w : World) (hv : RdN w (.slice x L.length c) L)
    (hfit : ∀ i (hi : i < L.length), (∀ j, j ≤ i → ∀ k ∈ kidsAt L j, 0 ≤ k ∧ k < (j : Int)) → (∀ j, j < i → F j = true) → ∀ q tb rb T cnt W, Ck w q tb rb (.slice x L.length c) T cnt W → T.length = L.length → Calls Tryd.prog 26 #[.pointer (some ⟨q, 0, none⟩), L[i].val] W fun e w' => e = .returned (.bool (F i)) ∧ Below W.heap.size W w') :
    Calls Tryd.prog 13 #[.slice x L.length c] w fun e w' => e = .returned (.tuple #[.int .i64 (chkN L F L.length (List.replicate L.length false) 0).1, .int .i64 (chkN L F L.length (List.replicate L.length false) 0).2]) ∧ Below w.heap.size w w' := by
  have HV := Hid.mk' hv
  have HF := Hid.mk' hfit
  have HKS := Hid.mk' hks
  obtain ⟨R, hR⟩ : ∃ R, chkN L F L.length (List.replicate L.length false) 0 = R := ⟨_, rfl⟩
  rw [hR]
  have HR := Hid.mk' hR
  have HN : Hid (∃ N, L.length = N) := Hid.mk' ⟨_, rfl⟩
  obtain ⟨N, hN⟩ := HN.out
  have HLN := Hid.mk' hN
  rw [hN] at hlen HV HR ⊢
  have hN := hlen
  have HX : Hid (0 < N → ∃ g o, x = some ⟨g, o, none⟩ ∧ g < w.heap.size ∧ ∀ j (h : j < L.length), w.rangeAt g (o + j * 6) L[j].cells) := Hid.mk' (fun h0 => by
    rcases HV.out with ⟨a', c', e', h'⟩ | ⟨g, o, c', e', hlc, hg, hcc⟩
    · rw [h'] at HLN; have := HLN.out; simp at this; omega
    · exact ⟨g, o, by injection e', hg, fun j h => (hcc j h).1⟩)
  clear hv hfit hks hR HN hlen
  have z1 : ¬ (100000 : Int) < (N : Int) := by omega
  go_enter Tryd.func13, Tryd.ntmps13
  go_wp2_with fail
  have P0 := Pt.start w N
  go_cut [4] from 7 (fun v4 wc => ∃ q tb rb, v4 = .pointer (some ⟨q, 0, none⟩) ∧ Hid (Ck w q tb rb (.slice x N c) (List.replicate N false) 0 wc))
  case first =>
    refine wp_region_any (by kernel_rfl) ?_
    change wpAny _ _ _ _ _ _ _ (World.drew _)
    refine wpAny_take (i := 0) (v := .slice x N c) rfl (by kernel_rfl) (by kernel_rfl) (by kernel_rfl) (fun _ _ _ h => h) (Or.inl ⟨by rfl, by intro w; go_simp⟩) ?_
    refine wpAny_take (i := 2) (v := .slice x N c) rfl (by kernel_rfl) (by kernel_rfl) (by kernel_rfl) (fun _ _ _ h => h) (Or.inl ⟨by rfl, by intro w; go_simp⟩) ?_
    refine wpAny_take (i := 3) (v := .int .i64 N) rfl (by kernel_rfl) (by kernel_rfl) (by kernel_rfl) (fun _ _ _ h => h) (Or.inl ⟨by rfl, by intro w; go_simp⟩) ?_
    refine wpAny_ready (rs := [1, 4, 6]) (by kernel_rfl) (by simp) ?_
    refine AllReady.cons rfl (fun K hK => ?_) ?_
    · refine stepR rfl rfl P0 (fun rb vr W hvr P0 => ?_); go_simp; refine hK _ _ ?_; clear hK K
      refine wpAny_ready (rs := [4, 6]) (by kernel_rfl) (by simp) ?_
      refine AllReady.cons rfl (fun K hK => ?_) ?_
      · refine stepM hN rfl rfl (by kernel_rfl) P0 (fun tb W P0 => ?_); go_simp; refine hK _ _ ?_; clear hK K
        refine wpAny_ready (rs := [5, 6]) (by kernel_rfl) (by simp) ?_
        refine AllReady.cons rfl (fun K hK => ?_) ?_
        · refine stepB (x := x) (c := c) (rb := rb) (tb := tb) (N := N) hvr rfl rfl (by kernel_rfl) (by kernel_rfl) (by kernel_rfl) (fun vc hvc => ?_); go_simp; refine hK _ _ ?_; clear hK K
          refine wpAny_ready (rs := [6]) (by kernel_rfl) (by simp) ?_
          refine AllReady.cons rfl (fun K hK => ?_) ?_
          · refine stepA rfl rfl P0 (fun q W P0 => ?_); go_simp; refine hK _ _ ?_; clear hK K
            refine wpAny_ready (rs := [7]) (by kernel_rfl) (by simp) ?_
            refine AllReady.cons rfl (fun K hK => ?_) ?_
            · refine stepS (x := x) (c := c) hvc rfl rfl (by kernel_rfl) (by kernel_rfl) P0 (fun W hC => ?_); go_simp; refine hK _ _ ?_; clear hK K
              refine wpAny_done (by kernel_rfl) ?_ _
              go_wp2
              go_meet
              case rel => exact ⟨_, _, _, rfl, hC⟩
            exact AllReady.nil
          exact AllReady.nil
        refine AllReady.cons rfl (fun K hK => ?_) ?_
        · refine stepA rfl rfl P0 (fun q W P0 => ?_); go_simp; refine hK _ _ ?_; clear hK K
          refine wpAny_ready (rs := [5]) (by kernel_rfl) (by simp) ?_
          refine AllReady.cons rfl (fun K hK => ?_) ?_
          · refine stepB (x := x) (c := c) (rb := rb) (tb := tb) (N := N) hvr rfl rfl (by kernel_rfl) (by kernel_rfl) (by kernel_rfl) (fun vc hvc => ?_); go_simp; refine hK _ _ ?_; clear hK K
            refine wpAny_ready (rs := [7]) (by kernel_rfl) (by simp) ?_
            refine AllReady.cons rfl (fun K hK => ?_) ?_
            · refine stepS (x := x) (c := c) hvc rfl rfl (by kernel_rfl) (by kernel_rfl) P0 (fun W hC => ?_); go_simp; refine hK _ _ ?_; clear hK K
              refine wpAny_done (by kernel_rfl) ?_ _
              go_wp2
              go_meet
              case rel => exact ⟨_, _, _, rfl, hC⟩
            exact AllReady.nil
          exact AllReady.nil
        exact AllReady.nil
      refine AllReady.cons rfl (fun K hK => ?_) ?_
      · refine stepA rfl rfl P0 (fun q W P0 => ?_); go_simp; refine hK _ _ ?_; clear hK K
        refine wpAny_ready (rs := [4]) (by kernel_rfl) (by simp) ?_
        refine AllReady.cons rfl (fun K hK => ?_) ?_
        · refine stepM hN rfl rfl (by kernel_rfl) P0 (fun tb W P0 => ?_); go_simp; refine hK _ _ ?_; clear hK K
          refine wpAny_ready (rs := [5]) (by kernel_rfl) (by simp) ?_
          refine AllReady.cons rfl (fun K hK => ?_) ?_
          · refine stepB (x := x) (c := c) (rb := rb) (tb := tb) (N := N) hvr rfl rfl (by kernel_rfl) (by kernel_rfl) (by kernel_rfl) (fun vc hvc => ?_); go_simp; refine hK _ _ ?_; clear hK K
            refine wpAny_ready (rs := [7]) (by kernel_rfl) (by simp) ?_
            refine AllReady.cons rfl (fun K hK => ?_) ?_
            · refine stepS (x := x) (c := c) hvc rfl rfl (by kernel_rfl) (by kernel_rfl) P0 (fun W hC => ?_); go_simp; refine hK _ _ ?_; clear hK K
              refine wpAny_done (by kernel_rfl) ?_ _
              go_wp2
              go_meet
              case rel => exact ⟨_, _, _, rfl, hC⟩
            exact AllReady.nil
          exact AllReady.nil
        exact AllReady.nil
      exact AllReady.nil
    refine AllReady.cons rfl (fun K hK => ?_) ?_
    · refine stepM hN rfl rfl (by kernel_rfl) P0 (fun tb W P0 => ?_); go_simp; refine hK _ _ ?_; clear hK K
      refine wpAny_ready (rs := [1, 6]) (by kernel_rfl) (by simp) ?_
      refine AllReady.cons rfl (fun K hK => ?_) ?_
      · refine stepR rfl rfl P0 (fun rb vr W hvr P0 => ?_); go_simp; refine hK _ _ ?_; clear hK K
        refine wpAny_ready (rs := [5, 6]) (by kernel_rfl) (by simp) ?_
        refine AllReady.cons rfl (fun K hK => ?_) ?_
        · refine stepB (x := x) (c := c) (rb := rb) (tb := tb) (N := N) hvr rfl rfl (by kernel_rfl) (by kernel_rfl) (by kernel_rfl) (fun vc hvc => ?_); go_simp; refine hK _ _ ?_; clear hK K
          refine wpAny_ready (rs := [6]) (by kernel_rfl) (by simp) ?_
          refine AllReady.cons rfl (fun K hK => ?_) ?_
          · refine stepA rfl rfl P0 (fun q W P0 => ?_); go_simp; refine hK _ _ ?_; clear hK K
            refine wpAny_ready (rs := [7]) (by kernel_rfl) (by simp) ?_
            refine AllReady.cons rfl (fun K hK => ?_) ?_
            · refine stepS (x := x) (c := c) hvc rfl rfl (by kernel_rfl) (by kernel_rfl) P0 (fun W hC => ?_); go_simp; refine hK _ _ ?_; clear hK K
              refine wpAny_done (by kernel_rfl) ?_ _
              go_wp2
              go_meet
              case rel => exact ⟨_, _, _, rfl, hC⟩
            exact AllReady.nil
          exact AllReady.nil
        refine AllReady.cons rfl (fun K hK => ?_) ?_
        · refine stepA rfl rfl P0 (fun q W P0 => ?_); go_simp; refine hK _ _ ?_; clear hK K
          refine wpAny_ready (rs := [5]) (by kernel_rfl) (by simp) ?_
          refine AllReady.cons rfl (fun K hK => ?_) ?_
          · refine stepB (x := x) (c := c) (rb := rb) (tb := tb) (N := N) hvr rfl rfl (by kernel_rfl) (by kernel_rfl) (by kernel_rfl) (fun vc hvc => ?_); go_simp; refine hK _ _ ?_; clear hK K
            refine wpAny_ready (rs := [7]) (by kernel_rfl) (by simp) ?_
            refine AllReady.cons rfl (fun K hK => ?_) ?_
            · refine stepS (x := x) (c := c) hvc rfl rfl (by kernel_rfl) (by kernel_rfl) P0 (fun W hC => ?_); go_simp; refine hK _ _ ?_; clear hK K
              refine wpAny_done (by kernel_rfl) ?_ _
              go_wp2
              go_meet
              case rel => exact ⟨_, _, _, rfl, hC⟩
            exact AllReady.nil
          exact AllReady.nil
        exact AllReady.nil
      refine AllReady.cons rfl (fun K hK => ?_) ?_
      · refine stepA rfl rfl P0 (fun q W P0 => ?_); go_simp; refine hK _ _ ?_; clear hK K
        refine wpAny_ready (rs := [1]) (by kernel_rfl) (by simp) ?_
        refine AllReady.cons rfl (fun K hK => ?_) ?_
        · refine stepR rfl rfl P0 (fun rb vr W hvr P0 => ?_); go_simp; refine hK _ _ ?_; clear hK K
          refine wpAny_ready (rs := [5]) (by kernel_rfl) (by simp) ?_
          refine AllReady.cons rfl (fun K hK => ?_) ?_
          · refine stepB (x := x) (c := c) (rb := rb) (tb := tb) (N := N) hvr rfl rfl (by kernel_rfl) (by kernel_rfl) (by kernel_rfl) (fun vc hvc => ?_); go_simp; refine hK _ _ ?_; clear hK K
            refine wpAny_ready (rs := [7]) (by kernel_rfl) (by simp) ?_
            refine AllReady.cons rfl (fun K hK => ?_) ?_
            · refine stepS (x := x) (c := c) hvc rfl rfl (by kernel_rfl) (by kernel_rfl) P0 (fun W hC => ?_); go_simp; refine hK _ _ ?_; clear hK K
              refine wpAny_done (by kernel_rfl) ?_ _
              go_wp2
              go_meet
              case rel => exact ⟨_, _, _, rfl, hC⟩
            exact AllReady.nil
          exact AllReady.nil
        exact AllReady.nil
      exact AllReady.nil
    refine AllReady.cons rfl (fun K hK => ?_) ?_
    · refine stepA rfl rfl P0 (fun q W P0 => ?_); go_simp; refine hK _ _ ?_; clear hK K
      refine wpAny_ready (rs := [1, 4]) (by kernel_rfl) (by simp) ?_
      refine AllReady.cons rfl (fun K hK => ?_) ?_
      · refine stepR rfl rfl P0 (fun rb vr W hvr P0 => ?_); go_simp; refine hK _ _ ?_; clear hK K
        refine wpAny_ready (rs := [4]) (by kernel_rfl) (by simp) ?_
        refine AllReady.cons rfl (fun K hK => ?_) ?_
        · refine stepM hN rfl rfl (by kernel_rfl) P0 (fun tb W P0 => ?_); go_simp; refine hK _ _ ?_; clear hK K
          refine wpAny_ready (rs := [5]) (by kernel_rfl) (by simp) ?_
          refine AllReady.cons rfl (fun K hK => ?_) ?_
          · refine stepB (x := x) (c := c) (rb := rb) (tb := tb) (N := N) hvr rfl rfl (by kernel_rfl) (by kernel_rfl) (by kernel_rfl) (fun vc hvc => ?_); go_simp; refine hK _ _ ?_; clear hK K
            refine wpAny_ready (rs := [7]) (by kernel_rfl) (by simp) ?_
            refine AllReady.cons rfl (fun K hK => ?_) ?_
            · refine stepS (x := x) (c := c) hvc rfl rfl (by kernel_rfl) (by kernel_rfl) P0 (fun W hC => ?_); go_simp; refine hK _ _ ?_; clear hK K
              refine wpAny_done (by kernel_rfl) ?_ _
              go_wp2
              go_meet
              case rel => exact ⟨_, _, _, rfl, hC⟩
            exact AllReady.nil
          exact AllReady.nil
        exact AllReady.nil
      refine AllReady.cons rfl (fun K hK => ?_) ?_
      · refine stepM hN rfl rfl (by kernel_rfl) P0 (fun tb W P0 => ?_); go_simp; refine hK _ _ ?_; clear hK K
        refine wpAny_ready (rs := [1]) (by kernel_rfl) (by simp) ?_
        refine AllReady.cons rfl (fun K hK => ?_) ?_
        · refine stepR rfl rfl P0 (fun rb vr W hvr P0 => ?_); go_simp; refine hK _ _ ?_; clear hK K
          refine wpAny_ready (rs := [5]) (by kernel_rfl) (by simp) ?_
          refine AllReady.cons rfl (fun K hK => ?_) ?_
          · refine stepB (x := x) (c := c) (rb := rb) (tb := tb) (N := N) hvr rfl rfl (by kernel_rfl) (by kernel_rfl) (by kernel_rfl) (fun vc hvc => ?_); go_simp; refine hK _ _ ?_; clear hK K
            refine wpAny_ready (rs := [7]) (by kernel_rfl) (by simp) ?_
            refine AllReady.cons rfl (fun K hK => ?_) ?_
            · refine stepS (x := x) (c := c) hvc rfl rfl (by kernel_rfl) (by kernel_rfl) P0 (fun W hC => ?_); go_simp; refine hK _ _ ?_; clear hK K
              refine wpAny_done (by kernel_rfl) ?_ _
              go_wp2
              go_meet
              case rel => exact ⟨_, _, _, rfl, hC⟩
            exact AllReady.nil
          exact AllReady.nil
        exact AllReady.nil
      exact AllReady.nil
    exact AllReady.nil
  case rest =>
    obtain ⟨q, tb, rb, rfl, HC⟩ := hcut
    clear P0
    go_wp2_with fail
    go_loopw [18] (fun vj wr => ∃ (i : Nat) (T : List Bool) (cnt : Int), vj = .int .i64 i ∧ i ≤ N ∧ T.length = N ∧ Hid (cnt = (T.count true : Int)) ∧ Hid (Ck w q tb rb (.slice x N c) T cnt wr) ∧ Hid (chkN L F (N - i) T cnt = R) ∧ Hid (∀ j, j < i → ∀ k ∈ kidsAt L j, 0 ≤ k ∧ k < (j : Int)) ∧ Hid (∀ j, j < i → F j = true)) (fun i _ => N - (intOf i).toNat)
    case atStart => exact ⟨0, List.replicate N false, 0, rfl, Nat.zero_le _, List.length_replicate, Hid.mk' (by simp [List.count_replicate]), HC, HR, Hid.mk' (fun j h => absurd h (by omega)), Hid.mk' (fun j h => absurd h (by omega))⟩
    case round =>
      clear HC HR
      obtain ⟨i, T, cnt, rfl, hi, hT, HCT, HC, HR, HK, HFJ⟩ := hrel
      by_cases hlt : i < N
      · have zi : (i : Int) < (N : Int) := by omega
        have hiL : i < L.length := by rw [HLN.out]; exact hlt
        obtain ⟨g, o, rfl, hg, hcc⟩ := HX.out (by omega)
        have hr := hcc i hiL
        obtain ⟨tk, htk⟩ : ∃ tk, takeN (i : Int) (kidsAt L i) T cnt = tk := ⟨_, rfl⟩
        obtain ⟨ok, T', c'⟩ := tk
        have hc0 : 0 ≤ cnt ∧ cnt ≤ 4611686018427387904 := by
          have a := HCT.out
          have b := List.count_le_length (a := true) (l := T)
          omega
        have hT2 : T'.length = N := by
          have := takeN_length (i : Int) (kidsAt L i) T cnt
          rw [htk] at this
          exact this.trans hT
        have HCT2 : Hid (c' = (T'.count true : Int)) := Hid.mk' (by
          have := takeN_count (i : Int) (kidsAt L i) T cnt (by omega) HCT.out
          rw [htk] at this
          exact this)
        have HTK : Hid (Calls Tryd.prog 25 #[.pointer (some ⟨q, 0, none⟩), .int .i64 i] wr fun e w' => e = .returned (.bool ok) ∧ Ck w q tb rb (.slice (some ⟨g, o, none⟩) N c) T' c' w') := Hid.mk' (by
          have a := take_any L (by rw [HLN.out]; omega) HKS.out (some ⟨g, o, none⟩) c q tb rb T cnt w wr i hiL (by rw [HLN.out]; exact HV.out) (by rw [HLN.out]; exact HC.out) (by rw [HLN.out]; exact hT) hc0
          rw [← kidsAt_eq hiL, htk, HLN.out] at a
          exact a)
        have HR2 : Hid ((if ok && F i then chkN L F (N - (i + 1)) T' c' else ((i : Int), 60)) = R) := Hid.mk' (by rw [← chkN_step L F i N HLN.out hlt T cnt ok T' c' htk]; exact HR.out)
        cases ok
        · have HR3 : Hid (((i : Int), (60 : Int)) = R) := Hid.mk' (by have := HR2.out; simpa using this)
          clear HR2 HR HCT HCT2 hr hcc htk
          go_wp2_with fail
          refine HTK.out.mono ?_
          rintro e w2 ⟨rfl, HC2⟩
          go_wp2
          go_ret2
          rw [← HR3.out]
          exact ⟨rfl, HC2.b⟩
        · have HK2 : Hid (∀ j, j < i + 1 → ∀ k ∈ kidsAt L j, 0 ≤ k ∧ k < (j : Int)) := Hid.mk' (fun j hj k hk => by
            by_cases hji : j = i
            · subst hji
              exact takeN_ahead (j : Int) (kidsAt L j) T cnt (by rw [htk]) k hk
            · exact HK.out j (by omega) k hk)
          have HFT : Hid (∀ W, Ck w q tb rb (.slice (some ⟨g, o, none⟩) N c) T' c' W → Calls Tryd.prog 26 #[.pointer (some ⟨q, 0, none⟩), L[i].val] W fun e w' => e = .returned (.bool (F i)) ∧ Ck w q tb rb (.slice (some ⟨g, o, none⟩) N c) T' c' w') := Hid.mk' (fun W hW =>
            (HF.out i hiL (fun j hj => HK2.out j (by omega)) HFJ.out q tb rb T' c' W (by rw [HLN.out]; exact hW) (by rw [HLN.out]; exact hT2)).mono (fun e w' h => ⟨h.1, hW.grow h.2⟩))
          obtain ⟨nd, hnd⟩ : ∃ nd, L[i] = nd := ⟨_, rfl⟩
          rw [hnd] at hr HFT
          obtain ⟨nk, nt, ns, nn, kp, ks, kcap, pl⟩ := nd
          dsimp only [Nd.val] at HFT
          dsimp only [Nd.cells] at hr
          obtain ⟨kl, hkl⟩ : ∃ kl, ks.length = kl := ⟨_, rfl⟩
          rw [hkl] at hr HFT
          have HRG := Hid.mk' hr
          obtain ⟨fi, hfi⟩ : ∃ fi, F i = fi := ⟨_, rfl⟩
          rw [hfi] at HFT HR2
          have HFJ2 : Hid (fi = true → ∀ j, j < i + 1 → F j = true) := Hid.mk' (fun hf j hj => by
            by_cases hji : j = i
            · subst hji; rw [hfi, hf]
            · exact HFJ.out j (by omega))
          have HCT3 := Hid.mk' HCT
          clear hr hcc htk hnd hkl hfi HR HCT HFJ HK HCT3
          go_wp2_with fail
          refine HTK.out.mono ?_
          rintro e w2 ⟨rfl, HC2⟩
          have m0 := (HC2.b.cell (p := ⟨g, o + i * 6, none⟩) hg).trans (HRG.out 0 _ rfl)
          have m1 := (HC2.b.cell (p := ⟨g, o + i * 6 + 1, none⟩) hg).trans (HRG.out 1 _ rfl)
          have m2 := (HC2.b.cell (p := ⟨g, o + i * 6 + 2, none⟩) hg).trans (HRG.out 2 _ rfl)
          have m3 := (HC2.b.cell (p := ⟨g, o + i * 6 + 3, none⟩) hg).trans (HRG.out 3 _ rfl)
          have m4 := (HC2.b.cell (p := ⟨g, o + i * 6 + 4, none⟩) hg).trans (HRG.out 4 _ rfl)
          have m5 := (HC2.b.cell (p := ⟨g, o + i * 6 + 5, none⟩) hg).trans (HRG.out 5 _ rfl)
          go_wp2_with fail
          refine (HFT.out _ HC2).mono ?_
          rintro e w3 ⟨rfl, HC3⟩
          have HC3' := Hid.mk' HC3
          clear HC2 HC3
          cases fi
          · have HR3 : Hid (((i : Int), (60 : Int)) = R) := Hid.mk' (by have := HR2.out; simpa using this)
            go_wp2
            go_ret2
            rw [← HR3.out]
            exact ⟨rfl, HC3'.out.b⟩
          · go_wp2
            go_roundw
            case rel => exact ⟨i + 1, T', c', by go_num, by omega, hT2, HCT2, HC3', Hid.mk' (by have := HR2.out; simpa using this), HK2, Hid.mk' (by first | exact HFJ2.out rfl | exact HFJ2.out trivial)⟩
            case measure => simp [intOf]; omega
      · obtain rfl : i = N := by omega
        have zi : ¬ (i : Int) < (i : Int) := by omega
        have HE : Hid (chkEnd L cnt = R) := Hid.mk' (by have := HR.out; rw [Nat.sub_self, chkN] at this; exact this)
        have hN1 := HLN.out
        clear HR HK HFJ HCT
        have e230 := HC.out.cell 230 _ (ckC_n _ _ _ _ _)
        have ql := HC.out.ql
        by_cases h0 : i = 0
        · subst h0
          have HE2 : Hid (((0 : Int), (60 : Int)) = R) := Hid.mk' (by rw [← HE.out]; unfold chkEnd; rw [hN1, if_pos (.inl (by decide))]; rfl)
          clear HE
          go_wp2
          go_ret2
          rw [← HE2.out]
          exact ⟨rfl, HC.out.b⟩
        · obtain ⟨M, hM⟩ : ∃ M, i = M + 1 := ⟨i - 1, by omega⟩
          obtain ⟨g, o, rfl, hg, hcc⟩ := HX.out (by omega)
          have hr := hcc M (by omega)
          have hkl := kindLast_eq (hN1.trans hM) (by omega)
          obtain ⟨kd, hkd⟩ : ∃ kd, (L[M]'(by omega)).kind = kd := ⟨_, rfl⟩
          obtain ⟨z, hz⟩ : ∃ z : Int, z = (M : Int) := ⟨_, rfl⟩
          have m0 := (HC.out.b.cell (p := ⟨g, o + M * 6, none⟩) hg).trans (hr 0 _ rfl)
          rw [hkd] at m0 hkl
          rw [show M = z.toNat by omega] at m0
          have x1 : wrap64 ((i : Int) - 1) = z := by unfold wrap64; omega
          have zM : ¬ z < 0 := by omega
          have zM2 : z < (i : Int) := by omega
          have HD := Hid.mk' (deep_any L (by rw [hN1]; omega) HKS.out (.slice (some ⟨g, o, none⟩) i c) wr (HV.out.below HC.out.b))
          obtain ⟨dp, hdp⟩ : ∃ dp, deepN L = dp := ⟨_, rfl⟩
          have hE := chkEnd_big L M kd cnt dp (hN1.trans hM) hkl hdp
          rw [HE.out, ← hz] at hE
          have HE2 := Hid.mk' hE
          rw [hdp] at HD
          have HB := Hid.mk' HC.out.b
          clear HE hE hr hcc hkl hkd hdp hz z1 hi hlt HX HF HKS HV hM h0 hN1 HLN hT hN
          by_cases hk : kd = 55
          · subst hk
            by_cases hc : cnt = z
            · subst hc
              have HE3 : Hid (R = (if 200 < dp then ((0 : Int), (61 : Int)) else (0, 0))) := Hid.mk' (HE2.out.trans (if_pos ⟨rfl, rfl⟩))
              clear HE2
              go_wp2_with fail
              refine HD.out.mono ?_
              rintro e w3 ⟨rfl, b3⟩
              have B3 : Below w.heap.size w w3 := HB.out.trans (b3.mono HB.out.size)
              by_cases hd : (200 : Int) < dp
              · have HE4 : Hid (R = ((0 : Int), (61 : Int))) := Hid.mk' (HE3.out.trans (if_pos hd))
                clear HE3
                go_wp2
                go_ret2
                rw [HE4.out]
                exact ⟨rfl, B3⟩
              · have HE4 : Hid (R = ((0 : Int), (0 : Int))) := Hid.mk' (HE3.out.trans (if_neg hd))
                clear HE3 zM zM2 x1 zi m0 e230 ql
                go_wp2
                go_ret2
                rw [HE4.out]
                exact ⟨rfl, B3⟩
            · have HE3 : Hid (R = (z, (60 : Int))) := Hid.mk' (HE2.out.trans (if_neg (fun h => hc h.2)))
              clear HE2 HD
              go_wp2
              go_ret2
              rw [HE3.out]
              exact ⟨rfl, HB.out⟩
          · have HE3 : Hid (R = (z, (60 : Int))) := Hid.mk' (HE2.out.trans (if_neg (fun h => hk h.1)))
            clear HE2 HD
            go_wp2
            go_ret2
            rw [HE3.out]
            exact ⟨rfl, HB.out⟩
end Go.Proofs.YtkiofkppdpkboaaDoor
