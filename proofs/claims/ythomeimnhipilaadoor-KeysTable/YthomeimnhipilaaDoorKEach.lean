/- slices.All over a row of texts; keys.Table's Each: one iterator over another. -/
import Derived.Test.YthomeimnhipilaaDoorKRng
import Derived.Test.YthomeimnhipilaaDoorKTel
import Derived.Shelf.RegionOpen
namespace Go.Proofs.YthomeimnhipilaaDoor
set_option linter.unusedVariables false
open Go.RowKit Go.Shelf Go.Maps
attribute [local go_sem] Oper.semAt_some

/-- A row of texts that a loop reads between its rounds. -/
def RowT (W : World) (Bk : Nat) (x : Option Addr) (c : Nat) (ts : List ByteArray) : Prop :=
  ∀ (k : Nat) (h : k < ts.length), ∃ g cur, x = some ⟨g, 0, none⟩ ∧ g ≠ Bk ∧ W.heap[g]? = some (.cells cur 23 (0, 0)) ∧ cur[k]? = some (.string ts[k]) ∧ ts.length ≤ c
theorem RowT.keep {W W' : World} {Bk : Nat} {x : Option Addr} {c : Nat} {ts : List ByteArray} (h : RowT W Bk x c ts) (hk : KN Bk W W') : RowT W' Bk x c ts := fun k hl => by
  obtain ⟨g, cur, h1, h2, h3, h4⟩ := h k hl
  exact ⟨g, cur, h1, h2, hk.same g _ h2 h3, h4⟩
theorem RowT.at {W : World} {Bk : Nat} {x : Option Addr} {c : Nat} {ts : List ByteArray} (h : RowT W Bk x c ts) (k : Nat) (hl : k < ts.length) : ∃ g, x = some ⟨g, 0, none⟩ ∧ W.cell? ⟨g, k, none⟩ = some (.string ts[k]) ∧ ts.length ≤ c := by
  obtain ⟨g, cur, h1, h2, h3, h4, h5⟩ := h k hl
  exact ⟨g, h1, by rw [cell_of_row _ g k _ _ _ h3]; exact h4, h5⟩
theorem RowT.own {W : World} {B Bk : Nat} {x : Option Addr} {c : Nat} {ts : List ByteArray} (h : W.ownsRow B 23 1 (.slice x ts.length c) ts.length (sC ts)) (hne : (Value.slice x ts.length c).ownBlock ≠ some Bk) : RowT W Bk x c ts := fun k hl => by
  rcases h.2 with ⟨_, h0⟩ | ⟨g, cap, cur, e, _, hg, hn, _, hs, ht⟩
  · omega
  · simp at e
    obtain ⟨rfl, rfl⟩ := e
    refine ⟨g, cur, rfl, fun e => hne (by rw [e]; rfl), hg, ?_, hn⟩
    have := congrArg (·[k]?) ht
    simp [sC, hl] at this
    exact this

/-- A number and a text that a round is handed. -/
abbrev NS := { x : Nat × ByteArray // (x.2.size : Int) ≤ 140737488351232 }
def encS (x : NS) : Array Value := #[.int .i64 x.1.1, .string x.1.2]
def evN (x : NS) : NS := ⟨(x.1.1, evenS x.1.2), by have := x.2; show ((evenS x.1.2).size : Int) ≤ _; rw [even_size']; omega⟩
/-- The first k texts with their numbers. -/
def prs (ts : List ByteArray) (hz : ∀ t ∈ ts, (t.size : Int) ≤ 140737488351232) (k : Nat) : List NS := (ts.attach.zipIdx.take k).map fun p => ⟨(p.2, p.1.1), hz _ p.1.2⟩
theorem prs_length (ts : List ByteArray) (hz : ∀ t ∈ ts, (t.size : Int) ≤ 140737488351232) (k : Nat) (hk : k ≤ ts.length) : (prs ts hz k).length = k := by simp [prs]; omega
theorem prs_succ (ts : List ByteArray) (hz : ∀ t ∈ ts, (t.size : Int) ≤ 140737488351232) (k : Nat) (hk : k < ts.length) : prs ts hz (k + 1) = prs ts hz k ++ [⟨(k, ts[k]), hz _ (List.getElem_mem hk)⟩] := by
  have h : k < ts.attach.zipIdx.length := by simpa using hk
  unfold prs
  rw [List.take_succ_eq_append_getElem h, List.map_append]
  simp
theorem prs_prefix (ts : List ByteArray) (hz : ∀ t ∈ ts, (t.size : Int) ≤ 140737488351232) (k n : Nat) (hk : k ≤ n) : prs ts hz k <+: prs ts hz n := by
  unfold prs
  rw [show ts.attach.zipIdx.take k = (ts.attach.zipIdx.take n).take k by rw [List.take_take, Nat.min_eq_left hk]]
  exact (List.take_prefix _ _).map _

set_option maxRecDepth 100000 in
set_option maxHeartbeats 1000000 in
theorem all1_in (n : Nat) (hn : 1 ≤ n) (l Ba Bk m : Nat) (x : Option Addr) (c : Nat) (ts : List ByteArray) (hts : (ts.length : Int) ≤ 140737488351232) (hz : ∀ t ∈ ts, (t.size : Int) ≤ 140737488351232) (J Jx : List NS → World → Prop)
    (hY : ∀ pre x W1, J pre W1 → pre.length < ts.length → YieldAt Fence.wide (n - 1) Tryd.prog l (encS x) W1 fun e W' =>
      (e = .returned (.bool true) ∧ J (pre ++ [x]) W' ∧ KN Bk W1 W') ∨ (e = .returned (.bool false) ∧ Jx (pre ++ [x]) W' ∧ KF m W1 W'))
    (W : World) (hB : Boxed W Ba 33 (.slice x ts.length c)) (hr : RowT W Bk x c ts) (h0 : J [] W) :
    CallsIn Fence.wide n Tryd.prog 51 #[.func (.yield l) #[] #[], .pointer (some ⟨Ba, 0, none⟩)] W fun e W' => (∃ v, e = .returned v) ∧
      ((∃ ys, ys = prs ts hz ts.length ∧ J ys W') ∨ (∃ pre, pre <+: prs ts hz ts.length ∧ Jx pre W')) := by
  have hc := hB.cell
  refine callsIn_of_wp Tryd.func51 rfl trivial ?_ rfl
  simp only [Tryd.ntmps51, List.size_toArray, List.length_cons, List.length_nil, Nat.reduceAdd, Nat.reduceSub, Array.replicate_succ, Array.replicate_zero, List.push_toArray, List.append_toArray, List.nil_append, List.cons_append]
  gi_wp2
  gi_loopw [7] (fun v wr => ∃ (k : Nat), v = .int .i64 k ∧ k ≤ ts.length ∧ RowT wr Bk x c ts ∧ J (prs ts hz k) wr) (fun v _ => ts.length - (intOf v).toNat)
  case atStart => exact ⟨0, rfl, Nat.zero_le _, hr, h0⟩
  case round =>
    obtain ⟨k, rfl, hk, hrow, hJs⟩ := hrel
    clear hc
    by_cases hlt : k < ts.length
    · obtain ⟨g, rfl, hcell, hcl⟩ := hrow.at k hlt
      obtain ⟨fn, tmps, assign, body, hy, hR⟩ := hY (prs ts hz k) ⟨(k, ts[k]), hz _ (List.getElem_mem hlt)⟩ wr hJs (by rw [prs_length _ _ _ hk]; exact hlt)
      rw [← prs_succ ts hz k hlt] at hR
      simp only [encS] at hy
      have HR := Hid.mk' hR
      have HRow := Hid.mk' hrow
      have i1 : (k : Int) < (ts.length : Int) := by omega
      generalize ts[k] = s at hcell hy
      clear hR hrow
      gi_wp2
      refine HR.out.mono ?_
      rintro e W3 (⟨rfl, hJ3, hk3⟩ | ⟨rfl, hJx3, _⟩)
      · gi_wp2
        go_roundw
        case rel => exact ⟨k + 1, by go_num, by omega, HRow.out.keep hk3, hJ3⟩
        case measure => simp [intOf]; omega
      · gi_wp2
        refine bodyPost_ret (results_none rfl _ _ _) rfl ?_
        exact ⟨⟨_, rfl⟩, .inr ⟨_, prs_prefix ts hz (k + 1) ts.length (by omega), hJx3⟩⟩
    · obtain rfl : k = ts.length := by omega
      gi_wp2
      go_end0
      exact ⟨⟨_, rfl⟩, .inl ⟨_, rfl, hJs⟩⟩

set_option maxHeartbeats 400000 in
theorem all_any (x : Option Addr) (n c : Nat) (w : World) : Calls Tryd.prog 39 #[.slice x n c] w fun e w' => e = .returned (.func (.func 51) #[] #[.pointer (some ⟨w.heap.size, 0, none⟩)]) ∧ w' = w.alloc (.cells #[.slice x n c] 33) := by
  go_enter Tryd.func39, Tryd.ntmps39
  go_wp2
  go_ret
  exact ⟨rfl, rfl⟩

theorem all_stops (n : Nat) (hn : 1 ≤ n) (Ba Bk : Nat) (x : Option Addr) (c : Nat) (ts : List ByteArray) (hts : (ts.length : Int) ≤ 140737488351232) (hz : ∀ t ∈ ts, (t.size : Int) ≤ 140737488351232) (w : World) (hlt : Ba < w.heap.size) (hB : Boxed w Ba 33 (.slice x ts.length c)) (hr : RowT w Bk x c ts) :
    SeqO n Tryd.prog 51 #[.pointer (some ⟨Ba, 0, none⟩)] encS Bk (fun ys => ys = prs ts hz ts.length) (fun pre => pre <+: prs ts hz ts.length) ts.length w :=
  fun l J Jx W hW _ _ hY h0 => all1_in n hn l Ba Bk _ x c ts hts hz J Jx hY W ((hW.block Ba hlt).trans hB) (hr.keep (KN.of_below hW)) h0

theorem round_in (l' : Nat) {m : Nat} {P : Program} {l fn : Nat} {tmps : Array Value} {assign body : Code} {W : World} {R : Ending → World → Prop} (h : RoundIn Fence.wide m P l fn tmps assign body W R) : RoundIn (Fence.wide.inRound l') m P l fn tmps assign body W R := h
/-- The outer round, behind own. -/
theorem yield_end {n l Bk N : Nat} {J Jx : List NS → World → Prop} {W V V1 : World} {pre : List NS} {y : NS} (hJ : OwnFrom W.heap.size J)
    (hY : ∀ pre x W1, J pre W1 → pre.length < N → YieldAt Fence.wide (n - 1) Tryd.prog l (encS x) W1 fun e W' =>
      (e = .returned (.bool true) ∧ J (pre ++ [x]) W' ∧ KN Bk W1 W') ∨ (e = .returned (.bool false) ∧ Jx (pre ++ [x]) W' ∧ KF W.heap.size W1 W'))
    (hs : J (pre.map evN) V) (hlen : pre.length < N) (bV : Below V.drew.heap.size V.drew V1) :
    ∃ fn tmps assign body, (Instr.yield l #[.int .i64 y.1.1, .string (evenS y.1.2)]).run Tryd.prog V1 = .ok (.round l fn tmps assign body) V1 ∧
      ∀ m, RoundIn Fence.wide m Tryd.prog l fn tmps assign body V1 fun e V2 => ∃ bb, e = .returned (.bool bb) ∧ ((bb = true ∧ J ((pre ++ [y]).map evN) V2 ∧ KN Bk V V2 ∧ KN Bk V1 V2) ∨ (bb = false ∧ Jx ((pre ++ [y]).map evN) V2 ∧ KF W.heap.size V V2)) := by
  have b : Below V.heap.size V V1 := ((Below.refl V.heap.size V).drew).trans bV
  obtain ⟨fn, tmps, assign, body, hy, h1, h2⟩ := hY (pre.map evN) (evN y) V1 (OwnFrom.below hJ hs b) (by simpa using hlen)
  refine ⟨fn, tmps, assign, body, hy, fun m => RoundIn.mono ⟨h1, fun c cs _ => h2 c cs (fun d hd => by cases hd)⟩ ?_⟩
  rw [List.map_append]
  rintro e V2 (⟨rfl, h1, h2⟩ | ⟨rfl, h1, h2⟩)
  · exact ⟨true, rfl, .inl ⟨rfl, h1, (KN.of_below b).trans h2, h2⟩⟩
  · exact ⟨false, rfl, .inr ⟨rfl, h1, (KF.of_below b).trans h2⟩⟩

set_option maxRecDepth 100000 in
set_option maxHeartbeats 4000000 in
theorem each1_tab {B g mb : Nat} {vt vs : Value} {ts ss : List ByteArray} {D : DataW Unit} (n : Nat) (hn : 4 ≤ n) (l Bs Bk : Nat) (hts : (ts.length : Int) ≤ 140737488351232) (hz : ∀ t ∈ ts, (t.size : Int) ≤ 140737488351232) (J Jx : List NS → World → Prop)
    (W : World) (hJ : OwnFrom W.heap.size J) (hJx : OwnFrom W.heap.size Jx)
    (hY : ∀ pre x W1, J pre W1 → pre.length < ts.length → YieldAt Fence.wide (n - 1) Tryd.prog l (encS x) W1 fun e W' =>
      (e = .returned (.bool true) ∧ J (pre ++ [x]) W' ∧ KN Bk W1 W') ∨ (e = .returned (.bool false) ∧ Jx (pre ++ [x]) W' ∧ KF W.heap.size W1 W'))
    (hT : Tab B g mb vt vs ts ss D W) (hB : Boxed W Bs 34 (.pointer (some ⟨g, 0, none⟩))) (hBk : Bk < W.heap.size) (hne : vt.ownBlock ≠ some Bk) (h0 : J [] W) :
    CallsIn Fence.wide n Tryd.prog 38 #[.func (.yield l) #[] #[], .pointer (some ⟨Bs, 0, none⟩)] W fun e W' => (∃ v, e = .returned v) ∧
      ((∃ ys, ys = (prs ts hz ts.length).map evN ∧ J ys W') ∨ (∃ pre, pre <+: (prs ts hz ts.length).map evN ∧ Jx pre W')) := by
  have h1n : 1 ≤ n := by omega
  have h3n : 1 ≤ n - 1 - 1 := by omega
  have h4n : 1 ≤ n - 1 - 1 - 1 := by omega
  have hc := hB.cell
  have hlt : Bs < W.heap.size := hB.lt
  have c2 := hT.cell.2.2.1
  have hg := hT.lt.1
  have HM := Hid.mk' (isMade_yes (W.alloc (.cells #[.func (.yield l) #[] #[]] 72)) (hT.below ((Below.refl _ _).alloc (Nat.le_refl _) _)))
  obtain ⟨x, c, rfl⟩ := own_slice' hT.t |>.imp fun _ h => h.imp fun _ h => h.1
  have hrow := RowT.own hT.t hne
  have HRow := Hid.mk' hrow
  clear hT hrow
  refine callsIn_of_wp_marks Tryd.func38 rfl trivial ?_ rfl
  simp only [Tryd.ntmps38, List.size_toArray, List.length_cons, List.length_nil, Nat.reduceAdd, Nat.reduceSub, Array.replicate_succ, Array.replicate_zero, List.push_toArray, List.append_toArray, List.nil_append, List.cons_append]
  gi_wp2_with (first | (refine ⟨trivial, ?_⟩; gi_at_call 37; refine (callsIn_wide.2 HM.out).mono ?_; rintro e w1 ⟨rfl, hw1⟩; rw [hw1]; clear hw1 w1) | (refine ⟨trivial, ?_⟩; gi_at_call 39; refine (callsIn_wide.2 (all_any _ _ _ _)).mono ?_; rintro e w1 ⟨rfl, hw1⟩; rw [hw1]; clear hw1 w1))
  have bY := Boxed.new W 72 (.func (.yield l) #[] #[])
  have bA := Boxed.new (W.alloc (.cells #[.func (.yield l) #[] #[]] 72)) 33 (.slice x ts.length c)
  rw [World.size_alloc] at bA
  have hB0 : Below W.heap.size W ((W.alloc (.cells #[.func (.yield l) #[] #[]] 72)).alloc (.cells #[.slice x ts.length c] 33)) := ((Below.refl _ _).alloc (Nat.le_refl _) _).alloc (by simp) _
  refine range_o (by omega) (gf := 51) (lb := #[.pointer (some ⟨W.heap.size + 1, 0, none⟩)]) rfl (enters_of Tryd.func51 (by kernel_rfl) rfl)
    (all_stops (n - 1) (by omega) (W.heap.size + 1) Bk x c ts hts hz _ (by simp) bA (HRow.out.keep (KN.of_below hB0))) (by simp <;> omega) (Below.refl _ _) (fun _ => rfl)
    (fun pre V => Boxed V W.heap.size 72 (.func (.yield l) #[] #[]) ∧ J (pre.map evN) V)
    (fun cd pre V => cd = .ret ∧ Jx (pre.map evN) V)
    (OwnFrom.and (Own.from (boxed_own _ _ _) _) (fun s A C row hs hgr hr => hJ (s.map evN) A C row hs hgr (fun r e => ⟨by have := (hr r e).1; simp at this; omega, (hr r e).2⟩)))
    (fun cd s A C row hs hgr hr => ⟨hs.1, hJx (s.map evN) A C row hs.2 hgr (fun r e => ⟨by have := (hr r e).1; simp at this; omega, (hr r e).2⟩)⟩)
    ⟨bY.alloc _, OwnFrom.below hJ h0 hB0⟩
    (fun y => { tmps := #[.func (.yield l) #[] #[], .pointer (some ⟨Bs, 0, none⟩), .pointer (some ⟨W.heap.size, 0, none⟩), .int .i64 y.1.1, .string y.1.2, .pointer (some ⟨g, 0, none⟩), .bool true, .bool false, .pointer (some ⟨g, 0, none⟩), .pointer (some ⟨g, 0, none⟩), .pointer (some ⟨g, 2, none⟩), .slice x ts.length c, .func (.func 51) #[] #[.pointer (some ⟨W.heap.size + 1, 0, none⟩)], .int .i64 y.1.1, .string y.1.2, undef, undef, undef, undef, undef, undef], defers := [] }) ?assign ?body ?done ?stop
  case assign =>
    intro l' y V K hK
    simp only [encS]
    gi_wp2
    first | exact hK | simpa using hK | simpa [Array.zip, Array.zipWith] using hK
  case body =>
    rintro l' pre y V ⟨hb, hJs⟩ hlen
    have hbc := hb.cell
    have hmx : Tryd.prog.follows .mixedOrders = true := by kernel_rfl
    have HJ := Hid.mk' hJs
    have HOw := Hid.mk' (fun U => own_any y.1.2 U y.2)
    have HEnd := Hid.mk' (fun (V1 : World) (bV : Below V.drew.heap.size V.drew V1) => yield_end (pre := pre) (y := y) hJ hY HJ.out hlen bV)
    have HB := Hid.mk' hb
    have nb : W.heap.size ≠ Bk := by omega
    gi_wp2
    gi_region_with_o (first | (gi_at_call 29; refine (CallsIn.inRound l' (callsIn_wide.2 (HOw.out _))).mono ?_; rintro e V1 ⟨rfl, bV⟩; obtain ⟨fn, tmps, assign, body, hy, hR⟩ := HEnd.out V1 bV; have hbc1 := (Boxed.cell ((KN.of_below (Bk := Bk) bV).boxed (show Boxed V.drew W.heap.size 72 (.func (.yield l) #[] #[]) from HB.out) nb))) | (refine ⟨trivial, ?_⟩; gi_at_call 29; refine (CallsIn.inRound l' (callsIn_wide.2 (HOw.out _))).mono ?_; rintro e V1 ⟨rfl, bV⟩; obtain ⟨fn, tmps, assign, body, hy, hR⟩ := HEnd.out V1 bV; have hbc1 := (Boxed.cell ((KN.of_below (Bk := Bk) bV).boxed (show Boxed V.drew W.heap.size 72 (.func (.yield l) #[] #[]) from HB.out) nb))) | (refine (round_in l' (hR _)).mono ?_; rintro e V2 ⟨bb, rfl, hbb⟩))
    all_goals
      rcases hbb with ⟨rfl, h1, h2, h3⟩ | ⟨rfl, h1, h2⟩
      · gi_wp2
        exact ⟨h2, h2.boxed HB.out nb, h1⟩
      · gi_wp2
        exact ⟨h2.mono (by simp only [World.size_alloc]; omega), rfl, h1⟩
  case done =>
    rintro E ys V hE rfl ⟨hb, hJs⟩ hK
    gi_wp2
    refine ⟨by simp, .inl ⟨_, _, rfl, run_takeDeferred hK, ?_⟩⟩
    exact ⟨_, results_none rfl _ _ _, ⟨_, rfl⟩, .inl ⟨_, rfl, hJ.putObj _ hJs (by simp at hE; omega) hK rfl⟩⟩
  case stop =>
    rintro E cd pre V hE hSp ⟨rfl, hJs⟩ hK
    gi_wp2
    refine ⟨by simp, .inl ⟨_, _, rfl, run_takeDeferred hK, ?_⟩⟩
    exact ⟨_, results_none rfl _ _ _, ⟨_, rfl⟩, .inr ⟨_, hSp.map _, hJx.putObj _ hJs (by simp at hE; omega) hK rfl⟩⟩

theorem each_tab {B g mb : Nat} {vt vs : Value} {ts ss : List ByteArray} {D : DataW Unit} (n : Nat) (hn : 4 ≤ n) (Bs Bk : Nat) (hts : (ts.length : Int) ≤ 140737488351232) (hz : ∀ t ∈ ts, (t.size : Int) ≤ 140737488351232) (w : World) (hT : Tab B g mb vt vs ts ss D w)
    (hB : Boxed w Bs 34 (.pointer (some ⟨g, 0, none⟩))) (hBk : Bk < w.heap.size) (hne : vt.ownBlock ≠ some Bk) :
    SeqO n Tryd.prog 38 #[.pointer (some ⟨Bs, 0, none⟩)] encS Bk (fun ys => ys = (prs ts hz ts.length).map evN) (fun pre => pre <+: (prs ts hz ts.length).map evN) ts.length w :=
  fun l J Jx W hW hJ hJx hY h0 => each1_tab n hn l Bs Bk hts hz J Jx W hJ hJx hY (hT.below hW) ((hW.block Bs hB.lt).trans hB) (Nat.lt_of_lt_of_le hBk hW.size) hne h0

set_option maxHeartbeats 400000 in
theorem len_yes {B g mb : Nat} {vt vs : Value} {ts ss : List ByteArray} {D : DataW Unit} (w : World) (h : Tab B g mb vt vs ts ss D w) :
    Calls Tryd.prog 18 #[.pointer (some ⟨g, 0, none⟩)] w fun e w' => e = .returned (.int .i64 ts.length) ∧ w' = w := by
  have HM := Hid.mk' (isMade_yes w h)
  have c2 := h.cell.2.2.1
  obtain ⟨x, c, rfl⟩ := own_slice' h.t |>.imp fun _ h => h.imp fun _ h => h.1
  clear h
  go_enter Tryd.func18, Tryd.ntmps18
  go_wp2_with (go_at_call 37; refine (HM.out).mono ?_; rintro e w1 ⟨rfl, hw1⟩; rw [hw1]; clear hw1 w1)
  go_ret
  exact ⟨rfl, rfl⟩

set_option maxHeartbeats 1000000 in
set_option maxRecDepth 100000 in
theorem name_far {B g mb : Nat} {vt vs : Value} {ts ss : List ByteArray} {D : DataW Unit} (z : Int) (w : World) (h : Tab B g mb vt vs ts ss D w) (hz : z < 0 ∨ (ts.length : Int) ≤ z) :
    Calls Tryd.prog 19 #[.pointer (some ⟨g, 0, none⟩), .int .i64 z] w fun e w' => e = .returned (.tuple #[.string ⟨#[]⟩, .int .i64 1]) ∧ Below w.heap.size w w' := by
  have HM := Hid.mk' (isMade_yes w h)
  have c2 := h.cell.2.2.1
  obtain ⟨x, c, rfl⟩ := own_slice' h.t |>.imp fun _ h => h.imp fun _ h => h.1
  clear h
  by_cases h0 : z < 0
  · go_enter Tryd.func19, Tryd.ntmps19
    go_wp2_with (go_at_call 37; refine (HM.out).mono ?_; rintro e w1 ⟨rfl, hw1⟩; rw [hw1]; clear hw1 w1)
    go_ret2
    exact ⟨rfl, Below.refl _ _⟩
  · have h1 : (ts.length : Int) ≤ z := by omega
    go_enter Tryd.func19, Tryd.ntmps19
    go_wp2_with (go_at_call 37; refine (HM.out).mono ?_; rintro e w1 ⟨rfl, hw1⟩; rw [hw1]; clear hw1 w1)
    go_ret2
    exact ⟨rfl, Below.refl _ _⟩

end Go.Proofs.YthomeimnhipilaaDoor
