/- Package shape: Keys and Each in a tree with several lines, and of a shape that there is not. -/
import Derived.Test.YtoonaljmdiideaaSxC
import Derived.Test.YtoonaljmdiideaaHpE
import Derived.Test.YtoonaljmdiideaaShA
import Derived.OwnWalkIn
import Derived.Laws.MakeOwn
namespace Go.Proofs.Ytoonaljmdiideaa
set_option linter.unusedVariables false
set_option linter.unusedSimpArgs false
open Go.RowKit Go.Shelf Go.Maps Go.ChangeShapes
attribute [local go_sem] Oper.semAt_some
theorem eqlf_nil (W : World) (f : Nat) (x y : Value) : (binOp .eql 89 (.func (.func f) #[] #[x, y]) .nilFunc).run Try.prog W = .ok (.bool false) W := by
  have e : ∀ d, (Op.equalIn (d + 1) 89 (.func (.func f) #[] #[x, y]) .nilFunc).run Try.prog W = .ok false W := fun d => by
    simp [Op.equalIn, run_underlying Try.underlying89]
  simp only [binOp]
  simp [Op.equal, Op.maxDepth, e 9999]
set_option maxHeartbeats 400000 in
theorem each_int (g : Nat) (i : Int) (w : World) : Calls Try.prog 37 #[.pointer (some ⟨g, 0, none⟩), .int .i64 i] w fun e w' => e = .returned (.func (.func 53) #[] #[.pointer (some ⟨w.heap.size, 0, none⟩), .pointer (some ⟨w.heap.size + 1, 0, none⟩)]) ∧ w' = (w.alloc (.cells #[.pointer (some ⟨g, 0, none⟩)] 25)).alloc (.cells #[.int .i64 i] 3) := by
  go_enter Try.func37, Try.ntmps37
  go_wp2
  go_ret
  exact ⟨by simp, rfl⟩
set_option maxHeartbeats 400000 in
set_option maxRecDepth 100000 in
theorem keys_out (g : Nat) (s : Int) (a : Option Addr) (n c : Nat) (w : World) (h : w.cell? ⟨g, 0, none⟩ = some (.pointer (some ⟨g, 0, none⟩))) (h3 : w.cell? ⟨g, 3, none⟩ = some (.slice a n c)) (hs : s < 0 ∨ (n : Int) ≤ s) : Calls Try.prog 36 #[.pointer (some ⟨g, 0, none⟩), .int .i64 s] w fun e w' => e = .returned (.tuple #[.slice none 0 0, .int .i64 140]) ∧ w' = w := by
  have HM := Hid.mk' (has_out g s a n c w h h3 hs)
  clear h h3 hs
  refine (callsIn_wide (n := 3)).1 ?_
  refine callsIn_of_wp_marks Try.func36 rfl trivial ?_ rfl
  refine wpIn_wide.2 ?_
  simp only [Try.ntmps36, List.size_toArray, List.length_cons, List.length_nil, Nat.reduceAdd, Nat.reduceSub, Array.replicate_succ, Array.replicate_zero, List.push_toArray, List.append_toArray, List.nil_append, List.cons_append]
  go_wp2_with fail
  refine HM.out.mono ?_
  rintro e w1 ⟨rfl, rfl⟩
  go_wp2
  exact ⟨_, by simp [results, Try.results36, go_sem], rfl, rfl⟩
set_option maxHeartbeats 400000 in
set_option maxRecDepth 100000 in
theorem each_out (k tb sb g : Nat) (s : Int) (X : List Nat) (a : Option Addr) (n c : Nat) (w : World) (hs : s < 0 ∨ (n : Int) ≤ s) (h : w.cell? ⟨g, 0, none⟩ = some (.pointer (some ⟨g, 0, none⟩))) (h3 : w.cell? ⟨g, 3, none⟩ = some (.slice a n c)) (ht : w.cell? ⟨tb, 0, none⟩ = some (.pointer (some ⟨g, 0, none⟩))) (hsb : w.cell? ⟨sb, 0, none⟩ = some (.int .i64 s)) :
    SeqX k Try.prog 53 #[.pointer (some ⟨tb, 0, none⟩), .pointer (some ⟨sb, 0, none⟩)] encK X (fun xs => xs = []) (fun _ => False) (fun l => l <+: []) w := by
  intro l J Jx W hW hJ _ hY h0
  have ct := (hW.cell (p := ⟨tb, 0, none⟩) (World.block_lt_of_cell? w _ ht)).trans ht
  have cs := (hW.cell (p := ⟨sb, 0, none⟩) (World.block_lt_of_cell? w _ hsb)).trans hsb
  have HM := Hid.mk' (has_out g s a n c W ((hW.cell (p := ⟨g, 0, none⟩) (World.block_lt_of_cell? w _ h)).trans h) ((hW.cell (p := ⟨g, 3, none⟩) (World.block_lt_of_cell? w _ h3)).trans h3) hs)
  have HJ0 := Hid.mk' h0
  clear hW hJ hY h0 h h3 ht hsb hs
  refine callsIn_of_wp Try.func53 rfl trivial ?_ rfl
  simp only [Try.ntmps53, List.size_toArray, List.length_cons, List.length_nil, Nat.reduceAdd, Nat.reduceSub, Array.replicate_succ, Array.replicate_zero, List.push_toArray, List.append_toArray, List.nil_append, List.cons_append]
  refine wpIn_wide.2 ?_
  go_wp2_with (go_at_call 46; refine HM.out.mono ?_; rintro e w1 ⟨rfl, hw1⟩; rw [hw1]; clear hw1 w1)
  exact bodyPost_ret (v := .tuple #[]) (results_none rfl _ _ _) rfl ⟨⟨_, rfl⟩, .inl ⟨[], rfl, HJ0.out⟩⟩
section
variable {C : List (Nat × Obj)} {B g mn mw lb nw : Nat} {vk vs vl : Value} {ks : List Kb} {ln : List Int} {fs : List (List Int)} {fv : List (Nat × Value)} {Dn Dw : DataW Unit} {w w' : World}
set_option maxHeartbeats 4000000 in
set_option maxRecDepth 100000 in
theorem t1_keys (i m : Nat) (L : List (Kb × Int)) (w : World) (h1 : T1 C B g mn mw lb vk vs vl ks ln fs fv nw Dn Dw w) (hfi : i < fv.length) (hlb : fv[i].1 = lb) (hL : tells ks ln (fs.getD i []) L) (hm : L.length = m) (hll : m < 1000) (hll2 : ks.length < 100000) :
    Calls Try.prog 36 #[.pointer (some ⟨g, 0, none⟩), .int .i64 (i : Nat)] w fun e w' => ∃ v, e = .returned (.tuple #[v, .int .i64 0]) ∧ w'.ownsRow w.heap.size 31 2 v m (kC (L.map (·.1))) ∧ Below w.heap.size w w' := by
  obtain ⟨c0, c1, c2, c3, c4, cf, l0, lf⟩ := h1.cells
  obtain ⟨gs, sc, hvs, hsc, d0, d1⟩ := h1.sat i hfi
  obtain ⟨fa, fc, hfv, _⟩ := own_slice' (h1.f i hfi)
  have hmf : (fs.getD i []).length = m := by have := hL.1; omega
  rw [hmf] at hfv
  rw [hfv] at d1
  obtain ⟨nn, hnn⟩ : ∃ nn, fv.length = nn := ⟨_, rfl⟩
  rw [hvs, hnn] at c3
  rw [hnn] at hsc
  have HHA := Hid.mk' (has_in g (i : Int) _ nn sc w c0 c3 (by omega) (by omega))
  have i1 : (i : Int) < (nn : Int) := by omega
  obtain ⟨ik, hik, hk0, hk1, hk2⟩ := sh_parts sh_infoK
  have mk1 : ∀ W : World, (Instr.makeSlice 66 (.int .i64 0) (.int .i64 (m : Int))).run Try.prog W = .ok (.slice (some ⟨W.heap.size, 0, none⟩) 0 m) (W.alloc (.cells (madeCells #[.string ⟨#[]⟩, .int .i64 0] (m * 2)) 31)) := fun W => by
    have hh := run_make (P := Try.prog) (w := W) 66 31 ik (.agg #[.string ⟨#[]⟩, .int .i64 0]) Try.underlying66 hik hk0 .i64 .i64 0 (m : Int) (by omega) (by omega) (by rw [hk2]; omega) (by omega)
    simp only [Int.toNat_natCast, Int.toNat_zero, hk1] at hh
    exact hh
  obtain ⟨A1, hA1⟩ : ∃ A, madeCells #[.string ⟨#[]⟩, .int .i64 0] (m * 2) = A := ⟨_, rfl⟩
  rw [hA1] at mk1
  have hA2 : A1.size = m * 2 := by rw [← hA1]; exact size_madeCells _ _
  obtain ⟨W3, hW3⟩ : ∃ W3, (w.alloc (.cells A1 31)).alloc (.cells #[.slice (some ⟨w.heap.size, 0, none⟩) 0 m] 66) = W3 := ⟨_, rfl⟩
  obtain ⟨W4, hW4⟩ : ∃ W4, (W3.alloc (.cells #[.pointer (some ⟨g, 0, none⟩)] 25)).alloc (.cells #[.int .i64 (i : Nat)] 3) = W4 := ⟨_, rfl⟩
  have s3 : W3.heap.size = w.heap.size + 2 := by rw [← hW3]; simp
  have b3 : Below w.heap.size w W3 := by rw [← hW3]; exact ((Below.refl _ _).alloc (Nat.le_refl _) _).alloc (by simp) _
  have b4 : Below W3.heap.size W3 W4 := by rw [← hW4]; exact ((Below.refl _ _).alloc (Nat.le_refl _) _).alloc (by simp) _
  have q1 : W3.heap[w.heap.size]? = some (.cells A1 31 (0, 0)) := by rw [← hW3]; exact sh_old (by simp) (sh_new rfl)
  have q2 : W3.heap[w.heap.size + 1]? = some (.cells #[.slice (some ⟨w.heap.size, 0, none⟩) 0 m] 66 (0, 0)) := by rw [← hW3]; exact sh_new (by simp)
  have p1 := (b4.block _ (by omega)).trans q1
  have p2 := (b4.block _ (by omega)).trans q2
  have p3 : W4.heap[w.heap.size + 2]? = some (.cells #[.pointer (some ⟨g, 0, none⟩)] 25 (0, 0)) := by rw [← hW4]; exact sh_old (by simp [s3]) (sh_new s3)
  have p4 : W4.heap[w.heap.size + 3]? = some (.cells #[.int .i64 (i : Nat)] 3 (0, 0)) := by rw [← hW4]; exact sh_new (by simp [s3])
  have s4 : W4.heap.size = w.heap.size + 4 := by rw [← hW4]; simp [s3]
  have B4 : Below w.heap.size w W4 := b3.trans (b4.mono b3.size)
  have hT4 := h1.below B4
  obtain ⟨l1, l2, l3, l4, l5, l6, l7⟩ := h1.lts
  have hX : Aside [w.heap.size, w.heap.size + 1] g mn mw lb vk vs vl fv := fun b hb => by
    have hb2 : w.heap.size ≤ b := by simp at hb; omega
    refine ⟨by omega, by omega, by omega, by omega, fun e => ?_, fun e => ?_, fun e => ?_, fun j hj e => ?_⟩
    · have := l5 _ e.symm; omega
    · have := l6 _ e.symm; omega
    · have := l7 _ e.symm; omega
    · have := ((h1.f j hj).lt _ e.symm).2; omega
  have HSEQ : ∀ n, SeqX n Try.prog 53 #[.pointer (some ⟨w.heap.size + 2, 0, none⟩), .pointer (some ⟨w.heap.size + 2 + 1, 0, none⟩)] encK [w.heap.size, w.heap.size + 1] (fun xs => xs = L) (fun pre => pre <+: L) (fun l => l <+: L) W4 := fun n =>
    each_stops n (w.heap.size + 2) (w.heap.size + 2 + 1) i _ L W4 hT4 hX (fun b hb => by simp at hb; omega) hfi hlb hL (by omega) hll2 (by simp [World.cell?, p3]) (by simp [World.cell?, p4])
  have HI0 : KI w w.heap.size (w.heap.size + 1) m [] W4 := ⟨⟨A1, p1, hA2, by simp [kC]⟩, p2, B4⟩
  have HSQ := Hid.mk' HSEQ
  have HI1 := Hid.mk' HI0
  have HH3 := Hid.mk' hW3
  have HS3 := Hid.mk' s3
  have HS4 := Hid.mk' s4
  have HLM := Hid.mk' hm
  have HEA := Hid.mk' (each_any g i W3)
  rw [hW4, s3] at HEA
  clear HSEQ HI0 hX hT4 B4 p1 p2 p3 p4 q1 q2 b3 b4 s3 s4 l1 l2 l3 l4 l5 l6 l7 c1 c2 c4 cf l0 lf h1 hlb hL hA1 hfv hvs hW3 hW4 hmf hm
  obtain ⟨b0, hb0⟩ : ∃ b0, w.heap.size = b0 := ⟨_, rfl⟩
  rw [hb0] at HSQ HI1 HH3 HS3 HS4 HEA
  refine (callsIn_wide (n := 8)).1 ?_
  refine callsIn_of_wp_marks Try.func36 rfl trivial ?_ rfl
  refine wpIn_wide.2 ?_
  simp only [Try.ntmps36, List.size_toArray, List.length_cons, List.length_nil, Nat.reduceAdd, Nat.reduceSub, Array.replicate_succ, Array.replicate_zero, List.push_toArray, List.append_toArray, List.nil_append, List.cons_append]
  go_wp2_with (go_at_call 46; refine HHA.out.mono ?_; rintro e w1 ⟨rfl, hw1⟩; rw [hw1]; clear hw1 w1)
  rw [HH3.out]
  refine HEA.out.mono ?_
  rintro e w4 ⟨rfl, hw4⟩
  rw [hw4]
  clear hw4 c0 c3 d0 d1 mk1
  go_wp2_with fail
  refine (wpIn_wide (n := 8)).1 ?_
  refine range_x (α := Kb × Int) (by omega) (gf := 53) (lb := #[.pointer (some ⟨b0 + 2, 0, none⟩), .pointer (some ⟨b0 + 2 + 1, 0, none⟩)]) rfl (enters_of Try.func53 (by kernel_rfl) rfl)
    (HSQ.out (8 - 1)) (fun b hb => by have := HS4.out; simp at hb; omega) (Below.refl _ _) (fun _ => rfl)
    (KI w b0 (b0 + 1) m) (fun _ _ _ => False) (KI.own (by have := HS4.out; omega) (by have := HS4.out; omega) (by have := HS4.out; omega))
    (fun cd s A C row hs hgr hr => hs) HI1.out ?round1 ?done1 ?stop1
  case round1 =>
    intro l pre y V hV hlt
    obtain ⟨⟨ys, yz⟩, yf⟩ := y
    simp only [encK]
    have HLT : Hid (pre.length < m) := Hid.mk' (by have h1 := hlt.length_le; rw [List.length_append] at h1; have := HLM.out; simp at h1; omega)
    clear hV hlt
    gi_wp2
    refine ⟨(Below.refl _ _).alloc (Nat.le_refl _) _, fun Wb hWb hkeep hsz => ?_⟩
    obtain ⟨_, _, k0, k1⟩ := pair_facts (hkeep _ _ (World.alloc_heap_new _ _) rfl)
    obtain ⟨cur', r1, r2, r3, r4, r5⟩ := hWb.step (x := ((ys, yz), yf)) HLT.out (by omega) ⟨by omega, by omega⟩
    have cb : Wb.cell? ⟨b0 + 1, 0, none⟩ = some (.slice (some ⟨b0, 0, none⟩) pre.length m) := by simp [World.cell?, hWb.box]
    have HR2 := Hid.mk' r2
    have HR3 := Hid.mk' r3
    clear r2 r3 hWb hkeep hsz
    have HR1 := Hid.mk' r1
    clear r1
    gi_wp2_with (gi_at_builtin; refine wpIn_append_eq rfl _ _ 66 rfl rfl _ _ _ _ rfl rfl HR1.out ?_)
    exact ⟨HR3.out, HR2.out⟩
  case stop1 =>
    rintro E cd pre V hE h hx hK
    exact hx.elim
  case done1 =>
    rintro E xs V hE rfl hV hK
    have cb : V.cell? ⟨b0 + 1, 0, none⟩ = some (.slice (some ⟨b0, 0, none⟩) xs.length m) := by simp [World.cell?, hV.box]
    have HV := Hid.mk' hV
    clear hV
    go_wp2
    refine ⟨by simp, .inl ⟨_, _, rfl, run_takeDeferred hK, ?_⟩⟩
    have sE : Sv [E] V (V.putObj E (.deferred none)) := ⟨by simp [World.putObj], fun k o hk ho => (World.putObj_heap_other (by simpa using hk)).trans ho⟩
    obtain ⟨cur, c1, c2, c3⟩ := HV.out.row
    have hEb : b0 + 4 ≤ E := by have := HS4.out; omega
    refine ⟨.tuple #[.slice (some ⟨b0, 0, none⟩) xs.length m, .int .i64 0], by simp [results, Try.results36, go_sem], .slice (some ⟨b0, 0, none⟩) xs.length m, rfl, ⟨?_, .inr ⟨b0, m, cur, by rw [HLM.out], by omega, sE.all _ _ (by simp; omega) c1, Nat.le_refl _, ?_, c2, ?_⟩⟩, ?_⟩
    · have := HLM.out
      rw [hp_kC_len, List.length_map]; omega
    · unfold maxLen; omega
    · have := HLM.out
      rw [← this]; exact c3
    · refine HV.out.bl.trans ⟨rfl, rfl, rfl, by simp [World.putObj], fun k hk => World.putObj_heap_other (by omega)⟩
end
end Go.Proofs.Ytoonaljmdiideaa
