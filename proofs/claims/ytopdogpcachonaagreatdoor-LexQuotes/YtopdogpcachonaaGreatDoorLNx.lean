/- lex.next: a token with its places, or the place of what is none. -/
import Derived.Test.YtopdogpcachonaaGreatDoorLSg
import Derived.Test.YtopdogpcachonaaGreatDoorLTp
import Derived.Defers
import Derived.Recover
namespace Go.Proofs.YtopdogpcachonaaGreatDoor
set_option linter.unusedVariables false
open Go.RowKit Go.Shelf

set_option maxHeartbeats 1000000 in
theorem catch_idle (p q r : Addr) (w : World) :
    CallsD Tryz.prog 41 #[.pointer (some p), .pointer (some q), .pointer (some r)] .returning w fun e u' w' => e = .returned (.tuple #[]) ∧ u' = .returning ∧ w' = w := by
  refine callsD_of_wpS Tryz.func41 rfl fun c₀ cs hu => ?_
  apply wpS_seq
  apply wpS_region
  simp [wpOpsS, go_sem, recoverD, hu, Tryz.ntmps41, Exit.thenS]
  apply wpS_seq
  apply wpS_region
  simp [wpOpsS, go_sem, Exit.thenS]
  refine wpS_cond (t := false) (by simp [Act.eval, Array.replicate]) ?_
  simp only [Bool.false_eq_true, if_false]
  refine wpS_of_wp (wp_skip ?_)
  cases c₀
  simp_all [bodyPostS, results, Tryz.results41]
/-- A token's cells lie there. -/
def TokAt (W : World) (b : Nat) (t : Tk) : Prop := W.heap[b]? = some (.cells #[.int .i64 t.kind, .string t.text, .string t.str, .float .f64 t.num, .int .i64 t.fr, .int .i64 t.to, .bool t.line] 31 (0, 0))
theorem TokAt.cells {W : World} {b : Nat} {t : Tk} (h : TokAt W b t) : W.cell? ⟨b, 0, none⟩ = some (.int .i64 t.kind) ∧ W.cell? ⟨b, 1, none⟩ = some (.string t.text) ∧ W.cell? ⟨b, 2, none⟩ = some (.string t.str) ∧ W.cell? ⟨b, 3, none⟩ = some (.float .f64 t.num) ∧ W.cell? ⟨b, 4, none⟩ = some (.int .i64 t.fr) ∧ W.cell? ⟨b, 5, none⟩ = some (.int .i64 t.to) ∧ W.cell? ⟨b, 6, none⟩ = some (.bool t.line) ∧ ∀ j, W.frozen? ⟨b, j, none⟩ = false := by
  have h' : W.heap[b]? = some (.cells #[.int .i64 t.kind, .string t.text, .string t.str, .float .f64 t.num, .int .i64 t.fr, .int .i64 t.to, .bool t.line] 31 (0, 0)) := h
  refine ⟨?_, ?_, ?_, ?_, ?_, ?_, ?_, fun j => by simp only [World.frozen?, h']; simp⟩
  all_goals rw [cell_of_row _ b _ _ _ _ h']; rfl
theorem TokAt.set {W : World} {b : Nat} {t : Tk} (h : TokAt W b t) (t' : Tk) : TokAt (((((((W.setCell ⟨b, 0, none⟩ (.int .i64 t'.kind)).setCell ⟨b, 1, none⟩ (.string t'.text)).setCell ⟨b, 2, none⟩ (.string t'.str)).setCell ⟨b, 3, none⟩ (.float .f64 t'.num)).setCell ⟨b, 4, none⟩ (.int .i64 t'.fr)).setCell ⟨b, 5, none⟩ (.int .i64 t'.to)).setCell ⟨b, 6, none⟩ (.bool t'.line)) b t' := by
  have h' : W.heap[b]? = some (.cells #[.int .i64 t.kind, .string t.text, .string t.str, .float .f64 t.num, .int .i64 t.fr, .int .i64 t.to, .bool t.line] 31 (0, 0)) := h
  have h1 := set_block (o := 0) (.int .i64 t'.kind) h'
  have h2 := set_block (o := 1) (.string t'.text) h1
  have h3 := set_block (o := 2) (.string t'.str) h2
  have h4 := set_block (o := 3) (.float .f64 t'.num) h3
  have h5 := set_block (o := 4) (.int .i64 t'.fr) h4
  have h6 := set_block (o := 5) (.int .i64 t'.to) h5
  have h7 := set_block (o := 6) (.bool t'.line) h6
  unfold TokAt
  rw [h7]
  simp
theorem TokAt.other {W : World} {b k o : Nat} {t : Tk} (h : TokAt W b t) (v : Value) (hk : b ≠ k) : TokAt (W.setCell ⟨k, o, none⟩ v) b t := (Below.heap_setCell _ _ _ _ hk).trans h
def ErrAt (W : World) (b : Nat) (z : Int) : Prop := W.heap[b]? = some (.cells #[.int .i64 z] 26 (0, 0))
theorem ErrAt.set {W : World} {b : Nat} {z : Int} (h : ErrAt W b z) (z' : Int) : ErrAt (W.setCell ⟨b, 0, none⟩ (.int .i64 z')) b z' := (set_block _ h).trans rfl
theorem ErrAt.other {W : World} {b k o : Nat} {z : Int} (h : ErrAt W b z) (v : Value) (hk : b ≠ k) : ErrAt (W.setCell ⟨k, o, none⟩ v) b z := (Below.heap_setCell _ _ _ _ hk).trans h
theorem TokAt.drew {W : World} {b : Nat} {t : Tk} (h : TokAt W b t) : TokAt W.drew b t := h
theorem ErrAt.drew {W : World} {b : Nat} {z : Int} (h : ErrAt W b z) : ErrAt W.drew b z := h
theorem ErrAt.cells {W : World} {b : Nat} {z : Int} (h : ErrAt W b z) : W.cell? ⟨b, 0, none⟩ = some (.int .i64 z) ∧ W.frozen? ⟨b, 0, none⟩ = false := by
  have h' : W.heap[b]? = some (.cells #[.int .i64 z] 26 (0, 0)) := h
  refine ⟨?_, by simp only [World.frozen?, h']; simp⟩
  rw [cell_of_row _ b _ _ _ _ h']; rfl
set_option maxHeartbeats 2000000 in
set_option maxRecDepth 100000 in
theorem catch_thrown (bp bt be rb : Nat) (z fz : Int) (t0 : Tk) (w : World) (cp : w.cell? ⟨bp, 0, none⟩ = some (.pointer (some ⟨rb, 0, none⟩))) (cr : w.cell? ⟨rb, 2, none⟩ = some (.int .i64 fz)) (ht : TokAt w bt t0) (he : ErrAt w be 0) (n1 : bt ≠ be) (n2 : bt ≠ bp) (n3 : be ≠ bp) (n4 : bt ≠ rb) (n5 : be ≠ rb) :
    CallsD Tryz.prog 41 #[.pointer (some ⟨bp, 0, none⟩), .pointer (some ⟨bt, 0, none⟩), .pointer (some ⟨be, 0, none⟩)] (.panicking ({ v := .iface 26 (.int .i64 z), recovered := false } :: [])) w fun e u' w' =>
      e = .returned (.tuple #[]) ∧ u' = .panicking ({ v := .iface 26 (.int .i64 z), recovered := true } :: []) ∧ TokAt w' bt ⟨0, ⟨#[]⟩, ⟨#[]⟩, 0, fz, 0, false⟩ ∧ ErrAt w' be z ∧ TF (fun k => k ≠ bt ∧ k ≠ be) 0 w w' := by
  have hst : ∀ (p : Addr) (x : Nat) (md : Mode) (W : World), (store p (.float .f64 x) md).run Tryz.prog W = stored Tryz.prog W p (.float .f64 x) md := fun p x md W => run_store Tryz.prog W p _ md rfl
  have hta : ∀ W, (Instr.typeAssert (.iface 26 (.int .i64 z)) 20 26 false).run Tryz.prog W = .ok (.int .i64 z) W := fun W => by kernel_rfl
  obtain ⟨z0, z1, z2, z3, z4, z5, z6, zf⟩ := ht.cells
  obtain ⟨e0, ef⟩ := he.cells
  refine callsD_of_wpS Tryz.func41 rfl fun c₀ cs hu => ?_
  apply wpS_seq
  apply wpS_region
  simp [wpOpsS, go_sem, recoverD, hu, Tryz.ntmps41, Exit.thenS]
  apply wpS_seq
  apply wpS_region
  simp [wpOpsS, go_sem, Exit.thenS]
  refine wpS_cond (t := true) (by simp [Act.eval, Array.replicate]) ?_
  simp only [if_true]
  refine wpS_of_wp ?_
  change Code.wp _ _ _ { tmps := #[.pointer (some ⟨bp, 0, none⟩), .pointer (some ⟨bt, 0, none⟩), .pointer (some ⟨be, 0, none⟩), .iface 26 (.int .i64 z), .iface 26 (.int .i64 z), .iface 26 (.int .i64 z), .bool true, undef, undef, undef, undef, undef, undef, undef], defers := [] } _
  go_region
  refine ⟨rfl, _, rfl, .tuple #[], results_none rfl _ _ _, rfl, rfl, ?_, ?_, ?_⟩
  · have q := (TokAt.set ht ⟨0, ⟨#[]⟩, ⟨#[]⟩, 0, fz, 0, false⟩).other (k := be) (o := 0) (.int .i64 z) n1
    dsimp only at q
    exact q.drew
  · have n1' := Ne.symm n1
    have q := (((((((he.other (o := 0) (.int .i64 0) n1').other (o := 1) (.string ⟨#[]⟩) n1').other (o := 2) (.string ⟨#[]⟩) n1').other (o := 3) (.float .f64 0) n1').other (o := 4) (.int .i64 fz) n1').other (o := 5) (.int .i64 0) n1').other (o := 6) (.bool false) n1').set z
    exact q.drew
  · refine TF.trans ?_ (TF.of_below (below_draws (Below.refl _ _) 1))
    refine TF.trans ?_ (TF.set _ (Nat.zero_le _) (fun h => h.2 rfl))
    repeat (refine TF.trans ?_ (TF.set _ (Nat.zero_le _) (fun h => h.1 rfl)))
    exact TF.refl _ _ _
theorem TokAt.tf {F : Nat → Prop} {B b : Nat} {W W' : World} {t : Tk} (h : TokAt W b t) (k : TF F B W W') (hF : F b) : TokAt W' b t := k.same _ _ (.inl hF) h
theorem ErrAt.tf {F : Nat → Prop} {B b : Nat} {W W' : World} {z : Int} (h : ErrAt W b z) (k : TF F B W W') (hF : F b) : ErrAt W' b z := k.same _ _ (.inl hF) h
/-- A pointer in a box. -/
def PtrAt (W : World) (b rb : Nat) : Prop := W.heap[b]? = some (.cells #[.pointer (some ⟨rb, 0, none⟩)] 66 (0, 0))
theorem PtrAt.tf {F : Nat → Prop} {B b rb : Nat} {W W' : World} (h : PtrAt W b rb) (k : TF F B W W') (hF : F b) : PtrAt W' b rb := k.same _ _ (.inl hF) h
theorem PtrAt.other {W : World} {b k o rb : Nat} (h : PtrAt W b rb) (v : Value) (hk : b ≠ k) : PtrAt (W.setCell ⟨k, o, none⟩ v) b rb := (Below.heap_setCell _ _ _ _ hk).trans h
theorem PtrAt.cell {W : World} {b rb : Nat} (h : PtrAt W b rb) : W.cell? ⟨b, 0, none⟩ = some (.pointer (some ⟨rb, 0, none⟩)) := by
  have h' : W.heap[b]? = some (.cells #[.pointer (some ⟨rb, 0, none⟩)] 66 (0, 0)) := h
  rw [cell_of_row _ b _ _ _ _ h']; rfl
/-- What next leaves. -/
def Nxt (B rb : Nat) (S : ByteArray) (f : Int) (ov : Value) (at' : Int) (op' : List Int) (w w' : World) : Prop :=
  ∃ ov', Rdr B w' rb S at' f ov' op' ∧ TF (RdF rb ov) B w w' ∧ ∀ g, ov'.ownBlock = some g → ov.ownBlock = some g ∨ w.heap.size ≤ g
theorem tok_zero : Obj.cells tok0 31 = Obj.cells #[.int .i64 0, .string ⟨#[]⟩, .string ⟨#[]⟩, .float .f64 0, .int .i64 0, .int .i64 0, .bool false] 31 (0, 0) := rfl
/-- The three boxes that next makes. -/
theorem boxes (w : World) (rb : Nat) : ∃ W1, W1 = ((w.alloc (.cells #[.pointer (some ⟨rb, 0, none⟩)] 66)).alloc (.cells tok0 31)).alloc (.cells #[.int .i64 0] 26) ∧ PtrAt W1 w.heap.size rb ∧ TokAt W1 (w.heap.size + 1) ⟨0, ⟨#[]⟩, ⟨#[]⟩, 0, 0, 0, false⟩ ∧ ErrAt W1 (w.heap.size + 2) 0 ∧ Below w.heap.size w W1 ∧ W1.heap.size = w.heap.size + 3 := by
  refine ⟨_, rfl, ?_, ?_, ?_, ((below_new).alloc (by simp <;> omega) _).alloc (by simp <;> omega) _, by simp⟩
  · refine (Below.heap_alloc _ _ _ (by simp <;> omega)).trans ((Below.heap_alloc _ _ _ (by simp <;> omega)).trans (World.alloc_heap_new w _))
  · have e := World.alloc_heap_new (w.alloc (.cells #[.pointer (some ⟨rb, 0, none⟩)] 66)) (.cells tok0 31)
    rw [World.size_alloc] at e
    exact (Below.heap_alloc _ _ _ (by simp <;> omega)).trans e
  · have e := World.alloc_heap_new ((w.alloc (.cells #[.pointer (some ⟨rb, 0, none⟩)] 66)).alloc (.cells tok0 31)) (.cells #[.int .i64 0] 26)
    rw [World.size_alloc, World.size_alloc] at e
    exact e
set_option maxHeartbeats 2000000 in
set_option maxRecDepth 100000 in
theorem next_no {B rb : Nat} {S : ByteArray} {a0 f0 a1 : Int} {ov : Value} {op : List Int} {line : Bool} (w : World) (h : Rdr B w rb S a0 f0 ov op)
    (HS : ∀ W, Rdr B W rb S a0 f0 ov op → Calls Tryz.prog 42 #[.pointer (some ⟨rb, 0, none⟩)] W fun e w' => e = .returned (.bool line) ∧ Rdr B w' rb S a1 a1 ov op ∧ TF (RdF rb ov) B W w')
    (HT : ∀ W, Rdr B W rb S a1 a1 ov op → Calls Tryz.prog 43 #[.pointer (some ⟨rb, 0, none⟩)] W fun e w' => e = .panicked [{ v := .iface 26 (.int .i64 50), recovered := false }] ∧ Rdr B w' rb S a1 a1 ov op ∧ TF (RdF rb ov) B W w') :
    Calls Tryz.prog 24 #[.pointer (some ⟨rb, 0, none⟩)] w fun e w' => e = .returned (.tuple #[Tk.agg ⟨0, ⟨#[]⟩, ⟨#[]⟩, 0, a1, 0, false⟩, .int .i64 50]) ∧ Nxt B rb S a1 ov a1 op w w' := by
  have hmf : ∀ (fn : Fn) (first cap : Array Value) (w : World), (Instr.makeFunc fn first cap).run Tryz.prog w = .ok (.func fn first cap) w := fun _ _ _ _ => rfl
  obtain ⟨W1, hW1, hp, ht, he, b1, s1⟩ := boxes w rb
  have hR1 := h.below b1
  have HSS := Hid.mk' (HS W1 hR1)
  have HTT := Hid.mk' HT
  have aw := fun (k : Nat) (hk : w.heap.size ≤ k) => (show RdF rb ov k from h.away hk)
  have cp := hp.cell
  have HP := Hid.mk' hp
  have HTO := Hid.mk' ht
  have HER := Hid.mk' he
  have HAW := Hid.mk' aw
  have HB1 := Hid.mk' b1
  obtain ⟨nb, hnb⟩ : ∃ nb, w.heap.size = nb := ⟨_, rfl⟩
  rw [hnb] at cp HP HTO HER HAW
  have HNB := Hid.mk' hnb
  have hge := h.ge
  have hlt := h.lt
  rw [hnb] at hlt
  clear HS HT h hR1 hp ht he b1 aw s1
  go_enter_defers Tryz.func24, Tryz.ntmps24
  go_wp2_with fail
  simp only [← hW1]
  refine HSS.out.mono ?_
  rintro e w1 ⟨rfl, hR2, hT2⟩
  have hp2 := HP.out.tf hT2 (HAW.out nb (Nat.le_refl _))
  have cp2 := hp2.cell
  have HTT2 := Hid.mk' (HTT.out w1 hR2)
  have HT2 := Hid.mk' hT2
  have HP2 := Hid.mk' hp2
  clear hp2 hR2 hT2 cp
  go_wp2_with fail
  refine HTT2.out.mono ?_
  rintro e w2 ⟨rfl, hR3, hT3⟩
  have n0 : RdF rb ov nb := HAW.out nb (Nat.le_refl _)
  have n1 : RdF rb ov (nb + 1) := HAW.out (nb + 1) (by omega)
  have n2 : RdF rb ov (nb + 1 + 1) := HAW.out (nb + 2) (by omega)
  have hp3 := HP2.out.tf hT3 n0
  have ht3 := (HTO.out.tf HT2.out n1).tf hT3 n1
  have he3 := (HER.out.tf HT2.out n2).tf hT3 n2
  have HK := Hid.mk' (catch_thrown nb (nb + 1) (nb + 1 + 1) rb 50 a1 _ w2 hp3.cell hR3.cells.2.2.1 ht3 he3 (by omega) (by omega) (by omega) (by omega) (by omega))
  go_wp2
  refine leaves_cons (f := 41) (args := #[.pointer (some ⟨nb, 0, none⟩), .pointer (some ⟨nb + 1, 0, none⟩), .pointer (some ⟨nb + 1 + 1, 0, none⟩)]) (by simp) (by simp [go_sem]) ?_
  refine HK.out.mono ?_
  rintro e u' w3 ⟨rfl, rfl, ht4, he4, hT4⟩
  obtain ⟨z0, z1, z2, z3, z4, z5, z6, zf⟩ := ht4.cells
  obtain ⟨y0, yf⟩ := he4.cells
  refine ⟨.tuple #[Tk.agg ⟨0, ⟨#[]⟩, ⟨#[]⟩, 0, a1, 0, false⟩, .int .i64 50], ?_, rfl, ov, ?_, ?_, fun g hg => .inl hg⟩
  · simp [results, Tryz.results24, go_sem, Tk.agg, z0, z1, z2, z3, z4, z5, z6, y0]
  · have hk : ∀ k, k < nb → (fun k => k ≠ nb + 1 ∧ k ≠ nb + 1 + 1) k := fun k hk => ⟨by omega, by omega⟩
    have hlo : ∀ k, ov.ownBlock = some k → k < nb := fun k hk => Nat.lt_of_not_le fun q => (HAW.out k q).2 hk
    refine ⟨hT4.same _ _ (.inl (hk rb hlt)) hR3.blk, ⟨hR3.own.1, ?_⟩, hR3.ge⟩
    rcases hR3.own.2 with hn | ⟨g, cap, cur, rfl, hB, hg, rest⟩
    · exact .inl hn
    · exact .inr ⟨g, cap, cur, rfl, hB, hT4.same _ _ (.inl (hk g (hlo g rfl))) hg, rest⟩
  · refine ⟨hT4.os.trans (hT3.os.trans (HT2.out.os.trans HB1.out.os)), hT4.tape.trans (hT3.tape.trans (HT2.out.tape.trans HB1.out.tape)), hT4.output.trans (hT3.output.trans (HT2.out.output.trans HB1.out.output)), Nat.le_trans HB1.out.size (Nat.le_trans HT2.out.size (Nat.le_trans hT3.size hT4.size)), fun k o hk ho => ?_⟩
    have hkn : k < nb := by rw [← HNB.out]; exact (Array.getElem?_eq_some_iff.1 ho).1
    exact hT4.same k o (.inl ⟨by omega, by omega⟩) (hT3.same k o hk (HT2.out.same k o hk ((HB1.out.block k (by rw [HNB.out]; exact hkn)).trans ho)))
end Go.Proofs.YtopdogpcachonaaGreatDoor
