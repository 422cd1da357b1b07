/- Package code: Decode. -/
import Derived.Test.YtkgjmiadgfcbnaaGreatDoorCdJ
namespace Go.Proofs.YtkgjmiadgfcbnaaGreatDoor
set_option linter.unusedVariables false
set_option linter.unusedSimpArgs false
open Go.RowKit

/-- What the closure of Decode comes to. -/
def D1 (L : List UInt8) (mb B : Nat) (w : World) (e : Ending) (w' : World) : Prop :=
  (∃ fs x, modP L = some fs ∧ e = .returned (.tuple #[]) ∧ w'.heap[mb]? = some (.cells #[x] 26 (0, 0)) ∧ isFuns B w' fs x ∧ Fr mb w w') ∨ (modP L = none ∧ e = thrown ∧ Fr mb w w')
set_option maxHeartbeats 1000000 in
set_option maxRecDepth 100000 in
theorem decode1_any {a : Option Addr} {c bb mb : Nat} {L : List UInt8} (w : World) (hb : w.cell? ⟨bb, 0, none⟩ = some (.slice a L.length c)) (hm : w.heap[mb]? = some (.cells #[.slice none 0 0] 26 (0, 0))) (h : Bv w a c L) (hL : L.length ≤ 5000) (hl : LaidL w) :
    Calls Tryz.prog 11 #[.pointer (some ⟨bb, 0, none⟩), .pointer (some ⟨mb, 0, none⟩)] w fun e w' => D1 L mb w.heap.size w e w' := by
  have HM := Hid.mk' (moduleOf_any w h hL hl)
  have HX := Hid.mk' hm
  clear h hl hm
  go_enter Tryz.func11, Tryz.ntmps11
  go_wp2_with fail
  refine HM.out.mono ?_
  rintro e w1 (⟨fs, v, p, rfl, ⟨x, rfl, hI⟩, hB⟩ | ⟨p, rfl, hB⟩)
  · have hlt : mb < w.heap.size := (Array.getElem?_eq_some_iff.1 HX.out).1
    have h1 := (hB.block mb hlt).trans HX.out
    have x0 := (cell_row _ mb 0 _ _ h1).trans rfl
    have y2 := thaw_row _ _ _ _ h1
    have HI := Hid.mk' (hI.mono (B' := w.heap.size) (by omega))
    have HB := Hid.mk' hB
    have H1 := Hid.mk' h1
    obtain ⟨els, hels, ho, hrows⟩ := hI
    obtain ⟨a2, c3, rfl, _⟩ := own_slice' ho
    have HLT := Hid.mk' hlt
    clear hels ho hrows hB h1 hlt
    go_wp2
    refine bodyPost_ret (v := .tuple #[]) (results_none rfl _ _ _) rfl (.inl ⟨fs, _, p, rfl, (set_blk _ H1.out).trans rfl, isFuns.setNew HI.out HLT.out _, ?_⟩)
    exact (Fr.of_below HB.out).trans (Fr.set _)
  · go_wp2
    exact ⟨rfl, .inr ⟨p, rfl, Fr.of_below hB⟩⟩
def ErrBox (W : World) (b : Nat) (z : Int) : Prop := W.heap[b]? = some (.cells #[.int .i64 z] 27 (0, 0))
set_option maxHeartbeats 1000000 in
theorem caught_idle (p : Addr) (w : World) :
    CallsD Tryz.prog 27 #[.pointer (some p)] .returning w fun e u' w' => e = .returned (.tuple #[]) ∧ u' = .returning ∧ w' = w := by
  refine callsD_of_wpS Tryz.func27 rfl fun c₀ cs hu => ?_
  apply wpS_seq
  apply wpS_region
  simp [wpOpsS, go_sem, recoverD, hu, Tryz.ntmps27, Exit.thenS]
  apply wpS_seq
  apply wpS_region
  simp [wpOpsS, go_sem, Exit.thenS]
  refine wpS_cond (t := false) (by simp [Act.eval, Array.replicate]) ?_
  simp only [Bool.false_eq_true, if_false]
  refine wpS_of_wp (wp_skip ?_)
  cases c₀
  simp_all [bodyPostS, results, Tryz.results27]
set_option maxHeartbeats 2000000 in
set_option maxRecDepth 100000 in
theorem caught_thrown (be : Nat) (z : Int) (w : World) (he : ErrBox w be 0) :
    CallsD Tryz.prog 27 #[.pointer (some ⟨be, 0, none⟩)] (.panicking ({ v := .iface 27 (.int .i64 z), recovered := false } :: [])) w fun e u' w' =>
      e = .returned (.tuple #[]) ∧ u' = .panicking ({ v := .iface 27 (.int .i64 z), recovered := true } :: []) ∧ ErrBox w' be z ∧ Fr be w w' := by
  have hta : ∀ W, (Instr.typeAssert (.iface 27 (.int .i64 z)) 20 27 false).run Tryz.prog W = .ok (.int .i64 z) W := fun W => by kernel_rfl
  have e0 := (cell_row _ be 0 _ _ he).trans rfl
  have ef := thaw_row _ _ _ _ he
  refine callsD_of_wpS Tryz.func27 rfl fun c₀ cs hu => ?_
  apply wpS_seq
  apply wpS_region
  simp [wpOpsS, go_sem, recoverD, hu, Tryz.ntmps27, Exit.thenS]
  apply wpS_seq
  apply wpS_region
  simp [wpOpsS, go_sem, Exit.thenS]
  refine wpS_cond (t := true) (by simp [Act.eval, Array.replicate]) ?_
  simp only [if_true]
  refine wpS_of_wp ?_
  change Code.wp _ _ _ { tmps := #[.pointer (some ⟨be, 0, none⟩), .iface 27 (.int .i64 z), .iface 27 (.int .i64 z), .iface 27 (.int .i64 z), .bool true, undef, undef], defers := [] } _
  go_wp2
  refine ⟨rfl, _, rfl, .tuple #[], results_none rfl _ _ _, rfl, rfl, (set_blk _ he).trans rfl, Fr.set _⟩
/-- What Decode's call of caught comes to. -/
def D2 (L : List UInt8) (mb B : Nat) (w : World) (e : Ending) (w' : World) : Prop :=
  (∃ fs x, modP L = some fs ∧ e = .returned (.int .i64 0) ∧ w'.heap[mb]? = some (.cells #[x] 26 (0, 0)) ∧ isFuns B w' fs x ∧ Fr mb w w') ∨ (modP L = none ∧ e = .returned (.int .i64 110) ∧ Fr mb w w')
set_option maxHeartbeats 2000000 in
set_option maxRecDepth 100000 in
theorem caughtD_any {a : Option Addr} {c bb mb : Nat} {L : List UInt8} (w : World) (hb : w.cell? ⟨bb, 0, none⟩ = some (.slice a L.length c)) (hm : w.heap[mb]? = some (.cells #[.slice none 0 0] 26 (0, 0))) (h : Bv w a c L) (hL : L.length ≤ 5000) (hl : LaidL w) :
    Calls Tryz.prog 10 #[.func (.func 11) #[] #[.pointer (some ⟨bb, 0, none⟩), .pointer (some ⟨mb, 0, none⟩)]] w fun e w' => D2 L mb w.heap.size w e w' := by
  have hmf : ∀ (fn : Fn) (first cap : Array Value) (w : World), (Instr.makeFunc fn first cap).run Tryz.prog w = .ok (.func fn first cap) w := fun _ _ _ _ => rfl
  obtain ⟨W1, hW1⟩ : ∃ W1, w.alloc (.cells #[.int .i64 0] 27) = W1 := ⟨_, rfl⟩
  have b1 : Below w.heap.size w W1 := by rw [← hW1]; exact lay_below
  have he : ErrBox W1 w.heap.size 0 := by rw [← hW1]; exact box_new
  have hlt : mb < w.heap.size := (Array.getElem?_eq_some_iff.1 hm).1
  have hbt : bb < w.heap.size := World.block_lt_of_cell? w _ hb
  have s1 : W1.heap.size = w.heap.size + 1 := by rw [← hW1]; simp
  have HD := Hid.mk' (decode1_any W1 ((Fr.of_below (rb := w.heap.size) b1).cell (by omega) hb) ((b1.block mb hlt).trans hm) (h.below b1) hL (hl.fr (rb := w.heap.size) (Fr.of_below b1) (by have := World.block_lt_of_cell? w _ (hl 0 (by omega)); simp only at this; omega)))
  rw [s1] at HD
  have HE := Hid.mk' he
  have HB1 := Hid.mk' b1
  obtain ⟨be, hbe⟩ : ∃ be, w.heap.size = be := ⟨_, rfl⟩
  rw [hbe] at HE HD ⊢
  have HBE := Hid.mk' hbe
  have HLT : Hid (mb < be) := Hid.mk' (by omega)
  clear h hl hb hm b1 he hlt hbt s1
  go_enter_defers Tryz.func10, Tryz.ntmps10
  go_wp2_with fail
  refine HD.out.mono ?_
  rintro e w1 (⟨fs, x, p, rfl, hx, hI, hF⟩ | ⟨p, rfl, hF⟩)
  · have h1 : ErrBox w1 be 0 := hF.same be _ (by have := HLT.out; omega) HE.out
    have e0 := (cell_row _ be 0 _ _ h1).trans rfl
    have ef := thaw_row _ _ _ _ h1
    have H1 := Hid.mk' h1
    have HX := Hid.mk' hx
    have HI := Hid.mk' hI
    have HF := Hid.mk' hF
    have HP := Hid.mk' p
    clear h1 hx hI hF p
    go_wp2
    refine leaves_cons (f := 27) (args := #[.pointer (some ⟨be, 0, none⟩)]) (by simp) (by simp [go_sem]) ?_
    refine (caught_idle ⟨be, 0, none⟩ _).mono ?_
    rintro e u' w2 ⟨rfl, rfl, rfl⟩
    refine ⟨.int .i64 0, ?_, .inl ⟨fs, x, HP.out, rfl, (Below.heap_setCell _ _ _ _ (show mb ≠ be by have := HLT.out; omega)).trans HX.out, ?_, ?_⟩⟩
    · simp [results, Tryz.results10, go_sem, e0]
    · exact (isFuns.setNew HI.out (by omega) _).mono (by omega)
    · exact Fr.setNew ((Fr.of_below HB1.out).trans HF.out) (by rw [HBE.out]; exact Nat.le_refl _) _
  · have h1 : ErrBox w1 be 0 := hF.same be _ (by have := HLT.out; omega) HE.out
    have HK := Hid.mk' (caught_thrown be 110 w1 h1)
    go_wp2
    refine leaves_cons (f := 27) (args := #[.pointer (some ⟨be, 0, none⟩)]) (by simp) (by simp [go_sem]) ?_
    refine HK.out.mono ?_
    rintro e u' w2 ⟨rfl, rfl, h2, hF2⟩
    have e0 := (cell_row _ be 0 _ _ h2).trans rfl
    refine ⟨.int .i64 110, ?_, .inr ⟨p, rfl, ?_⟩⟩
    · simp [results, Tryz.results10, go_sem, e0]
    · have hF3 := (Fr.of_below (rb := mb) HB1.out).trans hF
      refine ⟨hF2.os.trans hF3.os, hF2.tape.trans hF3.tape, hF2.output.trans hF3.output, Nat.le_trans hF3.size hF2.size, fun k ob hk ho => ?_⟩
      exact hF2.same k ob (by have := (Array.getElem?_eq_some_iff.1 ho).1; have := HBE.out; omega) (hF3.same k ob hk ho)
end Go.Proofs.YtkgjmiadgfcbnaaGreatDoor
