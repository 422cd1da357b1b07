/- Caches in general: what one remembers, and how it is asked, flushed and counted. Cached: a question that is not the remembered one. Cached: the remembered question; Flush, Asked; no cache at all. -/
import Derived.Test.YtoonaljmdiideaaSxC
import Derived.Test.YtoonaljmdiideaaSxQ
import Derived.Test.YtoonaljmdiideaaShD
import Derived.BigQuiet
namespace Go.Proofs.Ytoonaljmdiideaa
set_option linter.unusedVariables false
set_option linter.unusedSimpArgs false
open Go.RowKit Go.Maps Go.ChangeShapes

theorem convM {mb : Nat} {c : Array Value} {w : World} (h : w.heap[mb]? = some (.cells c 107 (0, 0))) (hc : c.size = 8) : (convert 95 91 (.pointer (some ⟨mb, 0, none⟩))).run Try.prog w = .ok (.pointer (some ⟨mb, 0, none⟩)) w := by
  obtain ⟨i, hi, h0⟩ := Option.map_eq_some_iff.1 memSize
  have hz : i.size ≠ 0 := by simpa using h0
  have hsh : w.shape? mb = some (107, 8) := by simp [World.shape?, h, hc]
  have hl : liesAt Try.prog Try.prog.depth 107 (8 / Try.prog.cellsOf 107) 0 107 1 = true := by kernel_rfl
  simp [convert, Conv.unsafePointer, Conv.seenAt, viewAt, variablesAt, sizeOf, typeInfo, run_underlying Try.underlying91, run_underlying Try.underlying95, hi, hz, hsh, hl, Result.andThen]
theorem loadI {a : Addr} {x : Int} {w : World} (hc : w.cell? a = some (.int .i64 x)) : (callFunc 58 #[.pointer (some a)]).run Try.prog w = .ok (.value (.int .i64 x)) w := by
  have he : Extern.find Try.f58 = some (Extern.Atomic.loadT (.int .i64)) := by kernel_rfl
  rw [run_callFunc_extern Try.func58 (by kernel_rfl) (by kernel_rfl) (by kernel_rfl) he]
  change (Sem.run Try.prog (do Extern.Atomic.read (.int .i64) (← asAddr (.pointer (some a)))) w).andThen _ = _
  simp [Extern.Atomic.read, asAddr, hc, Result.andThen]
set_option maxHeartbeats 400000 in
theorem int64Load_any (a : Addr) (x : Int) (w : World) (hc : w.cell? a = some (.int .i64 x)) : Calls Try.prog 44 #[.pointer (some a)] w fun e w' => e = .returned (.int .i64 x) ∧ w' = w := by
  have hl := loadI hc
  go_enter Try.func44, Try.ntmps44
  go_wp2
  go_ret
  exact ⟨rfl, rfl⟩
/-- What a cache remembers. -/
structure Mem where
  mb : Nat
  s : Int
  k : Kb
  a : Int × Int × Bool
  st : Bool
def lpA : Option Mem → Option Addr
  | none => none
  | some r => some ⟨r.mb, 0, none⟩
def cheO (cb : Nat) (lp : Option Mem) (h m : Int) : Obj := .cells #[.pointer (some ⟨cb, 0, none⟩), .pointer (lpA lp), .int .i64 h, .int .i64 m] 102 (0, 0)
def memO (g : Nat) (r : Mem) : Obj := .cells #[.pointer (some ⟨g, 0, none⟩), .int .i64 r.s, .string r.k.1, .int .i64 r.k.2, .int .i64 r.a.1, .int .i64 r.a.2.1, .bool r.a.2.2, .bool r.st] 107 (0, 0)
def memL (g : Nat) : Option Mem → List (Nat × Obj)
  | none => []
  | some r => [(r.mb, memO g r)]
/-- What is remembered to stay is so. -/
def memOk (S : List (List SlR)) (lp : Option Mem) : Prop := ∀ r, lp = some r → r.st = true → r.s < (S.length : Int) ∧ r.a = ansF S r.s r.k
theorem fr_che (cb : Nat) (lp : Option Mem) (h m : Int) : Fr (cheO cb lp h m) := fr_kind _ _ _ (by decide) (by decide) (by decide) (by decide) (by decide)
theorem fr_mem (g : Nat) (r : Mem) : Fr (memO g r) := fr_kind _ _ _ (by decide) (by decide) (by decide) (by decide) (by decide)
set_option maxHeartbeats 400000 in
theorem ptrLoad_gen (a : Addr) (g : Nat) (lp : Option Mem) (w : World) (hc : w.cell? a = some (.pointer (lpA lp))) (hm : ∀ p ∈ memL g lp, w.heap[p.1]? = some p.2) : Calls Try.prog 40 #[.pointer (some a)] w fun e w' => e = .returned (.pointer (lpA lp)) ∧ w' = w := by
  cases lp with
  | none => exact ptrLoad_any a w hc
  | some r =>
    have hl := loadP hc
    have hcv := convM (hm (r.mb, memO g r) (by simp [memL])) rfl
    unfold lpA at hl ⊢
    go_enter Try.func40, Try.ntmps40
    go_wp2
    go_ret
    exact ⟨rfl, rfl⟩
set_option maxHeartbeats 400000 in
theorem isMadeC_gen (cb : Nat) (w : World) (c0 : w.cell? ⟨cb, 0, none⟩ = some (.pointer (some ⟨cb, 0, none⟩))) : Calls Try.prog 38 #[.pointer (some ⟨cb, 0, none⟩)] w fun e w' => e = .returned (.bool true) ∧ w' = w := by
  have he := eqC_yes
  go_enter Try.func38, Try.ntmps38
  go_wp2
  go_ret
  exact ⟨rfl, rfl⟩
theorem row8_set {w : World} {b : Nat} {a0 a1 a2 a3 a4 a5 a6 a7 v4 v5 v6 : Value} {t : TypeId} (h : w.heap[b]? = some (.cells #[a0, a1, a2, a3, a4, a5, a6, a7] t (0, 0))) : (((w.setCell ⟨b, 4, none⟩ v4).setCell ⟨b, 5, none⟩ v5).setCell ⟨b, 6, none⟩ v6).heap[b]? = some (.cells #[a0, a1, a2, a3, v4, v5, v6, a7] t (0, 0)) := by
  have h1 := set_blk2 (j := 4) (v := v4) h
  have h2 := set_blk2 (j := 5) (v := v5) h1
  have h3 := set_blk2 (j := 6) (v := v6) h2
  simpa using h3
theorem row8_all {w : World} {b : Nat} {a0 a1 a2 a3 a4 a5 a6 a7 : Value} {t : TypeId} (h : w.heap[b]? = some (.cells #[a0, a1, a2, a3, a4, a5, a6, a7] t (0, 0))) : w.cell? ⟨b, 0, none⟩ = some a0 ∧ w.cell? ⟨b, 1, none⟩ = some a1 ∧ w.cell? ⟨b, 2, none⟩ = some a2 ∧ w.cell? ⟨b, 3, none⟩ = some a3 ∧ w.cell? ⟨b, 4, none⟩ = some a4 ∧ w.cell? ⟨b, 5, none⟩ = some a5 ∧ w.cell? ⟨b, 6, none⟩ = some a6 ∧ w.cell? ⟨b, 7, none⟩ = some a7 := by
  refine ⟨?_, ?_, ?_, ?_, ?_, ?_, ?_, ?_⟩ <;> simp [World.cell?, h]
section
variable {B g rb : Nat} {S : List (List SlR)} {D : List (Nat × Obj)} {w w' : World}
theorem two_has (s : Int) (w : World) (h : Two B g rb S D w) : ∃ st : Bool, (st = true → s < (S.length : Int)) ∧ ∀ W, Below w.heap.size w W → Calls Try.prog 46 #[.pointer (some ⟨g, 0, none⟩), .int .i64 s] W fun e w' => e = .returned (.bool st) ∧ w' = W := by
  obtain ⟨⟨mn, mw, vk, vs, ks, LS, fs, fv, ws, Dn, Dw, vL, vW, sv, W, E, hT, h2, h3, hR, h5, h6, hE⟩, hF⟩ := h
  by_cases hi : s < 0 ∨ (fv.length : Int) ≤ s
  · refine ⟨false, (fun h => by cases h), fun W hW => ?_⟩
    obtain ⟨c0, a, c, c3⟩ := (hT.below hW).cells
    exact has_out g s a _ c W c0 c3 hi
  · refine ⟨true, fun _ => by rw [h6.sl]; omega, fun W hW => ?_⟩
    obtain ⟨c0, a, c, c3⟩ := (hT.below hW).cells
    exact has_in g s a _ c W c0 c3 (by omega) (by omega)
set_option maxHeartbeats 4000000 in
set_option maxRecDepth 100000 in
theorem asked_two (s z : Int) (n : ByteArray) (w : World) (h : Two B g rb S D w) (hn : (n.size : Int) ≤ 140737488351232) (hz : (Lit.int .i64 (bareZ z)).wf = true) (hev : evenS n = n) (hkb : kbOf (n, z) = (n, z)) :
    Calls Try.prog 42 #[.agg #[.pointer (some ⟨g, 0, none⟩), .int .i64 s, .string n, .int .i64 z]] w fun e w' => ∃ r : Mem, e = .returned (.pointer (some ⟨r.mb, 0, none⟩)) ∧ w.heap.size ≤ r.mb ∧ w'.heap[r.mb]? = some (memO g r) ∧ r.s = s ∧ r.k = (n, z) ∧ r.a = ansF S s (n, z) ∧ (r.st = true → s < (S.length : Int)) ∧ Below w.heap.size w w' := by
  have HOW := Hid.mk' (fun W => shown_any n z W hn)
  rw [hev] at HOW
  have HU : Hid (∀ W, Below w.heap.size w W → Two B g rb S D W) := Hid.mk' (fun W hW => h.below hW)
  obtain ⟨st, hst, hhas⟩ := two_has s w h
  have HST := Hid.mk' hst
  have HHA := Hid.mk' hhas
  have HFI : Hid (∀ W, Below w.heap.size w W → Calls Try.prog 22 #[.pointer (some ⟨g, 0, none⟩), .int .i64 s, .agg #[.string n, .int .i64 z]] W fun e w' => e = .returned (ansV (ansF S s (n, z))) ∧ Below W.heap.size W w') := Hid.mk' (fun W hW => by
    have := two_find s n z W (h.below hW) hn hz
    rw [hkb] at this
    exact this)
  obtain ⟨an, han⟩ : ∃ an, ansF S s (n, z) = an := ⟨_, rfl⟩
  rw [han] at HFI
  obtain ⟨x, f, bb⟩ := an
  have HAN := Hid.mk' han
  unfold ansV at HFI
  dsimp only at HFI
  obtain ⟨W1, hW1⟩ : ∃ W1, w.alloc (.cells #[.pointer (some ⟨g, 0, none⟩), .int .i64 s, .string n, .int .i64 z] 105) = W1 := ⟨_, rfl⟩
  have b1 : Below w.heap.size w W1 := by rw [← hW1]; exact (Below.refl _ _).alloc (Nat.le_refl _) _
  have q1 : W1.heap[w.heap.size]? = some (.cells #[.pointer (some ⟨g, 0, none⟩), .int .i64 s, .string n, .int .i64 z] 105 (0, 0)) := by rw [← hW1]; exact World.alloc_heap_new _ _
  obtain ⟨b0, hb0⟩ : ∃ b0, w.heap.size = b0 := ⟨_, rfl⟩
  rw [hb0] at q1
  have HS0 := Hid.mk' hb0
  have HB1 := Hid.mk' b1
  have HQ1 := Hid.mk' q1
  have hl1 := (Array.getElem?_eq_some_iff.1 q1).1
  have HL1 := Hid.mk' hl1
  obtain ⟨g0, g1, g2, g3, _⟩ := row4_cells q1
  clear h hn b1 q1 hl1 han hst hhas hz hev hkb
  go_enter Try.func42, Try.ntmps42
  go_wp2_with fail
  refine (HOW.out _).mono ?_
  rintro e w2 ⟨rfl, b2⟩
  have q2 := (b2.block b0 HL1.out).trans HQ1.out
  obtain ⟨c0, c1, c2, c3, cf⟩ := row4_cells q2
  have f2 := cf 2
  have f3 := cf 3
  obtain ⟨W3, hW3⟩ : ∃ W3, (w2.setCell ⟨b0, 2, none⟩ (.string n)).setCell ⟨b0, 3, none⟩ (.int .i64 z) = W3 := ⟨_, rfl⟩
  have q3 : W3.heap[b0]? = some (.cells #[.pointer (some ⟨g, 0, none⟩), .int .i64 s, .string n, .int .i64 z] 105 (0, 0)) := by rw [← hW3]; exact row4_set2 q2
  have b3 : Below w.heap.size w W3 := by
    rw [← hW3]
    exact ((HB1.out.trans (b2.mono HB1.out.size)).setCell (p := ⟨b0, 2, none⟩) (by show w.heap.size ≤ b0; have := HS0.out; omega) _).setCell (p := ⟨b0, 3, none⟩) (by show w.heap.size ≤ b0; have := HS0.out; omega) _
  have HB3 := Hid.mk' b3
  have HQ3 := Hid.mk' q3
  have HH3 := Hid.mk' hW3
  obtain ⟨e0, e1, e2, e3, ef⟩ := row4_cells q3
  clear b2 q2 cf b3 q3 hW3 ef g0 g1 g2 g3
  go_upto_region 2 with fail
  rw [HH3.out]
  clear c0 c1 c2 c3 f2 f3
  go_cut [3] from 4 (fun v3 wc => ∃ mb, v3 = .pointer (some ⟨mb, 0, none⟩) ∧ Hid (w.heap.size < mb ∧ wc.heap[mb]? = some (.cells #[.pointer (some ⟨g, 0, none⟩), .int .i64 s, .string n, .int .i64 z, .int .i64 0, .int .i64 0, .bool false, .bool st] 107 (0, 0)) ∧ Below w.heap.size w wc ∧ wc.heap[b0]? = some (.cells #[.pointer (some ⟨g, 0, none⟩), .int .i64 s, .string n, .int .i64 z] 105 (0, 0))))
  case first =>
    go_region_with (go_at_call 46; refine (HHA.out _ (by first | exact HB3.out.drew | exact (HB3.out.alloc HB3.out.size _).drew)).mono ?_; rintro e w4 ⟨rfl, rfl⟩)
    all_goals
      go_wp2_with fail
      go_meet
      have hl3 : b0 < W3.heap.size := (Array.getElem?_eq_some_iff.1 HQ3.out).1
      exact ⟨_, rfl, Hid.mk' ⟨by have := HS0.out; omega, World.alloc_heap_new _ _, (HB3.out.alloc HB3.out.size _).drew, (Below.heap_alloc _ _ _ hl3).trans HQ3.out⟩⟩
  case rest =>
    obtain ⟨mb, rfl, HM⟩ := hcut
    obtain ⟨i0, i1, i2, i3, _⟩ := row4_cells HM.out.2.2.2
    have HF := Hid.mk' (HFI.out wc HM.out.2.2.1)
    clear e0 e1 e2 e3
    go_wp2_with fail
    refine HF.out.mono ?_
    rintro e w5 ⟨rfl, b5⟩
    have q5 := (b5.block mb (Array.getElem?_eq_some_iff.1 HM.out.2.1).1).trans HM.out.2.1
    obtain ⟨j0, j4, j5, j6, jf⟩ := row8_cells q5
    have k4 := jf 4
    have k5 := jf 5
    have k6 := jf 6
    have HQ5 := Hid.mk' q5
    have HB5 := Hid.mk' (HM.out.2.2.1.trans (b5.mono HM.out.2.2.1.size))
    clear q5 b5 jf i0 i1 i2 i3
    go_wp2
    go_ret
    refine ⟨⟨mb, s, (n, z), (x, f, bb), st⟩, rfl, Nat.le_of_lt HM.out.1, row8_set HQ5.out, rfl, rfl, HAN.out.symm, HST.out, ?_⟩
    exact ((HB5.out.setCell (p := ⟨mb, 4, none⟩) (Nat.le_of_lt HM.out.1) _).setCell (p := ⟨mb, 5, none⟩) (Nat.le_of_lt HM.out.1) _).setCell (p := ⟨mb, 6, none⟩) (Nat.le_of_lt HM.out.1) _
end
end Go.Proofs.Ytoonaljmdiideaa

namespace Go.Proofs.Ytoonaljmdiideaa
set_option linter.unusedVariables false
set_option linter.unusedSimpArgs false
open Go.RowKit Go.Maps Go.ChangeShapes
theorem bare_idem (s : ByteArray) (z : Int) : kbOf (kbOf (s, z)) = kbOf (s, z) ∧ evenS (kbOf (s, z)).1 = (kbOf (s, z)).1 := by
  have he : evenS (bareS s z) = bareS s z := bare_even s z
  refine ⟨?_, he⟩
  unfold kbOf
  dsimp only
  by_cases h : 0 < z
  · have h1 : bareZ z = z := by unfold bareZ; rw [if_pos h]
    have h2 : ∀ t, bareS t z = bareS s z := fun t => by unfold bareS; rw [if_pos h, if_pos h]
    rw [h1, h2, h1]
  · have h1 : bareZ z = 0 := by unfold bareZ; rw [if_neg h]
    have h2 : ∀ t, bareS t 0 = evenS t := fun t => by unfold bareS; rw [if_neg (by omega)]
    have h3 : bareZ 0 = 0 := by unfold bareZ; rw [if_neg (by omega)]
    rw [h1, h2, he, h3]
theorem row4_one {w : World} {b : Nat} {a0 a1 a2 a3 v : Value} {t : TypeId} (h : w.heap[b]? = some (.cells #[a0, a1, a2, a3] t (0, 0))) : (w.setCell ⟨b, 1, none⟩ v).heap[b]? = some (.cells #[a0, v, a2, a3] t (0, 0)) ∧ (w.setCell ⟨b, 2, none⟩ v).heap[b]? = some (.cells #[a0, a1, v, a3] t (0, 0)) ∧ (w.setCell ⟨b, 3, none⟩ v).heap[b]? = some (.cells #[a0, a1, a2, v] t (0, 0)) := by
  have h1 := set_blk2 (j := 1) (v := v) h
  have h2 := set_blk2 (j := 2) (v := v) h
  have h3 := set_blk2 (j := 3) (v := v) h
  exact ⟨by simpa using h1, by simpa using h2, by simpa using h3⟩
section
variable {B g rb : Nat} {S : List (List SlR)} {D1 D2 : List (Nat × Obj)} {w w' : World}
set_option maxHeartbeats 8000000 in
set_option maxRecDepth 100000 in
theorem cached_miss (cb : Nat) (lp : Option Mem) (hh mm : Int) (i : Int) (s : ByteArray) (z : Int) (w : World) (h : Two B g rb S (D1 ++ (cb, cheO cb lp hh mm) :: D2) w) (hm : ∀ p ∈ memL g lp, p ∈ D1 ++ (cb, cheO cb lp hh mm) :: D2) (hnd : ∀ p ∈ D1 ++ D2, p.1 ≠ cb) (hs : (s.size : Int) ≤ 140737488351232) (hz : (Lit.int .i64 (bareZ z)).wf = true) (m0 : 0 ≤ mm) (m1 : mm < 9000000000000000000) (hBc : B ≤ cb) (hdiff : ∀ r, lp = some r → ¬ (r.s = i ∧ r.k = kbOf (s, z))) :
    Calls Try.prog 17 #[.pointer (some ⟨g, 0, none⟩), .pointer (some ⟨cb, 0, none⟩), .int .i64 i, .agg #[.string s, .int .i64 z]] w fun e w' => e = .returned (ansV (ansF S i (kbOf (s, z)))) ∧ Below B w w' ∧ ∃ r : Mem, r.s = i ∧ r.k = kbOf (s, z) ∧ memOk S (some r) ∧ Two B g rb S (D1 ++ (cb, cheO cb (some r) hh (mm + 1)) :: ((r.mb, memO g r) :: D2)) w' := by
  have hcin : (cb, cheO cb lp hh mm) ∈ D1 ++ (cb, cheO cb lp hh mm) :: D2 := by simp
  have hc : w.heap[cb]? = some (cheO cb lp hh mm) := h.c _ hcin
  have hcl : cb < w.heap.size := (Array.getElem?_eq_some_iff.1 hc).1
  obtain ⟨hid, hev⟩ := bare_idem s z
  have hN := bareS_le s z hs
  have HBA := Hid.mk' (fun W => shbare_any s z W hs)
  have hzb : (Lit.int .i64 (bareZ (kbOf (s, z)).2)).wf = true := by
    have := congrArg Prod.snd hid
    show (Lit.int .i64 (kbOf (kbOf (s, z))).2).wf = true
    rw [this]
    exact hz
  obtain ⟨kq, hkq⟩ : ∃ kq, kbOf (s, z) = kq := ⟨_, rfl⟩
  obtain ⟨q, y⟩ := kq
  have hq : bareS s z = q := congrArg Prod.fst hkq
  have hy : bareZ z = y := congrArg Prod.snd hkq
  rw [hkq] at hid hev hdiff hzb ⊢
  rw [hq, hy] at HBA
  rw [hq] at hN
  have HTW : Hid (∀ W, Below w.heap.size w W → Two B g rb S (D1 ++ (cb, cheO cb lp hh mm) :: D2) W) := Hid.mk' (fun W hW => h.below hW)
  obtain ⟨pa, hpa⟩ : ∃ pa, lpA lp = pa := ⟨_, rfl⟩
  have HCB : Hid (∀ W, Below w.heap.size w W → W.heap[cb]? = some (.cells #[.pointer (some ⟨cb, 0, none⟩), .pointer pa, .int .i64 hh, .int .i64 mm] 102 (0, 0))) := Hid.mk' (fun W hW => by rw [← hpa]; exact (h.below hW).c _ hcin)
  have HLD : Hid (∀ W, Below w.heap.size w W → Calls Try.prog 40 #[.pointer (some ⟨cb, 1, none⟩)] W fun e w' => e = .returned (.pointer pa) ∧ w' = W) := Hid.mk' (fun W hW => by
    rw [← hpa]
    exact ptrLoad_gen ⟨cb, 1, none⟩ g lp W (row4_cells ((h.below hW).c _ hcin)).2.1 (fun p hp => (h.below hW).c p (hm p hp)))
  have HAS : Hid (∀ W D, Two B g rb S D W → Calls Try.prog 42 #[.agg #[.pointer (some ⟨g, 0, none⟩), .int .i64 i, .string q, .int .i64 y]] W fun e w' => ∃ r : Mem, e = .returned (.pointer (some ⟨r.mb, 0, none⟩)) ∧ W.heap.size ≤ r.mb ∧ w'.heap[r.mb]? = some (memO g r) ∧ r.s = i ∧ r.k = (q, y) ∧ r.a = ansF S i (q, y) ∧ (r.st = true → i < (S.length : Int)) ∧ Below W.heap.size W w') := Hid.mk' (fun W D hD => asked_two i y q W hD hN hzb hev hid)
  obtain ⟨W1, hW1⟩ : ∃ W1, w.alloc (.cells #[.string s, .int .i64 z] 31) = W1 := ⟨_, rfl⟩
  have b1 : Below w.heap.size w W1 := by rw [← hW1]; exact (Below.refl _ _).alloc (Nat.le_refl _) _
  have q1 : W1.heap[w.heap.size]? = some (.cells #[.string s, .int .i64 z] 31 (0, 0)) := by rw [← hW1]; exact World.alloc_heap_new _ _
  obtain ⟨_, _, g0, g1⟩ := pair_facts q1
  have HM := Hid.mk' (isMadeC_gen cb W1 (row4_cells (HCB.out W1 b1)).1)
  have HB1 := Hid.mk' b1
  have HND := Hid.mk' hnd
  have HCL := Hid.mk' hcl
  have HBC := Hid.mk' hBc
  have HMM := Hid.mk' (And.intro m0 m1)
  have HGE := Hid.mk' h.ge
  have HDI := Hid.mk' hdiff
  have HPA := Hid.mk' hpa
  have HME : Hid (∀ W, Below w.heap.size w W → ∀ p ∈ memL g lp, W.heap[p.1]? = some p.2) := Hid.mk' (fun W hW p hp => (h.below hW).c p (hm p hp))
  clear h hm hnd hs hz m0 m1 hBc hdiff hcin hc hcl hid hev hN hzb hkq hq hy b1 q1 hpa
  go_enter Try.func17, Try.ntmps17
  go_upto_region 1 with fail
  try rw [hW1]
  clear hW1
  go_wp2_with fail
  refine HM.out.mono ?_
  rintro e w2 ⟨rfl, rfl⟩
  go_wp2_with fail
  refine (HBA.out _).mono ?_
  rintro e w3 ⟨rfl, b3⟩
  have B3 : Below w.heap.size w w3 := HB1.out.trans (b3.mono HB1.out.size)
  obtain ⟨W4, hW4⟩ : ∃ W4, w3.alloc (.cells #[.pointer (some ⟨g, 0, none⟩), .int .i64 i, .string q, .int .i64 y] 105) = W4 := ⟨_, rfl⟩
  have b4 : Below w3.heap.size w3 W4 := by rw [← hW4]; exact (Below.refl _ _).alloc (Nat.le_refl _) _
  have q4 : W4.heap[w3.heap.size]? = some (.cells #[.pointer (some ⟨g, 0, none⟩), .int .i64 i, .string q, .int .i64 y] 105 (0, 0)) := by rw [← hW4]; exact World.alloc_heap_new _ _
  obtain ⟨b9, hb9⟩ : ∃ b9, w3.heap.size = b9 := ⟨_, rfl⟩
  rw [hb9] at q4
  have HB4 : Hid (Below w.heap.size w W4) := Hid.mk' (B3.trans (b4.mono B3.size))
  have HQ4 := Hid.mk' q4
  have HL4 : Hid (cb < b9) := Hid.mk' (by have := HCL.out; have := B3.size; omega)
  have HP := Hid.mk' (HLD.out W4 HB4.out)
  clear g0 g1 b3 B3 b4 q4
  go_upto_region 4 with fail
  try rw [hW4]
  try rw [hb9]
  clear hW4 hb9
  go_wp2_with fail
  refine HP.out.mono ?_
  rintro e w5 ⟨rfl, rfl⟩
  go_upto_region 5 with fail
  go_cut [41] from 13 (fun v41 wc => v41 = .bool true ∧ Hid (∃ n, wc = w5.drewN n))
  case first =>
    obtain ⟨d0, d1, d2, d3, _⟩ := row4_cells HQ4.out
    cases lp with
    | none =>
      obtain rfl : pa = none := HPA.out.symm
      go_quiet (fail)
      go_wp2_with fail
      go_meet
      exact ⟨rfl, Hid.mk' ⟨_, rfl⟩⟩
    | some r =>
      obtain ⟨mb, rs, ⟨k1, k2⟩, ⟨ax, af, ab⟩, st⟩ := r
      obtain rfl : pa = some ⟨mb, 0, none⟩ := HPA.out.symm
      have hrow : w5.heap[mb]? = some (.cells #[.pointer (some ⟨g, 0, none⟩), .int .i64 rs, .string k1, .int .i64 k2, .int .i64 ax, .int .i64 af, .bool ab, .bool st] 107 (0, 0)) := HME.out w5 HB4.out _ (List.mem_singleton.2 rfl)
      obtain ⟨c0, c1, c2, c3, _⟩ := row8_all hrow
      have hne : ∀ W, (binOp .neq 105 (.agg #[.pointer (some ⟨g, 0, none⟩), .int .i64 rs, .string k1, .int .i64 k2]) (.agg #[.pointer (some ⟨g, 0, none⟩), .int .i64 i, .string q, .int .i64 y])).run Try.prog W = .ok (.bool true) W := fun W => neqQ_other g rs i k2 y k1 q W (fun e => HDI.out _ rfl ⟨e.1, by rw [Prod.mk.injEq]; exact e.2⟩)
      clear hrow
      go_quiet (fail)
      go_wp2_with fail
      go_meet
      exact ⟨rfl, Hid.mk' ⟨_, rfl⟩⟩
  case rest =>
    obtain ⟨rfl, HWC⟩ := hcut
    obtain ⟨HBc, HQc⟩ : Hid (Below w.heap.size w wc) ∧ Hid (wc.heap[b9]? = some (.cells #[.pointer (some ⟨g, 0, none⟩), .int .i64 i, .string q, .int .i64 y] 105 (0, 0))) := by
      obtain ⟨n, rfl⟩ := HWC.out
      exact ⟨Hid.mk' (below_drewN HB4.out n), Hid.mk' HQ4.out⟩
    have C5 := HCB.out wc HBc.out
    have HA := Hid.mk' (int64Add_any ⟨cb, 3, none⟩ mm wc (row4_cells C5).2.2.2.1 ((row4_cells C5).2.2.2.2 3) HMM.out.1 HMM.out.2)
    obtain ⟨W6, hW6⟩ : ∃ W6, wc.setCell ⟨cb, 3, none⟩ (.int .i64 (mm + 1)) = W6 := ⟨_, rfl⟩
    have HT6 : Hid (Two B g rb S (D1 ++ (cb, cheO cb lp hh (mm + 1)) :: D2) W6) := Hid.mk' (by
      refine (HTW.out wc HBc.out).set cb _ (cheO cb lp hh (mm + 1)) D1 D2 rfl (by rw [← hW6]; exact Sv.set wc cb 3 _) ?_ (fr_che _ _ _ _) HND.out
      rw [← hW6]
      unfold cheO
      rw [HPA.out]
      exact (row4_one C5).2.2)
    have B6 : Below B w W6 := by rw [← hW6]; exact (HBc.out.mono HGE.out.2.2).setCell (p := ⟨cb, 3, none⟩) HBC.out _
    have Q6 : W6.heap[b9]? = some (.cells #[.pointer (some ⟨g, 0, none⟩), .int .i64 i, .string q, .int .i64 y] 105 (0, 0)) := by rw [← hW6]; exact (Below.heap_setCell _ _ _ _ (by show b9 ≠ cb; have := HL4.out; omega)).trans HQc.out
    have S6 : w.heap.size ≤ W6.heap.size := by rw [← hW6]; simp [World.setCell]; exact HBc.out.size
    have HSZ := Hid.mk' S6
    have HB6 := Hid.mk' B6
    have HH6 := Hid.mk' hW6
    have HAS6 := Hid.mk' (HAS.out W6 _ HT6.out)
    obtain ⟨r0, r1, r2, r3, _⟩ := row4_cells Q6
    clear C5 B6 Q6 hW6 S6
    go_wp2_with fail
    refine HA.out.mono ?_
    rintro e w6 ⟨rfl, hw6⟩
    rw [HH6.out] at hw6
    subst hw6
    go_wp2_with fail
    refine HAS6.out.mono ?_
    rintro e w7 ⟨r, rfl, hmb, hrow, hrs, hrk, hra, hrst, b7⟩
    obtain ⟨mb, rs, rk, ⟨ax, af, ab⟩, st⟩ := r
    dsimp only at hmb hrow hrs hrk hra hrst
    subst hrs hrk
    have hcm : cb < mb := by have := HSZ.out; have := HCL.out; omega
    have HRA := Hid.mk' hra
    have HT7 : Two B g rb S (D1 ++ (cb, cheO cb lp hh (mm + 1)) :: ((mb, memO g ⟨mb, rs, (q, y), (ax, af, ab), st⟩) :: D2)) w7 := by
      refine (HT6.out.cons b7 mb _ hmb hrow (fr_mem _ _)).sub (fun p hp => ?_)
      simp only [List.mem_append, List.mem_cons] at hp ⊢
      rcases hp with hp | hp | hp | hp
      · exact .inr (.inl hp)
      · exact .inr (.inr (.inl hp))
      · exact .inl hp
      · exact .inr (.inr (.inr hp))
    have C7 : w7.heap[cb]? = some (.cells #[.pointer (some ⟨cb, 0, none⟩), .pointer pa, .int .i64 hh, .int .i64 (mm + 1)] 102 (0, 0)) := by
      have := HT7.c (cb, cheO cb lp hh (mm + 1)) (by simp)
      unfold cheO at this
      rw [HPA.out] at this
      exact this
    have hm0 : w7.cell? ⟨mb, 0, none⟩ = some (.pointer (some ⟨g, 0, none⟩)) := (row8_all hrow).1
    have HST := Hid.mk' (ptrStore_any ⟨cb, 1, none⟩ ⟨mb, 0, none⟩ _ _ w7 (row4_cells C7).2.1 ((row4_cells C7).2.2.2.2 1) hm0)
    obtain ⟨W8, hW8⟩ : ∃ W8, w7.setCell ⟨cb, 1, none⟩ (.pointer (some ⟨mb, 0, none⟩)) = W8 := ⟨_, rfl⟩
    have HB8 : Hid (Below B w W8) := Hid.mk' (by rw [← hW8]; exact (HB6.out.trans (b7.mono (Nat.le_trans HGE.out.2.2 HSZ.out))).setCell (p := ⟨cb, 1, none⟩) HBC.out _)
    have HT8 : Hid (Two B g rb S (D1 ++ (cb, cheO cb (some ⟨mb, rs, (q, y), (ax, af, ab), st⟩) hh (mm + 1)) :: ((mb, memO g ⟨mb, rs, (q, y), (ax, af, ab), st⟩) :: D2)) W8) := Hid.mk' (by
      refine HT7.set cb _ _ D1 _ rfl (by rw [← hW8]; exact Sv.set w7 cb 1 _) ?_ (fr_che _ _ _ _) (fun p hp => ?_)
      · rw [← hW8]
        exact (row4_one C7).1
      · rcases List.mem_append.1 hp with hp | hp
        · exact HND.out p (List.mem_append_left _ hp)
        · rcases List.mem_cons.1 hp with rfl | hp
          · show mb ≠ cb
            omega
          · exact HND.out p (List.mem_append_right _ hp))
    have R8 : W8.heap[mb]? = some (.cells #[.pointer (some ⟨g, 0, none⟩), .int .i64 rs, .string q, .int .i64 y, .int .i64 ax, .int .i64 af, .bool ab, .bool st] 107 (0, 0)) := HT8.out.c (mb, memO g ⟨mb, rs, (q, y), (ax, af, ab), st⟩) (List.mem_append_right _ (List.mem_cons_of_mem _ (List.mem_cons_self ..)))
    obtain ⟨_, _, _, _, n4, n5, n6, _⟩ := row8_all R8
    have HH8 := Hid.mk' hW8
    have HMO : Hid (st = true → rs < (S.length : Int)) := Hid.mk' hrst
    clear hmb hrow b7 hm0 C7 HT7 R8 hW8 r0 r1 r2 r3 hra hrst hcm
    go_wp2_with fail
    refine HST.out.mono ?_
    rintro e w8 ⟨rfl, hw8⟩
    rw [HH8.out] at hw8
    subst hw8
    go_upto_region 9 with fail
    go_quiet (fail)
    go_wp2
    go_ret3
    refine ⟨by rw [← HRA.out]; rfl, below_drewN HB8.out _, ⟨mb, rs, (q, y), (ax, af, ab), st⟩, rfl, rfl, fun r hr hst => ?_, HT8.out.below (below_drewN (Below.refl _ _) _)⟩
    cases hr
    exact ⟨HMO.out hst, HRA.out⟩
end
end Go.Proofs.Ytoonaljmdiideaa

namespace Go.Proofs.Ytoonaljmdiideaa
set_option linter.unusedVariables false
set_option linter.unusedSimpArgs false
open Go.RowKit Go.Maps Go.ChangeShapes
section
variable {B g rb : Nat} {S : List (List SlR)} {D D1 D2 : List (Nat × Obj)} {w w' : World}
set_option maxHeartbeats 8000000 in
set_option maxRecDepth 100000 in
theorem cached_hit (cb mb : Nat) (an : Int × Int × Bool) (st : Bool) (hh mm : Int) (i : Int) (s : ByteArray) (z : Int) (q : ByteArray) (y : Int) (hkq : kbOf (s, z) = (q, y)) (w : World) (h : Two B g rb S (D1 ++ (cb, cheO cb (some ⟨mb, i, (q, y), an, st⟩) hh mm) :: D2) w) (hm : (mb, memO g ⟨mb, i, (q, y), an, st⟩) ∈ D1 ++ D2) (hok : st = true → an = ansF S i (q, y)) (hnd : ∀ p ∈ D1 ++ D2, p.1 ≠ cb) (hs : (s.size : Int) ≤ 140737488351232) (hz : (Lit.int .i64 (bareZ z)).wf = true) (h0 : 0 ≤ hh) (h1 : hh < 9000000000000000000) (hBc : B ≤ cb) :
    Calls Try.prog 17 #[.pointer (some ⟨g, 0, none⟩), .pointer (some ⟨cb, 0, none⟩), .int .i64 i, .agg #[.string s, .int .i64 z]] w fun e w' => e = .returned (ansV (ansF S i (q, y))) ∧ Below B w w' ∧ Two B g rb S (D1 ++ (cb, cheO cb (some ⟨mb, i, (q, y), an, st⟩) (hh + 1) mm) :: D2) w' := by
  obtain ⟨lp, hlp⟩ : ∃ lp, some (⟨mb, i, (q, y), an, st⟩ : Mem) = lp := ⟨_, rfl⟩
  have hlpA : lpA lp = some ⟨mb, 0, none⟩ := by rw [← hlp]; rfl
  have hmm : ∀ p ∈ memL g lp, p ∈ D1 ++ (cb, cheO cb lp hh mm) :: D2 := fun p hp => by
    rw [← hlp] at hp
    rw [List.mem_singleton.1 hp]
    rcases List.mem_append.1 hm with hm | hm
    · exact List.mem_append_left _ hm
    · exact List.mem_append_right _ (List.mem_cons_of_mem _ hm)
  rw [hlp] at h ⊢
  have hmi : (mb, memO g ⟨mb, i, (q, y), an, st⟩) ∈ D1 ++ (cb, cheO cb lp hh mm) :: D2 := hmm _ (by rw [← hlp]; exact List.mem_singleton.2 rfl)
  have hmne : mb ≠ cb := hnd _ hm
  have hcin : (cb, cheO cb lp hh mm) ∈ D1 ++ (cb, cheO cb lp hh mm) :: D2 := by simp
  have hc : w.heap[cb]? = some (cheO cb lp hh mm) := h.c _ hcin
  have hcl : cb < w.heap.size := (Array.getElem?_eq_some_iff.1 hc).1
  have HBA := Hid.mk' (fun W => shbare_any s z W hs)
  have hq : bareS s z = q := congrArg Prod.fst hkq
  have hy : bareZ z = y := congrArg Prod.snd hkq
  rw [hq, hy] at HBA
  have HTW : Hid (∀ W, Below w.heap.size w W → Two B g rb S (D1 ++ (cb, cheO cb lp hh mm) :: D2) W) := Hid.mk' (fun W hW => h.below hW)
  have HCB : Hid (∀ W, Below w.heap.size w W → W.heap[cb]? = some (.cells #[.pointer (some ⟨cb, 0, none⟩), .pointer (some ⟨mb, 0, none⟩), .int .i64 hh, .int .i64 mm] 102 (0, 0))) := Hid.mk' (fun W hW => by rw [← hlpA]; exact (h.below hW).c _ hcin)
  have HLD : Hid (∀ W, Below w.heap.size w W → Calls Try.prog 40 #[.pointer (some ⟨cb, 1, none⟩)] W fun e w' => e = .returned (.pointer (some ⟨mb, 0, none⟩)) ∧ w' = W) := Hid.mk' (fun W hW => by
    rw [← hlpA]
    exact ptrLoad_gen ⟨cb, 1, none⟩ g lp W (row4_cells ((h.below hW).c _ hcin)).2.1 (fun p hp => (h.below hW).c p (hmm p hp)))
  have HFI : Hid (∀ W D, Two B g rb S D W → Calls Try.prog 22 #[.pointer (some ⟨g, 0, none⟩), .int .i64 i, .agg #[.string s, .int .i64 z]] W fun e w' => e = .returned (ansV (ansF S i (q, y))) ∧ Below W.heap.size W w') := Hid.mk' (fun W D hD => by
    have := two_find i s z W hD hs hz
    rw [hkq] at this
    exact this)
  obtain ⟨W1, hW1⟩ : ∃ W1, w.alloc (.cells #[.string s, .int .i64 z] 31) = W1 := ⟨_, rfl⟩
  have b1 : Below w.heap.size w W1 := by rw [← hW1]; exact (Below.refl _ _).alloc (Nat.le_refl _) _
  have q1 : W1.heap[w.heap.size]? = some (.cells #[.string s, .int .i64 z] 31 (0, 0)) := by rw [← hW1]; exact World.alloc_heap_new _ _
  obtain ⟨b0, hb0⟩ : ∃ b0, w.heap.size = b0 := ⟨_, rfl⟩
  rw [hb0] at q1
  obtain ⟨_, _, g0, g1⟩ := pair_facts q1
  have HQ1 := Hid.mk' q1
  have HS0 := Hid.mk' hb0
  have HM := Hid.mk' (isMadeC_gen cb W1 (row4_cells (HCB.out W1 b1)).1)
  have HB1 := Hid.mk' b1
  have HND := Hid.mk' hnd
  have HCL : Hid (cb < b0) := Hid.mk' (by omega)
  have HBC := Hid.mk' hBc
  have HHH := Hid.mk' (And.intro h0 h1)
  have HGE := Hid.mk' h.ge
  have HOK := Hid.mk' hok
  have HMI := Hid.mk' hmi
  have HNE := Hid.mk' hmne
  have HLA := Hid.mk' hlpA
  have HLP := Hid.mk' hlp
  clear h hm hmm hmi hmne hnd hs hz h0 h1 hBc hok hcin hc hcl hkq hq hy b1 q1 hlpA hlp hb0
  obtain ⟨ax, af, ab⟩ := an
  go_enter Try.func17, Try.ntmps17
  go_upto_region 1 with fail
  try rw [hW1]
  try rw [HS0.out]
  clear hW1
  go_wp2_with fail
  refine HM.out.mono ?_
  rintro e w2 ⟨rfl, rfl⟩
  go_wp2_with fail
  refine (HBA.out _).mono ?_
  rintro e w3 ⟨rfl, b3⟩
  have B3 : Below w.heap.size w w3 := HB1.out.trans (b3.mono HB1.out.size)
  have Q3 : w3.heap[b0]? = some (.cells #[.string s, .int .i64 z] 31 (0, 0)) := (b3.block b0 (Array.getElem?_eq_some_iff.1 HQ1.out).1).trans HQ1.out
  obtain ⟨W4, hW4⟩ : ∃ W4, w3.alloc (.cells #[.pointer (some ⟨g, 0, none⟩), .int .i64 i, .string q, .int .i64 y] 105) = W4 := ⟨_, rfl⟩
  have b4 : Below w3.heap.size w3 W4 := by rw [← hW4]; exact (Below.refl _ _).alloc (Nat.le_refl _) _
  have q4 : W4.heap[w3.heap.size]? = some (.cells #[.pointer (some ⟨g, 0, none⟩), .int .i64 i, .string q, .int .i64 y] 105 (0, 0)) := by rw [← hW4]; exact World.alloc_heap_new _ _
  have HQK : Hid (W4.heap[b0]? = some (.cells #[.string s, .int .i64 z] 31 (0, 0))) := Hid.mk' ((b4.block b0 (Array.getElem?_eq_some_iff.1 Q3).1).trans Q3)
  obtain ⟨b9, hb9⟩ : ∃ b9, w3.heap.size = b9 := ⟨_, rfl⟩
  rw [hb9] at q4
  have HB4 : Hid (Below w.heap.size w W4) := Hid.mk' (B3.trans (b4.mono B3.size))
  have HQ4 := Hid.mk' q4
  have HP := Hid.mk' (HLD.out W4 HB4.out)
  clear g0 g1 b3 B3 b4 q4 Q3
  go_upto_region 4 with fail
  try rw [hW4]
  try rw [hb9]
  clear hW4 hb9
  go_wp2_with fail
  refine HP.out.mono ?_
  rintro e w5 ⟨rfl, rfl⟩
  go_upto_region 5 with fail
  go_cut [41] from 13 (fun v41 wc => v41 = .bool false ∧ Hid (∃ n, wc = w5.drewN n))
  case first =>
    obtain ⟨d0, d1, d2, d3, _⟩ := row4_cells HQ4.out
    have hrow : w5.heap[mb]? = some (.cells #[.pointer (some ⟨g, 0, none⟩), .int .i64 i, .string q, .int .i64 y, .int .i64 ax, .int .i64 af, .bool ab, .bool st] 107 (0, 0)) := (HTW.out w5 HB4.out).c _ HMI.out
    obtain ⟨c0, c1, c2, c3, _⟩ := row8_all hrow
    have hne : ∀ W, (binOp .neq 105 (.agg #[.pointer (some ⟨g, 0, none⟩), .int .i64 i, .string q, .int .i64 y]) (.agg #[.pointer (some ⟨g, 0, none⟩), .int .i64 i, .string q, .int .i64 y])).run Try.prog W = .ok (.bool false) W := fun W => neqQ_same g i y q W
    clear hrow
    go_quiet (fail)
    go_wp2_with fail
    go_meet
    exact ⟨rfl, Hid.mk' ⟨_, rfl⟩⟩
  case rest =>
    obtain ⟨rfl, HWC⟩ := hcut
    obtain ⟨HBc, HQc⟩ : Hid (Below w.heap.size w wc) ∧ Hid (wc.heap[b0]? = some (.cells #[.string s, .int .i64 z] 31 (0, 0))) := by
      obtain ⟨n, rfl⟩ := HWC.out
      exact ⟨Hid.mk' (below_drewN HB4.out n), Hid.mk' HQK.out⟩
    have C5 := HCB.out wc HBc.out
    have HA := Hid.mk' (int64Add_any ⟨cb, 2, none⟩ hh wc (row4_cells C5).2.2.1 ((row4_cells C5).2.2.2.2 2) HHH.out.1 HHH.out.2)
    obtain ⟨W6, hW6⟩ : ∃ W6, wc.setCell ⟨cb, 2, none⟩ (.int .i64 (hh + 1)) = W6 := ⟨_, rfl⟩
    have HT6 : Hid (Two B g rb S (D1 ++ (cb, cheO cb lp (hh + 1) mm) :: D2) W6) := Hid.mk' (by
      refine (HTW.out wc HBc.out).set cb _ (cheO cb lp (hh + 1) mm) D1 D2 rfl (by rw [← hW6]; exact Sv.set wc cb 2 _) ?_ (fr_che _ _ _ _) HND.out
      rw [← hW6]
      unfold cheO
      rw [HLA.out]
      exact (row4_one C5).2.1)
    have HB6 : Hid (Below B w W6) := Hid.mk' (by rw [← hW6]; exact (HBc.out.mono HGE.out.2.2).setCell (p := ⟨cb, 2, none⟩) HBC.out _)
    have Q6 : W6.heap[b0]? = some (.cells #[.string s, .int .i64 z] 31 (0, 0)) := by rw [← hW6]; exact (Below.heap_setCell _ _ _ _ (by show b0 ≠ cb; have := HCL.out; omega)).trans HQc.out
    have hrow : W6.heap[mb]? = some (.cells #[.pointer (some ⟨g, 0, none⟩), .int .i64 i, .string q, .int .i64 y, .int .i64 ax, .int .i64 af, .bool ab, .bool st] 107 (0, 0)) := by
      rw [← hW6]
      exact (Below.heap_setCell _ _ _ _ (by show mb ≠ cb; exact HNE.out)).trans ((HTW.out wc HBc.out).c _ HMI.out)
    have HFN := Hid.mk' (HFI.out W6 _ HT6.out)
    obtain ⟨_, _, e0, e1⟩ := pair_facts Q6
    obtain ⟨_, _, _, _, n4, n5, n6, n7⟩ := row8_all hrow
    have HH6 := Hid.mk' hW6
    clear C5 Q6 hW6 hrow
    go_wp2_with fail
    refine HA.out.mono ?_
    rintro e w6 ⟨rfl, hw6⟩
    rw [HH6.out] at hw6
    subst hw6
    cases st with
    | false =>
      go_wp2_with fail
      refine HFN.out.mono ?_
      obtain ⟨an, han⟩ : ∃ an, ansF S i (q, y) = an := ⟨_, rfl⟩
      rw [han]
      obtain ⟨bx, bf, bb⟩ := an
      have HAN := Hid.mk' han
      clear han
      unfold ansV
      dsimp only
      rintro e w7 ⟨rfl, b7⟩
      go_wp2
      go_ret3
      exact ⟨by rw [HAN.out]; rfl, HB6.out.trans (b7.mono (by have := HB6.out.size; have := HGE.out.2.2; omega)), HT6.out.below b7⟩
    | true =>
      have HAN := Hid.mk' (HOK.out rfl)
      go_upto_region 13 with fail
      go_quiet (fail)
      go_wp2
      go_ret3
      exact ⟨by rw [← HAN.out]; rfl, below_drewN HB6.out _, HT6.out.below (below_drewN (Below.refl _ _) _)⟩
/-- No cache: Find. -/
theorem cached_nil (i : Int) (s : ByteArray) (z : Int) (w : World) (h : Two B g rb S D w) (hs : (s.size : Int) ≤ 140737488351232) (hz : (Lit.int .i64 (bareZ z)).wf = true) :
    Calls Try.prog 17 #[.pointer (some ⟨g, 0, none⟩), .pointer none, .int .i64 i, .agg #[.string s, .int .i64 z]] w fun e w' => e = .returned (ansV (ansF S i (kbOf (s, z)))) ∧ Below w.heap.size w w' :=
  cached_none i s z _ w rfl (fun W hW => two_find i s z W (h.below hW) hs hz)
set_option maxHeartbeats 400000 in
theorem ptrStore_nil (a : Addr) (u : Value) (w : World) (hc : w.cell? a = some u) (hz : w.frozen? a = false) : Calls Try.prog 39 #[.pointer (some a), .pointer none] w fun e w' => e = .returned (.tuple #[]) ∧ w' = w.setCell a (.pointer none) := by
  have hl := storeP (p := none) hc hz
  have hcv : ∀ W, (convert 91 95 (.pointer none)).run Try.prog W = .ok (.pointer none) W := fun W => by kernel_rfl
  go_enter Try.func39, Try.ntmps39
  go_wp2
  go_end0
  exact ⟨rfl, rfl⟩
set_option maxHeartbeats 400000 in
set_option maxRecDepth 100000 in
theorem flush_two (cb : Nat) (lp : Option Mem) (hh mm : Int) (w : World) (h : Two B g rb S (D1 ++ (cb, cheO cb lp hh mm) :: D2) w) (hnd : ∀ p ∈ D1 ++ D2, p.1 ≠ cb) (hBc : B ≤ cb) :
    Calls Try.prog 16 #[.pointer (some ⟨cb, 0, none⟩)] w fun e w' => e = .returned (.tuple #[]) ∧ Below B w w' ∧ Two B g rb S (D1 ++ (cb, cheO cb none hh mm) :: D2) w' := by
  have hc : w.heap[cb]? = some (cheO cb lp hh mm) := h.c (cb, cheO cb lp hh mm) (List.mem_append_right _ (List.mem_cons_self ..))
  have HM := Hid.mk' (isMadeC_gen cb w (row4_cells hc).1)
  have HS := Hid.mk' (ptrStore_nil ⟨cb, 1, none⟩ _ w (row4_cells hc).2.1 ((row4_cells hc).2.2.2.2 1))
  have HE : Hid (Two B g rb S (D1 ++ (cb, cheO cb none hh mm) :: D2) (w.setCell ⟨cb, 1, none⟩ (.pointer none))) := Hid.mk' (h.set cb _ _ D1 D2 rfl (Sv.set w cb 1 _) (row4_one hc).1 (fr_che _ _ _ _) hnd)
  have HB : Hid (Below B w (w.setCell ⟨cb, 1, none⟩ (.pointer none))) := Hid.mk' ((Below.refl _ _).setCell (p := ⟨cb, 1, none⟩) hBc _)
  clear h hnd hBc hc
  go_enter Try.func16, Try.ntmps16
  go_wp2_with fail
  refine HM.out.mono ?_
  rintro e w1 ⟨rfl, rfl⟩
  go_wp2_with fail
  refine HS.out.mono ?_
  rintro e w2 ⟨rfl, rfl⟩
  go_wp2
  go_end0
  exact ⟨rfl, HB.out, HE.out⟩
set_option maxHeartbeats 400000 in
set_option maxRecDepth 100000 in
theorem asked_in (cb : Nat) (pa : Option Addr) (hh mm : Int) (w : World) (hc : w.heap[cb]? = some (.cells #[.pointer (some ⟨cb, 0, none⟩), .pointer pa, .int .i64 hh, .int .i64 mm] 102 (0, 0))) :
    Calls Try.prog 20 #[.pointer (some ⟨cb, 0, none⟩)] w fun e w' => e = .returned (.tuple #[.int .i64 hh, .int .i64 mm]) ∧ Below w.heap.size w w' := by
  have HM := Hid.mk' (isMadeC_gen cb w (row4_cells hc).1)
  have HL : Hid (∀ n, Calls Try.prog 44 #[.pointer (some ⟨cb, 2, none⟩)] (w.drewN n) fun e w' => e = .returned (.int .i64 hh) ∧ w' = w.drewN n) := Hid.mk' (fun n => int64Load_any _ _ _ (row4_cells (w := w.drewN n) hc).2.2.1)
  have HK : Hid (∀ n, Calls Try.prog 44 #[.pointer (some ⟨cb, 3, none⟩)] (w.drewN n) fun e w' => e = .returned (.int .i64 mm) ∧ w' = w.drewN n) := Hid.mk' (fun n => int64Load_any _ _ _ (row4_cells (w := w.drewN n) hc).2.2.2.1)
  clear hc
  go_enter Try.func20, Try.ntmps20
  go_wp2_with fail
  refine HM.out.mono ?_
  rintro e w1 ⟨rfl, rfl⟩
  go_upto_region 3 with fail
  go_quiet (first | (go_at_call 44; refine Calls.quiet_of_same (HL.out _)) | (go_at_call 44; refine Calls.quiet_of_same (HK.out _)))
  go_wp2
  go_ret2
  exact ⟨rfl, below_drewN (Below.refl _ _) _⟩
end
end Go.Proofs.Ytoonaljmdiideaa
