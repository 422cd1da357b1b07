/- CheckParts: few, the plain half. -/
import Derived.Test.YtlhiedlpjefbnaaDoorChR
namespace Go.Proofs.YtlhiedlpjefbnaaDoor
set_option linter.unusedVariables false
set_option linter.unusedSimpArgs false
open Go.RowKit Go.Shelf

def isB (v : Value) : Prop := ∃ b, v = .bool b
set_option maxHeartbeats 2000000 in
set_option maxRecDepth 100000 in
theorem few_any {a : Option Addr} {c : Nat} {qs : List FW} (w : World) (hm : Md w a c qs) :
    Calls Tryd.prog 6 #[.agg #[.slice a qs.length c]] w fun e w' => ∃ v, e = .returned v ∧ isB v ∧ Below w.heap.size w w' := by
  have hle := hm.r.le
  have hcl : c * (9 * 8) ≤ 140737488351232 := hm.r.cle
  have HM := Hid.mk' hm
  obtain ⟨N, hN⟩ : ∃ N, qs.length = N := ⟨_, rfl⟩
  rw [hN] at hle ⊢
  have HN := Hid.mk' hN
  have HB0 : Hid (Below w.heap.size w (w.alloc (.cells #[.slice a N c] 24))) := Hid.mk' lay_below
  clear hm hN
  go_enter Tryd.func6, Tryd.ntmps6
  go_wp2_with fail
  go_loopw [3, 12] (fun v3 iv wr => ∃ (i : Nat) (z : Int), v3 = .int .i64 z ∧ iv = .int .i64 (i : Int) ∧ i ≤ N ∧ Hid (Below w.heap.size w wr)) (fun v3 iv wr => N - (intOf iv).toNat)
  case atStart => exact ⟨0, _, rfl, rfl, Nat.zero_le _, HB0⟩
  case round =>
    obtain ⟨i, z, rfl, rfl, hi, HBW⟩ := hrel
    by_cases hlt : i < N
    · have hlq : i < qs.length := by rw [HN.out]; exact hlt
      obtain ⟨g, o, rfl, hg, hc⟩ := ((HM.out).below HBW.out).r.at i hlq
      have i1 : (i : Int) < (N : Int) := by omega
      have i2 : (i : Int) < 140737488351232 := by omega
      have hrd := ((HM.out).below HBW.out).q _ (List.getElem_mem hlq)
      generalize qs[i] = q at hc hrd
      have h1 := hrd.c.le
      have h1' : q.xc * (4 * 8) ≤ 140737488351232 := hrd.c.cle
      have h2 := hrd.i.le
      have h2' : q.yc * (5 * 8) ≤ 140737488351232 := hrd.i.cle
      have h3 := hrd.t.le
      have h3' : q.zc * (4 * 8) ≤ 140737488351232 := hrd.t.cle
      have h4 := hrd.p.le
      have h4' : q.uc * (2 * 8) ≤ 140737488351232 := hrd.p.cle
      obtain ⟨⟨f1, f2, f3, f4, f5, cs, is, ts, us⟩, xa, xc, ya, yc, za, zc, ua, uc⟩ := q
      simp only [FW.cs] at hc
      dsimp only at hc h1 h1' h2 h2' h3 h3' h4 h4'
      obtain ⟨m1, hm1⟩ : ∃ m, cs.length = m := ⟨_, rfl⟩
      obtain ⟨m2, hm2⟩ : ∃ m, is.length = m := ⟨_, rfl⟩
      obtain ⟨m3, hm3⟩ : ∃ m, ts.length = m := ⟨_, rfl⟩
      obtain ⟨m4, hm4⟩ : ∃ m, us.length = m := ⟨_, rfl⟩
      rw [hm1, hm2, hm3, hm4] at hc
      rw [hm1] at h1
      rw [hm2] at h2
      rw [hm3] at h3
      rw [hm4] at h4
      have d0 := hc 0 (.string f1) (by omega) rfl
      have d1 := hc 1 (.int .i64 f2) (by omega) rfl
      have d2 := hc 2 (.bool f3) (by omega) rfl
      have d3 := hc 3 (.bool f4) (by omega) rfl
      have d4 := hc 4 (.int .i64 f5) (by omega) rfl
      have d5 := hc 5 (.slice xa m1 xc) (by omega) rfl
      have d6 := hc 6 (.slice ya m2 yc) (by omega) rfl
      have d7 := hc 7 (.slice za m3 zc) (by omega) rfl
      have d8 := hc 8 (.slice ua m4 uc) (by omega) rfl
      simp only [Nat.add_zero] at d0
      have k1 : (m1 : Int) ≤ 4398046510976 := by omega
      have k2 : (m2 : Int) ≤ 4398046510976 := by omega
      have k3 : (m3 : Int) ≤ 4398046510976 := by omega
      have k4 : (m4 : Int) ≤ 8796093021952 := by omega
      have HBn : Hid (Below w.heap.size w (wr.alloc (.cells #[.string f1, .int .i64 f2, .bool f3, .bool f4, .int .i64 f5, .slice xa m1 xc, .slice ya m2 yc, .slice za m3 zc, .slice ua m4 uc] 38))) := Hid.mk' (HBW.out.trans ((lay_below).mono HBW.out.size))
      have HLT := Hid.mk' hlt
      clear hc hrd hm1 hm2 hm3 hm4 h1 h1' h2 h2' h3 h3' h4 h4' hcl hle hi hlt hg
      go_wp2
      exact ⟨⟨i + 1, _, rfl, by go_num, HLT.out, HBn⟩, meas_up' N i HLT.out⟩
    · have i1 : ¬ (i : Int) < (N : Int) := by omega
      go_wp2
      go_ret
      exact ⟨_, rfl, ⟨_, rfl⟩, HBW.out⟩
/-- Only Closure names a function. -/
theorem letz_f (op : Int) (h : op ≠ 15) : ∀ c ∈ letz op, c ≠ 102 := by
  have key : ∀ k : Fin 50, k.val ≠ 15 → ∀ c ∈ lets.getD k.val [], c ≠ 102 := by decide +kernel
  intro c hc
  unfold letz at hc
  split at hc
  · rename_i ho
    exact key ⟨min op.toNat 49, by omega⟩ (by dsimp only; omega) c hc
  · cases hc
theorem opn_f {nf nf' : Nat} {f : Fun} {c : UInt8} {n : Int} (h : c ≠ 102) : opnB nf f c n = opnB nf' f c n := by
  simp only [opnB, if_neg h]
theorem opk_f {nf nf' : Nat} {f : Fun} {L : List UInt8} {i : Ins} {k : Nat} (h : ∀ c ∈ L, c ≠ 102) : opkB nf f L i k = opkB nf' f L i k := by
  unfold opkB
  split
  · rename_i hk
    rw [opn_f (nf' := nf')]
    refine h _ ?_
    rw [List.getD_eq_getElem?_getD, List.getElem?_eq_getElem hk]
    exact List.getElem_mem _
  · rfl
theorem ins_take {fs : List Fun} {m : Nat} (hm : fs.length = m + 1) {f : Fun} {k : Nat} {i : Ins} (hi : insB fs f k i = true) (hn : ¬ (i.op = 15 ∧ i.b = (m : Int))) : insB (fs.take m) f k i = true := by
  have hl : (fs.take m).length = m := by simp; omega
  unfold insB at hi ⊢
  simp only [Bool.and_eq_true] at hi ⊢
  obtain ⟨h1, h2, h3, h4⟩ := hi
  refine ⟨h1, ?_, ?_, h4⟩
  · by_cases ho : i.op = 15
    · have eL : letz i.op = [114, 102] := by rw [ho]; rfl
      rw [eL] at h2 ⊢
      unfold opsB at h2 ⊢
      simp only [Bool.and_eq_true] at h2 ⊢
      obtain ⟨⟨⟨a0, a1⟩, a2⟩, a3⟩ := h2
      refine ⟨⟨⟨?_, ?_⟩, ?_⟩, ?_⟩
      · simpa [opkB, opnB] using a0
      · simp [opkB, opnB, madB, opx, hm] at a1
        simp [opkB, opnB, madB, opx, hl]
        have : ¬ i.b = (m : Int) := fun e => hn ⟨ho, e⟩
        omega
      · simpa [opkB] using a2
      · simpa [opkB] using a3
    · have hf := letz_f i.op ho
      unfold opsB at h2 ⊢
      rw [opk_f (nf' := fs.length) (k := 0) hf, opk_f (nf' := fs.length) (k := 1) hf, opk_f (nf' := fs.length) (k := 2) hf, opk_f (nf' := fs.length) (k := 3) hf]
      exact h2
  · unfold allB at h3 ⊢
    by_cases ho : i.op = 15
    · rw [if_neg (by omega), if_neg (by omega), if_neg (by omega), if_pos ho] at h3 ⊢
      have eL : letz i.op = [114, 102] := by rw [ho]; rfl
      rw [eL] at h2
      unfold opsB at h2
      simp only [Bool.and_eq_true] at h2
      obtain ⟨⟨⟨a0, a1⟩, a2⟩, a3⟩ := h2
      simp [opkB, opnB, madB, opx, hm] at a1
      have : ¬ i.b = (m : Int) := fun e => hn ⟨ho, e⟩
      have hb : i.b.toNat < m := by omega
      have e : (fs.take m).getD i.b.toNat noFun = fs.getD i.b.toNat noFun := by
        rw [List.getD_eq_getElem?_getD, List.getD_eq_getElem?_getD, List.getElem?_take_of_lt hb]
      rw [e]
      exact h3
    · simpa [ho] using h3
theorem fw_all {fs : List Fun} {f : Fun} : fwI fs f = f.code.length ↔ ∀ j, j < f.code.length → insB fs f j (insAt f j) = true := by
  constructor
  · intro h j hj
    unfold fwI at h
    have : (f.code.zipIdx.findIdx fun p => !insB fs f p.2 p.1) = f.code.zipIdx.length := by simpa using h
    rw [List.findIdx_eq_length] at this
    have := this (f.code[j], j) (by
      rw [List.mem_iff_getElem]
      exact ⟨j, by simpa using hj, by simp⟩)
    have hg : insAt f j = f.code[j] := by simp [insAt, List.getD_eq_getElem?_getD, List.getElem?_eq_getElem hj]
    rw [hg]
    simpa using this
  · exact fun h => fwI_eq (Nat.le_refl _) h (fun h => absurd h (Nat.lt_irrefl _))
theorem insAt_mem {f : Fun} {j : Nat} (hj : j < f.code.length) : insAt f j ∈ f.code := by
  have hg : insAt f j = f.code[j] := by simp [insAt, List.getD_eq_getElem?_getD, List.getElem?_eq_getElem hj]
  rw [hg]
  exact List.getElem_mem _
theorem fnP_none {fs : List Fun} {n : Nat} {f : Fun} (h : fnP fs n f = none) : (!headB f || (decide ((n : Int) = 0) && !scrB f)) = false ∧ fwI fs f = f.code.length ∧ (!trsB f || !nesB f.tries) = false := by
  unfold fnP at h
  split at h
  · cases h
  · rename_i h1
    split at h
    · cases h
    · rename_i h2
      split at h
      · cases h
      · rename_i h3
        have hb : fwI fs f ≤ f.code.length := by
          unfold fwI
          have := List.findIdx_le_length (xs := f.code.zipIdx) (p := fun p => !insB fs f p.2 p.1)
          simpa using this
        exact ⟨by simpa using h1, by omega, by simpa using h3⟩
theorem fnP_mk {fs : List Fun} {n : Nat} {f : Fun} (h1 : (!headB f || (decide ((n : Int) = 0) && !scrB f)) = false) (h2 : fwI fs f = f.code.length) (h3 : (!trsB f || !nesB f.tries) = false) : fnP fs n f = none := by
  unfold fnP
  rw [h1, h2, h3]
  simp
/-- A module that is taken is taken without its last function, if no other one makes that one. -/
theorem parts_plain {fs : List Fun} {m g k : Nat} {z : Int} (hm : fs.length = m + 1) (h1 : 1 ≤ m) (hok : ∀ n, n < fs.length → fnP fs n (fs.getD n noFun) = none) (hb : ¬ 20000 < fs.length)
    (hno : ∀ n, n < m → ∀ i ∈ (fs.getD n noFun).code, ¬ (i.op = 15 ∧ i.b = (m : Int))) (hC : Chk (fs.take m) g k z) : z = 0 := by
  have hl : (fs.take m).length = m := by simp; omega
  have hall : ∀ n, n < m → fnP (fs.take m) n ((fs.take m).getD n noFun) = none := fun n hn => by
    have e : (fs.take m).getD n noFun = fs.getD n noFun := by rw [List.getD_eq_getElem?_getD, List.getD_eq_getElem?_getD, List.getElem?_take_of_lt hn]
    rw [e]
    obtain ⟨a1, a2, a3⟩ := fnP_none (hok n (by omega))
    refine fnP_mk a1 (fw_all.2 fun j hj => ins_take hm (fw_all.1 a2 j hj) (hno n hn _ ?_)) a3
    exact insAt_mem hj
  rcases hC with ⟨h, _⟩ | ⟨_, ⟨_, _, h, _⟩ | ⟨hg, _, h, _⟩⟩
  · omega
  · exact h
  · rw [hall g (by omega)] at h
    cases h
end Go.Proofs.YtlhiedlpjefbnaaDoor
