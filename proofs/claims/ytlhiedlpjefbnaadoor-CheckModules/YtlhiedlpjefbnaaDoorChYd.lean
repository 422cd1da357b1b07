/- The document's check: an operand. The document's check, plainly: an instruction. -/
import Derived.Test.YtlhiedlpjefbnaaDoorChV
namespace Go.Proofs.YtlhiedlpjefbnaaDoor
set_option linter.unusedVariables false
set_option linter.unusedSimpArgs false
open Go.RowKit Go.Shelf

def opdB (nf : Nat) (f : Fun) (op : Int) (c : UInt8) (n : Int) : Bool :=
  decide (0 ≤ n) && (if c = 114 then decide (n < f.regs) else if c = 107 then decide (n < f.consts.length) else if c = 115 then decide (n < f.consts.length) && decide ((f.consts.getD n.toNat ⟨0, 0, ⟨#[]⟩, 0⟩).kind = 4) else if c = 116 then decide (n < f.code.length) else if c = 102 then decide (0 < n) && decide (n < nf) else if c = 117 then decide (n < f.caps.length) else if op = 0 then decide (n ≤ 4) else decide (n < 2147483648))
def isL (c : UInt8) : Prop := c = 114 ∨ c = 107 ∨ c = 115 ∨ c = 110 ∨ c = 116 ∨ c = 102 ∨ c = 117
set_option maxHeartbeats 2000000 in
set_option maxRecDepth 100000 in
theorem operand_any (q : FW) (w : World) (hr : RdE Cst.cs 4 w q.xa q.xc q.f.consts) (a : Option Addr) (N c : Nat) (op ia ib ic id : Int) (lt : UInt8) (hlt : isL lt) (n : Int) :
    Calls Tryd.prog 39 #[.agg #[.slice a N c], .agg q.cs.toArray, .agg #[.int .i64 op, .int .i64 ia, .int .i64 ib, .int .i64 ic, .int .i64 id], .int .u8 (lt.toNat : Int), .int .i64 n] w fun e w' => e = .returned (.bool (opdB N q.f op lt n)) ∧ Below w.heap.size w w' := by
  have HR := Hid.mk' hr
  have hle := hr.le
  have hcl : q.xc * (4 * 8) ≤ 140737488351232 := hr.cle
  unfold opdB
  simp only [FW.cs]
  obtain ⟨⟨f1, f2, f3, f4, f5, cs, is, ts, us⟩, xa, xc, ya, yc, za, zc, ua, uc⟩ := q
  dsimp only at HR hle hcl ⊢
  obtain ⟨n1, hn1⟩ : ∃ n1, cs.length = n1 := ⟨_, rfl⟩
  obtain ⟨n2, hn2⟩ : ∃ n2, is.length = n2 := ⟨_, rfl⟩
  obtain ⟨n3, hn3⟩ : ∃ n3, ts.length = n3 := ⟨_, rfl⟩
  obtain ⟨n4, hn4⟩ : ∃ n4, us.length = n4 := ⟨_, rfl⟩
  rw [hn1] at hle
  rw [hn1, hn2, hn3, hn4]
  obtain ⟨W1, hW1⟩ : ∃ W1, w.alloc (.cells #[.slice a N c] 24) = W1 := ⟨_, rfl⟩
  obtain ⟨W2, hW2⟩ : ∃ W2, W1.alloc (.cells #[.string f1, .int .i64 f2, .bool f3, .bool f4, .int .i64 f5, .slice xa n1 xc, .slice ya n2 yc, .slice za n3 zc, .slice ua n4 uc] 38) = W2 := ⟨_, rfl⟩
  obtain ⟨W3, hW3⟩ : ∃ W3, W2.alloc (.cells #[.int .i64 op, .int .i64 ia, .int .i64 ib, .int .i64 ic, .int .i64 id] 49) = W3 := ⟨_, rfl⟩
  have b1 : Below w.heap.size w W1 := by rw [← hW1]; exact lay_below
  have b2 : Below W1.heap.size W1 W2 := by rw [← hW2]; exact lay_below
  have b3 : Below W2.heap.size W2 W3 := by rw [← hW3]; exact lay_below
  have q1 : W1.heap[w.heap.size]? = some (.cells #[.slice a N c] 24 (0, 0)) := by rw [← hW1]; exact box_new
  have q2 : W2.heap[W1.heap.size]? = some (.cells #[.string f1, .int .i64 f2, .bool f3, .bool f4, .int .i64 f5, .slice xa n1 xc, .slice ya n2 yc, .slice za n3 zc, .slice ua n4 uc] 38 (0, 0)) := by rw [← hW2]; exact box_new
  have q3 : W3.heap[W2.heap.size]? = some (.cells #[.int .i64 op, .int .i64 ia, .int .i64 ib, .int .i64 ic, .int .i64 id] 49 (0, 0)) := by rw [← hW3]; exact box_new
  have B2 : Below w.heap.size w W2 := b1.trans (b2.mono b1.size)
  have B3 : Below w.heap.size w W3 := B2.trans (b3.mono B2.size)
  have l1 := (Array.getElem?_eq_some_iff.1 q1).1
  have l2 := (Array.getElem?_eq_some_iff.1 q2).1
  have q1' := ((b2.trans (b3.mono b2.size)).block _ l1).trans q1
  have q2' := (b3.block _ l2).trans q2
  obtain ⟨x1, hx1⟩ : ∃ x, w.heap.size = x := ⟨_, rfl⟩
  obtain ⟨x2, hx2⟩ : ∃ x, W1.heap.size = x := ⟨_, rfl⟩
  obtain ⟨x3, hx3⟩ : ∃ x, W2.heap.size = x := ⟨_, rfl⟩
  rw [hx1] at q1'
  rw [hx2] at q2'
  rw [hx3] at q3
  have A0 : W3.cell? ⟨x1, 0, none⟩ = some (.slice a N c) := (cell_row _ _ 0 _ _ q1').trans rfl
  have A4 : W3.cell? ⟨x2, 4, none⟩ = some (.int .i64 f5) := (cell_row _ _ 4 _ _ q2').trans rfl
  have A5 : W3.cell? ⟨x2, 5, none⟩ = some (.slice xa n1 xc) := (cell_row _ _ 5 _ _ q2').trans rfl
  have A6 : W3.cell? ⟨x2, 6, none⟩ = some (.slice ya n2 yc) := (cell_row _ _ 6 _ _ q2').trans rfl
  have A8 : W3.cell? ⟨x2, 8, none⟩ = some (.slice ua n4 uc) := (cell_row _ _ 8 _ _ q2').trans rfl
  have AI : W3.cell? ⟨x3, 0, none⟩ = some (.int .i64 op) := (cell_row _ _ 0 _ _ q3).trans rfl
  have HR3 := Hid.mk' (HR.out.below B3)
  have HB := Hid.mk' B3
  have HN1 := Hid.mk' hn1
  clear hr b1 b2 b3 q1 q2 q3 q1' q2' B2 B3 l1 l2 hn1 hn2 hn3 hn4
  by_cases hn0 : n < 0
  · have e : decide (0 ≤ n) = false := by simp; omega
    rw [e]
    simp only [Bool.false_and]
    go_enter Tryd.func39, Tryd.ntmps39
    go_wp2
    go_ret
    exact ⟨rfl, by first | exact HB.out | (rw [← hx1]; exact HB.out)⟩
  · have e : decide (0 ≤ n) = true := by simp; omega
    rw [e]
    simp only [Bool.true_and]
    have hn0' : decide (n < 0) = false := by simp; omega
    clear e
    rcases hlt with rfl | rfl | rfl | rfl | rfl | rfl | rfl
    all_goals simp (config := { decide := true }) only [if_true, if_false]
    · go_enter Tryd.func39, Tryd.ntmps39
      go_wp2
      go_ret
      exact ⟨rfl, by first | exact HB.out | (rw [← hx1]; exact HB.out)⟩
    · go_enter Tryd.func39, Tryd.ntmps39
      go_wp2
      go_ret
      exact ⟨rfl, by first | exact HB.out | (rw [← hx1]; exact HB.out)⟩
    · by_cases hl : n < (n1 : Int)
      · have hl' : decide (n < (n1 : Int)) = true := by simp [hl]
        obtain ⟨m, rfl⟩ : ∃ m : Nat, n = (m : Int) := ⟨n.toNat, by omega⟩
        have hnl : m < cs.length := by rw [HN1.out]; omega
        obtain ⟨g, o, rfl, hg, hc⟩ := HR3.out.at m hnl
        simp only [Int.toNat_natCast]
        have eg : (cs.getD m ⟨0, 0, ⟨#[]⟩, 0⟩) = cs[m] := by rw [List.getD_eq_getElem?_getD, List.getElem?_eq_getElem hnl]; rfl
        simp only [eg, hl', Bool.true_and]
        have d0 := hc 0 (.int .i64 (cs[m]).kind) (by omega) (by simp [Cst.cs])
        simp only [Nat.add_zero] at d0
        obtain ⟨kd, hkd⟩ : ∃ kd, (cs[m]).kind = kd := ⟨_, rfl⟩
        simp only [hkd] at d0 ⊢
        have m1 : (m : Int) < (n1 : Int) := hl
        have m2 : m < n1 := by omega
        have hzz : decide ((m : Int) < 0) = false := by simp
        clear hc eg hkd hg hl hn0 hle hcl hnl hl' hn0' A0 A4 A6 A8 AI
        go_enter Tryd.func39, Tryd.ntmps39
        go_upto_region 9 with fail
        go_wp2
        all_goals
          go_ret
          exact ⟨by first | rfl | (simp_all; done), by first | exact HB.out | (rw [← hx1]; exact HB.out)⟩
      · have hl' : decide (n < (n1 : Int)) = false := by simp; omega
        rw [hl', Bool.false_and]
        clear hl
        go_enter Tryd.func39, Tryd.ntmps39
        go_wp2
        go_ret
        exact ⟨rfl, by first | exact HB.out | (rw [← hx1]; exact HB.out)⟩
    · by_cases h0 : op = 0
      · subst h0
        simp only [if_true]
        go_enter Tryd.func39, Tryd.ntmps39
        go_wp2
        go_ret
        exact ⟨rfl, by first | exact HB.out | (rw [← hx1]; exact HB.out)⟩
      · have h0' : (op == 0) = false := by simp [h0]
        simp only [if_neg h0]
        clear h0
        go_enter Tryd.func39, Tryd.ntmps39
        go_wp2
        go_ret
        exact ⟨rfl, by first | exact HB.out | (rw [← hx1]; exact HB.out)⟩
    · go_enter Tryd.func39, Tryd.ntmps39
      go_wp2
      go_ret
      exact ⟨rfl, by first | exact HB.out | (rw [← hx1]; exact HB.out)⟩
    · by_cases hp : 0 < n
      · have hp' : decide (0 < n) = true := by simp [hp]
        rw [hp', Bool.true_and]
        go_enter Tryd.func39, Tryd.ntmps39
        go_wp2
        go_ret
        exact ⟨rfl, by first | exact HB.out | (rw [← hx1]; exact HB.out)⟩
      · have hp' : decide (0 < n) = false := by simp; omega
        rw [hp', Bool.false_and]
        clear hp
        go_enter Tryd.func39, Tryd.ntmps39
        go_wp2
        go_ret
        exact ⟨rfl, by first | exact HB.out | (rw [← hx1]; exact HB.out)⟩
    · go_enter Tryd.func39, Tryd.ntmps39
      go_wp2
      go_ret
      exact ⟨rfl, by first | exact HB.out | (rw [← hx1]; exact HB.out)⟩
end Go.Proofs.YtlhiedlpjefbnaaDoor

namespace Go.Proofs.YtlhiedlpjefbnaaDoor
set_option linter.unusedVariables false
set_option linter.unusedSimpArgs false
open Go.RowKit Go.Shelf

def opkR (nf : Nat) (f : Fun) (i : Ins) (k : Nat) : Bool := if k < (letz i.op).length then opdB nf f i.op ((letz i.op).getD k 0) (opx i k) else decide (opx i k = 0)
def capOk (f : Fun) (c : Cap) : Bool := !(decide (c.n < 0) || (c.up && decide ((f.caps.length : Int) ≤ c.n)) || (!c.up && decide (f.regs ≤ c.n)))
theorem met_add (f : Fun) (n : Need) (c : Cap) : (n.add c).met f = true ↔ n.met f = true ∧ capOk f c = true := by
  unfold Need.add Need.met capOk
  cases hc : c.up <;> simp <;> omega
theorem met_fold (f : Fun) : ∀ (l : List Cap) (n : Need), (l.foldl Need.add n).met f = true ↔ n.met f = true ∧ ∀ c ∈ l, capOk f c = true
  | [], n => by simp
  | c :: l, n => by
    rw [List.foldl_cons, met_fold f l (n.add c), met_add]
    simp only [List.mem_cons, forall_eq_or_imp]
    exact and_assoc
theorem met_iff (f : Fun) (hr : 1 ≤ f.regs) (l : List Cap) : (needOf l).met f = true ↔ ∀ c ∈ l, capOk f c = true := by
  unfold needOf
  rw [met_fold]
  have : Need.met ⟨-1, -1, 0⟩ f = true := by unfold Need.met; simp; omega
  simp [this]
theorem letz_isL (op : Int) : ∀ c ∈ letz op, isL c := by
  intro c hc
  unfold letz at hc
  split at hc
  · unfold letsOf at hc
    have key : ∀ l ∈ lets, ∀ c ∈ l, c = 114 ∨ c = 107 ∨ c = 115 ∨ c = 110 ∨ c = 116 ∨ c = 102 ∨ c = 117 := by decide
    have hm : lets.getD (min op.toNat 49) [] ∈ lets := by
      rw [List.getD_eq_getElem?_getD, List.getElem?_eq_getElem (by have : lets.length = 50 := rfl; omega)]
      exact List.getElem_mem _
    exact key _ hm c hc
  · cases hc
theorem opd_opn {nf : Nat} {f : Fun} {op : Int} {c : UInt8} {n : Int} (hc : isL c) (h : c = 110 → op ≠ 0) : opdB nf f op c n = opnB nf f c n := by
  unfold opdB opnB regB cstB txtB numB tgtB madB capB cstB
  rcases hc with rfl | rfl | rfl | rfl | rfl | rfl | rfl
  · rfl
  · rfl
  · simp [Bool.and_assoc]
  · have := h rfl
    simp [this]
    cases h1 : decide (0 ≤ n) <;> cases h2 : decide (n < 2147483648) <;> cases h3 : decide (n ≤ 2147483647) <;> simp at * <;> omega
  · rfl
  · simp
    cases h1 : decide (0 ≤ n) <;> cases h2 : decide (0 < n) <;> cases h3 : decide (1 ≤ n) <;> cases h4 : decide (n < (nf : Int)) <;> simp at * <;> omega
  · rfl
theorem opk_R {nf : Nat} {f : Fun} {i : Ins} {k : Nat} (h : i.op ≠ 0) : opkR nf f i k = opkB nf f (letz i.op) i k := by
  unfold opkR opkB
  split
  · rename_i hk
    refine opd_opn (letz_isL i.op _ ?_) (fun _ => h)
    rw [List.getD_eq_getElem?_getD, List.getElem?_eq_getElem hk]
    exact List.getElem_mem hk
  · rfl
theorem ops_iff {nf : Nat} {f : Fun} {L : List UInt8} {i : Ins} : opsB nf f L i = true ↔ ∀ k, k < 4 → opkB nf f L i k = true := by
  unfold opsB
  simp only [Bool.and_eq_true]
  constructor
  · rintro ⟨⟨⟨h0, h1⟩, h2⟩, h3⟩ k hk
    have : k = 0 ∨ k = 1 ∨ k = 2 ∨ k = 3 := by omega
    rcases this with rfl | rfl | rfl | rfl <;> assumption
  · intro h
    exact ⟨⟨⟨h 0 (by omega), h 1 (by omega)⟩, h 2 (by omega)⟩, h 3 (by omega)⟩
/-- What the document asks of an instruction. -/
def InsD (fs : List Fun) (f : Fun) (n : Nat) (i : Ins) : Prop :=
  (0 ≤ i.op ∧ i.op ≤ 70) ∧ ¬ ((n : Int) = (f.code.length : Int) - 1 ∧ leaB i.op = false) ∧ (∀ k, k < 4 → opkR fs.length f i k = true) ∧ ¬ (i.op = 38 ∧ f.regs ≤ i.a + 1) ∧ ¬ (i.op = 39 ∧ f.regs ≤ i.b + 1) ∧
    (i.op = 15 → ∀ c ∈ (fs.getD i.b.toNat noFun).caps, capOk f c = true)
theorem letz_ne {op : Int} (h : 0 ≤ op ∧ op ≤ 70) : (letz op).isEmpty = false := by
  unfold letz
  rw [if_pos h]
  obtain ⟨a, h⟩ := lets_all op.toNat
  rcases h with h | ⟨b, h⟩ | ⟨b, c, h⟩ | ⟨b, c, d, h⟩ <;> rw [h] <;> rfl
theorem ins_iff {fs : List Fun} {f : Fun} {n : Nat} {i : Ins} (hr : 1 ≤ f.regs) : insB fs f n i = true ↔ InsD fs f n i := by
  unfold InsD insB
  by_cases hop : 0 ≤ i.op ∧ i.op ≤ 70
  · rw [letz_ne hop]
    simp only [Bool.not_false, Bool.true_and, Bool.and_eq_true, Bool.not_eq_true', Bool.and_eq_false_iff, decide_eq_false_iff_not, Bool.not_eq_false']
    have hlast : (¬ (n : Int) = (f.code.length : Int) - 1 ∨ leaB i.op = true) ↔ ¬ ((n : Int) = (f.code.length : Int) - 1 ∧ leaB i.op = false) := by
      cases leaB i.op <;> simp
    rw [hlast]
    have hmid : (opsB fs.length f (letz i.op) i = true ∧ allB fs f i = true) ↔ (∀ k, k < 4 → opkR fs.length f i k = true) ∧ ¬ (i.op = 38 ∧ f.regs ≤ i.a + 1) ∧ ¬ (i.op = 39 ∧ f.regs ≤ i.b + 1) ∧ (i.op = 15 → ∀ c ∈ (fs.getD i.b.toNat noFun).caps, capOk f c = true) := by
      rw [ops_iff]
      by_cases h0 : i.op = 0
      · have hl : letz i.op = [114, 110] := by rw [h0]; rfl
        have e0 : opkR fs.length f i 0 = opkB fs.length f (letz i.op) i 0 := by
          unfold opkR opkB; rw [hl]; exact opd_opn (.inl rfl) (fun h => by cases h)
        have e1 : opkR fs.length f i 1 = (opkB fs.length f (letz i.op) i 1 && decide (i.b ≤ 4)) := by
          unfold opkR opkB; rw [hl, h0]
          show opdB fs.length f 0 110 i.b = (opnB fs.length f 110 i.b && decide (i.b ≤ 4))
          unfold opdB opnB numB
          simp
          cases h1 : decide (0 ≤ i.b) <;> cases h2 : decide (i.b ≤ 4) <;> cases h3 : decide (i.b ≤ 2147483647) <;> simp at * <;> omega
        have e2 : opkR fs.length f i 2 = opkB fs.length f (letz i.op) i 2 := by unfold opkR opkB; rw [hl]; rfl
        have e3 : opkR fs.length f i 3 = opkB fs.length f (letz i.op) i 3 := by unfold opkR opkB; rw [hl]; rfl
        have ea : allB fs f i = decide (i.b ≤ 4) := by unfold allB; rw [if_pos h0]
        rw [ea]
        constructor
        · rintro ⟨h1, h2⟩
          refine ⟨fun k hk => ?_, by omega, by omega, by omega⟩
          have : k = 0 ∨ k = 1 ∨ k = 2 ∨ k = 3 := by omega
          rcases this with rfl | rfl | rfl | rfl
          · rw [e0]; exact h1 0 hk
          · rw [e1, h1 1 hk, h2]; rfl
          · rw [e2]; exact h1 2 hk
          · rw [e3]; exact h1 3 hk
        · rintro ⟨h1, _⟩
          have q1 := h1 1 (by omega)
          rw [e1, Bool.and_eq_true] at q1
          refine ⟨fun k hk => ?_, q1.2⟩
          have : k = 0 ∨ k = 1 ∨ k = 2 ∨ k = 3 := by omega
          rcases this with rfl | rfl | rfl | rfl
          · rw [← e0]; exact h1 0 hk
          · exact q1.1
          · rw [← e2]; exact h1 2 hk
          · rw [← e3]; exact h1 3 hk
      · have hR : (∀ k, k < 4 → opkR fs.length f i k = true) ↔ ∀ k, k < 4 → opkB fs.length f (letz i.op) i k = true := by
          constructor <;> intro h k hk
          · rw [← opk_R h0]; exact h k hk
          · rw [opk_R h0]; exact h k hk
        rw [hR]
        refine and_congr_right fun hk => ?_
        unfold allB
        rw [if_neg h0]
        by_cases h38 : i.op = 38
        · have ha : 0 ≤ i.a := by
            have := hk 0 (by omega)
            rw [h38] at this
            unfold opkB at this
            have e : (letz 38) = [114, 114] := rfl
            rw [e] at this
            simp [opnB, regB, opx] at this
            exact this.1
          rw [if_pos h38]
          unfold regB
          simp [h38]
          omega
        · rw [if_neg h38]
          by_cases h39 : i.op = 39
          · have hb : 0 ≤ i.b := by
              have := hk 1 (by omega)
              rw [h39] at this
              unfold opkB at this
              have e : (letz 39) = [114, 114, 116] := rfl
              rw [e] at this
              simp [opnB, regB, opx] at this
              exact this.1
            rw [if_pos h39]
            unfold regB
            simp [h39]
            omega
          · rw [if_neg h39]
            by_cases h15 : i.op = 15
            · rw [if_pos h15, met_iff f hr]
              simp [h15]
            · rw [if_neg h15]
              simp [h38, h39, h15]
    constructor
    · rintro ⟨h1, h2, h3⟩
      exact ⟨hop, h3, hmid.1 ⟨h1, h2⟩⟩
    · rintro ⟨_, h3, h4⟩
      obtain ⟨h1, h2⟩ := hmid.2 h4
      exact ⟨h1, h2, h3⟩
  · have hz : letz i.op = [] := by unfold letz; rw [if_neg hop]
    rw [hz]
    simp [hop]
end Go.Proofs.YtlhiedlpjefbnaaDoor
