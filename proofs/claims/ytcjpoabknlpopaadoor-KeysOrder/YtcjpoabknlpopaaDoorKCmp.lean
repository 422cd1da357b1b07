/- cmp.Or of two numbers; Compare of both sides; what the document's order is, plain. -/
import Derived.Test.YtcjpoabknlpopaaDoorKROrd
import Derived.Test.YtcjpoabknlpopaaDoorLawStb
namespace Go.Proofs.YtcjpoabknlpopaaDoor
set_option linter.unusedVariables false
open Go.RowKit

theorem ixs_ixF (l : KL) : ixs l = (ixF l).map fun p => (idxN p.1 : Int) := by
  induction l with
  | nil => rfl
  | cons p r ih =>
    obtain ⟨e1, e2⟩ := idx_even p.1
    by_cases hp : 0 < p.2
    · rw [show ixs (p :: r) = ixs r from by simp [ixs, hp], show ixF (p :: r) = ixF r from by simp [ixF, hp]]; exact ih
    · cases hb : idxB p.1
      · rw [show ixs (p :: r) = ixs r from by simp [ixs, hp, e1, hb], show ixF (p :: r) = ixF r from by simp [ixF, hb]]; exact ih
      · rw [show ixs (p :: r) = (idxN p.1 : Int) :: ixs r from by simp [ixs, hp, e1, e2, hb], show ixF (p :: r) = p :: ixF r from by simp [ixF, hp, hb], ih]; rfl
theorem cls_rT (l : KL) : (rT l).map cls = txs l := by
  induction l with
  | nil => rfl
  | cons p r ih =>
    obtain ⟨e1, _⟩ := idx_even p.1
    by_cases hp : 0 < p.2
    · rw [show rT (p :: r) = rT r from by simp [rT, hp], show txs (p :: r) = txs r from by simp [txs, hp]]; exact ih
    · cases hb : idxB p.1
      · rw [show rT (p :: r) = p :: rT r from by simp [rT, hp, hb], show txs (p :: r) = (evenS p.1, 0) :: txs r from by simp [txs, hp, e1, hb], List.map_cons, ih, show cls p = (evenS p.1, 0) from by simp [cls, hp]]
      · rw [show rT (p :: r) = rT r from by simp [rT, hb], show txs (p :: r) = txs r from by simp [txs, hp, e1, hb]]; exact ih
theorem cls_rS (l : KL) : (rS l).map cls = sys l := by
  induction l with
  | nil => rfl
  | cons p r ih =>
    by_cases hp : 0 < p.2
    · rw [show rS (p :: r) = p :: rS r from by simp [rS, hp], show sys (p :: r) = (⟨#[]⟩, p.2) :: sys r from by simp [sys, hp], List.map_cons, ih, show cls p = (⟨#[]⟩, p.2) from by simp [cls, hp]]
    · rw [show rS (p :: r) = rS r from by simp [rS, hp], show sys (p :: r) = sys r from by simp [sys, hp]]; exact ih
/-- The document's order, key by key, is what Order makes. -/
theorem doc_ord (l F : KL) (hF : F.Perm (ixF l)) (hS : (F.map fun p => idxN p.1).Pairwise (· ≤ ·)) : (F ++ rT l ++ rS l).map cls = ordK l := by
  have h1 : F.map cls = ofs (F.map fun p => (idxN p.1 : Int)) := by
    unfold ofs
    rw [List.map_map]
    apply List.map_congr_left
    intro p hp
    have := List.mem_filter.1 (hF.mem_iff.1 hp)
    simp only [Bool.and_eq_true, Bool.not_eq_true', decide_eq_false_iff_not] at this
    obtain ⟨_, h2, h3⟩ := this
    simp only [Function.comp, Int.toNat_natCast]
    rw [idx_key _ h3]
    simp [cls, h2]
  have h2 : (F.map fun p => (idxN p.1 : Int)) = srt (ixs l) := by
    have hp : (F.map fun p => (idxN p.1 : Int)).Perm (srt (ixs l)) := by
      rw [ixs_ixF]
      exact (hF.map _).trans (List.mergeSort_perm _ _).symm
    have s1 : (F.map fun p => (idxN p.1 : Int)).Pairwise (· ≤ ·) := by
      rw [List.pairwise_map] at hS ⊢
      exact hS.imp (fun h => by omega)
    have s2 : (srt (ixs l)).Pairwise (· ≤ ·) := by
      have := List.pairwise_mergeSort (le := fun x y : Int => decide (x ≤ y)) (fun a b c h1 h2 => by simp at h1 h2 ⊢; omega) (fun a b => by simp; omega) (ixs l)
      exact this.imp (fun h => by simpa using h)
    exact hp.eq_of_pairwise (fun a b _ _ h1 h2 => by omega) s1 s2
  rw [List.map_append, List.map_append, h1, h2, cls_rT, cls_rS]
  rfl

/-- Keys compared. -/
def cmpC (a b : ByteArray × Int) : Int := if (cls a).2 < (cls b).2 then -1 else if (cls b).2 < (cls a).2 then 1 else cmpK (cls a).1 (cls b).1 0

set_option maxHeartbeats 1000000 in
set_option maxRecDepth 100000 in
theorem or_two (g : Nat) (x y r : Int) (hr : r = if x = 0 then y else x) (w : World) (h0 : w.cell? ⟨g, 0, none⟩ = some (.int .i64 x)) (h1 : w.cell? ⟨g, 1, none⟩ = some (.int .i64 y)) :
    Calls Tryd.prog 23 #[.slice (some ⟨g, 0, none⟩) 2 2] w fun e w' => e = .returned (.int .i64 r) ∧ w' = w := by
  have HR := Hid.mk' hr
  clear hr
  go_enter Tryd.func23, Tryd.ntmps23
  go_wp2_with fail
  go_loopw [8] (fun vk wr => ∃ k : Nat, vk = .int .i64 k ∧ k ≤ 2 ∧ wr = w ∧ Hid ((1 ≤ k → x = 0) ∧ (2 ≤ k → y = 0))) (fun vk _ => 2 - (intOf vk).toNat)
  case atStart => exact ⟨0, rfl, by omega, rfl, Hid.mk' ⟨fun h => by omega, fun h => by omega⟩⟩
  case round =>
    obtain ⟨k, rfl, hk, rfl, HK⟩ := hrel
    match k, hk with
    | 0, _ =>
      by_cases hx : x = 0
      · have zx : (x == 0) = true := by simp [hx]
        have HX := Hid.mk' hx
        clear hx
        go_wp2
        go_roundw
        case rel => exact ⟨1, by go_num, by omega, by first | rfl | trivial, Hid.mk' ⟨fun _ => HX.out, fun h => by omega⟩⟩
        case measure => simp [intOf]
      · have zx : (x == 0) = false := by simp [hx]
        have HX := Hid.mk' hx
        clear hx
        go_wp2
        go_ret
        exact ⟨by rw [HR.out, if_neg HX.out]; rfl, rfl⟩
    | 1, _ =>
      have HX := Hid.mk' (HK.out.1 (by omega))
      by_cases hy : y = 0
      · have zy : (y == 0) = true := by simp [hy]
        have HY := Hid.mk' hy
        clear hy
        go_wp2
        go_roundw
        case rel => exact ⟨2, by go_num, by omega, by first | rfl | trivial, Hid.mk' ⟨fun _ => HX.out, fun _ => HY.out⟩⟩
        case measure => simp [intOf]
      · have zy : (y == 0) = false := by simp [hy]
        clear hy
        go_wp2
        go_ret
        exact ⟨by rw [HR.out, if_pos HX.out]; rfl, rfl⟩
    | 2, _ =>
      have HXY : Hid (r = 0) := Hid.mk' (by rw [HR.out, if_pos (HK.out.1 (by omega)), HK.out.2 (by omega)])
      go_wp2
      go_ret
      exact ⟨by rw [HXY.out]; rfl, rfl⟩

/-- bare, whatever the key. -/
theorem bare_any (p : ByteArray × Int) (w : World) (hs : (p.1.size : Int) ≤ 140737488351232) :
    Calls Tryd.prog 16 #[.agg #[.string p.1, .int .i64 p.2]] w fun e w' => e = .returned (.agg #[.string (cls p).1, .int .i64 (cls p).2]) ∧ Below w.heap.size w w' := by
  by_cases h : 0 < p.2
  · have e : cls p = (⟨#[]⟩, p.2) := by simp [cls, h]
    rw [e]; exact bare_sym p.1 p.2 w h
  · have e : cls p = (evenS p.1, 0) := by simp [cls, h]
    rw [e]; exact bare_text p.1 p.2 w hs h
theorem cls_size (p : ByteArray × Int) (hs : (p.1.size : Int) ≤ 140737488351232) : ((cls p).1.size : Int) ≤ 140737488351232 := by
  unfold cls
  split
  · show (((⟨#[]⟩ : ByteArray).size : Nat) : Int) ≤ _
    have : (⟨#[]⟩ : ByteArray).size = 0 := rfl
    omega
  · have := even_size' p.1
    show (((evenS p.1).size : Nat) : Int) ≤ _
    omega
theorem cmpC_or (a b : ByteArray × Int) : cmpC a b = if Lib.compareInt (cls a).2 (cls b).2 = 0 then cmpK (cls a).1 (cls b).1 0 else Lib.compareInt (cls a).2 (cls b).2 := by
  unfold cmpC Lib.compareInt
  by_cases h1 : (cls a).2 < (cls b).2
  · simp [h1]
  · by_cases h2 : (cls b).2 < (cls a).2
    · simp [h1, h2]
    · simp [h1, h2]

/-- Two keys in their boxes. -/
structure Bx (w : World) (p q : Nat) (a b : ByteArray × Int) : Prop where
  a0 : w.cell? ⟨p, 0, none⟩ = some (.string a.1)
  a1 : w.cell? ⟨p, 1, none⟩ = some (.int .i64 a.2)
  b0 : w.cell? ⟨q, 0, none⟩ = some (.string b.1)
  b1 : w.cell? ⟨q, 1, none⟩ = some (.int .i64 b.2)
  fa0 : w.frozen? ⟨p, 0, none⟩ = false
  fa1 : w.frozen? ⟨p, 1, none⟩ = false
  fb0 : w.frozen? ⟨q, 0, none⟩ = false
  fb1 : w.frozen? ⟨q, 1, none⟩ = false
  pl : p < w.heap.size
  ql : q < w.heap.size
theorem Bx.grow {w w' : World} {p q : Nat} {a b : ByteArray × Int} (h : Bx w p q a b) (hb : Below w.heap.size w w') : Bx w' p q a b :=
  ⟨(hb.cell (p := ⟨p, 0, none⟩) h.pl).trans h.a0, (hb.cell (p := ⟨p, 1, none⟩) h.pl).trans h.a1, (hb.cell (p := ⟨q, 0, none⟩) h.ql).trans h.b0, (hb.cell (p := ⟨q, 1, none⟩) h.ql).trans h.b1,
   (hb.frozen (p := ⟨p, 0, none⟩) h.pl).trans h.fa0, (hb.frozen (p := ⟨p, 1, none⟩) h.pl).trans h.fa1, (hb.frozen (p := ⟨q, 0, none⟩) h.ql).trans h.fb0, (hb.frozen (p := ⟨q, 1, none⟩) h.ql).trans h.fb1,
   Nat.lt_of_lt_of_le h.pl hb.size, Nat.lt_of_lt_of_le h.ql hb.size⟩
theorem Bx.drew {w : World} {p q : Nat} {a b : ByteArray × Int} (h : Bx w p q a b) : Bx w.drew p q a b := h.grow ((Below.refl _ _).drew)
theorem Bx.new (w : World) (a b : ByteArray × Int) : Bx ((w.alloc (.cells #[.string a.1, .int .i64 a.2] 25)).alloc (.cells #[.string b.1, .int .i64 b.2] 25)) w.heap.size (w.heap.size + 1) a b := by
  have e : (w.alloc (.cells #[.string a.1, .int .i64 a.2] 25)).heap.size = w.heap.size + 1 := by simp
  have hb := (Below.refl _ (w.alloc (.cells #[.string a.1, .int .i64 a.2] 25))).alloc (Nat.le_refl _) (.cells #[.string b.1, .int .i64 b.2] 25)
  refine ⟨(hb.cell (p := ⟨w.heap.size, 0, none⟩) (by simp)).trans (World.cell?_alloc_new w _ _ _), (hb.cell (p := ⟨w.heap.size, 1, none⟩) (by simp)).trans (World.cell?_alloc_new w _ _ _), ?_, ?_,
    (hb.frozen (p := ⟨w.heap.size, 0, none⟩) (by simp)).trans (World.frozen?_alloc_new w _ _ _), (hb.frozen (p := ⟨w.heap.size, 1, none⟩) (by simp)).trans (World.frozen?_alloc_new w _ _ _), ?_, ?_, by simp; omega, by simp⟩
  · rw [← e]; exact World.cell?_alloc_new _ _ _ _
  · rw [← e]; exact World.cell?_alloc_new _ _ _ _
  · rw [← e]; exact World.frozen?_alloc_new _ _ _ _
  · rw [← e]; exact World.frozen?_alloc_new _ _ _ _

theorem step_call1 {P : Program} {ops : Array Oper} {o : Oper} {a : Act} {w : World} {K : Act → World → Prop} {Q : Exit → Act → World → Prop} {E : Prop}
    (hg : o.guard = none) (f : FuncId) (x : Operand) (t : TypeId) (hop : o.op = Op.call { callee := Callee.value (Operand.func f), args := #[x], argTypes := #[t] })
    (he : ∀ args w, (callFunc f args).run P w = .ok (.enter f args) w) (vx : Value) (hx : a.eval x = vx) {R : Ending → World → Prop} (hC : Calls P f #[vx] w R)
    (hK : ∀ e w', R e w' → ∃ v, e = .returned v ∧ K (a.put o.dst v) w') :
    if Region.wanted o (yielded ops a.tmps) = true then Oper.wp P o a w K Q else E := by
  have hw : Region.wanted o (yielded ops a.tmps) = true := by simp [Region.wanted, hg]
  rw [if_pos hw]
  unfold Oper.wp
  have hf : a.eval (Operand.func f) = .func (.func f) #[] #[] := rfl
  simp [execOp, hop, resolve, invoke, Deferred.ofValue, hx, hf, he]
  rw [Oper.upon_enter]
  exact hC.mono (fun e w' h => by obtain ⟨v, rfl, hk⟩ := hK e w' h; exact hk)
end Go.Proofs.YtcjpoabknlpopaaDoor
