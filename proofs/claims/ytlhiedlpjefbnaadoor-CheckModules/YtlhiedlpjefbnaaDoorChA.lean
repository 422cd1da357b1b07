/- Package check: the checker in memory, its small methods. -/
import Derived.Test.YtlhiedlpjefbnaaDoorChP
import Derived.BigQuiet
namespace Go.Proofs.YtlhiedlpjefbnaaDoor
set_option linter.unusedVariables false
set_option linter.unusedSimpArgs false
open Go.RowKit

/-- The checker. -/
structure Ck (w : World) (cb : Nat) (a : Option Addr) (n c : Nat) (vn : Value) (mp : Nat) (q : FW) : Prop where
  blk : w.heap[cb]? = some (.cells #[.slice a n c, vn, .map (some mp), .string q.f.name, .int .i64 q.f.params, .bool q.f.rest, .bool q.f.arrow, .int .i64 q.f.regs, .slice q.xa q.f.consts.length q.xc, .slice q.ya q.f.code.length q.yc, .slice q.za q.f.tries.length q.zc, .slice q.ua q.f.caps.length q.uc] 80 (0, 0))
theorem Ck.lt {w : World} {cb : Nat} {a : Option Addr} {n c : Nat} {vn : Value} {mp : Nat} {q : FW} (h : Ck w cb a n c vn mp q) : cb < w.heap.size := (Array.getElem?_eq_some_iff.1 h.blk).1
theorem Ck.below {w w' : World} {cb : Nat} {a : Option Addr} {n c : Nat} {vn : Value} {mp : Nat} {q : FW} (h : Ck w cb a n c vn mp q) (hb : Below w.heap.size w w') : Ck w' cb a n c vn mp q := ⟨(hb.block cb h.lt).trans h.blk⟩
theorem Ck.cell {w : World} {cb : Nat} {a : Option Addr} {n c : Nat} {vn : Value} {mp : Nat} {q : FW} (h : Ck w cb a n c vn mp q) (k : Nat) : w.cell? ⟨cb, k, none⟩ = (#[.slice a n c, vn, .map (some mp), .string q.f.name, .int .i64 q.f.params, .bool q.f.rest, .bool q.f.arrow, .int .i64 q.f.regs, .slice q.xa q.f.consts.length q.xc, .slice q.ya q.f.code.length q.yc, .slice q.za q.f.tries.length q.zc, .slice q.ua q.f.caps.length q.uc] : Array Value)[k]? := cell_row _ _ _ _ _ h.blk

set_option maxHeartbeats 400000 in
theorem register_any {cb : Nat} {a : Option Addr} {n c : Nat} {vn : Value} {mp : Nat} {q : FW} (w : World) (h : Ck w cb a n c vn mp q) (z : Int) : Calls Tryd.prog 43 #[.pointer (some ⟨cb, 0, none⟩), .int .i64 z] w fun e w' => e = .returned (.bool (regB q.f z)) ∧ w' = w := by
  have c0 : w.cell? ⟨cb, 7, none⟩ = _ := h.cell 7
  simp at c0
  unfold regB
  obtain ⟨r, hr⟩ : ∃ r, q.f.regs = r := ⟨_, rfl⟩
  rw [hr] at c0 ⊢
  clear h hr
  go_enter Tryd.func43, Tryd.ntmps43
  go_wp2
  all_goals
    go_ret
    exact ⟨by first | rfl | (simp_all; done) | (simp; intros; omega) | (simp_all; intros; omega), rfl⟩
set_option maxHeartbeats 400000 in
theorem constant_any' {cb : Nat} {a : Option Addr} {n c : Nat} {vn : Value} {mp : Nat} {q : FW} (w : World) (h : Ck w cb a n c vn mp q) (z : Int) : Calls Tryd.prog 44 #[.pointer (some ⟨cb, 0, none⟩), .int .i64 z] w fun e w' => e = .returned (.bool (cstB q.f z)) ∧ w' = w := by
  have c0 : w.cell? ⟨cb, 8, none⟩ = _ := h.cell 8
  simp at c0
  unfold cstB
  obtain ⟨r, hr⟩ : ∃ r, q.f.consts.length = r := ⟨_, rfl⟩
  rw [hr] at c0 ⊢
  clear h hr
  go_enter Tryd.func44, Tryd.ntmps44
  go_wp2
  all_goals
    go_ret
    exact ⟨by first | rfl | (simp_all; done) | (simp; intros; omega) | (simp_all; intros; omega), rfl⟩
set_option maxHeartbeats 400000 in
theorem number_any' {cb : Nat} (w : World) (z : Int) : Calls Tryd.prog 46 #[.pointer (some ⟨cb, 0, none⟩), .int .i64 z] w fun e w' => e = .returned (.bool (numB z)) ∧ w' = w := by
  unfold numB
  go_enter Tryd.func46, Tryd.ntmps46
  go_wp2
  all_goals
    go_ret
    exact ⟨by first | rfl | (simp_all; done) | (simp; intros; omega) | (simp_all; intros; omega), rfl⟩
set_option maxHeartbeats 400000 in
theorem target_any {cb : Nat} {a : Option Addr} {n c : Nat} {vn : Value} {mp : Nat} {q : FW} (w : World) (h : Ck w cb a n c vn mp q) (z : Int) : Calls Tryd.prog 47 #[.pointer (some ⟨cb, 0, none⟩), .int .i64 z] w fun e w' => e = .returned (.bool (tgtB q.f z)) ∧ w' = w := by
  have c0 : w.cell? ⟨cb, 9, none⟩ = _ := h.cell 9
  simp at c0
  unfold tgtB
  obtain ⟨r, hr⟩ : ∃ r, q.f.code.length = r := ⟨_, rfl⟩
  rw [hr] at c0 ⊢
  clear h hr
  go_enter Tryd.func47, Tryd.ntmps47
  go_wp2
  all_goals
    go_ret
    exact ⟨by first | rfl | (simp_all; done) | (simp; intros; omega) | (simp_all; intros; omega), rfl⟩
set_option maxHeartbeats 400000 in
theorem made_any {cb : Nat} {a : Option Addr} {n c : Nat} {vn : Value} {mp : Nat} {q : FW} (w : World) (h : Ck w cb a n c vn mp q) (z : Int) : Calls Tryd.prog 48 #[.pointer (some ⟨cb, 0, none⟩), .int .i64 z] w fun e w' => e = .returned (.bool (madB n z)) ∧ w' = w := by
  have c0 : w.cell? ⟨cb, 0, none⟩ = _ := h.cell 0
  simp at c0
  unfold madB
  clear h
  go_enter Tryd.func48, Tryd.ntmps48
  go_wp2
  all_goals
    go_ret
    exact ⟨by first | rfl | (simp_all; done) | (simp; intros; omega) | (simp_all; intros; omega), rfl⟩
set_option maxHeartbeats 400000 in
theorem capture_any' {cb : Nat} {a : Option Addr} {n c : Nat} {vn : Value} {mp : Nat} {q : FW} (w : World) (h : Ck w cb a n c vn mp q) (z : Int) : Calls Tryd.prog 49 #[.pointer (some ⟨cb, 0, none⟩), .int .i64 z] w fun e w' => e = .returned (.bool (capB q.f z)) ∧ w' = w := by
  have c0 : w.cell? ⟨cb, 11, none⟩ = _ := h.cell 11
  simp at c0
  unfold capB
  obtain ⟨r, hr⟩ : ∃ r, q.f.caps.length = r := ⟨_, rfl⟩
  rw [hr] at c0 ⊢
  clear h hr
  go_enter Tryd.func49, Tryd.ntmps49
  go_wp2
  all_goals
    go_ret
    exact ⟨by first | rfl | (simp_all; done) | (simp; intros; omega) | (simp_all; intros; omega), rfl⟩
set_option maxHeartbeats 400000 in
theorem leaves_any (w : World) (z : Int) : Calls Tryd.prog 21 #[.int .i64 z] w fun e w' => e = .returned (.bool (leaB z)) ∧ w' = w := by
  unfold leaB
  go_enter Tryd.func21, Tryd.ntmps21
  go_wp2
  all_goals
    go_ret
    exact ⟨by first | rfl | (simp_all; done) | (simp; intros; omega) | (simp_all; intros; omega), rfl⟩
set_option maxHeartbeats 400000 in
theorem opnds_any (w : World) (o a b c d : Int) : Calls Tryd.prog 28 #[.agg #[.int .i64 o, .int .i64 a, .int .i64 b, .int .i64 c, .int .i64 d]] w fun e w' => e = .returned (.agg #[.int .i64 a, .int .i64 b, .int .i64 c, .int .i64 d]) ∧ Below w.heap.size w w' := by
  go_enter Tryd.func28, Tryd.ntmps28
  go_wp2
  refine bodyPost_ret (v := .agg #[.int .i64 a, .int .i64 b, .int .i64 c, .int .i64 d]) ?_ rfl ⟨rfl, (lay_below).alloc (by simp) _⟩
  rw [res_cell rfl]
  go_simp
set_option maxHeartbeats 400000 in
theorem isScript_any (w : World) (q : FW) : Calls Tryd.prog 33 #[.agg q.cs.toArray] w fun e w' => e = .returned (.bool (scrB q.f)) ∧ Below w.heap.size w w' := by
  unfold scrB
  simp only [FW.cs]
  obtain ⟨⟨f1, f2, f3, f4, f5, cs, is, ts, us⟩, xa, xc, ya, yc, za, zc, ua, uc⟩ := q
  dsimp only
  obtain ⟨n1, hn1⟩ : ∃ n1, cs.length = n1 := ⟨_, rfl⟩
  obtain ⟨n2, hn2⟩ : ∃ n2, is.length = n2 := ⟨_, rfl⟩
  obtain ⟨n3, hn3⟩ : ∃ n3, ts.length = n3 := ⟨_, rfl⟩
  obtain ⟨n4, hn4⟩ : ∃ n4, us.length = n4 := ⟨_, rfl⟩
  rw [hn1, hn2, hn3, hn4]
  clear hn1 hn2 hn3 hn4
  have hB : Hid (Below w.heap.size w (w.alloc (.cells #[.string f1, .int .i64 f2, .bool f3, .bool f4, .int .i64 f5, .slice xa n1 xc, .slice ya n2 yc, .slice za n3 zc, .slice ua n4 uc] 38))) := Hid.mk' lay_below
  go_enter Tryd.func33, Tryd.ntmps33
  go_wp2
  all_goals
    go_ret
    exact ⟨by first | rfl | (simp_all; done), lay_below⟩
set_option maxHeartbeats 400000 in
theorem metBy_any (w : World) (m : Need) (q : FW) : Calls Tryd.prog 54 #[.agg m.cs.toArray, .agg q.cs.toArray] w fun e w' => e = .returned (.bool (m.met q.f)) ∧ Below w.heap.size w w' := by
  unfold Need.met
  simp only [FW.cs, Need.cs]
  obtain ⟨⟨f1, f2, f3, f4, f5, cs, is, ts, us⟩, xa, xc, ya, yc, za, zc, ua, uc⟩ := q
  obtain ⟨m1, m2, m3⟩ := m
  dsimp only
  obtain ⟨n1, hn1⟩ : ∃ n1, cs.length = n1 := ⟨_, rfl⟩
  obtain ⟨n2, hn2⟩ : ∃ n2, is.length = n2 := ⟨_, rfl⟩
  obtain ⟨n3, hn3⟩ : ∃ n3, ts.length = n3 := ⟨_, rfl⟩
  obtain ⟨n4, hn4⟩ : ∃ n4, us.length = n4 := ⟨_, rfl⟩
  rw [hn1, hn2, hn3, hn4]
  clear hn1 hn2 hn3 hn4
  have hB : Hid (Below w.heap.size w ((w.alloc (.cells #[.int .i64 m1, .int .i64 m2, .int .i64 m3] 82)).alloc (.cells #[.string f1, .int .i64 f2, .bool f3, .bool f4, .int .i64 f5, .slice xa n1 xc, .slice ya n2 yc, .slice za n3 zc, .slice ua n4 uc] 38))) := Hid.mk' ((lay_below).alloc (by simp) _)
  go_enter Tryd.func54, Tryd.ntmps54
  go_wp2
  all_goals
    go_ret
    exact ⟨by first | rfl | (simp_all; done) | (simp_all; omega), hB.out⟩
end Go.Proofs.YtlhiedlpjefbnaaDoor
