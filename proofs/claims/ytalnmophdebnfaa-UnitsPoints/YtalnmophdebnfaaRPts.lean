/- lintelref01.Points: the document's code points with their places. -/
import Derived.Test.YtalnmophdebnfaaRUnits
namespace Go.Proofs.Ytalnmophdebnfaa
set_option linter.unusedVariables false
open Go.RowKit

theorem info64 : (Try.prog.info? 3).map (fun i => (i.zero, i.size, i.bytes)) = some (some (.int .i64 0), 1, 8) := by kernel_rfl
theorem info32 : (Try.prog.info? 21).map (fun i => (i.zero, i.size, i.bytes)) = some (some (.int .i32 0), 1, 4) := by kernel_rfl

def ac (l : List (Nat × Nat)) : List Value := l.map fun x => .int .i64 x.1
def rc (l : List (Nat × Nat)) : List Value := l.map fun x => .int .i32 x.2
theorem ac_snoc (l : List (Nat × Nat)) (x : Nat × Nat) : ac (l ++ [x]) = ac l ++ [.int .i64 x.1] := by simp [ac]
theorem rc_snoc (l : List (Nat × Nat)) (x : Nat × Nat) : rc (l ++ [x]) = rc l ++ [.int .i32 x.2] := by simp [rc]

/-- The three rows between two rounds, i units being done. -/
structure PR (s : ByteArray) (w : World) (x : Option Addr) (c : Nat) (i : Nat) (pre : List (Nat × Nat)) (va vr : Value) (wr : World) : Prop where
  le : i ≤ s.size / 2
  pp : pts s = pre ++ ptsFrom s (s.size / 2) i
  a : wr.ownsRow w.heap.size 3 1 va pre.length (ac pre)
  r : wr.ownsRow w.heap.size 21 1 vr pre.length (rc pre)
  u : wr.ownsRow w.heap.size 37 1 (.slice x (s.size / 2) c) (s.size / 2) (uc s (s.size / 2))
  b : Below w.heap.size w wr

theorem PR.len {s : ByteArray} {w : World} {x : Option Addr} {c i : Nat} {pre : List (Nat × Nat)} {va vr : Value} {wr : World} (h : PR s w x c i pre va vr wr) : pre.length ≤ s.size / 2 := by
  have h1 := ptsFrom_length s (s.size / 2) 0
  have h2 : (pts s).length = pre.length + (ptsFrom s (s.size / 2) i).length := by rw [h.pp, List.length_append]
  unfold pts at h2
  omega
theorem PR.step {s : ByteArray} {w : World} {x : Option Addr} {c i : Nat} {pre : List (Nat × Nat)} {va vr va' vr' : Value} {wr w1 w2 : World} (h : PR s w x c i pre va vr wr) (hlt : i < s.size / 2)
    (oa : w1.ownsRow w.heap.size 3 1 va' (pre.length + 1) (ac pre ++ [.int .i64 i])) (k1 : Kept w.heap.size 3 wr w1)
    (or : w2.ownsRow w.heap.size 21 1 vr' (pre.length + 1) (rc pre ++ [.int .i32 (ptAt s i)])) (k2 : Kept w.heap.size 21 w1 w2) :
    PR s w x c (i + szAt s i) (pre ++ [(i, ptAt s i)]) va' vr' w2 where
  le := szAt_fit s i hlt
  pp := by rw [h.pp, ptsFrom_step s i hlt]; simp
  a := by rw [List.length_append, ac_snoc]; exact own_kept oa k2 (by decide)
  r := by rw [List.length_append, rc_snoc]; exact or
  u := own_kept (own_kept h.u k1 (by decide)) k2 (by decide)
  b := (h.b.trans k1.1).trans k2.1

set_option maxHeartbeats 1000000 in
set_option maxRecDepth 100000 in
theorem rpoints_any (s : ByteArray) (w : World) (hs : (s.size : Int) ≤ 1048576) :
    Calls Try.prog 31 #[.string s] w fun e w' => ∃ va vr, e = .returned (.tuple #[va, vr]) ∧ w'.ownsRow w.heap.size 3 1 va (pts s).length (ac (pts s)) ∧ w'.ownsRow w.heap.size 21 1 vr (pts s).length (rc (pts s)) ∧ Below w.heap.size w w' := by
  obtain ⟨i3, hi3, hz30, hz31, hz32⟩ := info_parts info64
  obtain ⟨i2, hi2, hz20, hz21, hz22⟩ := info_parts info32
  go_enter Try.func31, Try.ntmps31
  go_wp2_with fail
  refine (runits_any s _ hs).mono ?_
  rintro e w1 ⟨v1, rfl, o1, b1⟩
  obtain ⟨x1, c1, rfl⟩ := own_slice' o1 |>.imp fun _ h => h.imp fun _ h => h.1
  go_wp2
  go_loopw [5, 6, 7] (fun va vr v wr => ∃ (i : Nat) (pre : List (Nat × Nat)), v = .int .i64 i ∧ PR s w x1 c1 i pre va vr wr) (fun _ _ v _ => s.size / 2 - (intOf v).toNat)
  case atStart => exact ⟨0, [], rfl, ⟨Nat.zero_le _, rfl, World.ownsRow_nil _ _ _ _, World.ownsRow_nil _ _ _ _, o1, b1⟩⟩
  case round =>
    obtain ⟨i, pre, rfl, hP⟩ := hrel
    have hPu := hP.u
    have hBW : w.heap.size ≤ wr.heap.size := hP.b.size
    have hpl := hP.len
    clear o1 b1
    by_cases hlt : i < s.size / 2
    · obtain ⟨g, rfl⟩ := own_some hPu (by omega)
      have hlt' : (i : Int) < ((s.size / 2 : Nat) : Int) := by omega
      have hi0 : (0 : Int) ≤ (i : Int) := by omega
      have hul := un_lt s i
      obtain ⟨z, hz⟩ : ∃ z : Int, (un s i : Int) = z := ⟨_, rfl⟩
      obtain ⟨z', hz'⟩ : ∃ z' : Int, (un s (i + 1) : Int) = z' := ⟨_, rfl⟩
      have hz0 : 0 ≤ z := by omega
      have hz1 : 0 ≤ z' := by omega
      have HU := Hid.mk' hz
      have HU' := Hid.mk' hz'
      have hul' : z < 65536 := by omega
      clear hul
      by_cases hq : pairAt s i = true
      · have HS := Hid.mk' (show szAt s i = 2 from by simp [szAt, hq])
        have hcase : (55296 ≤ z ∧ z < 56320) ∧ (i : Int) + 1 < ((s.size / 2 : Nat) : Int) ∧ 56320 ≤ z' ∧ z' < 57344 := by
          simp only [pairAt, isHi, isLo, Bool.and_eq_true, decide_eq_true_eq] at hq
          omega
        have HP : Hid ((ptAt s i : Int) = (z - 55296) * 1024 + z' - 56320 + 65536) := by
          show _ = _
          have e : ptAt s i = 65536 + (un s i - 55296) * 1024 + (un s (i + 1) - 56320) := by simp [ptAt, hq]
          rw [e]; omega
        clear hq hz hz'
        obtain ⟨⟨q1, q2⟩, q3, q4, q5⟩ := hcase
        go_wp2_with (at_builtin; refine wpList_append_own _ rfl _ _ 47 rfl w.heap.size 3 i3 (.int .i64 0) 1 8 Try.underlying47 hi3 hz30 hz31 hz32 rfl (by decide) _ _ _ rfl (hP.a.alloc _) ⟨wr.heap.size, 0, none⟩ 1 1 [.int .i64 i] rfl rfl (cells_new _ _ _) (by simp [Value.oneCell']) (by unfold maxLen; omega) (by omega) (by simp; omega) ?_; intro va1 w2 oA gA _; have kA := kept_append hP.a (grown_of_alloc gA) hBW; have hB2 := Nat.le_trans hBW kA.le; have u2 := own_kept hPu kA (by decide); have r2 := own_kept hP.r kA (by decide); have e1 : w2.cell? ⟨g, i, none⟩ = some (.int .u16 z) := (by rw [← HU.out]; exact own_cell u2 (uc_get s _ i hlt)); have e2 : w2.cell? ⟨g, i + 1, none⟩ = some (.int .u16 z') := (by rw [← HU'.out]; exact own_cell u2 (uc_get s _ (i + 1) (by omega))); clear gA)
        have q6 : (0 : Int) ≤ (i : Int) + 1 := by omega
        have y0 : IntKind.i64.wrap ((i : Int) + 1) = (i : Int) + 1 := by rw [IntKind.wrap_i64]; omega
        have y1 : IntKind.i32.wrap z = z := by rw [IntKind.wrap_i32]; omega
        have y2 : IntKind.i32.wrap z' = z' := by rw [IntKind.wrap_i32]; omega
        have y3 : IntKind.i32.wrap (z - 55296) = z - 55296 := by rw [IntKind.wrap_i32]; omega
        have y4 : IntKind.i32.wrap ((z - 55296) * 1024) = (z - 55296) * 1024 := by rw [IntKind.wrap_i32]; omega
        have y5 : IntKind.i32.wrap ((z - 55296) * 1024 + z') = (z - 55296) * 1024 + z' := by rw [IntKind.wrap_i32]; omega
        have y6 : IntKind.i32.wrap ((z - 55296) * 1024 + z' - 56320) = (z - 55296) * 1024 + z' - 56320 := by rw [IntKind.wrap_i32]; omega
        have y7 : IntKind.i32.wrap ((z - 55296) * 1024 + z' - 56320 + 65536) = (z - 55296) * 1024 + z' - 56320 + 65536 := by rw [IntKind.wrap_i32]; omega
        go_region_law (refine step_append_own rfl (.tmp 55) (.tmp 72) 48 rfl w.heap.size 21 i2 (.int .i32 0) 1 4 Try.underlying48 hi2 hz20 hz21 hz22 rfl (by decide) _ _ _ rfl (World.ownsRow.alloc (show w2.drew.ownsRow _ _ _ _ _ _ from r2) _) _ 1 1 _ rfl (by rfl) (cells_new _ _ _) (by simp [Value.oneCell']) (by unfold maxLen; omega) (by omega) (by simp; omega) ?_; intro vr1 w3 oR gR)
        all_goals
          have kR : Kept w.heap.size 21 w2 w3 := kept_append r2 (grown_of_alloc (grown_of_drew gR)) hB2
          clear gR y0 y1 y2 y3 y4 y5 y6 y7
          go_wp2
          go_roundw
          case rel => exact ⟨i + 2, _, by go_num, by have h := hP.step hlt oA kA (by rw [HP.out]; exact oR) kR; rwa [HS.out] at h⟩
          case measure => simp [intOf]; omega
      · rw [Bool.not_eq_true] at hq
        have HS := Hid.mk' (show szAt s i = 1 from by simp [szAt, hq])
        have HP := Hid.mk' (show ptAt s i = un s i from by simp [ptAt, hq])
        have hcase : z < 55296 ∨ 56320 ≤ z ∨ (55296 ≤ z ∧ z < 56320 ∧ ¬ ((i : Int) + 1 < ((s.size / 2 : Nat) : Int))) ∨ (55296 ≤ z ∧ z < 56320 ∧ ((i : Int) + 1 < ((s.size / 2 : Nat) : Int)) ∧ z' < 56320) ∨ (55296 ≤ z ∧ z < 56320 ∧ ((i : Int) + 1 < ((s.size / 2 : Nat) : Int)) ∧ 57344 ≤ z') := by
          simp only [pairAt, isHi, isLo, Bool.and_eq_false_iff, decide_eq_false_iff_not] at hq
          omega
        clear hq hz hz'
        rcases hcase with hc | hc | ⟨hc1, hc2, hc3⟩ | ⟨hc1, hc2, hc3, hc4⟩ | ⟨hc1, hc2, hc3, hc4⟩
        · go_wp2_with (first | (at_builtin; refine wpList_append_own _ rfl _ _ 47 rfl w.heap.size 3 i3 (.int .i64 0) 1 8 Try.underlying47 hi3 hz30 hz31 hz32 rfl (by decide) _ _ _ rfl (hP.a.alloc _) ⟨wr.heap.size, 0, none⟩ 1 1 [.int .i64 i] rfl rfl (cells_new _ _ _) (by simp [Value.oneCell']) (by unfold maxLen; omega) (by omega) (by simp; omega) ?_; intro va1 w2 oA gA _; have kA := kept_append hP.a (grown_of_alloc gA) hBW; have hB2 := Nat.le_trans hBW kA.le; have u2 := own_kept hPu kA (by decide); have r2 := own_kept hP.r kA (by decide); have e1 : w2.cell? ⟨g, i, none⟩ = some (.int .u16 z) := (by rw [← HU.out]; exact own_cell u2 (uc_get s _ i hlt));  clear gA) | (at_builtin; refine wpList_append_own _ rfl _ _ 48 rfl w.heap.size 21 i2 (.int .i32 0) 1 4 Try.underlying48 hi2 hz20 hz21 hz22 rfl (by decide) _ _ _ rfl (r2.alloc _) ⟨w2.heap.size, 0, none⟩ 1 1 [.int .i32 z] rfl rfl (cells_new _ _ _) (by simp [Value.oneCell']) (by unfold maxLen; omega) (by omega) (by simp; omega) ?_; intro vr1 w3 oR gR _; have kR := kept_append r2 (grown_of_alloc gR) hB2; clear gR))
          go_roundw
          case rel => exact ⟨i + 1, _, by go_num, by have h := hP.step hlt oA kA (by rw [HP.out, HU.out]; exact oR) kR; rwa [HS.out] at h⟩
          case measure => simp [intOf]; omega
        · go_wp2_with (first | (at_builtin; refine wpList_append_own _ rfl _ _ 47 rfl w.heap.size 3 i3 (.int .i64 0) 1 8 Try.underlying47 hi3 hz30 hz31 hz32 rfl (by decide) _ _ _ rfl (hP.a.alloc _) ⟨wr.heap.size, 0, none⟩ 1 1 [.int .i64 i] rfl rfl (cells_new _ _ _) (by simp [Value.oneCell']) (by unfold maxLen; omega) (by omega) (by simp; omega) ?_; intro va1 w2 oA gA _; have kA := kept_append hP.a (grown_of_alloc gA) hBW; have hB2 := Nat.le_trans hBW kA.le; have u2 := own_kept hPu kA (by decide); have r2 := own_kept hP.r kA (by decide); have e1 : w2.cell? ⟨g, i, none⟩ = some (.int .u16 z) := (by rw [← HU.out]; exact own_cell u2 (uc_get s _ i hlt));  clear gA) | (at_builtin; refine wpList_append_own _ rfl _ _ 48 rfl w.heap.size 21 i2 (.int .i32 0) 1 4 Try.underlying48 hi2 hz20 hz21 hz22 rfl (by decide) _ _ _ rfl (r2.alloc _) ⟨w2.heap.size, 0, none⟩ 1 1 [.int .i32 z] rfl rfl (cells_new _ _ _) (by simp [Value.oneCell']) (by unfold maxLen; omega) (by omega) (by simp; omega) ?_; intro vr1 w3 oR gR _; have kR := kept_append r2 (grown_of_alloc gR) hB2; clear gR))
          go_roundw
          case rel => exact ⟨i + 1, _, by go_num, by have h := hP.step hlt oA kA (by rw [HP.out, HU.out]; exact oR) kR; rwa [HS.out] at h⟩
          case measure => simp [intOf]; omega
        · go_wp2_with (first | (at_builtin; refine wpList_append_own _ rfl _ _ 47 rfl w.heap.size 3 i3 (.int .i64 0) 1 8 Try.underlying47 hi3 hz30 hz31 hz32 rfl (by decide) _ _ _ rfl (hP.a.alloc _) ⟨wr.heap.size, 0, none⟩ 1 1 [.int .i64 i] rfl rfl (cells_new _ _ _) (by simp [Value.oneCell']) (by unfold maxLen; omega) (by omega) (by simp; omega) ?_; intro va1 w2 oA gA _; have kA := kept_append hP.a (grown_of_alloc gA) hBW; have hB2 := Nat.le_trans hBW kA.le; have u2 := own_kept hPu kA (by decide); have r2 := own_kept hP.r kA (by decide); have e1 : w2.cell? ⟨g, i, none⟩ = some (.int .u16 z) := (by rw [← HU.out]; exact own_cell u2 (uc_get s _ i hlt));  clear gA) | (at_builtin; refine wpList_append_own _ rfl _ _ 48 rfl w.heap.size 21 i2 (.int .i32 0) 1 4 Try.underlying48 hi2 hz20 hz21 hz22 rfl (by decide) _ _ _ rfl (r2.alloc _) ⟨w2.heap.size, 0, none⟩ 1 1 [.int .i32 z] rfl rfl (cells_new _ _ _) (by simp [Value.oneCell']) (by unfold maxLen; omega) (by omega) (by simp; omega) ?_; intro vr1 w3 oR gR _; have kR := kept_append r2 (grown_of_alloc gR) hB2; clear gR))
          go_roundw
          case rel => exact ⟨i + 1, _, by go_num, by have h := hP.step hlt oA kA (by rw [HP.out, HU.out]; exact oR) kR; rwa [HS.out] at h⟩
          case measure => simp [intOf]; omega
        · go_wp2_with (first | (at_builtin; refine wpList_append_own _ rfl _ _ 47 rfl w.heap.size 3 i3 (.int .i64 0) 1 8 Try.underlying47 hi3 hz30 hz31 hz32 rfl (by decide) _ _ _ rfl (hP.a.alloc _) ⟨wr.heap.size, 0, none⟩ 1 1 [.int .i64 i] rfl rfl (cells_new _ _ _) (by simp [Value.oneCell']) (by unfold maxLen; omega) (by omega) (by simp; omega) ?_; intro va1 w2 oA gA _; have kA := kept_append hP.a (grown_of_alloc gA) hBW; have hB2 := Nat.le_trans hBW kA.le; have u2 := own_kept hPu kA (by decide); have r2 := own_kept hP.r kA (by decide); have e1 : w2.cell? ⟨g, i, none⟩ = some (.int .u16 z) := (by rw [← HU.out]; exact own_cell u2 (uc_get s _ i hlt)); have e2 : w2.cell? ⟨g, i + 1, none⟩ = some (.int .u16 z') := (by rw [← HU'.out]; exact own_cell u2 (uc_get s _ (i + 1) (by omega))); clear gA) | (at_builtin; refine wpList_append_own _ rfl _ _ 48 rfl w.heap.size 21 i2 (.int .i32 0) 1 4 Try.underlying48 hi2 hz20 hz21 hz22 rfl (by decide) _ _ _ rfl (r2.alloc _) ⟨w2.heap.size, 0, none⟩ 1 1 [.int .i32 z] rfl rfl (cells_new _ _ _) (by simp [Value.oneCell']) (by unfold maxLen; omega) (by omega) (by simp; omega) ?_; intro vr1 w3 oR gR _; have kR := kept_append r2 (grown_of_alloc gR) hB2; clear gR))
          go_roundw
          case rel => exact ⟨i + 1, _, by go_num, by have h := hP.step hlt oA kA (by rw [HP.out, HU.out]; exact oR) kR; rwa [HS.out] at h⟩
          case measure => simp [intOf]; omega
        · go_wp2_with (first | (at_builtin; refine wpList_append_own _ rfl _ _ 47 rfl w.heap.size 3 i3 (.int .i64 0) 1 8 Try.underlying47 hi3 hz30 hz31 hz32 rfl (by decide) _ _ _ rfl (hP.a.alloc _) ⟨wr.heap.size, 0, none⟩ 1 1 [.int .i64 i] rfl rfl (cells_new _ _ _) (by simp [Value.oneCell']) (by unfold maxLen; omega) (by omega) (by simp; omega) ?_; intro va1 w2 oA gA _; have kA := kept_append hP.a (grown_of_alloc gA) hBW; have hB2 := Nat.le_trans hBW kA.le; have u2 := own_kept hPu kA (by decide); have r2 := own_kept hP.r kA (by decide); have e1 : w2.cell? ⟨g, i, none⟩ = some (.int .u16 z) := (by rw [← HU.out]; exact own_cell u2 (uc_get s _ i hlt)); have e2 : w2.cell? ⟨g, i + 1, none⟩ = some (.int .u16 z') := (by rw [← HU'.out]; exact own_cell u2 (uc_get s _ (i + 1) (by omega))); clear gA) | (at_builtin; refine wpList_append_own _ rfl _ _ 48 rfl w.heap.size 21 i2 (.int .i32 0) 1 4 Try.underlying48 hi2 hz20 hz21 hz22 rfl (by decide) _ _ _ rfl (r2.alloc _) ⟨w2.heap.size, 0, none⟩ 1 1 [.int .i32 z] rfl rfl (cells_new _ _ _) (by simp [Value.oneCell']) (by unfold maxLen; omega) (by omega) (by simp; omega) ?_; intro vr1 w3 oR gR _; have kR := kept_append r2 (grown_of_alloc gR) hB2; clear gR))
          go_roundw
          case rel => exact ⟨i + 1, _, by go_num, by have h := hP.step hlt oA kA (by rw [HP.out, HU.out]; exact oR) kR; rwa [HS.out] at h⟩
          case measure => simp [intOf]; omega
    · obtain rfl : i = s.size / 2 := by have := hP.le; omega
      have hpp := hP.pp
      rw [ptsFrom_end s _ _ hlt, List.append_nil] at hpp
      have HP := Hid.mk' hpp
      clear hpp
      go_wp2
      go_ret2
      rw [HP.out]
      exact ⟨_, _, rfl, hP.a, hP.r, hP.b⟩

end Go.Proofs.Ytalnmophdebnfaa
