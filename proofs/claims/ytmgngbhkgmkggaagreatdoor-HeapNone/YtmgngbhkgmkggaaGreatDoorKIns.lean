/- slices.Sort of []uint32, where it is short: cmp.Less, insertionSortOrdered, pdqsortOrdered at up to 12 numbers. -/
import Derived.Test.YtmgngbhkgmkggaaGreatDoorKOf
import Derived.Sort.WalkA
import Derived.Sort.Walk13a
import Derived.Sort.AssemblyPlain
namespace Go.Proofs.YtmgngbhkgmkggaaGreatDoor
set_option linter.unusedVariables false
open Go.RowKit Go.Sort

/-- A number of 32 bits in a cell. -/
abbrev eU : Int → Value := Value.int .u32

set_option maxHeartbeats 400000 in
theorem nanU (x : Int) (w : World) : Calls Tryz.prog 112 #[.int .u32 x] w fun e w' => e = .returned (.bool false) ∧ w' = w := by
  go_enter Tryz.func112, Tryz.ntmps112
  go_wp2
  go_ret
  exact ⟨by simp, rfl⟩
set_option maxHeartbeats 400000 in
theorem lessU (x y : Int) (w : World) : Calls Tryz.prog 99 #[.int .u32 x, .int .u32 y] w fun e w' => e = .returned (.bool (ltInt x y)) ∧ w' = w := by
  go_enter Tryz.func99, Tryz.ntmps99
  go_wp2_with (go_at_call 112; refine (nanU _ _).mono ?_; rintro e w1 ⟨rfl, hw1⟩; rw [hw1]; clear hw1 w1)
  go_ret
  exact ⟨rfl, rfl⟩

/-- What a walk over a row is handed: its cells, by a name of their own. -/
theorem row_facts {w wr : World} {m blk off : Nat} {d dj : Array Int} (hH : Holds eU w blk off d) (hs : dj.size = d.size) (hw : wr = putRow eU (Sort.ahead w m) blk off dj) :
    ∃ G : Nat → Int, (∀ t, G t = dj[t]!) ∧ (∀ t, t < d.size → wr.cell? ⟨blk, off + t, none⟩ = some (.int .u32 (G t))) ∧ (∀ t, t < d.size → wr.frozen? ⟨blk, off + t, none⟩ = false) := by
  refine ⟨fun t => dj[t]!, fun _ => rfl, fun t ht => ?_, fun t ht => ?_⟩
  · rw [hw]; exact cell?_putRow _ _ _ _ d dj (holds_ahead _ _ _ _ _ _ hH) hs t (by omega)
  · rw [hw, frozen?_putRow]; exact ((holds_ahead _ _ m _ _ _ hH) t ht).2

set_option maxHeartbeats 2000000 in
set_option maxRecDepth 100000 in
theorem insU (blk off cap a b : Nat) (d : Array Int) (w : World) (hH : Holds eU w blk off d) (hab : a ≤ b) (hb : b ≤ d.size) (hsz : d.size < 4611686018427387904) :
    Calls Tryz.prog 93 #[.slice (some ⟨blk, off, none⟩) d.size cap, .int .i64 a, .int .i64 b] w fun e w' =>
      e = .returned (.tuple #[]) ∧ ∃ n, w' = putRow eU (Sort.ahead w n) blk off (Sort.insertionSort ltInt d a b) := by
  have HH := Hid.mk' hH
  clear hH
  go_enter Tryz.func93, Tryz.ntmps93
  go_wp2
  go_loopw [6] (fun vi wr => ∃ (i n : Nat) (dk : Array Int), vi = .int .i64 i ∧ a < i ∧ i ≤ b + 1 ∧ dk.size = d.size ∧ wr = putRow eU (Sort.ahead w n) blk off dk ∧
      insOuter ltInt a b i dk = insOuter ltInt a b (a + 1) d) (fun vi _ => b + 1 - (intOf vi).toNat)
  case atStart => exact ⟨a + 1, 0, d, by go_num, by omega, by omega, rfl, (putRow_self _ _ _ _ _ HH.out).symm, rfl⟩
  case round =>
    obtain ⟨i, n, dk, rfl, hai, hib, hsk, hwr, hO⟩ := hrel
    have HO := Hid.mk' hO
    have HWR := Hid.mk' hwr
    clear hO
    by_cases hlt : i < b
    · go_wp2
      go_loopw [7] (fun vj w2 => ∃ (j m : Nat) (dj : Array Int), vj = .int .i64 j ∧ a ≤ j ∧ j ≤ i ∧ dj.size = d.size ∧ w2 = putRow eU (Sort.ahead w m) blk off dj ∧ insInner ltInt a j dj = insInner ltInt a i dk) (fun vj _ => (intOf vj).toNat)
      case atStart => exact ⟨i, n, dk, rfl, by omega, Nat.le_refl _, hsk, rfl, rfl⟩
      case round =>
        obtain ⟨j, m, dj, rfl, haj, hji, hsj, hw2, hI⟩ := hrel
        obtain ⟨G, hG, hcw, hfw⟩ := row_facts HH.out hsj hw2
        have HW := Hid.mk' hw2
        have HG := Hid.mk' hG
        have HI := Hid.mk' hI
        clear hw2 hG hI hwr
        have OUT : Hid ((j ≤ a ∨ ltInt dj[j]! dj[j - 1]! = false) → ∀ q, ∃ i' n' dk', Value.int .i64 ((i : Int) + 1) = .int .i64 (i' : Nat) ∧ a < i' ∧ i' ≤ b + 1 ∧ dk'.size = d.size ∧
            wr.drewN q = putRow eU (Sort.ahead w n') blk off dk' ∧ insOuter ltInt a b i' dk' = insOuter ltInt a b (a + 1) d) := Hid.mk' (fun hs q =>
          ⟨i + 1, m + q, dj, by go_num, by omega, by omega, hsj, by rw [HW.out]; exact putRow_drewN _ _ _ _ _ _ _,
            by rw [← HO.out, insOuter_go _ _ _ _ _ hlt, ← HI.out, insInner_stop _ _ _ _ hs]⟩)
        by_cases hja : a < j
        · go_wp2
          go_quiet (first | (go_at_call 99; refine Calls.quiet_of_same (lessU _ _ _)))
          go_wp2
          · have hl : ltInt (G j) (G (j - 1)) = true := by assumption
            go_region
            all_goals go_wp2
            go_roundw
            case rel =>
              refine ⟨j - 1, m + (nq + 1), swp dj j (j - 1), by congr 1; omega, by omega, by omega, by rw [size_swp]; exact hsj, ?_, ?_⟩
              · rw [HW.out, HG.out, HG.out]
                exact swap_worldA _ w m (nq + 1) blk off dj j (j - 1) (by omega) (by omega)
              · rw [← HI.out, insInner_go ltInt a j dj hja (by rw [← HG.out, ← HG.out]; exact hl)]
            case measure => simp [intOf]; omega
          · have hl : ltInt (G j) (G (j - 1)) = false := by assumption
            go_roundw
            case rel => exact OUT.out (Or.inr (by rw [← HG.out, ← HG.out]; exact hl)) nq
            case measure => simp [intOf]; omega
        · go_wp2
          go_quiet (first | (go_at_call 99; refine Calls.quiet_of_same (lessU _ _ _)))
          go_wp2
          go_roundw
          case rel => exact OUT.out (Or.inl (by omega)) nq
          case measure => simp [intOf]; omega
    · go_wp2
      go_end0
      exact ⟨rfl, n, by unfold Sort.insertionSort; rw [← HO.out, insOuter_stop _ _ _ _ _ hlt]⟩

/-- The world behind a sort: the row in its order, new blocks, draws. -/
def Srt (w w' : World) (blk off : Nat) (d : Array Int) : Prop := ∃ n os, w' = grow (putRow eU (Sort.ahead w n) blk off d) os

set_option maxHeartbeats 1000000 in
set_option maxRecDepth 100000 in
theorem pdqU_small (blk off cap limit : Nat) (d : Array Int) (w : World) (hH : Holds eU w blk off d) (h12 : d.size ≤ 12) :
    Calls Tryz.prog 81 #[.slice (some ⟨blk, off, none⟩) d.size cap, .int .i64 0, .int .i64 d.size, .int .i64 limit] w fun e w' =>
      e = .returned (.tuple #[]) ∧ Srt w w' blk off (Sort.insertionSort ltInt d 0 d.size) := by
  have HC : Hid (Calls Tryz.prog 93 #[.slice (some ⟨blk, off, none⟩) d.size cap, .int .i64 0, .int .i64 d.size] w fun e w' =>
      e = .returned (.tuple #[]) ∧ ∃ n, w' = putRow eU (Sort.ahead w n) blk off (Sort.insertionSort ltInt d 0 d.size)) := Hid.mk' (insU blk off cap 0 d.size d w hH (Nat.zero_le _) (Nat.le_refl _) (by omega))
  obtain ⟨n, hn⟩ : ∃ n, d.size = n := ⟨_, rfl⟩
  rw [hn] at HC h12 ⊢
  have h1 : (n : Int) ≤ 12 := by omega
  go_enter Tryz.func81, Tryz.ntmps81
  go_wp2
  go_loopw [1, 2, 3] (fun v1 v2 v3 wr => v1 = .int .i64 0 ∧ v2 = .int .i64 n ∧ v3 = .int .i64 limit ∧ wr = w) (fun _ _ _ _ => 0)
  case atStart => exact ⟨rfl, rfl, rfl, rfl⟩
  case round =>
    obtain ⟨rfl, rfl, rfl, rfl⟩ := hrel
    go_wp2_with fail
    refine HC.out.mono ?_
    rintro e w1 ⟨rfl, m, hm⟩
    go_wp2
    (try simp only [Exit.inBlock, Exit.then])
    refine bodyPost_ret (v := .tuple #[]) (results_none rfl _ _ _) rfl ?_
    exact ⟨rfl, m, #[], by rw [grow_empty]⟩

/-- slices.Sort, of up to m numbers. -/
def SortTo (m : Nat) : Prop := ∀ (blk off cap : Nat) (zs : List Int) (w : World), zs.length ≤ m → zs.length ≤ cap → Holds eU w blk off zs.toArray → blk < w.heap.size →
  Calls Tryz.prog 70 #[.slice (some ⟨blk, off, none⟩) zs.length cap] w fun e w' => e = .returned (.tuple #[]) ∧ Srt w w' blk off (zs.mergeSort fun x y => decide (x ≤ y)).toArray

theorem sort_eq (zs : List Int) : (zs.mergeSort fun x y => decide (x ≤ y)).toArray = Sort.sort ltInt zs.toArray := by
  rw [← sortInt zs]

set_option maxHeartbeats 1000000 in
set_option maxRecDepth 100000 in
theorem sort_small : SortTo 12 := by
  intro blk off cap zs w hl hcap hH hblk
  have hd : zs.toArray.size = zs.length := by simp
  have HP := Hid.mk' (fun limit => pdqU_small blk off cap limit zs.toArray w hH (by omega))
  rw [hd] at HP
  have HE : Hid (Sort.insertionSort ltInt zs.toArray 0 zs.length = (zs.mergeSort fun x y => decide (x ≤ y)).toArray) := Hid.mk' (by
    rw [sort_eq, Sort.sort, hd, pdq_small (by omega)])
  have HB := Hid.mk' (fun W => Tryz.bits_Len (zs.length : Int) W (by omega) (by omega))
  obtain ⟨n, hn⟩ : ∃ n, zs.length = n := ⟨_, rfl⟩
  rw [hn] at HP HB ⊢
  rw [hn] at HE hl
  have x1 : IntKind.u64.wrap (n : Int) = n := by rw [IntKind.wrap_u64]; omega
  clear hn hd hH
  go_enter Tryz.func70, Tryz.ntmps70
  go_wp2_with fail
  refine (HB.out _).mono ?_
  rintro e w1 ⟨rfl, hw1⟩
  rw [hw1]; clear hw1 w1
  go_wp2_with fail
  refine (HP.out _).mono ?_
  rintro e w1 ⟨rfl, hS⟩
  go_wp2
  go_end0
  exact ⟨rfl, by rw [← HE.out]; exact hS⟩

end Go.Proofs.YtmgngbhkgmkggaaGreatDoor
