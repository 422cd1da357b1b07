/- tree.rows: the table of kinds (written by tools/mkrows.py). -/
import Derived.Test.YtkiofkppdpkboaaDoorBase
import Derived.Test.YtkiofkppdpkboaaDoorOwn
import Derived.Deep.MidRow
namespace Go.Proofs.YtkiofkppdpkboaaDoor
set_option linter.unusedVariables false
open Go.RowKit

/-- Blocks laid one behind the other. -/
def allocs (w : World) : List Obj → World
  | [] => w
  | o :: r => allocs (w.alloc o) r
theorem allocs_size : ∀ (os : List Obj) (w : World), (allocs w os).heap.size = w.heap.size + os.length
  | [], w => rfl
  | o :: r, w => by rw [allocs, allocs_size r]; simp; omega
theorem allocs_below : ∀ (os : List Obj) (w : World) (B : Nat), B ≤ w.heap.size → Below B w (allocs w os)
  | [], w, B, _ => Below.refl _ _
  | o :: r, w, B, h => ((Below.refl B w).alloc h o).trans (allocs_below r _ B (by simp; omega))
theorem allocs_cell : ∀ (os : List Obj) (w : World) (i j : Nat) (c : Array Value) (t : TypeId) (v : Value), os[i]? = some (.cells c t) → c[j]? = some v → (allocs w os).cell? ⟨w.heap.size + i, j, none⟩ = some v
  | [], w, i, j, c, t, v, h, _ => by simp at h
  | o :: r, w, 0, j, c, t, v, h, hv => by
    simp at h
    subst h
    rw [allocs, ((allocs_below r _ (w.alloc (.cells c t)).heap.size (Nat.le_refl _)).cell (p := ⟨w.heap.size + 0, j, none⟩) (by simp)), Nat.add_zero, World.cell?_alloc_new]
    exact hv
  | o :: r, w, i + 1, j, c, t, v, h, hv => by
    have := allocs_cell r (w.alloc o) i j c t v (by simpa using h) hv
    rw [allocs]
    have e : (w.alloc o).heap.size = w.heap.size + 1 := by simp
    rw [e] at this
    rw [show w.heap.size + (i + 1) = w.heap.size + 1 + i from by omega]
    exact this

/-- The rows of kinds that there must be, in the order in which they are laid. -/
def musts : List (List Int) := [[536863742], [536863742, 536863742], [1073741824, 4294967296], [25769803840, 536863742, 5629435109703680], [72057594037927942, 536863742], [72057594037927942, 8192], [72057594037927942, 8192], [1073741824, 4831831038], [393280], [393280], [536863742, 536863742, 536863742], [393280, 536863742], [4], [34359738368], [34359738368], [536863742, 5629435109703680], [18014424816149502, 18014399046345726, 18014399046345726, 5629435109703680], [536863742, 5629435109703680], [5629435109703680, 536863742], [4294967296, 18014402804449280, 18014402804449280], [5629435109703680]]
def mustObjs : List Obj := [.cells #[.int .u64 536863742] 56, .cells #[.int .u64 536863742, .int .u64 536863742] 56, .cells #[.int .u64 1073741824, .int .u64 4294967296] 56, .cells #[.int .u64 25769803840, .int .u64 536863742, .int .u64 5629435109703680] 56, .cells #[.int .u64 72057594037927942, .int .u64 536863742] 56, .cells #[.int .u64 72057594037927942, .int .u64 8192] 56, .cells #[.int .u64 72057594037927942, .int .u64 8192] 56, .cells #[.int .u64 1073741824, .int .u64 4831831038] 56, .cells #[.int .u64 393280] 56, .cells #[.int .u64 393280] 56, .cells #[.int .u64 536863742, .int .u64 536863742, .int .u64 536863742] 56, .cells #[.int .u64 393280, .int .u64 536863742] 56, .cells #[.int .u64 4] 56, .cells #[.int .u64 34359738368] 56, .cells #[.int .u64 34359738368] 56, .cells #[.int .u64 536863742, .int .u64 5629435109703680] 56, .cells #[.int .u64 18014424816149502, .int .u64 18014399046345726, .int .u64 18014399046345726, .int .u64 5629435109703680] 56, .cells #[.int .u64 536863742, .int .u64 5629435109703680] 56, .cells #[.int .u64 5629435109703680, .int .u64 536863742] 56, .cells #[.int .u64 4294967296, .int .u64 18014402804449280, .int .u64 18014402804449280] 56, .cells #[.int .u64 5629435109703680] 56]
/-- The table: four cells a kind. -/
def rowsC (B : Nat) : List Value := [.int .i64 0, .slice none 0 0, .int .u64 0, .int .u64 0,
  .int .i64 0, .slice none 0 0, .int .u64 0, .int .u64 0,
  .int .i64 0, .slice none 0 0, .int .u64 0, .int .u64 0,
  .int .i64 0, .slice none 0 0, .int .u64 0, .int .u64 0,
  .int .i64 0, .slice none 0 0, .int .u64 0, .int .u64 0,
  .int .i64 0, .slice none 0 0, .int .u64 0, .int .u64 0,
  .int .i64 1, .slice none 0 0, .int .u64 0, .int .u64 0,
  .int .i64 0, .slice none 0 0, .int .u64 0, .int .u64 0,
  .int .i64 0, .slice none 0 0, .int .u64 0, .int .u64 1073734654,
  .int .i64 0, .slice none 0 0, .int .u64 0, .int .u64 7168,
  .int .i64 0, .slice (some ⟨B + 1 + 1 + 1 + 1 + 1, 0, none⟩) 2 2, .int .u64 0, .int .u64 0,
  .int .i64 0, .slice (some ⟨B + 1 + 1 + 1 + 1 + 1 + 1, 0, none⟩) 2 2, .int .u64 0, .int .u64 0,
  .int .i64 0, .slice (some ⟨B + 1 + 1 + 1 + 1 + 1 + 1 + 1, 0, none⟩) 2 2, .int .u64 0, .int .u64 0,
  .int .i64 2, .slice (some ⟨B + 1 + 1 + 1, 0, none⟩) 2 2, .int .u64 0, .int .u64 0,
  .int .i64 0, .slice (some ⟨B + 1 + 1 + 1 + 1 + 1 + 1 + 1 + 1, 0, none⟩) 2 2, .int .u64 0, .int .u64 0,
  .int .i64 0, .slice (some ⟨B + 1, 0, none⟩) 1 1, .int .u64 0, .int .u64 1073734654,
  .int .i64 0, .slice (some ⟨B + 1, 0, none⟩) 1 1, .int .u64 0, .int .u64 1073734654,
  .int .i64 3, .slice (some ⟨B + 1, 0, none⟩) 1 1, .int .u64 0, .int .u64 0,
  .int .i64 0, .slice (some ⟨B + 1 + 1, 0, none⟩) 2 2, .int .u64 0, .int .u64 0,
  .int .i64 4, .slice (some ⟨B + 1, 0, none⟩) 1 1, .int .u64 0, .int .u64 0,
  .int .i64 4, .slice (some ⟨B + 1 + 1 + 1 + 1 + 1 + 1 + 1 + 1 + 1, 0, none⟩) 1 1, .int .u64 0, .int .u64 0,
  .int .i64 4, .slice (some ⟨B + 1 + 1 + 1 + 1 + 1 + 1 + 1 + 1 + 1 + 1, 0, none⟩) 1 1, .int .u64 0, .int .u64 0,
  .int .i64 4, .slice (some ⟨B + 1 + 1, 0, none⟩) 2 2, .int .u64 0, .int .u64 0,
  .int .i64 0, .slice (some ⟨B + 1 + 1, 0, none⟩) 2 2, .int .u64 0, .int .u64 0,
  .int .i64 0, .slice (some ⟨B + 1 + 1, 0, none⟩) 2 2, .int .u64 0, .int .u64 0,
  .int .i64 0, .slice (some ⟨B + 1 + 1 + 1 + 1 + 1 + 1 + 1 + 1 + 1 + 1 + 1, 0, none⟩) 3 3, .int .u64 0, .int .u64 0,
  .int .i64 4, .slice (some ⟨B + 1 + 1 + 1 + 1 + 1 + 1 + 1 + 1 + 1 + 1 + 1 + 1, 0, none⟩) 2 2, .int .u64 0, .int .u64 0,
  .int .i64 0, .slice (some ⟨B + 1 + 1, 0, none⟩) 2 2, .int .u64 0, .int .u64 536863742,
  .int .i64 0, .slice (some ⟨B + 1 + 1 + 1 + 1 + 1 + 1 + 1 + 1 + 1 + 1 + 1 + 1 + 1, 0, none⟩) 1 1, .int .u64 0, .int .u64 536863742,
  .int .i64 0, .slice (some ⟨B + 1, 0, none⟩) 1 1, .int .u64 0, .int .u64 0,
  .int .i64 0, .slice none 0 0, .int .u64 0, .int .u64 2147483712,
  .int .i64 1, .slice none 0 0, .int .u64 0, .int .u64 0,
  .int .i64 0, .slice none 0 0, .int .u64 0, .int .u64 14636660134248448,
  .int .i64 0, .slice (some ⟨B + 1 + 1 + 1 + 1 + 1 + 1 + 1 + 1 + 1 + 1 + 1 + 1 + 1 + 1, 0, none⟩) 1 1, .int .u64 0, .int .u64 34359738368,
  .int .i64 0, .slice (some ⟨B + 1 + 1 + 1 + 1 + 1 + 1 + 1 + 1 + 1 + 1 + 1 + 1 + 1 + 1 + 1, 0, none⟩) 1 1, .int .u64 0, .int .u64 34359738368,
  .int .i64 1, .slice none 0 0, .int .u64 536863742, .int .u64 0,
  .int .i64 0, .slice none 0 0, .int .u64 0, .int .u64 0,
  .int .i64 0, .slice (some ⟨B + 1, 0, none⟩) 1 1, .int .u64 0, .int .u64 0,
  .int .i64 0, .slice (some ⟨B + 1 + 1 + 1 + 1 + 1 + 1 + 1 + 1 + 1 + 1 + 1 + 1 + 1 + 1 + 1 + 1, 0, none⟩) 2 2, .int .u64 5629435109703680, .int .u64 0,
  .int .i64 0, .slice (some ⟨B + 1 + 1 + 1 + 1 + 1 + 1 + 1 + 1 + 1 + 1 + 1 + 1 + 1 + 1 + 1 + 1 + 1, 0, none⟩) 4 4, .int .u64 0, .int .u64 0,
  .int .i64 0, .slice (some ⟨B + 1 + 1 + 1 + 1, 0, none⟩) 3 3, .int .u64 0, .int .u64 0,
  .int .i64 0, .slice (some ⟨B + 1 + 1 + 1 + 1, 0, none⟩) 3 3, .int .u64 0, .int .u64 0,
  .int .i64 0, .slice (some ⟨B + 1 + 1 + 1 + 1 + 1 + 1 + 1 + 1 + 1 + 1 + 1 + 1 + 1 + 1 + 1 + 1 + 1 + 1, 0, none⟩) 2 2, .int .u64 0, .int .u64 0,
  .int .i64 0, .slice (some ⟨B + 1 + 1 + 1 + 1 + 1 + 1 + 1 + 1 + 1 + 1 + 1 + 1 + 1 + 1 + 1 + 1 + 1 + 1 + 1, 0, none⟩) 2 2, .int .u64 0, .int .u64 0,
  .int .i64 2, .slice none 0 0, .int .u64 0, .int .u64 0,
  .int .i64 2, .slice none 0 0, .int .u64 0, .int .u64 0,
  .int .i64 0, .slice none 0 0, .int .u64 536863742, .int .u64 0,
  .int .i64 0, .slice (some ⟨B + 1, 0, none⟩) 1 1, .int .u64 0, .int .u64 0,
  .int .i64 2, .slice (some ⟨B + 1 + 1 + 1 + 1 + 1 + 1 + 1 + 1 + 1 + 1 + 1 + 1 + 1 + 1 + 1 + 1 + 1 + 1 + 1 + 1, 0, none⟩) 3 3, .int .u64 0, .int .u64 0,
  .int .i64 0, .slice (some ⟨B + 1, 0, none⟩) 1 1, .int .u64 0, .int .u64 3377699720527872,
  .int .i64 0, .slice (some ⟨B + 1, 0, none⟩) 1 1, .int .u64 0, .int .u64 14636660134248448,
  .int .i64 0, .slice none 0 0, .int .u64 0, .int .u64 14636660134248448,
  .int .i64 1, .slice (some ⟨B + 1 + 1 + 1 + 1 + 1 + 1 + 1 + 1 + 1 + 1 + 1 + 1 + 1 + 1 + 1 + 1 + 1 + 1 + 1 + 1 + 1, 0, none⟩) 1 1, .int .u64 0, .int .u64 0,
  .int .i64 1, .slice (some ⟨B + 1 + 1 + 1, 0, none⟩) 2 2, .int .u64 0, .int .u64 0,
  .int .i64 0, .slice none 0 0, .int .u64 0, .int .u64 0,
  .int .i64 0, .slice none 0 0, .int .u64 0, .int .u64 14636660134248448,
  .int .i64 0, .slice (some ⟨B + 1, 0, none⟩) 1 1, .int .u64 0, .int .u64 0]

theorem allocs_there : ∀ (os : List Obj) (w : World) (b o n : Nat), w.there b o n → (allocs w os).there b o n
  | [], w, b, o, n, h => h
  | x :: r, w, b, o, n, h => allocs_there r _ b o n (World.there_alloc h x)
theorem zero_there (w : World) : (w.alloc (.cells Tryd.zeroCells59 59)).there w.heap.size 0 228 := fun j hj => by
  have hs : Tryd.zeroCells59.size = 228 := by kernel_rfl
  rw [World.cell?_alloc_new, World.frozen?_alloc_new]
  refine ⟨?_, rfl⟩
  rw [Nat.zero_add, Array.getElem?_eq_getElem (by rw [hs]; exact hj)]
  rfl
theorem results_cell {fn : Func} {p : Tmp} {ty : TypeId} (h : fn.results = #[.cell p ty]) (tmps : Array Value) (P : Program) (w : World) :
    (results fn tmps).run P w = ((asAddr (tmps.getD p undef)).run P w).andThen fun a w₁ => (loadVar ty a).run P w₁ := by
  simp only [results, h]
  simp [Sem.run_bind, Result.andThen]
/-- The world behind rows. -/
def RowsIs (w W : World) : Prop := W = (allocs (w.alloc (.cells Tryd.zeroCells59 59)) mustObjs).setCells w.heap.size 0 (rowsC w.heap.size)
theorem rowsC_len (B : Nat) : (rowsC B).length = 228 := by kernel_rfl

set_option maxHeartbeats 4000000 in
set_option maxRecDepth 100000 in
theorem rows_any (w : World) : Calls Tryd.prog 24 #[] w fun e w' => e = .returned (.agg (rowsC w.heap.size).toArray) ∧ RowsIs w w' := by
  have HW : Hid (∀ W : World, RowsIs w W → (loadVar 59 ⟨w.heap.size, 0, none⟩).run Tryd.prog W = .ok (.agg (rowsC w.heap.size).toArray) W) := Hid.mk' (fun W hW => by
    subst hW
    refine run_loadVar_mid _ w.heap.size 0 59 (rowsC w.heap.size) _ ?_ Tryd.underlying59 rfl (by kernel_rfl)
    exact World.rangeAt_setCells_same _ _ _ _ (by rw [rowsC_len]; exact allocs_there _ _ _ _ _ (zero_there w)))
  go_enter Tryd.func24, Tryd.ntmps24
  iterate 260 (first | go_values | go_skip | go_step)
  rename_i Q1 K1 hK1 K2 hK2
  refine hK2 _ _ ?_
  refine wpList_store_mid rfl 59 (.tmp 0) (.tmp 93) rfl w.heap.size 0 (rowsC w.heap.size).toArray rfl ?hy ?ht ?hi ?h1 ?hk
  case hy => kernel_rfl
  case ht => exact allocs_there mustObjs _ _ _ _ (zero_there w)
  case hi => kernel_rfl
  case h1 => kernel_rfl
  case hk =>
    obtain ⟨W, hW⟩ : ∃ W, W = (allocs (w.alloc (.cells Tryd.zeroCells59 59)) mustObjs).setCells w.heap.size 0 (rowsC w.heap.size) := ⟨_, rfl⟩
    have HL := HW.out W hW
    refine (show wpList _ _ _ _ _ W → wpList _ _ _ _ _ ((allocs (w.alloc (.cells Tryd.zeroCells59 59)) mustObjs).setCells w.heap.size 0 (rowsC w.heap.size)) from fun h => hW ▸ h) ?_
    have HWI : Hid (RowsIs w W) := Hid.mk' hW
    clear hW HW
    refine hK1 _ _ ?_
    refine wp_ret ?_
    show bodyPost Tryd.prog Tryd.f24 (fun e w' => e = .returned (.agg (rowsC w.heap.size).toArray) ∧ RowsIs w w') Exit.ret _ W
    refine bodyPost_ret (v := .agg (rowsC w.heap.size).toArray) ?_ rfl ⟨rfl, HWI.out⟩
    rw [results_cell rfl]
    refine (show Result.andThen (.ok ⟨w.heap.size, 0, none⟩ W) (fun a w₁ => (loadVar 59 a).run Tryd.prog w₁) = _ from ?_)
    exact HL
end Go.Proofs.YtkiofkppdpkboaaDoor
