/- Package check: tries by their places: the comparison. Package check: tries by their places. -/
import Derived.Test.YtcagfjogfbddeaaDoorChP
import Derived.Test.YtcagfjogfbddeaaDoorSortL
import Derived.Test.YtcagfjogfbddeaaDoorCdE
import Derived.Shelf.SlSortCmp.QuietGrown
import Derived.Shelf.SlSortCmp.NoneTotal
import Derived.Shelf.SlicesG.Cmp
import Derived.Shelf.Abstract
import Derived.BigQuiet
import Derived.Deep.RegionHeld3
import Derived.Deep.DrawnRows
import Derived.Test.YtcagfjogfbddeaaDoorChC
import Derived.Lib.RowBridge
import Derived.Lib.SortBridge
import Derived.Deep.OwnRows
namespace Go.Proofs.YtcagfjogfbddeaaDoor
set_option linter.unusedVariables false
set_option linter.unusedSimpArgs false
open Go.RowKit Go.Sort

theorem cmpI (x y : Int) (W : World) : Calls Tryd.prog 54 #[.int .i64 x, .int .i64 y] W fun e w' => e = .returned (.int .i64 (Lib.compareInt x y)) ∧ w' = W := AnyG.cmp_Compare_int Tryd.cmpL x y W
def or3 (x y z : Int) : Int := if x = 0 then (if y = 0 then z else y) else x
set_option maxHeartbeats 1000000 in
set_option maxRecDepth 100000 in
theorem or_three (g : Nat) (x y z r : Int) (hr : r = or3 x y z) (w : World) (h0 : w.cell? ⟨g, 0, none⟩ = some (.int .i64 x)) (h1 : w.cell? ⟨g, 1, none⟩ = some (.int .i64 y)) (h2 : w.cell? ⟨g, 2, none⟩ = some (.int .i64 z)) :
    Calls Tryd.prog 53 #[.slice (some ⟨g, 0, none⟩) 3 3] w fun e w' => e = .returned (.int .i64 r) ∧ w' = w := by
  have HR := Hid.mk' hr
  clear hr
  go_enter Tryd.func53, Tryd.ntmps53
  go_wp2_with fail
  go_loopw [8] (fun vk wr => ∃ k : Nat, vk = .int .i64 k ∧ k ≤ 3 ∧ wr = w ∧ Hid ((1 ≤ k → x = 0) ∧ (2 ≤ k → y = 0) ∧ (3 ≤ k → z = 0))) (fun vk _ => 3 - (intOf vk).toNat)
  case atStart => exact ⟨0, rfl, by omega, rfl, Hid.mk' ⟨fun h => by omega, fun h => by omega, fun h => by omega⟩⟩
  case round =>
    obtain ⟨k, rfl, hk, rfl, HK⟩ := hrel
    match k, hk with
    | 0, _ =>
      by_cases hx : x = 0
      · have zx : (x == 0) = true := by simp [hx]
        have HX := Hid.mk' hx
        clear hx
        go_wp2
        go_roundw
        case rel => exact ⟨1, by go_num, by omega, by first | rfl | trivial, Hid.mk' ⟨fun _ => HX.out, fun h => by omega, fun h => by omega⟩⟩
        case measure => simp [intOf]
      · have zx : (x == 0) = false := by simp [hx]
        have HX := Hid.mk' hx
        clear hx
        go_wp2
        go_ret
        exact ⟨by rw [HR.out, or3, if_neg HX.out]; rfl, rfl⟩
    | 1, _ =>
      have HX := Hid.mk' (HK.out.1 (by omega))
      by_cases hy : y = 0
      · have zy : (y == 0) = true := by simp [hy]
        have HY := Hid.mk' hy
        clear hy
        go_wp2
        go_roundw
        case rel => exact ⟨2, by go_num, by omega, by first | rfl | trivial, Hid.mk' ⟨fun _ => HX.out, fun _ => HY.out, fun h => by omega⟩⟩
        case measure => simp [intOf]
      · have zy : (y == 0) = false := by simp [hy]
        have HY := Hid.mk' hy
        clear hy
        go_wp2
        go_ret
        exact ⟨by rw [HR.out, or3, if_pos HX.out, if_neg HY.out]; rfl, rfl⟩
    | 2, _ =>
      have HX := Hid.mk' (HK.out.1 (by omega))
      have HY := Hid.mk' (HK.out.2.1 (by omega))
      by_cases hz : z = 0
      · have zz : (z == 0) = true := by simp [hz]
        have HZ := Hid.mk' hz
        clear hz
        go_wp2
        go_roundw
        case rel => exact ⟨3, by go_num, by omega, by first | rfl | trivial, Hid.mk' ⟨fun _ => HX.out, fun _ => HY.out, fun _ => HZ.out⟩⟩
        case measure => simp [intOf]
      · have zz : (z == 0) = false := by simp [hz]
        have HZ := Hid.mk' hz
        clear hz
        go_wp2
        go_ret
        exact ⟨by rw [HR.out, or3, if_pos HX.out, if_pos HY.out]; rfl, rfl⟩
    | 3, _ =>
      have HX := Hid.mk' (HK.out.1 (by omega))
      have HY := Hid.mk' (HK.out.2.1 (by omega))
      have HZ := Hid.mk' (HK.out.2.2 (by omega))
      go_wp2
      go_ret
      exact ⟨by rw [HR.out, or3, if_pos HX.out, if_pos HY.out, HZ.out]; rfl, rfl⟩
/-- The comparison. -/
def cfT (l : List Tri) (a b : Nat) : Int := or3 (Lib.compareInt (trAt l a).fr (trAt l b).fr) (Lib.compareInt (trAt l b).to (trAt l a).to) (Lib.compareInt (b : Int) (a : Int))
set_option maxHeartbeats 2000000 in
set_option maxRecDepth 100000 in
theorem closure_any (l : List Tri) (za : Option Addr) (zc bl : Nat) (W : World) (hr : RdE Tri.cs 4 W za zc l) (hb : W.cell? ⟨bl, 0, none⟩ = some (.slice za l.length zc)) (a b : Nat) (ha : a < l.length) (hb' : b < l.length) :
    Calls Tryd.prog 52 #[.int .i64 (a : Int), .int .i64 (b : Int), .pointer (some ⟨bl, 0, none⟩)] W fun e w' => e = .returned (.int .i64 (cfT l a b)) ∧ ∃ q os', w' = grow (W.drewN q) os' := by
  obtain ⟨g, o, rfl, hg, hca⟩ := hr.at a ha
  obtain ⟨g', o', hgo, _, hcb⟩ := hr.at b hb'
  simp only [Option.some.injEq, Addr.mk.injEq] at hgo
  obtain ⟨rfl, rfl, _⟩ := hgo
  have ea : trAt l a = l[a] := by simp [trAt, List.getD_eq_getElem?_getD, List.getElem?_eq_getElem ha]
  have eb : trAt l b = l[b] := by simp [trAt, List.getD_eq_getElem?_getD, List.getElem?_eq_getElem hb']
  unfold cfT
  rw [ea, eb]
  generalize l[a] = ta at hca
  generalize l[b] = tb at hcb
  obtain ⟨a1, a2, a3, a4⟩ := ta
  obtain ⟨b1, b2, b3, b4⟩ := tb
  have p0 := hca 0 (.int .i64 a1) (by omega) rfl
  have p1 := hca 1 (.int .i64 a2) (by omega) rfl
  have r0 := hcb 0 (.int .i64 b1) (by omega) rfl
  have r1 := hcb 1 (.int .i64 b2) (by omega) rfl
  simp only [Nat.add_zero] at p0 r0
  dsimp only
  obtain ⟨n, hn⟩ : ∃ n, l.length = n := ⟨_, rfl⟩
  rw [hn] at hb ha hb'
  have i1 : (a : Int) < (n : Int) := by omega
  have i2 : (b : Int) < (n : Int) := by omega
  obtain ⟨x1, hx1⟩ : ∃ x, Lib.compareInt a1 b1 = x := ⟨_, rfl⟩
  obtain ⟨x2, hx2⟩ : ∃ x, Lib.compareInt b2 a2 = x := ⟨_, rfl⟩
  obtain ⟨x3, hx3⟩ : ∃ x, Lib.compareInt (b : Int) (a : Int) = x := ⟨_, rfl⟩
  have H1 := Hid.mk' (fun W => cmpI a1 b1 W)
  have H2 := Hid.mk' (fun W => cmpI b2 a2 W)
  have H3 := Hid.mk' (fun W => cmpI (b : Int) (a : Int) W)
  rw [hx1] at H1
  rw [hx2] at H2
  rw [hx3] at H3
  rw [hx1, hx2, hx3]
  obtain ⟨r, hr'⟩ : ∃ r, or3 x1 x2 x3 = r := ⟨_, rfl⟩
  rw [hr']
  have HO := Hid.mk' (fun g W h0 h1 h2 => or_three g x1 x2 x3 r hr'.symm W h0 h1 h2)
  have hbl : bl < W.heap.size := World.block_lt_of_cell? W _ hb
  clear hr hca hcb ea eb hx1 hx2 hx3 hr' hn
  go_enter Tryd.func52, Tryd.ntmps52
  go_wp2_with fail
  go_region_held3 (fun w' => w'.cell? ⟨bl, 0, none⟩ = some (.slice (some ⟨g, o, none⟩) n zc) ∧ w'.cell? ⟨g, o + a * 4, none⟩ = some (.int .i64 a1) ∧ w'.cell? ⟨g, o + a * 4 + 1, none⟩ = some (.int .i64 a2) ∧ w'.cell? ⟨g, o + b * 4, none⟩ = some (.int .i64 b1) ∧ w'.cell? ⟨g, o + b * 4 + 1, none⟩ = some (.int .i64 b2)) (go_keep) (first
    | (go_at_call_of 54 (Value.int .i64 a1); refine (H1.out _).mono ?_; rintro e w1 ⟨rfl, hw1⟩; rw [hw1]; clear hw1 w1)
    | (go_at_call_of 54 (Value.int .i64 b2); refine (H2.out _).mono ?_; rintro e w1 ⟨rfl, hw1⟩; rw [hw1]; clear hw1 w1)
    | (go_at_call_of 54 (Value.int .i64 (b : Int)); refine (H3.out _).mono ?_; rintro e w1 ⟨rfl, hw1⟩; rw [hw1]; clear hw1 w1)
    | (go_at_call 53; refine (HO.out _ _ (World.cell?_alloc_new _ _ _ _) (World.cell?_alloc_new _ _ _ _) (World.cell?_alloc_new _ _ _ _)).mono ?_; rintro e w1 ⟨rfl, hw1⟩; rw [hw1]; clear hw1 w1))
  go_wp2
  go_ret
  exact ⟨rfl, 1, #[_], by rw [alloc_eq_grow]; rfl⟩
end Go.Proofs.YtcagfjogfbddeaaDoor

namespace Go.Proofs.YtcagfjogfbddeaaDoor
set_option linter.unusedVariables false
set_option linter.unusedSimpArgs false
open Go.RowKit Go.Sort Go.Lib

def lex6 (f1 t1 n1 f2 t2 n2 : Int) : Bool := decide (f1 < f2) || (decide (f1 = f2) && (decide (t2 < t1) || (decide (t2 = t1) && decide (n2 < n1))))
theorem befB_lex (l : List Tri) (a b : Nat) : befB l a b = lex6 (trAt l a).fr (trAt l a).to a (trAt l b).fr (trAt l b).to b := by
  unfold befB lex6
  congr 4
  simp
theorem cmp_lt (x y : Int) : (Lib.compareInt x y < 0 ↔ x < y) ∧ (Lib.compareInt x y = 0 ↔ x = y) := by
  unfold Lib.compareInt
  by_cases h1 : x < y
  · simp [h1]; omega
  · by_cases h2 : y < x
    · simp [h1, h2]; omega
    · simp [h1, h2]; omega
theorem or_lex (f1 t1 n1 f2 t2 n2 : Int) : decide (or3 (Lib.compareInt f1 f2) (Lib.compareInt t2 t1) (Lib.compareInt n2 n1) < 0) = lex6 f1 t1 n1 f2 t2 n2 := by
  have a := cmp_lt f1 f2
  have b := cmp_lt t2 t1
  have c := cmp_lt n2 n1
  unfold or3 lex6
  by_cases h1 : f1 = f2
  · rw [if_pos (a.2.2 h1)]
    by_cases h2 : t2 = t1
    · rw [if_pos (b.2.2 h2)]
      simp [h1, h2, c.1]
    · rw [if_neg (fun e => h2 (b.2.1 e))]
      simp [h1, h2, b.1]
  · rw [if_neg (fun e => h1 (a.2.1 e))]
    simp [h1, a.1]
theorem cfT_lt (l : List Tri) (a b : Nat) : decide (cfT l a b < 0) = befB l a b := by
  rw [befB_lex]
  exact or_lex _ _ _ _ _ _
theorem lex_irrefl (f t n : Int) : lex6 f t n f t n = false := by simp [lex6]
theorem lex_trans {f1 t1 n1 f2 t2 n2 f3 t3 n3 : Int} (h1 : lex6 f1 t1 n1 f2 t2 n2 = true) (h2 : lex6 f2 t2 n2 f3 t3 n3 = true) : lex6 f1 t1 n1 f3 t3 n3 = true := by
  simp [lex6] at *
  omega
theorem lex_ntrans {f1 t1 n1 f2 t2 n2 f3 t3 n3 : Int} (h1 : lex6 f1 t1 n1 f2 t2 n2 = false) (h2 : lex6 f2 t2 n2 f3 t3 n3 = false) : lex6 f1 t1 n1 f3 t3 n3 = false := by
  simp [lex6] at *
  omega
theorem lex_total {f1 t1 n1 f2 t2 n2 : Int} (h1 : lex6 f1 t1 n1 f2 t2 n2 = false) (h2 : lex6 f2 t2 n2 f1 t1 n1 = false) : n1 = n2 := by
  simp [lex6] at *
  omega
/-- The comparison of numbers that there are. -/
def cfF (l : List Tri) (m : Nat) (x y : Fin (m + 1)) : Int := cfT l x.val y.val
def encF (m : Nat) (x : Fin (m + 1)) : Value := .int .i64 (x.val : Int)
theorem lt_bef (l : List Tri) (m : Nat) (x y : Fin (m + 1)) : ltOf (cfF l m) x y = befB l x.val y.val := cfT_lt l x.val y.val
theorem swoT (l : List Tri) (m : Nat) : SWO (ltOf (cfF l m)) where
  irrefl x := by rw [lt_bef, befB_lex]; exact lex_irrefl _ _ _
  trans x y z h1 h2 := by rw [lt_bef, befB_lex] at *; exact lex_trans h1 h2
  ntrans x y z h1 h2 := by rw [lt_bef, befB_lex] at *; exact lex_ntrans h1 h2
theorem totT (l : List Tri) (m : Nat) (x y : Fin (m + 1)) (h1 : ltOf (cfF l m) x y = false) (h2 : ltOf (cfF l m) y x = false) : x = y := by
  rw [lt_bef, befB_lex] at *
  have := lex_total h1 h2
  exact Fin.ext (by omega)
theorem ord_map (l : List Tri) (m : Nat) (h : l.length = m + 1) : ((List.finRange (m + 1)).mergeSort fun x y => !(ltOf (cfF l m)) y x).map Fin.val = ordT l := by
  rw [List.map_mergeSort (s := fun a b => !befB l b a) (fun a _ b _ => by rw [lt_bef])]
  unfold ordT
  congr 1
  rw [h]
  apply List.ext_getElem
  · simp
  · intro i h1 h2
    simp
theorem ordT_length (l : List Tri) : (ordT l).length = l.length := by simp [ordT]
theorem ordT_lt (l : List Tri) : ∀ x ∈ ordT l, x < l.length := by
  intro x hx
  have := (List.mergeSort_perm (List.range l.length) fun a b => !befB l b a).mem_iff.1 hx
  simpa using this
/-- A row that is filled with the numbers of its places. -/
structure Fl' (W1 wr : World) (br n i : Nat) (C : Array Value) : Prop where
  bl : Below br W1 wr
  row : wr.heap[br]? = some (.cells C 3 (0, 0))
  sz : C.size = n
  lo : ∀ j, j < i → C[j]? = some (.int .i64 (j : Int))
theorem grownBy_srt {α : Type} [Inhabited α] {enc : α → Value} {w : World} {g n : Nat} {os : Array Obj} (d : Array α) : w.grownBy (sortWorld enc w g 0 n d os) (some g) := by
  unfold sortWorld
  refine ⟨rfl, rfl, rfl, by simp, fun k hk hne => ?_⟩
  rw [heap_grow_old _ _ (by simpa using hk)]
  have : g ≠ k := fun e => hne (by rw [e])
  simp [putRow, mapBlock, Sort.ahead, Array.getElem?_modify, this]
theorem heap_srt {α : Type} [Inhabited α] {enc : α → Value} {w : World} {g n : Nat} {os : Array Obj} {cur : Array Value} {e : TypeId} {fr : Nat × Nat} (d : Array α) (hb : w.heap[g]? = some (.cells cur e fr)) :
    (sortWorld enc w g 0 n d os).heap[g]? = some (.cells (putCells enc 0 d cur) e fr) := by
  unfold sortWorld
  have hg : g < w.heap.size := (Array.getElem?_eq_some_iff.1 hb).1
  rw [heap_grow_old _ _ (by simpa using hg)]
  simp [putRow, mapBlock, Sort.ahead, Array.getElem?_modify, hb, onCells]
theorem infoInt : (Tryd.prog.info? 3).map (fun i => (i.zero, i.size, i.bytes)) = some (some (.int .i64 0), 1, 8) := by kernel_rfl
theorem put_get {m : Nat} (d : Array (Fin (m + 1))) (C : Array Value) (hs : C.size = d.size) (j : Nat) (hj : j < d.size) : (putCells (encF m) 0 d C)[j]? = some (encF m d[j]) := by
  simp [putCells, hj, show j < C.size by omega]
theorem srt_get (l : List Tri) (m : Nat) (h : l.length = m + 1) (j : Nat) (hj : j < (ordT l).length) (hd : j < ((List.finRange (m + 1)).mergeSort fun x y => !(ltOf (cfF l m)) y x).toArray.size) :
    encF m (((List.finRange (m + 1)).mergeSort fun x y => !(ltOf (cfF l m)) y x).toArray[j]) = .int .i64 ((ordT l)[j] : Int) := by
  unfold encF
  have : ((ordT l)[j]) = (((List.finRange (m + 1)).mergeSort fun x y => !(ltOf (cfF l m)) y x).toArray[j]).val := by
    simp [← ord_map l m h]
  rw [this]
/-- The tries' numbers in a row. -/
structure OrdR (w w' : World) (g : Nat) (o : List Nat) : Prop where
  bl : Below w.heap.size w w'
  ge : w.heap.size ≤ g
  lt : g < w'.heap.size
  at' : ∀ j (h : j < o.length), w'.cell? ⟨g, j, none⟩ = some (.int .i64 (o[j] : Int))
set_option maxHeartbeats 2000000 in
set_option maxRecDepth 100000 in
theorem byPlace_any (l : List Tri) (za : Option Addr) (zc : Nat) (w : World) (hr : RdE Tri.cs 4 w za zc l) :
    Calls Tryd.prog 47 #[.slice za l.length zc] w fun e w' => ∃ g, e = .returned (.slice (some ⟨g, 0, none⟩) l.length l.length) ∧ OrdR w w' g (ordT l) := by
  have hle := hr.le
  have hcl : zc * (4 * 8) ≤ 140737488351232 := hr.cle
  obtain ⟨n, hn⟩ : ∃ n, l.length = n := ⟨_, rfl⟩
  rw [hn] at hle ⊢
  have HRd := Hid.mk' hr
  have HN := Hid.mk' hn
  have hmf : ∀ (fn : Fn) (first cap : Array Value) (w : World), (Instr.makeFunc fn first cap).run Tryd.prog w = .ok (.func fn first cap) w := fun _ _ _ _ => rfl
  have mk : ∀ W : World, (Instr.makeSlice 36 (.int .i64 (n : Int)) (.int .i64 (n : Int))).run Tryd.prog W = .ok (.slice (some ⟨W.heap.size, 0, none⟩) n n) (W.alloc (.cells (madeCells #[.int .i64 0] n) 3)) := fun W => run_make_row' 36 3 (.int .i64 0) 8 Tryd.underlying36 infoInt rfl .i64 .i64 n (by omega) (by omega) W
  obtain ⟨W1, hW1⟩ : ∃ W1, w.alloc (.cells #[.slice za n zc] 25) = W1 := ⟨_, rfl⟩
  have b1 : Below w.heap.size w W1 := by rw [← hW1]; exact lay_below
  have q1 : W1.heap[w.heap.size]? = some (.cells #[.slice za n zc] 25 (0, 0)) := by rw [← hW1]; exact box_new
  have s1 : W1.heap.size = w.heap.size + 1 := by rw [← hW1]; simp
  obtain ⟨bl, hbl⟩ : ∃ bl, w.heap.size = bl := ⟨_, rfl⟩
  obtain ⟨br, hbr⟩ : ∃ br, W1.heap.size = br := ⟨_, rfl⟩
  rw [hbl] at q1 s1
  have A0 : W1.cell? ⟨bl, 0, none⟩ = some (.slice za n zc) := (cell_row _ _ 0 _ _ q1).trans rfl
  have hbb : bl < br := by omega
  have HF0 : Hid (Fl' W1 (W1.alloc (.cells (madeCells #[.int .i64 0] n) 3)) br n 0 (madeCells #[.int .i64 0] n)) := Hid.mk' ⟨by rw [← hbr]; exact lay_below, by rw [← hbr]; exact box_new, by simp [madeCells], fun j h => by omega⟩
  have HB1 := Hid.mk' b1
  have HA0 := Hid.mk' A0
  have HBB := Hid.mk' (And.intro hbb hbr)
  have HBL := Hid.mk' hbl
  clear hr hn b1 q1 s1 hbb
  go_enter Tryd.func47, Tryd.ntmps47
  go_wp2_with fail
  go_loopw [10] (fun iv wr => ∃ (i : Nat) (C : Array Value), iv = .int .i64 (i : Int) ∧ i ≤ n ∧ Hid (Fl' W1 wr br n i C)) (fun iv wr => n - (intOf iv).toNat)
  case atStart => exact ⟨0, _, rfl, Nat.zero_le _, HF0⟩
  case round =>
    clear mk
    obtain ⟨i, C, rfl, hi, HG⟩ := hrel
    by_cases hlt : i < n
    · have i1 : (i : Int) < (n : Int) := by omega
      have i2 : (i : Int) < 140737488351232 := by omega
      obtain ⟨v0, hv0⟩ : ∃ v, C[i]? = some v := ⟨_, Array.getElem?_eq_getElem (by rw [HG.out.sz]; exact hlt)⟩
      have ci : wr.cell? ⟨br, i, none⟩ = some v0 := (cell_row _ _ i _ _ HG.out.row).trans hv0
      have zi := thaw_row _ _ _ _ HG.out.row i
      have HG2 : Hid (Fl' W1 (wr.setCell ⟨br, i, none⟩ (.int .i64 (i : Int))) br n (i + 1) (C.setIfInBounds i (.int .i64 (i : Int)))) := Hid.mk' ⟨HG.out.bl.setCell (by simp) _, set_blk _ HG.out.row, by simp [HG.out.sz], fun j hj => by
        rw [Array.getElem?_setIfInBounds]
        split
        · rename_i e; subst e; rw [if_pos (by rw [HG.out.sz]; exact hlt)]
        · exact HG.out.lo j (by omega)⟩
      clear hv0 hcl hle
      go_wp2
      exact ⟨⟨i + 1, _, by go_num, hlt, HG2⟩, meas_up' n i hlt⟩
    · have i1 : ¬ (i : Int) < (n : Int) := by omega
      have hin : i = n := by omega
      have Bw : Below w.heap.size w wr := HB1.out.trans (HG.out.bl.mono (by have := HBB.out.1; have := HBL.out; omega))
      have hbr' : br < wr.heap.size := (Array.getElem?_eq_some_iff.1 HG.out.row).1
      have hwb : w.heap.size ≤ br := by have := HBB.out.1; have := HBL.out; omega
      rcases Nat.eq_zero_or_pos n with h0 | h0
      · have HS : Hid (∀ fv W, Calls Tryd.prog 51 #[.slice (some ⟨br, 0, none⟩) 0 0, fv] W fun e w' => e = .returned (.tuple #[]) ∧ w' = W) := Hid.mk' (fun fv W => AnyF.slices_SortFunc_none (P := Tryd.prog) (ρ := Tryd.sortL_ren) { Tryd.sortL with } _ 0 fv W)
        have HO : Hid (OrdR w wr br (ordT l)) := Hid.mk' ⟨Bw, hwb, hbr', fun j h => by rw [ordT_length, HN.out] at h; omega⟩
        subst h0
        clear Bw hbr' hwb hin i1 hlt hi hle hcl
        go_wp2_with (go_at_call 51; refine (HS.out _ _).mono ?_; rintro e w5 ⟨rfl, hw5⟩; rw [hw5]; clear hw5 w5)
        go_ret
        exact ⟨br, rfl, HO.out⟩
      · obtain ⟨m, rfl⟩ : ∃ m, n = m + 1 := ⟨n - 1, by omega⟩
        have hd : (List.finRange (m + 1)).toArray.size = m + 1 := by simp
        have hcmp : CmpLays1 Tryd.prog 52 #[.pointer (some ⟨bl, 0, none⟩)] (encF m) (cfF l m) br 0 (List.finRange (m + 1)).toArray.size wr := fun mm os dk hs x y => by
          have B1 : Below w.heap.size w (sortWorld (encF m) wr br 0 mm dk os) := Bw.grown (grownBy_srt dk) Bw.size (fun k hk => by cases hk; exact hwb)
          have B2 : Below br W1 (sortWorld (encF m) wr br 0 mm dk os) := HG.out.bl.grown (grownBy_srt dk) (by omega) (fun k hk => by cases hk; exact Nat.le_refl _)
          exact closure_any l za zc bl _ (HRd.out.below B1) ((B2.cell (p := ⟨bl, 0, none⟩) HBB.out.1).trans (by rw [HN.out]; exact HA0.out)) x.val y.val (by rw [HN.out]; exact x.isLt) (by rw [HN.out]; exact y.isLt)
        have hH : Holds (encF m) wr br 0 (List.finRange (m + 1)).toArray := fun j hj => by
          have hj' : j < m + 1 := by rwa [hd] at hj
          refine ⟨?_, by rw [Nat.zero_add]; exact thaw_row _ _ _ _ HG.out.row j⟩
          rw [Nat.zero_add, cell_row _ _ j _ _ HG.out.row, HG.out.lo j (by omega), getElem!_pos _ j hj]
          simp [encF]
        have hS := Any.slices_SortFunc_total Tryd.sortL (encF m) (fun _ => rfl) (cfF l m) (swoT l m) 52 #[.pointer (some ⟨bl, 0, none⟩)] br 0 (m + 1) (List.finRange (m + 1)).toArray wr (enters_of Tryd.func52 (by kernel_rfl) rfl) hcmp hH hbr' (by rw [hd]; omega) (totT l m)
        rw [hd] at hS
        have HS : Hid (Calls Tryd.prog 51 #[.slice (some ⟨br, 0, none⟩) (m + 1) (m + 1), .func (.func 52) #[] #[.pointer (some ⟨bl, 0, none⟩)]] wr fun e w' => e = .returned (.tuple #[]) ∧ OrdR w w' br (ordT l)) := Hid.mk' (by
          refine Calls.mono hS ?_
          rintro e w5 ⟨rfl, k, os, rfl⟩
          have hdl : (((List.finRange (m + 1)).toArray.toList.mergeSort fun x y => !(ltOf (cfF l m)) y x).toArray).size = m + 1 := by simp
          refine ⟨rfl, Bw.grown (grownBy_srt _) Bw.size (fun k hk => by cases hk; exact hwb), hwb, Nat.lt_of_lt_of_le hbr' (grownBy_srt _).size, fun j hj => ?_⟩
          have hj' : j < m + 1 := by rw [ordT_length, HN.out] at hj; exact hj
          rw [cell_row _ _ j _ _ (heap_srt _ HG.out.row), put_get _ _ (by rw [HG.out.sz, hdl]) j (by rw [hdl]; exact hj')]
          exact congrArg some (srt_get l m HN.out j hj (by simp; exact hj')))
        have i1' : ¬ (i : Int) < (m : Int) + 1 := by omega
        clear Bw hbr' hwb hin i1 hlt hi hle hcl hcmp hH hS hd h0
        go_wp2_with (go_at_call 51; refine HS.out.mono ?_; rintro e w5 ⟨rfl, hO⟩; have HO := Hid.mk' hO; clear hO)
        go_ret
        exact ⟨br, rfl, HO.out⟩
end Go.Proofs.YtcagfjogfbddeaaDoor
