/- tree.below: the iterator over a node's tree. -/
import Derived.Test.YtkiofkppdpkboaaDoorTWk0
import Derived.Laws.EntriesVeiled
namespace Go.Proofs.YtkiofkppdpkboaaDoor
set_option linter.unusedVariables false
open Go.RowKit Go.Shelf
attribute [local go_sem] Oper.semAt_some

set_option maxRecDepth 100000 in
set_option maxHeartbeats 2000000 in
theorem below1_in (n l Bk kb nb root Nm : Nat) (K : List (List Int)) (hK : ∀ j (h : j < K.length), (K[j].length : Int) ≤ 140737488351232 ∧ ∀ k ∈ K[j], 0 ≤ k ∧ k < (j : Int)) (J Jx : List (Int × Int) → World → Prop) (W : World)
    (hJ : OwnFrom W.heap.size J) (hBk : Bk < W.heap.size) (hkb : kb ≠ Bk) (hlen : (poF K (root + 1) root 0).length ≤ Nm) (hroot : root < K.length) (hr2 : (root : Int) ≤ 1000000000)
    (hY : ∀ pre x W1, J pre W1 → pre.length < Nm → YieldAt Fence.wide (n - 1) Tryd.prog l (encT x) W1 fun e W' =>
      (e = .returned (.bool true) ∧ J (pre ++ [x]) W' ∧ KN Bk W1 W') ∨ (e = .returned (.bool false) ∧ Jx (pre ++ [x]) W' ∧ KF W.heap.size W1 W'))
    (v : Value) (ck : W.cell? ⟨kb, 0, none⟩ = some v) (hrk : RdK2 Bk W v K) (cn : W.cell? ⟨nb, 0, none⟩ = some (.int .i64 root)) (h0 : J [] W) :
    CallsIn Fence.wide n Tryd.prog 36 #[.func (.yield l) #[] #[], .pointer (some ⟨kb, 0, none⟩), .pointer (some ⟨nb, 0, none⟩)] W fun e W' => (∃ v, e = .returned v) ∧
      ((∃ ys, ys = poF K (root + 1) root 0 ∧ J ys W') ∨ (∃ pre, pre <+: poF K (root + 1) root 0 ∧ Jx pre W')) := by
  have HW := Hid.mk' (fun y wk W1 m => walk_in l Bk W.heap.size y kb wk Nm K hK J Jx (fun m pre x W1 hj hl => yield_any m (hY pre x W1 hj hl)) (root + 1) root 0 [] W1 m (Nat.lt_succ_self _) hroot)
  have hk1 : kb < W.heap.size := World.block_lt_of_cell? W _ ck
  have hn1 : nb < W.heap.size := World.block_lt_of_cell? W _ cn
  have HB : Hid (∀ W1, Below W.heap.size W W1 → J [] W1 ∧ RdK2 Bk W1 v K ∧ W1.cell? ⟨kb, 0, none⟩ = some v) := Hid.mk' (fun W1 hb => ⟨OwnFrom.below hJ h0 hb, hrk.keep (KN.of_below hb), (hb.cell (p := ⟨kb, 0, none⟩) hk1).trans ck⟩)
  clear hY hJ hrk h0
  refine callsIn_of_wp Tryd.func36 rfl trivial ?_ rfl
  simp only [Tryd.ntmps36, List.size_toArray, List.length_cons, List.length_nil, Nat.reduceAdd, Nat.reduceSub, Array.replicate_succ, Array.replicate_zero, List.push_toArray, List.append_toArray, List.nil_append, List.cons_append]
  gi_wp2_with fail
  have hsz : ∀ o : Obj, (W.alloc o).heap.size = W.heap.size + 1 := fun o => by simp
  have HWB : Hid (∀ (o1 : Array Value) (o2 : Array Value) (t1 t2 : TypeId) (v1 v2 : Value), o1[0]? = some v1 → o2[0]? = some v2 → ((W.alloc (.cells o1 t1)).alloc (.cells o2 t2)).cell? ⟨W.heap.size, 0, none⟩ = some v1 ∧ ((W.alloc (.cells o1 t1)).alloc (.cells o2 t2)).cell? ⟨W.heap.size + 1, 0, none⟩ = some v2 ∧ Below W.heap.size W ((W.alloc (.cells o1 t1)).alloc (.cells o2 t2))) := Hid.mk' (fun o1 o2 t1 t2 v1 v2 h1 h2 => by
    refine ⟨?_, ?_, ((Below.refl _ _).alloc (Nat.le_refl _) _).alloc (by simp) _⟩
    · exact (((Below.refl (W.heap.size + 1) (W.alloc (.cells o1 t1))).alloc (by simp) _).cell (p := ⟨W.heap.size, 0, none⟩) (by simp)).trans ((World.cell?_alloc_new W o1 t1 0).trans h1)
    · have e := World.cell?_alloc_new (W.alloc (.cells o1 t1)) o2 t2 0
      rw [hsz] at e
      exact e.trans h2)
  obtain ⟨cy, cw, bb⟩ := HWB.out #[.func (.yield l) #[] #[]] #[.func (.func 37) #[] #[.pointer (some ⟨W.heap.size, 0, none⟩), .pointer (some ⟨kb, 0, none⟩), .pointer (some ⟨W.heap.size + 1, 0, none⟩)]] 46 46 (.func (.yield l) #[] #[]) (.func (.func 37) #[] #[.pointer (some ⟨W.heap.size, 0, none⟩), .pointer (some ⟨kb, 0, none⟩), .pointer (some ⟨W.heap.size + 1, 0, none⟩)]) rfl rfl
  obtain ⟨hj, hrk, ckc⟩ := HB.out _ bb
  refine ⟨trivial, fun h => (by cases h), (HW.out W.heap.size (W.heap.size + 1) _ (n - 1) ⟨cy, ⟨v, ckc, hrk⟩, cw, by omega, hkb, by omega⟩ hj (by simpa using hlen) (by decide) (by omega)).mono ?_⟩
  rintro e W4 (⟨rfl, hJ4, hk4⟩ | ⟨rfl, q, hq, hx⟩)
  · gi_wp2
    go_end0
    exact ⟨⟨_, rfl⟩, .inl ⟨_, rfl, by simpa using hJ4⟩⟩
  · gi_wp2
    go_end0
    exact ⟨⟨_, rfl⟩, .inr ⟨q, hq, by simpa using hx⟩⟩
theorem below_stops (n Bk kb nb root : Nat) (K : List (List Int)) (hK : ∀ j (h : j < K.length), (K[j].length : Int) ≤ 140737488351232 ∧ ∀ k ∈ K[j], 0 ≤ k ∧ k < (j : Int)) (w : World)
    (hBk : Bk < w.heap.size) (hkb : kb ≠ Bk) (hroot : root < K.length) (hr2 : (root : Int) ≤ 1000000000) (v : Value) (ck : w.cell? ⟨kb, 0, none⟩ = some v) (hrk : RdK2 Bk w v K) (cn : w.cell? ⟨nb, 0, none⟩ = some (.int .i64 root)) :
    SeqO n Tryd.prog 36 #[.pointer (some ⟨kb, 0, none⟩), .pointer (some ⟨nb, 0, none⟩)] encT Bk (fun ys => ys = poF K (root + 1) root 0) (fun pre => pre <+: poF K (root + 1) root 0) (poF K (root + 1) root 0).length w :=
  fun l J Jx W hW hJ _ hY h0 => below1_in n l Bk kb nb root _ K hK J Jx W hJ (Nat.lt_of_lt_of_le hBk hW.size) hkb (Nat.le_refl _) hroot hr2 hY v ((hW.cell (p := ⟨kb, 0, none⟩) (World.block_lt_of_cell? w _ ck)).trans ck) (hrk.keep (KN.of_below hW)) ((hW.cell (p := ⟨nb, 0, none⟩) (World.block_lt_of_cell? w _ cn)).trans cn) h0

set_option maxHeartbeats 400000 in
theorem below_any (x : Option Addr) (N c : Nat) (root : Int) (w : World) : Calls Tryd.prog 18 #[.slice x N c, .int .i64 root] w fun e w' => e = .returned (.func (.func 36) #[] #[.pointer (some ⟨w.heap.size, 0, none⟩), .pointer (some ⟨w.heap.size + 1, 0, none⟩)]) ∧ w' = (w.alloc (.cells #[.slice x N c] 48)).alloc (.cells #[.int .i64 root] 3) := by
  go_enter Tryd.func18, Tryd.ntmps18
  go_wp2
  go_ret
  exact ⟨rfl, rfl⟩
end Go.Proofs.YtkiofkppdpkboaaDoor
