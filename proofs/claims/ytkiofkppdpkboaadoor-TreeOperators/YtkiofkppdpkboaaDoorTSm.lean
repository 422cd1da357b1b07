/- package tree's small functions: has, isAhead, place, kid, numFits, strFits. -/
import Derived.Test.YtkiofkppdpkboaaDoorTRows
import Derived.Test.YtkiofkppdpkboaaDoorMf
namespace Go.Proofs.YtkiofkppdpkboaaDoor
set_option linter.unusedVariables false
open Go.RowKit

theorem below_setCells (b B : Nat) (hB : B ≤ b) : ∀ (vs : List Value) (o : Nat) (w : World), Below B w (w.setCells b o vs)
  | [], o, w => Below.refl _ _
  | v :: r, o, w => by
    rw [World.setCells]
    exact ((Below.refl B w).setCell (p := ⟨b, o, none⟩) hB v).trans (below_setCells b B hB r (o + 1) _)
theorem setCells_size (b : Nat) : ∀ (vs : List Value) (o : Nat) (w : World), (w.setCells b o vs).heap.size = w.heap.size
  | [], o, w => rfl
  | v :: r, o, w => by rw [World.setCells, setCells_size b r]; simp
theorem RowsIs.below {w W : World} (h : RowsIs w W) : Below w.heap.size w W := by
  subst h
  exact (((Below.refl _ w).alloc (Nat.le_refl _) _).trans (allocs_below _ _ _ (by simp))).trans (below_setCells _ _ (Nat.le_refl _) _ _ _)
theorem RowsIs.size {w W : World} (h : RowsIs w W) : W.heap.size = w.heap.size + 22 := by
  subst h
  rw [setCells_size, allocs_size]
  simp [mustObjs]
theorem must_gen (w : World) (Z : Obj) (os : List Obj) (C : List Value) (i j : Nat) (c : Array Value) (t : TypeId) (v : Value) (hi : os[i]? = some (.cells c t)) (hj : c[j]? = some v) :
    ((allocs (w.alloc Z) os).setCells w.heap.size 0 C).cell? ⟨w.heap.size + 1 + i, j, none⟩ = some v := by
  have hne : w.heap.size + 1 + i ≠ w.heap.size := by omega
  rw [World.cell?_setCells_out w.heap.size C 0 _ ⟨w.heap.size + 1 + i, j, none⟩ (fun e => absurd e hne)]
  have := allocs_cell os (w.alloc Z) i j c t v hi hj
  have e : (w.alloc Z).heap.size = w.heap.size + 1 := by simp
  rwa [e] at this
/-- The kinds that a row must have, in memory. -/
theorem RowsIs.must {w W : World} (h : RowsIs w W) (i j : Nat) (c : Array Value) (t : TypeId) (v : Value) (hi : mustObjs[i]? = some (.cells c t)) (hj : c[j]? = some v) : W.cell? ⟨w.heap.size + 1 + i, j, none⟩ = some v :=
  h ▸ must_gen w _ mustObjs _ i j c t v hi hj

/-- Whether a kind is in a set of kinds. -/
def hasN (s k : Nat) : Bool := s / 2 ^ k % 2 == 1
set_option maxHeartbeats 1000000 in
set_option maxRecDepth 100000 in
theorem has_any (s k : Nat) (w : World) (hk : k < 64) (hs : s < 18446744073709551616) :
    Calls Tryd.prog 64 #[.int .u64 s, .int .i64 k] w fun e w' => e = .returned (.bool (hasN s k)) ∧ w' = w := by
  have hl : s / 2 ^ k < 18446744073709551616 := Nat.lt_of_le_of_lt (Nat.div_le_self _ _) hs
  have HE : Hid ((bits BinOp.and IntKind.u64 ((s : Int) / 2 ^ k) 1 == 1) = hasN s k) := Hid.mk' (by
    have e : ((s : Int) / 2 ^ k) = ((s / 2 ^ k : Nat) : Int) := by push_cast; rfl
    rw [e, show (1 : Int) = ((1 : Nat) : Int) from rfl, bits_and_u64_nat _ _ hl (by omega), Nat.and_one_is_mod]
    unfold hasN
    cases h : (s / 2 ^ k % 2 == 1)
    · simp only [beq_eq_false_iff_ne, ne_eq] at h ⊢; omega
    · simp only [beq_iff_eq] at h ⊢; omega)
  have h1 : (k : Int) < 64 := by omega
  have h0 : (0 : Int) ≤ (k : Int) := by omega
  clear hl
  go_enter Tryd.func64, Tryd.ntmps64
  go_wp2
  go_ret
  exact ⟨by first | (rw [← HE.out]; rfl) | (rw [← HE.out]; simp), rfl⟩

set_option maxHeartbeats 1000000 in
set_option maxRecDepth 100000 in
theorem ahead_any (k i : Int) (w : World) :
    Calls Tryd.prog 20 #[.int .i64 k, .int .i64 i] w fun e w' => e = .returned (.bool (decide (0 ≤ k ∧ k < i))) ∧ w' = w := by
  obtain ⟨r, hr⟩ : ∃ r, decide (0 ≤ k ∧ k < i) = r := ⟨_, rfl⟩
  rw [hr]
  by_cases h0 : 0 ≤ k
  · have HE : Hid (r = decide (k < i)) := Hid.mk' (by rw [← hr]; simp [h0])
    clear hr
    go_enter Tryd.func20, Tryd.ntmps20
    go_wp2
    go_ret
    exact ⟨by rw [HE.out]; rfl, rfl⟩
  · have HE : Hid (r = false) := Hid.mk' (by rw [← hr]; simp [h0])
    clear hr
    go_enter Tryd.func20, Tryd.ntmps20
    go_wp2
    go_ret
    exact ⟨by rw [HE.out]; rfl, rfl⟩

/-- A node. -/
structure Nd where
  kind : Int
  text : ByteArray
  str : ByteArray
  num : Nat
  kp : Option Addr
  kids : List Int
  kc : Nat
  pl : Int
abbrev Nd.cells (n : Nd) : List Value := [.int .i64 n.kind, .string n.text, .string n.str, .float .f64 n.num, .slice n.kp n.kids.length n.kc, .int .i64 n.pl]
abbrev Nd.val (n : Nd) : Value := .agg #[.int .i64 n.kind, .string n.text, .string n.str, .float .f64 n.num, .slice n.kp n.kids.length n.kc, .int .i64 n.pl]
/-- Its kids in memory. -/
def KidsAt (w : World) (n : Nd) : Prop := ∀ j (h : j < n.kids.length), ∃ g o, n.kp = some ⟨g, o, none⟩ ∧ g < w.heap.size ∧ w.cell? ⟨g, o + j, none⟩ = some (.int .i64 n.kids[j])
theorem KidsAt.below {w w' : World} {n : Nd} (h : KidsAt w n) (hb : Below w.heap.size w w') : KidsAt w' n := fun j hj => by
  obtain ⟨g, o, e, hg, hc⟩ := h j hj
  exact ⟨g, o, e, Nat.lt_of_lt_of_le hg hb.size, (hb.cell (p := ⟨g, o + j, none⟩) hg).trans hc⟩
/-- A value is a slice whose nodes are L. -/
def RdN (w : World) (v : Value) (L : List Nd) : Prop :=
  (∃ a c, v = .slice a 0 c ∧ L = []) ∨ ∃ g o c, v = .slice (some ⟨g, o, none⟩) L.length c ∧ L.length ≤ c ∧ g < w.heap.size ∧ ∀ j (h : j < L.length), w.rangeAt g (o + j * 6) L[j].cells ∧ KidsAt w L[j]
theorem RdN.below {w w' : World} {v : Value} {L : List Nd} (h : RdN w v L) (hb : Below w.heap.size w w') : RdN w' v L := by
  rcases h with h | ⟨g, o, c, rfl, hl, hg, hc⟩
  · exact .inl h
  · exact .inr ⟨g, o, c, rfl, hl, Nat.lt_of_lt_of_le hg hb.size, fun j hj => ⟨fun i v hv => (hb.cell (p := ⟨g, o + j * 6 + i, none⟩) hg).trans ((hc j hj).1 i v hv), (hc j hj).2.below hb⟩⟩
theorem RdN.form {w : World} {v : Value} {L : List Nd} (h : RdN w v L) : ∃ x c, v = .slice x L.length c := by
  rcases h with ⟨a, c, rfl, rfl⟩ | ⟨g, o, c, rfl, _⟩
  · exact ⟨_, _, rfl⟩
  · exact ⟨_, _, rfl⟩

/-- What a row has for its kid i. -/
def placeN (ms : List Nat) (pe mo i : Nat) : Nat := if h : i < ms.length then ms[i] else if i = ms.length ∧ pe ≠ 0 then pe else mo
set_option maxHeartbeats 1000000 in
set_option maxRecDepth 100000 in
theorem place_any (t : Int) (x : Option Addr) (c : Nat) (ms : List Nat) (pe mo i : Nat) (w : World) (hm : ∀ j (h : j < ms.length), ∃ g o, x = some ⟨g, o, none⟩ ∧ g < w.heap.size ∧ w.cell? ⟨g, o + j, none⟩ = some (.int .u64 (ms[j] : Nat))) :
    Calls Tryd.prog 63 #[.agg #[.int .i64 t, .slice x ms.length c, .int .u64 pe, .int .u64 mo], .int .i64 i] w fun e w' => e = .returned (.int .u64 (placeN ms pe mo i)) ∧ Below w.heap.size w w' := by
  have HB : Hid (Below w.heap.size w (w.alloc (.cells #[.int .i64 t, .slice x ms.length c, .int .u64 pe, .int .u64 mo] 58))) := Hid.mk' ((Below.refl _ _).alloc (Nat.le_refl _) _)
  by_cases h1 : i < ms.length
  · have HE : Hid (placeN ms pe mo i = ms[i]) := Hid.mk' (by unfold placeN; rw [dif_pos h1])
    obtain ⟨g, o, rfl, hg, hc⟩ := hm i h1
    obtain ⟨v, hv⟩ : ∃ v, ms[i] = v := ⟨_, rfl⟩
    rw [hv] at hc HE
    obtain ⟨n, hn⟩ : ∃ n, ms.length = n := ⟨_, rfl⟩
    rw [hn] at HB ⊢
    have z1 : (i : Int) < (n : Int) := by omega
    clear hm hv h1 hn
    go_enter Tryd.func63, Tryd.ntmps63
    go_wp2
    go_ret
    exact ⟨by rw [HE.out]; rfl, HB.out⟩
  · obtain ⟨n, hn⟩ : ∃ n, ms.length = n := ⟨_, rfl⟩
    have z1 : ¬ (i : Int) < (n : Int) := by omega
    by_cases h2 : i = n ∧ pe ≠ 0
    · have HE : Hid (placeN ms pe mo i = pe) := Hid.mk' (by unfold placeN; rw [dif_neg h1, hn, if_pos h2])
      rw [hn] at HB ⊢
      have z2 : ((i : Int) == (n : Int)) = true := by simp; omega
      have z3 : ((pe : Int) == 0) = false := by simp; omega
      obtain ⟨p, hp⟩ : ∃ p : Int, (pe : Int) = p := ⟨_, rfl⟩
      have z4 : (p == 0) = false := by rw [← hp]; exact z3
      rw [hp] at HB ⊢
      have HP := Hid.mk' hp
      clear hm h1 hn h2 z3 hp
      go_enter Tryd.func63, Tryd.ntmps63
      go_wp2
      go_ret
      exact ⟨by rw [HE.out, HP.out]; rfl, HB.out⟩
    · have HE : Hid (placeN ms pe mo i = mo) := Hid.mk' (by unfold placeN; rw [dif_neg h1, hn, if_neg h2])
      rw [hn] at HB ⊢
      obtain ⟨p, hp⟩ : ∃ p : Int, (pe : Int) = p := ⟨_, rfl⟩
      rw [hp] at HB ⊢
      have hc : ((i : Int) == (n : Int)) = false ∨ (((i : Int) == (n : Int)) = true ∧ (p == 0) = true) := by
        by_cases e : i = n
        · right; refine ⟨by simp; omega, ?_⟩; simp; by_cases e2 : pe = 0; omega; exact absurd ⟨e, e2⟩ h2
        · left; simp; omega
      clear hm h1 hn h2 hp
      rcases hc with z2 | ⟨z2, z4⟩
      · go_enter Tryd.func63, Tryd.ntmps63
        go_wp2
        go_ret
        exact ⟨by rw [HE.out]; rfl, HB.out⟩
      · go_enter Tryd.func63, Tryd.ntmps63
        go_wp2
        go_ret
        exact ⟨by rw [HE.out]; rfl, HB.out⟩

set_option maxHeartbeats 2000000 in
set_option maxRecDepth 100000 in
/-- The kid i of a node. -/
theorem kid_any (q nb no N cap : Nat) (n m : Nd) (kb ko i k : Nat) (w : World) (hq : q < w.heap.size) (hkb : kb < w.heap.size) (hnb : nb < w.heap.size)
    (h0 : w.cell? ⟨q, 0, none⟩ = some (.slice (some ⟨nb, no, none⟩) N cap)) (hkp : n.kp = some ⟨kb, ko, none⟩) (hi : i < n.kids.length) (hc : w.cell? ⟨kb, ko + i, none⟩ = some (.int .i64 k)) (hk : k < N) (hm : w.rangeAt nb (no + k * 6) m.cells) :
    Calls Tryd.prog 65 #[.pointer (some ⟨q, 0, none⟩), n.val, .int .i64 i] w fun e w' => e = .returned m.val ∧ Below w.heap.size w w' := by
  obtain ⟨nk, nt, ns, nn, kp, nks, kc, pl⟩ := n
  obtain ⟨mk, mt, ms, mn, mkp, mks, mkc, mpl⟩ := m
  dsimp only [Nd.val, Nd.cells] at hkp hi hm ⊢
  subst hkp
  obtain ⟨kl, hkl⟩ : ∃ kl, nks.length = kl := ⟨_, rfl⟩
  obtain ⟨mkl, hmkl⟩ : ∃ kl, mks.length = kl := ⟨_, rfl⟩
  rw [hkl] at hi ⊢
  rw [hmkl] at hm ⊢
  clear hkl hmkl
  have m0 := hm 0 _ rfl; have m1 := hm 1 _ rfl; have m2 := hm 2 _ rfl; have m3 := hm 3 _ rfl; have m4 := hm 4 _ rfl; have m5 := hm 5 _ rfl
  simp only [Nat.add_zero] at m0
  have z1 : (i : Int) < (kl : Int) := by omega
  have z2 : (k : Int) < (N : Int) := by omega
  have HR : Hid (∀ (A : Obj) (c : Array Value) (t : TypeId) (j : Nat) (v : Value), c[j]? = some v → ((w.alloc A).alloc (.cells c t)).drew.cell? ⟨w.heap.size + 1, j, none⟩ = some v ∧ ((w.alloc A).alloc (.cells c t)).drew.frozen? ⟨w.heap.size + 1, j, none⟩ = false) := Hid.mk' (fun A c t j v hv => by
    have e : (w.alloc A).heap.size = w.heap.size + 1 := by simp
    have e1 := World.cell?_alloc_new (w.alloc A) c t j
    have e2 := World.frozen?_alloc_new (w.alloc A) c t j
    rw [e] at e1 e2
    exact ⟨e1.trans hv, e2⟩)
  have HB : Hid (∀ (A Z : Obj), Below w.heap.size w ((w.alloc A).alloc Z)) := Hid.mk' (fun A Z => ((Below.refl _ _).alloc (Nat.le_refl _) _).alloc (by simp) _)
  clear hm hi hk
  go_enter Tryd.func65, Tryd.ntmps65
  go_wp2
  have r0 := HR.out (.cells #[.int .i64 nk, .string nt, .string ns, .float .f64 nn, .slice (some ⟨kb, ko, none⟩) kl kc, .int .i64 pl] 39) #[.int .i64 0, .string ⟨#[]⟩, .string ⟨#[]⟩, .float .f64 0, .slice none 0 0, .int .i64 0] 39
  obtain ⟨p0, f0⟩ := r0 0 _ rfl; obtain ⟨p1, f1⟩ := r0 1 _ rfl; obtain ⟨p2, f2⟩ := r0 2 _ rfl; obtain ⟨p3, f3⟩ := r0 3 _ rfl; obtain ⟨p4, f4⟩ := r0 4 _ rfl; obtain ⟨p5, f5⟩ := r0 5 _ rfl
  clear r0
  have hst : ∀ (p : Addr) (x : Nat) (md : Mode) (W : World), (store p (.float .f64 x) md).run Tryd.prog W = stored Tryd.prog W p (.float .f64 x) md := fun p x md W => run_store Tryd.prog W p _ md rfl
  go_region
  all_goals go_wp2
  all_goals
    (try simp only [Exit.inBlock, Exit.then])
    refine bodyPost_ret (v := .agg #[.int .i64 mk, .string mt, .string ms, .float .f64 mn, .slice mkp mkl mkc, .int .i64 mpl]) ?_ rfl ⟨rfl, (HB.out _ _).drew⟩
    rw [results_cell rfl]
    go_simp
end Go.Proofs.YtkiofkppdpkboaaDoor
