/- lex.Scan of a source of which it is known what next tells. -/
import Derived.Test.YtopdogpcachonaaGreatDoorLTl
import Derived.Maps.OwnIn
import Derived.OwnWalkIn
namespace Go.Proofs.YtopdogpcachonaaGreatDoor
set_option linter.unusedVariables false
open Go.RowKit Go.Shelf
attribute [local go_sem] Oper.semAt_some

theorem told_seq (n sb N : Nat) (w0 w : World) (S : ByteArray) (bs : List UInt8) (ts : List (Tk × Int)) (hw : Below w0.heap.size w0 w) (hs : (S.size : Int) ≤ 262144) (ho : ofS S = .ok bs) (hrun : Run w0 S true 0 0 [] ts) (hN : ts.length ≤ N) (hsb : sb < w.heap.size) (cs : w.cell? ⟨sb, 0, none⟩ = some (.string S)) :
    SeqG n Tryz.prog 22 #[.pointer (some ⟨sb, 0, none⟩)] encK (fun xs => xs = ts) (fun pre => pre <+: ts) N w0.heap.size w :=
  fun l J Jx W F0 hW hJ hJx hJF hY h0 => told1_in n l sb N w0 W S bs ts (hw.trans (hW.mono hw.size)) hs ho hrun hN J Jx F0 hJ hJx hJF hY h0 ((hW.cell (p := ⟨sb, 0, none⟩) hsb).trans cs)

theorem infoT : (Tryz.prog.info? 31).map (fun i => (i.zero, i.size, i.bytes)) = some (some (.agg tok0), 7, 72) := by kernel_rfl
def flat (ts : List (Tk × Int)) : List Value := ts.flatMap (fun x => x.1.cells)
/-- What Scan holds between tokens. -/
structure Sc (B b2 b3 b4 b5 : Nat) (w : World) (v : Value) (ts : List (Tk × Int)) (W : World) : Prop where
  c2 : W.heap[b2]? = some (.cells #[.slice none 0 0] 25 (0, 0))
  c3 : W.heap[b3]? = some (.cells #[.int .i64 0] 3 (0, 0))
  c4 : W.heap[b4]? = some (.cells #[.int .i64 0] 26 (0, 0))
  c5 : W.heap[b5]? = some (.cells #[v] 25 (0, 0))
  own : W.ownsRow B 31 7 v ts.length (flat ts)
  bel : Below B w W
def ScF (b2 b3 b4 b5 : Nat) (v : Value) (k : Nat) : Prop := k = b2 ∨ k = b3 ∨ k = b4 ∨ k = b5 ∨ v.ownBlock = some k
theorem Sc.tf {B b2 b3 b4 b5 B' : Nat} {w X Y : World} {v : Value} {ts : List (Tk × Int)} (h : Sc B b2 b3 b4 b5 w v ts X) (k : TF (ScF b2 b3 b4 b5 v) B' X Y) (hB : B ≤ B') (hw : B ≤ w.heap.size) : Sc B b2 b3 b4 b5 w v ts Y := by
  refine ⟨k.same _ _ (.inl (.inl rfl)) h.c2, k.same _ _ (.inl (.inr (.inl rfl))) h.c3, k.same _ _ (.inl (.inr (.inr (.inl rfl)))) h.c4, k.same _ _ (.inl (.inr (.inr (.inr (.inl rfl))))) h.c5, ⟨h.own.1, ?_⟩, h.bel.trans ((k.mono hB).below (Nat.le_trans hw h.bel.size))⟩
  rcases h.own.2 with hn | ⟨g, cap, cur, rfl, hg0, hg, rest⟩
  · exact .inl hn
  · exact .inr ⟨g, cap, cur, rfl, hg0, k.same _ _ (.inl (.inr (.inr (.inr (.inr rfl))))) hg, rest⟩
/-- What Scan leaves where it stops at what is none. -/
structure Sx (B b2 b3 b4 : Nat) (w : World) (pre : List (Tk × Int)) (ts : List (Tk × Int)) (W : World) : Prop where
  what : ∃ x q, pre = q ++ [x] ∧ x.2 ≠ 0 ∧ W.heap[b3]? = some (.cells #[.int .i64 x.1.fr] 3 (0, 0)) ∧ W.heap[b4]? = some (.cells #[.int .i64 x.2] 26 (0, 0))
  c2 : W.heap[b2]? = some (.cells #[.slice none 0 0] 25 (0, 0))
  bel : Below B w W
theorem five (w : World) (S : ByteArray) : ∃ W0, W0 = (((((w.alloc (.cells #[.slice none 0 0] 25)).alloc (.cells #[.int .i64 0] 3)).alloc (.cells #[.int .i64 0] 26)).alloc (.cells #[.slice none 0 0] 25)).alloc (.cells #[.string S] 9)) ∧ Sc w.heap.size w.heap.size (w.heap.size + 1) (w.heap.size + 1 + 1) (w.heap.size + 1 + 1 + 1) w (.slice none 0 0) [] W0 ∧ W0.cell? ⟨w.heap.size + 1 + 1 + 1 + 1, 0, none⟩ = some (.string S) ∧ W0.heap.size = w.heap.size + 5 := by
  refine ⟨_, rfl, ⟨?_, ?_, ?_, ?_, World.ownsRow_nil _ _ _ _, ?_⟩, ?_, by simp⟩
  · refine (Below.heap_alloc _ _ _ (by simp <;> omega)).trans ((Below.heap_alloc _ _ _ (by simp <;> omega)).trans ((Below.heap_alloc _ _ _ (by simp <;> omega)).trans ((Below.heap_alloc _ _ _ (by simp <;> omega)).trans (World.alloc_heap_new w _))))
  · have e := World.alloc_heap_new (w.alloc (.cells #[.slice none 0 0] 25)) (.cells #[.int .i64 0] 3)
    rw [World.size_alloc] at e
    exact (Below.heap_alloc _ _ _ (by simp <;> omega)).trans ((Below.heap_alloc _ _ _ (by simp <;> omega)).trans ((Below.heap_alloc _ _ _ (by simp <;> omega)).trans e))
  · have e := World.alloc_heap_new ((w.alloc (.cells #[.slice none 0 0] 25)).alloc (.cells #[.int .i64 0] 3)) (.cells #[.int .i64 0] 26)
    rw [World.size_alloc, World.size_alloc] at e
    exact (Below.heap_alloc _ _ _ (by simp <;> omega)).trans ((Below.heap_alloc _ _ _ (by simp <;> omega)).trans e)
  · have e := World.alloc_heap_new (((w.alloc (.cells #[.slice none 0 0] 25)).alloc (.cells #[.int .i64 0] 3)).alloc (.cells #[.int .i64 0] 26)) (.cells #[.slice none 0 0] 25)
    rw [World.size_alloc, World.size_alloc, World.size_alloc] at e
    exact (Below.heap_alloc _ _ _ (by simp <;> omega)).trans e
  · exact ((((below_new).alloc (by simp <;> omega) _).alloc (by simp <;> omega) _).alloc (by simp <;> omega) _).alloc (by simp <;> omega) _
  · have e := World.alloc_heap_new ((((w.alloc (.cells #[.slice none 0 0] 25)).alloc (.cells #[.int .i64 0] 3)).alloc (.cells #[.int .i64 0] 26)).alloc (.cells #[.slice none 0 0] 25)) (.cells #[.string S] 9)
    rw [World.size_alloc, World.size_alloc, World.size_alloc, World.size_alloc] at e
    rw [cell_of_row _ _ 0 _ _ _ e]; rfl
theorem RF.setIn {F : Nat → Prop} {W X : World} {k o : Nat} (h : RF F F W X) (hk : F k) (v : Value) : RF F F W (X.setCell ⟨k, o, none⟩ v) :=
  ⟨by simpa [World.setCell] using h.size, fun j ob hj ho => by
    have hne : j ≠ k := fun e => hj (by rw [e]; exact hk)
    exact (Below.heap_setCell _ _ _ _ hne).trans (h.same j ob hj ho), h.new⟩
theorem RF.drew {F F' : Nat → Prop} {W X : World} (h : RF F F' W X) : RF F F' W X.drew := ⟨h.size, h.same, h.new⟩
theorem set_other {W : World} {b k o : Nat} {ob : Obj} (h : W.heap[b]? = some ob) (v : Value) (hk : b ≠ k) : (W.setCell ⟨k, o, none⟩ v).heap[b]? = some ob := (Below.heap_setCell _ _ _ _ hk).trans h
theorem cells1 {W : World} {b : Nat} {v : Value} {t : TypeId} (h : W.heap[b]? = some (.cells #[v] t (0, 0))) : W.cell? ⟨b, 0, none⟩ = some v ∧ W.frozen? ⟨b, 0, none⟩ = false := by
  refine ⟨?_, by simp only [World.frozen?, h]; simp⟩
  rw [cell_of_row _ b _ _ _ _ h]; rfl
theorem flat_snoc (pre : List (Tk × Int)) (x : Tk × Int) : flat (pre ++ [x]) = flat pre ++ x.1.cells := by simp [flat]
theorem scan_reads {Z : World} {a b c : Nat} {va : Value} {x y : Int} {xa : Option Addr} {na ca : Nat} {tmps : Array Value} (hva : va = .slice xa na ca) (h1 : Z.heap[a]? = some (.cells #[va] 25 (0, 0))) (h2 : Z.heap[b]? = some (.cells #[.int .i64 x] 3 (0, 0))) (h3 : Z.heap[c]? = some (.cells #[.int .i64 y] 26 (0, 0)))
    (p1 : tmps.getD 2 undef = .pointer (some ⟨a, 0, none⟩)) (p2 : tmps.getD 3 undef = .pointer (some ⟨b, 0, none⟩)) (p3 : tmps.getD 4 undef = .pointer (some ⟨c, 0, none⟩)) :
    (results Tryz.f8 tmps).run Tryz.prog Z = .ok (.tuple #[va, .int .i64 x, .int .i64 y]) Z := by
  subst hva
  have x1 := (cells1 h1).1
  have x2 := (cells1 h2).1
  have x3 := (cells1 h3).1
  have e1 := p1
  have e2 := p2
  have e3 := p3
  simp only [Array.getD_eq_getD_getElem?] at e1 e2 e3
  simp [results, Tryz.results8, go_sem, x1, x2, x3, e1, e2, e3]
theorem own_keep {W W' : World} {B : Nat} {e : TypeId} {sz : Nat} {v : Value} {n : Nat} {xs : List Value} (h : W.ownsRow B e sz v n xs) (hk : ∀ k, v.ownBlock = some k → ∀ o : Obj, W.heap[k]? = some o → W'.heap[k]? = some o) : W'.ownsRow B e sz v n xs := by
  refine ⟨h.1, ?_⟩
  rcases h.2 with hn | ⟨g, cap, cur, rfl, hB, hg, rest⟩
  · exact .inl hn
  · exact .inr ⟨g, cap, cur, rfl, hB, hk g rfl _ hg, rest⟩
theorem below_put {B E : Nat} {w X : World} (h : Below B w X) (hE : B ≤ E) (o : Obj) : Below B w (X.putObj E o) :=
  h.trans ⟨rfl, rfl, rfl, by simp [World.putObj], fun k hk => World.putObj_heap_other (by omega)⟩
set_option maxHeartbeats 4000000 in
set_option maxRecDepth 100000 in
theorem scan_any (S : ByteArray) (bs : List UInt8) (ts : List (Tk × Int)) (w : World) (hs : (S.size : Int) ≤ 262144) (ho : ofS S = .ok bs) (hrun : Run w S true 0 0 [] ts) (hN : ts.length ≤ 100) :
    Calls Tryz.prog 8 #[.string S] w fun e w' => ((∃ v, e = .returned (.tuple #[v, .int .i64 0, .int .i64 0]) ∧ (∀ x ∈ ts, x.2 = 0) ∧ w'.ownsRow w.heap.size 31 7 v ts.length (flat ts)) ∨ (∃ x q, q ++ [x] <+: ts ∧ x.2 ≠ 0 ∧ e = .returned (.tuple #[.slice none 0 0, .int .i64 x.1.fr, .int .i64 x.2]))) ∧ Below w.heap.size w w' := by
  obtain ⟨i0, hi, hz0, hz1, hz2⟩ := info_parts infoT
  have hst : ∀ (p : Addr) (x : Nat) (md : Mode) (W : World), (store p (.float .f64 x) md).run Tryz.prog W = stored Tryz.prog W p (.float .f64 x) md := fun p x md W => run_store Tryz.prog W p _ md rfl
  obtain ⟨W0, hW0, hSc, hcs, hsz⟩ := five w S
  obtain ⟨nb, hnb⟩ : ∃ nb, w.heap.size = nb := ⟨_, rfl⟩
  rw [hnb] at hSc hcs hsz ⊢
  refine (callsIn_wide (n := 8)).1 ?_
  refine callsIn_of_wp_marks Tryz.func8 rfl trivial ?_ rfl
  simp only [Tryz.ntmps8, List.size_toArray, List.length_cons, List.length_nil, Nat.reduceAdd, Nat.reduceSub, Array.replicate_succ, Array.replicate_zero, List.push_toArray, List.append_toArray, List.nil_append, List.cons_append]
  gi_wp2_with (refine ⟨trivial, ?_⟩; gi_at_call 15; refine (callsIn_wide.2 (told_any _ _)).mono ?_; rintro e w1 ⟨rfl, hw1⟩; rw [hw1]; clear hw1 w1)
  simp only [← hW0]
  have hnw : nb ≤ w.heap.size := by omega
  refine range_g (by omega) (gf := 22) (lb := #[.pointer (some ⟨nb + 1 + 1 + 1 + 1, 0, none⟩)]) (by first | rfl | (simp only [hnb]; rfl)) (enters_of Tryz.func22 (by kernel_rfl) rfl)
    (told_seq 7 (nb + 1 + 1 + 1 + 1) 100 w W0 S bs ts (by rw [hnb]; exact hSc.bel) hs ho hrun hN (by omega) hcs) (Below.refl _ _) (fun _ => rfl)
    (fun pre F V => ∃ v, F = ScF nb (nb + 1) (nb + 1 + 1) (nb + 1 + 1 + 1) v ∧ (∀ x ∈ pre, x.2 = 0) ∧ Sc nb nb (nb + 1) (nb + 1 + 1) (nb + 1 + 1 + 1) w v pre V)
    (fun cd pre F V => cd = .ret ∧ (F nb ∧ F (nb + 1) ∧ F (nb + 1 + 1)) ∧ Sx nb nb (nb + 1) (nb + 1 + 1) w pre ts V)
    (ScF nb (nb + 1) (nb + 1 + 1) (nb + 1 + 1 + 1) (.slice none 0 0)) ?hI ?hIx ?hIF ⟨_, rfl, fun x hx => (by cases hx), hSc⟩ ?round ?done ?stop
  case hI =>
    rintro s F X Y ⟨v, rfl, h1, h2⟩ ht
    exact ⟨v, rfl, h1, h2.tf ht (by omega) hnw⟩
  case hIx =>
    rintro cd s F X Y ⟨h1, ⟨f1, f2, f3⟩, ⟨⟨x, q, e1, e2, e3, e4⟩, c2, bl⟩⟩ ht
    exact ⟨h1, ⟨f1, f2, f3⟩, ⟨⟨x, q, e1, e2, ht.same _ _ (.inl f2) e3, ht.same _ _ (.inl f3) e4⟩, ht.same _ _ (.inl f1) c2, bl.trans ((ht.mono (by omega)).below (Nat.le_trans hnw bl.size))⟩⟩
  case hIF =>
    rintro s F X ⟨v, rfl, h1, h2⟩ k hk
    have l2 := (Array.getElem?_eq_some_iff.1 h2.c2).1
    have l3 := (Array.getElem?_eq_some_iff.1 h2.c3).1
    have l4 := (Array.getElem?_eq_some_iff.1 h2.c4).1
    have l5 := (Array.getElem?_eq_some_iff.1 h2.c5).1
    rcases hk with rfl | rfl | rfl | rfl | hk
    · exact ⟨by omega, l2⟩
    · exact ⟨by omega, l3⟩
    · exact ⟨by omega, l4⟩
    · exact ⟨by omega, l5⟩
    · exact ⟨by have := (h2.own.lt k hk).1; omega, (h2.own.lt k hk).2⟩
  case round =>
    rintro l pre ⟨t, z⟩ F W ⟨v, rfl, hz, hS⟩ hlen hl
    obtain ⟨kd, tx, sr, nu, fr, to, li⟩ := t
    simp only [encK, Tk.agg]
    gi_wp2_with fail
    refine ⟨below_new, ?_⟩
    rintro Wb hkb hsb ⟨v1, hF, hz1', hS1⟩
    rw [hF]
    obtain ⟨tb, htb⟩ : ∃ tb, W.heap.size = tb := ⟨_, rfl⟩
    have htk : TokAt Wb tb ⟨kd, tx, sr, nu, fr, to, li⟩ := hkb tb _ (by omega) (by rw [← htb]; exact World.alloc_heap_new W _)
    simp only [htb]
    obtain ⟨t0, t1, t2, t3, t4, t5, t6, tf⟩ := htk.cells
    dsimp only at t0 t1 t2 t3 t4 t5 t6
    obtain ⟨c2, f2⟩ := cells1 hS1.c2
    obtain ⟨c3, f3⟩ := cells1 hS1.c3
    obtain ⟨c4, f4⟩ := cells1 hS1.c4
    obtain ⟨c5, f5⟩ := cells1 hS1.c5
    have HS1 := Hid.mk' hS1
    have HZ1 := Hid.mk' hz1'
    have n1 : nb ≠ nb + 1 := by omega
    have n2 : nb ≠ nb + 1 + 1 := by omega
    have n3 : nb + 1 ≠ nb + 1 + 1 := by omega
    have n4 : nb + 1 + 1 + 1 ≠ nb := by omega
    have n5 : nb + 1 + 1 + 1 ≠ nb + 1 := by omega
    have n6 : nb + 1 + 1 + 1 ≠ nb + 1 + 1 := by omega
    clear hkb hF hz hS htk hS1 hz1' hsb
    by_cases hzz : z = 0
    · subst hzz
      have own1 := HS1.out.own
      obtain ⟨xv, cv, rfl, _⟩ := own_slice' own1
      have HO := Hid.mk' own1
      clear own1
      gi_wp2_with (gi_at_builtin; refine wpListIn_append_own_at _ rfl _ _ 25 rfl nb 31 i0 (.agg tok0) 7 72 Tryz.underlying25 hi hz0 hz1 hz2 rfl (by decide) _ _ _ rfl (World.ownsRow.alloc HO.out _) ⟨Wb.heap.size, 0, none⟩ 1 1 [.int .i64 kd, .string tx, .string sr, .float .f64 nu, .int .i64 fr, .int .i64 to, .bool li] rfl rfl (cells_new _ _ _) (by intro u hu; simp at hu; rcases hu with rfl | rfl | rfl | rfl | rfl | rfl | rfl <;> rfl) (by unfold maxLen; omega) (by omega) (by have := HS1.out.bel.size; simp; omega) ?_)
      intro v2 w2 o2 g2 _ hb2
      have hlt5 := (Array.getElem?_eq_some_iff.1 HS1.out.c5).1
      have kp : ∀ (k : Nat) (ob : Obj), Wb.heap[k]? = some ob → some k ≠ (Value.slice xv pre.length cv).ownBlock → w2.heap[k]? = some ob := fun k ob hk hne => by
        have hlt := (Array.getElem?_eq_some_iff.1 hk).1
        exact (g2.block k (by simp; omega) hne).trans ((Below.heap_alloc _ _ _ hlt).trans hk)
      have own5 : ∀ k, nb ≤ k → k ≤ nb + 1 + 1 + 1 → some k ≠ (Value.slice xv pre.length cv).ownBlock := fun k h0 h1 e => by
        obtain ⟨c', fz, h'⟩ := kind_own HO.out k e.symm
        have hk : k = nb ∨ k = nb + 1 ∨ k = nb + 1 + 1 ∨ k = nb + 1 + 1 + 1 := by omega
        rcases hk with rfl | rfl | rfl | rfl
        · rw [HS1.out.c2] at h'; cases h'
        · rw [HS1.out.c3] at h'; cases h'
        · rw [HS1.out.c4] at h'; cases h'
        · rw [HS1.out.c5] at h'; cases h'
      have d2 := kp _ _ HS1.out.c2 (own5 _ (by omega) (by omega))
      have d3 := kp _ _ HS1.out.c3 (own5 _ (by omega) (by omega))
      have d4 := kp _ _ HS1.out.c4 (own5 _ (by omega) (by omega))
      have d5 := kp _ _ HS1.out.c5 (own5 _ (by omega) (by omega))
      obtain ⟨e5, ef5⟩ := cells1 d5
      have hv5 : v2.ownBlock ≠ some (nb + 1 + 1 + 1) := fun e => by
        obtain ⟨c', fz, h'⟩ := kind_own o2 _ e
        rw [d5] at h'
        cases h'
      have HFIN : Hid (∃ F', RF (ScF nb (nb + 1) (nb + 1 + 1) (nb + 1 + 1 + 1) (.slice xv pre.length cv)) F' Wb (w2.setCell ⟨nb + 1 + 1 + 1, 0, none⟩ v2) ∧ ∃ v, F' = ScF nb (nb + 1) (nb + 1 + 1) (nb + 1 + 1 + 1) v ∧ (∀ x ∈ pre ++ [(⟨kd, tx, sr, nu, fr, to, li⟩, 0)], x.2 = 0) ∧ Sc nb nb (nb + 1) (nb + 1 + 1) (nb + 1 + 1 + 1) w v (pre ++ [(⟨kd, tx, sr, nu, fr, to, li⟩, 0)]) (w2.setCell ⟨nb + 1 + 1 + 1, 0, none⟩ v2)) := Hid.mk' (by
        refine ⟨ScF nb (nb + 1) (nb + 1 + 1) (nb + 1 + 1 + 1) v2, ⟨?_, ?_, ?_⟩, v2, rfl, ?_, ⟨set_other d2 _ (Ne.symm n4), set_other d3 _ (Ne.symm n5), set_other d4 _ (Ne.symm n6), (set_block _ d5).trans rfl, ?_, ?_⟩⟩
        · have := g2.size
          simp [World.setCell] at this ⊢
          omega
        · intro k ob hk ho
          have h1 : k ≠ nb + 1 + 1 + 1 := fun e => hk (.inr (.inr (.inr (.inl e))))
          exact set_other (kp k ob ho (fun e => hk (.inr (.inr (.inr (.inr e.symm)))))) _ h1
        · rintro k (rfl | rfl | rfl | rfl | hk)
          · exact .inl (.inl rfl)
          · exact .inl (.inr (.inl rfl))
          · exact .inl (.inr (.inr (.inl rfl)))
          · exact .inl (.inr (.inr (.inr (.inl rfl))))
          · rcases hb2 with h1 | h1
            · rw [h1] at hk; exact .inl (.inr (.inr (.inr (.inr hk))))
            · rw [h1] at hk
              right
              simp at hk
              omega
        · intro x hx
          rcases List.mem_append.1 hx with h1 | h1
          · exact HZ1.out x h1
          · simp at h1; rw [h1]
        · have o3 := own_set (rb := nb + 1 + 1 + 1) (o := 0) v2 o2 hv5
          rw [flat_snoc, List.length_append]
          exact o3
        · refine Below.setCell (p := ⟨nb + 1 + 1 + 1, 0, none⟩) ?_ (by show nb ≤ nb + 1 + 1 + 1; omega) _
          refine HS1.out.bel.trans ?_
          have hsz1 := HS1.out.bel.size
          refine ((below_new).mono (by omega)).trans ((Below.refl nb _).grown g2 (by simp; omega) (fun k e => (HO.out.lt k e).1)))
      obtain ⟨xv2, cv2, rfl, _⟩ := own_slice' o2
      clear o2 g2 hb2 kp own5 d2 d3 d4 d5 hv5 c2 c3 c4 c5 f2 f3 f4 f5 t0 t1 t2 t3 t4 t5 t6 tf
      gi_wp2
      exact HFIN.out
    · have hzn : (z != 0) = true := by simpa using hzz
      gi_wp2_with fail
      gi_region
      all_goals
        gi_wp2
        refine ⟨ScF nb (nb + 1) (nb + 1 + 1) (nb + 1 + 1 + 1) v1, ?_, rfl, ⟨.inl rfl, .inr (.inl rfl), .inr (.inr (.inl rfl))⟩, ⟨⟨_, pre, rfl, hzz, ?_, ?_⟩, ?_, ?_⟩⟩
        · refine RF.drew ?_
          repeat (refine RF.setIn ?_ (by first | exact .inl rfl | exact .inr (.inl rfl) | exact .inr (.inr (.inl rfl))) _)
          exact RF.refl _ _
        · exact (set_other (set_block _ (set_other HS1.out.c3 _ (Ne.symm n1))) _ n3).trans rfl
        · exact (set_block _ (set_other (set_other HS1.out.c4 _ (Ne.symm n2)) _ (Ne.symm n3))).trans rfl
        · exact (set_other (set_other (set_block _ HS1.out.c2) _ n1) _ n2).trans rfl
        · refine Below.drew ?_
          refine Below.setCell (p := ⟨nb + 1 + 1, 0, none⟩) ?_ (by show nb ≤ nb + 1 + 1; omega) _
          refine Below.setCell (p := ⟨nb + 1, 0, none⟩) ?_ (by show nb ≤ nb + 1; omega) _
          exact Below.setCell (p := ⟨nb, 0, none⟩) HS1.out.bel (Nat.le_refl nb) _
  case done =>
    rintro E ys F V hE nE rfl ⟨v, rfl, hz, hS⟩ hK
    obtain ⟨c2, f2⟩ := cells1 hS.c2
    obtain ⟨c3, f3⟩ := cells1 hS.c3
    obtain ⟨c4, f4⟩ := cells1 hS.c4
    obtain ⟨c5, f5⟩ := cells1 hS.c5
    obtain ⟨xv, cv, rfl, _⟩ := own_slice' hS.own
    have HS := Hid.mk' hS
    have HZ := Hid.mk' hz
    have HNE := Hid.mk' nE
    have HKK := Hid.mk' hK
    have n1 : nb ≠ nb + 1 := by omega
    have n2 : nb ≠ nb + 1 + 1 := by omega
    have n3 : nb + 1 ≠ nb + 1 + 1 := by omega
    have n4 : nb + 1 + 1 + 1 ≠ nb := by omega
    have n5 : nb + 1 + 1 + 1 ≠ nb + 1 := by omega
    have n6 : nb + 1 + 1 + 1 ≠ nb + 1 + 1 := by omega
    have hE2 : nb + 5 ≤ E := by rw [hsz] at hE; exact hE
    have e2 : E ≠ nb := by omega
    have e3 : E ≠ nb + 1 := by omega
    have e4 : E ≠ nb + 1 + 1 := by omega
    clear hS hz hK nE
    gi_wp2
    have k1 := set_other (o := 0) (set_other (o := 0) (set_other (o := 0) HKK.out (.slice xv ys.length cv) e2) (.int .i64 0) e3) (.int .i64 0) e4
    refine ⟨by simp, .inl ⟨_, _, rfl, run_takeDeferred k1, ?_⟩⟩
    refine ⟨_, scan_reads (a := nb) (b := nb + 1) (c := nb + 1 + 1) (va := .slice xv ys.length cv) (x := 0) (y := 0) rfl ?_ ?_ ?_ rfl rfl rfl, ?_, ?_⟩
    · exact (World.putObj_heap_other (Ne.symm e2)).trans ((set_other (set_other (set_block _ HS.out.c2) _ n1) _ n2).trans rfl)
    · exact (World.putObj_heap_other (Ne.symm e3)).trans ((set_other (set_block _ (set_other HS.out.c3 _ (Ne.symm n1))) _ n3).trans rfl)
    · exact (World.putObj_heap_other (Ne.symm e4)).trans ((set_block _ (set_other (set_other HS.out.c4 _ (Ne.symm n2)) _ (Ne.symm n3))).trans rfl)
    · refine .inl ⟨_, rfl, HZ.out, own_keep HS.out.own (fun k hk o ho => ?_)⟩
      have hkc : ∃ c' fz, V.heap[k]? = some (.cells c' 31 fz) := kind_own HS.out.own k hk
      obtain ⟨c', fz, h'⟩ := hkc
      have q2 : k ≠ nb := fun q => by rw [q, HS.out.c2] at h'; cases h'
      have q3 : k ≠ nb + 1 := fun q => by rw [q, HS.out.c3] at h'; cases h'
      have q4 : k ≠ nb + 1 + 1 := fun q => by rw [q, HS.out.c4] at h'; cases h'
      have q5 : k ≠ E := fun q => by rw [q, HKK.out] at h'; cases h'
      exact (World.putObj_heap_other q5).trans (set_other (set_other (set_other ho _ q2) _ q3) _ q4)
    · refine below_put ?_ (by omega) _
      refine Below.setCell (p := ⟨nb + 1 + 1, 0, none⟩) ?_ (by show nb ≤ nb + 1 + 1; omega) _
      refine Below.setCell (p := ⟨nb + 1, 0, none⟩) ?_ (by show nb ≤ nb + 1; omega) _
      exact Below.setCell (p := ⟨nb, 0, none⟩) HS.out.bel (Nat.le_refl nb) _
  case stop =>
    rintro E cd pre F V hE nE hSp ⟨rfl, hf, ⟨⟨x, q, e1, e2', e3', e4'⟩, c2', bl⟩⟩ hK
    have hE2 : nb + 5 ≤ E := by rw [hsz] at hE; exact hE
    have e2 : E ≠ nb := by omega
    have e3 : E ≠ nb + 1 := by omega
    have e4 : E ≠ nb + 1 + 1 := by omega
    have HX := Hid.mk' (And.intro e1 (And.intro e2' (And.intro e3' (And.intro e4' (And.intro c2' bl)))))
    have HKK := Hid.mk' hK
    clear e1 e2' e3' e4' c2' bl hK
    gi_wp2
    obtain ⟨e1, e2', e3', e4', c2', bl⟩ := HX.out
    refine ⟨by simp, .inl ⟨_, _, rfl, run_takeDeferred HKK.out, ?_⟩⟩
    refine ⟨_, scan_reads (a := nb) (b := nb + 1) (c := nb + 1 + 1) rfl ((World.putObj_heap_other (Ne.symm e2)).trans c2') ((World.putObj_heap_other (Ne.symm e3)).trans e3') ((World.putObj_heap_other (Ne.symm e4)).trans e4') rfl rfl rfl, .inr ⟨x, q, by rw [← e1]; exact hSp, e2', rfl⟩, below_put bl (by omega) _⟩
end Go.Proofs.YtopdogpcachonaaGreatDoor
