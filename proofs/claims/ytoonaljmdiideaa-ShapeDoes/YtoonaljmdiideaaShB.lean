/- Package shape: bare, own; a new cache asked of a tree that nobody made. -/
import Derived.Test.YtoonaljmdiideaaShA
import Derived.Deep.RegionHeld3
namespace Go.Proofs.Ytoonaljmdiideaa
set_option linter.unusedVariables false
set_option linter.unusedSimpArgs false
open Go.RowKit

theorem sh_even_eq (s : ByteArray) : evenS s = s.extract 0 (2 * (s.size / 2)) := by unfold evenS; rw [Nat.mul_comm]
theorem sh_cut_own (s : ByteArray) : cutS s 0 (((s.size / 2 : Nat)) : Int) = evenS s := by
  by_cases h : s.size / 2 = 0
  · rw [cutS_no (by omega), sh_even_eq, h]
    exact (ByteArray.ext (by simp)).symm
  · rw [cutS_yes 0 (s.size / 2) (by omega) (by omega) (by omega), sh_even_eq]
theorem sh_results_cell {fn : Func} {p : Tmp} {ty : TypeId} (h : fn.results = #[.cell p ty]) (tmps : Array Value) (P : Program) (w : World) :
    (results fn tmps).run P w = ((asAddr (tmps.getD p undef)).run P w).andThen fun a w₁ => (loadVar ty a).run P w₁ := by
  simp only [results, h]
  simp [Sem.run_bind, Result.andThen]
theorem below_from_drew {w w2 : World} (h : Below w.drew.heap.size w.drew w2) : Below w.heap.size w w2 := Below.trans ((Below.refl w.heap.size w).drew) h
theorem pair_facts {w : World} {g : Nat} {a b : Value} {t : TypeId} (h : w.heap[g]? = some (.cells #[a, b] t (0, 0))) : w.frozen? ⟨g, 0, none⟩ = false ∧ w.frozen? ⟨g, 1, none⟩ = false ∧ w.cell? ⟨g, 0, none⟩ = some a ∧ w.cell? ⟨g, 1, none⟩ = some b := by
  refine ⟨?_, ?_, ?_, ?_⟩ <;> simp [World.frozen?, World.cell?, h]
/-- A key's bare text, and its bare number. -/
def bareS (s : ByteArray) (z : Int) : ByteArray := if 0 < z then ⟨#[]⟩ else evenS s
def bareZ (z : Int) : Int := if 0 < z then z else 0
theorem bareS_le (s : ByteArray) (z : Int) (h : (s.size : Int) ≤ 140737488351232) : ((bareS s z).size : Int) ≤ 140737488351232 := by
  unfold bareS
  split
  · show (((⟨#[]⟩ : ByteArray).size : Nat) : Int) ≤ _; decide
  · have : (evenS s).size ≤ s.size := by rw [sh_even_eq, ByteArray.size_extract]; omega
    omega

set_option maxHeartbeats 400000 in
theorem shbare_sym (s : ByteArray) (z : Int) (w : World) (h : 0 < z) :
    Calls Try.prog 25 #[.agg #[.string s, .int .i64 z]] w fun e w' => e = .returned (.agg #[.string ⟨#[]⟩, .int .i64 z]) ∧ Below w.heap.size w w' := by
  go_enter Try.func25, Try.ntmps25
  go_wp2
  (try simp only [Exit.inBlock, Exit.then])
  refine bodyPost_ret (v := .agg #[.string ⟨#[]⟩, .int .i64 z]) ?_ rfl ⟨rfl, ?_⟩
  · rw [sh_results_cell rfl]
    go_simp
  · repeat' (first | exact Below.refl _ _ | refine Below.alloc ?_ (by simp <;> omega) _ | refine Below.setCell ?_ (by simp) _)
set_option maxHeartbeats 400000 in
theorem shbare_text (s : ByteArray) (z : Int) (w : World) (hs : (s.size : Int) ≤ 140737488351232) (h : ¬ 0 < z) :
    Calls Try.prog 25 #[.agg #[.string s, .int .i64 z]] w fun e w' => e = .returned (.agg #[.string (evenS s), .int .i64 0]) ∧ Below w.heap.size w w' := by
  have hm : s.size ≤ maxLen := by unfold maxLen; omega
  have HL := Hid.mk' (fun W => len_any s W hm)
  obtain ⟨k, hk⟩ : ∃ k, s.size / 2 = k := ⟨_, rfl⟩
  rw [hk] at HL
  have HE : Hid (evenS s = s.extract 0 (2 * (k : Int)).toNat) := Hid.mk' (by rw [sh_even_eq s, hk, show (2 * (k : Int)).toNat = 2 * k from by omega])
  have h1 : (0 : Int) ≤ 2 * (k : Int) := by omega
  have h2 : 2 * (k : Int) ≤ (s.size : Int) := by omega
  have x1 : IntKind.i64.wrap (2 * (k : Int)) = 2 * (k : Int) := by rw [IntKind.wrap_i64]; omega
  clear hk
  go_enter Try.func25, Try.ntmps25
  go_wp2_with fail
  go_region_with (first | (go_at_call 47; refine (HL.out _).mono ?_; rintro e w1 ⟨rfl, hw1⟩; rw [hw1]; clear hw1 w1))
  all_goals go_wp2
  all_goals (try simp only [Exit.inBlock, Exit.then])
  all_goals refine bodyPost_ret (v := .agg #[.string (evenS s), .int .i64 0]) ?_ rfl ⟨rfl, ?_⟩
  all_goals first
    | (rw [sh_results_cell rfl, HE.out]; go_simp)
    | (repeat' (first | exact Below.refl _ _ | refine Below.drew ?_ | refine Below.alloc ?_ (by simp <;> omega) _ | refine Below.setCell ?_ (by simp) _))
theorem shbare_any (s : ByteArray) (z : Int) (w : World) (hs : (s.size : Int) ≤ 140737488351232) :
    Calls Try.prog 25 #[.agg #[.string s, .int .i64 z]] w fun e w' => e = .returned (.agg #[.string (bareS s z), .int .i64 (bareZ z)]) ∧ Below w.heap.size w w' := by
  unfold bareS bareZ
  by_cases h : 0 < z
  · rw [if_pos h, if_pos h]; exact shbare_sym s z w h
  · rw [if_neg h, if_neg h]; exact shbare_text s z w hs h
set_option maxHeartbeats 1000000 in
set_option maxRecDepth 100000 in
theorem shown_any (s : ByteArray) (z : Int) (w : World) (hs : (s.size : Int) ≤ 140737488351232) :
    Calls Try.prog 50 #[.agg #[.string s, .int .i64 z]] w fun e w' => e = .returned (.agg #[.string (evenS s), .int .i64 z]) ∧ Below w.heap.size w w' := by
  have hm : s.size ≤ maxLen := by unfold maxLen; omega
  have HL := Hid.mk' (fun W => len_any s W hm)
  have HC := Hid.mk' (fun W => cut_wide s 0 ((s.size / 2 : Nat) : Int) W hs)
  rw [sh_cut_own] at HC
  obtain ⟨k, hk⟩ : ∃ k, s.size / 2 = k := ⟨_, rfl⟩
  rw [hk] at HL HC
  clear hk
  obtain ⟨W1, hW1⟩ : ∃ W1, (w.alloc (.cells #[.string s, .int .i64 z] 31)).alloc (.cells #[.string ⟨#[]⟩, .int .i64 0] 31) = W1 := ⟨_, rfl⟩
  have b1 : Below w.heap.size w W1 := by rw [← hW1]; exact ((Below.refl _ _).alloc (Nat.le_refl _) _).alloc (by simp) _
  have c0 : W1.cell? ⟨w.heap.size, 0, none⟩ = some (.string s) := by rw [← hW1]; simp [go_sem]
  have c1 : W1.cell? ⟨w.heap.size, 1, none⟩ = some (.int .i64 z) := by rw [← hW1]; simp [go_sem]
  have q1 : W1.heap[w.heap.size + 1]? = some (.cells #[.string ⟨#[]⟩, .int .i64 0] 31 (0, 0)) := by rw [← hW1]; have := World.alloc_heap_new (w.alloc (.cells #[.string s, .int .i64 z] 31)) (.cells #[.string ⟨#[]⟩, .int .i64 0] 31); simpa using this
  have sz : w.heap.size + 2 = W1.heap.size := by rw [← hW1]; simp
  have HH := Hid.mk' hW1
  have HB := Hid.mk' b1
  have HS := Hid.mk' sz
  have HQ : Hid (∀ W, Below W1.heap.size W1 W → W.heap[w.heap.size + 1]? = some (.cells #[.string ⟨#[]⟩, .int .i64 0] 31 (0, 0)) ∧ W.cell? ⟨w.heap.size, 0, none⟩ = some (.string s) ∧ W.cell? ⟨w.heap.size, 1, none⟩ = some (.int .i64 z)) := Hid.mk' (fun W hW => ⟨(hW.block _ (by omega)).trans q1, (hW.cell (p := ⟨w.heap.size, 0, none⟩) (by show w.heap.size < _; omega)).trans c0, (hW.cell (p := ⟨w.heap.size, 1, none⟩) (by show w.heap.size < _; omega)).trans c1⟩)
  clear hW1 b1 sz hm q1
  go_enter Try.func50, Try.ntmps50
  go_upto_region 1 with fail
  rw [HH.out]
  go_region_held3 (fun w' => w'.cell? ⟨w.heap.size, 0, none⟩ = some (.string s) ∧ w'.cell? ⟨w.heap.size, 1, none⟩ = some (.int .i64 z)) (go_keep) (first | (go_at_call 47; refine (HL.out _).mono ?_; rintro e w1 ⟨rfl, hw1⟩; rw [hw1]; clear hw1 w1) | (go_at_call 60; refine (HC.out _).mono ?_; rintro e w2 ⟨rfl, b2⟩; have HB2 := Hid.mk' (below_from_drew b2); obtain ⟨q2, d0, d1⟩ := HQ.out w2 HB2.out; obtain ⟨f0, f1, e0, e1⟩ := pair_facts q2; clear q2 b2))
  all_goals go_wp2
  all_goals (try simp only [Exit.inBlock, Exit.then])
  all_goals refine bodyPost_ret (v := .agg #[.string (evenS s), .int .i64 z]) ?_ rfl ⟨rfl, ?_⟩
  all_goals first
    | (rw [sh_results_cell rfl]; go_simp; done)
    | (have b3 := HB.out.trans (HB2.out.mono HB.out.size); repeat' (first | exact b3 | refine Below.drew ?_ | refine Below.setCell ?_ (by simp) _))
end Go.Proofs.Ytoonaljmdiideaa
