/- tree.Check at nodes without texts, of kinds of which nothing more is asked. -/
import Derived.Test.YtkiofkppdpkboaaDoorTRow
namespace Go.Proofs.YtkiofkppdpkboaaDoor
set_option linter.unusedVariables false
open Go.RowKit

structure PlainNd (n : Nd) (k : Nat) : Prop where
  hk : n.kind = (k : Int)
  h1 : 1 ≤ k
  h57 : k < 57
  ht : n.text = ⟨#[]⟩
  hs : n.str = ⟨#[]⟩
  hp : 0 ≤ n.pl
  hr : (rowAt k).1 = 0
  hf : n.kind ≠ 11 ∧ n.kind ≠ 12 ∧ n.kind ≠ 28 ∧ n.kind ≠ 30 ∧ n.kind ≠ 40 ∧ n.kind ≠ 41 ∧ n.kind ≠ 48 ∧ n.kind ≠ 49
  hn : (n.kind = 1 ∧ n.num = 4607182418800017408) ∨ (n.kind ≠ 1 ∧ n.num = 0)
  hl : (n.kids.length : Int) * 8 ≤ 140737488351232
/-- Whether the kids of a node fit. -/
def kidF (L : List Nd) (k : Nat) (ks : List Int) : Bool := kidsN (rowMs k) (rowAt k).2.2.1 (rowAt k).2.2.2 (kindsOf L ks)
theorem check_plain (L : List Nd) (ks : Nat → Nat) (hP : ∀ i (h : i < L.length), PlainNd L[i] (ks i)) (hlen : L.length ≤ 100000) (x : Option Addr) (c : Nat) (w : World) (hv : RdN w (.slice x L.length c) L)
    (F : Nat → Bool) (hF : ∀ i, F i = kidF L (ks i) (kidsAt L i)) :
    Calls Tryd.prog 13 #[.slice x L.length c] w fun e w' => e = .returned (.tuple #[.int .i64 (chkN L F L.length (List.replicate L.length false) 0).1, .int .i64 (chkN L F L.length (List.replicate L.length false) 0).2]) ∧ Below w.heap.size w w' := by
  refine check_all L F hlen (fun n hn => ?_) x c w hv (fun i hi hah hFj q tb rb T cnt W hC hT => ?_)
  · obtain ⟨i, hi, rfl⟩ := List.getElem_of_mem hn
    exact (hP i hi).hl
  · rcases hv with ⟨a', c', e', h'⟩ | ⟨g, o, c', e', hlc, hg, hcc⟩
    · rw [h'] at hi; simp at hi
    · obtain rfl : x = some ⟨g, o, none⟩ := by injection e'
      have p := hP i hi
      have hk := kf_of hC rfl hg hcc i hi p.hl (fun k hk => by have := hah i (Nat.le_refl _) k (by rw [kidsAt_eq hi]; exact hk); exact this) (ks i) p.hk p.h57
        (fun j hj => ⟨ks j, (hP j (by omega)).hk, by have := (hP j (by omega)).h57; omega⟩)
      rw [p.hr] at hk
      refine (fits_plain q L[i] (ks i) _ _ _ _ _ _ _ _ _ _ W hk p.h1 p.hp p.ht p.hs p.hf p.hn).mono (fun e w' h => ⟨?_, h.2⟩)
      rw [h.1, hF i]
      unfold kidF
      rw [kidsAt_eq hi]

/-- The chapter's example: 1; -/
def ex0 : Nd := ⟨1, ⟨#[]⟩, ⟨#[]⟩, 4607182418800017408, none, [], 0, 0⟩
def ex1 (b : Nat) : Nd := ⟨37, ⟨#[]⟩, ⟨#[]⟩, 0, some ⟨b, 0, none⟩, [0], 1, 0⟩
def ex2 (b : Nat) : Nd := ⟨55, ⟨#[]⟩, ⟨#[]⟩, 0, some ⟨b, 0, none⟩, [1], 1, 0⟩
def exK (i : Nat) : Nat := if i = 0 then 1 else if i = 1 then 37 else 55
theorem ex0_p : PlainNd ex0 1 := ⟨rfl, by decide, by decide, rfl, rfl, by decide, by kernel_rfl, by decide, .inl ⟨rfl, rfl⟩, by decide⟩
theorem ex1_p (b : Nat) : PlainNd (ex1 b) 37 := ⟨rfl, by decide, by decide, rfl, rfl, by show (0 : Int) ≤ 0; decide, by kernel_rfl, by show (37 : Int) ≠ 11 ∧ (37 : Int) ≠ 12 ∧ (37 : Int) ≠ 28 ∧ (37 : Int) ≠ 30 ∧ (37 : Int) ≠ 40 ∧ (37 : Int) ≠ 41 ∧ (37 : Int) ≠ 48 ∧ (37 : Int) ≠ 49; decide, .inr ⟨by show (37 : Int) ≠ 1; decide, rfl⟩, by show ((1 : Nat) : Int) * 8 ≤ 140737488351232; decide⟩
theorem ex2_p (b : Nat) : PlainNd (ex2 b) 55 := ⟨rfl, by decide, by decide, rfl, rfl, by show (0 : Int) ≤ 0; decide, by kernel_rfl, by show (55 : Int) ≠ 11 ∧ (55 : Int) ≠ 12 ∧ (55 : Int) ≠ 28 ∧ (55 : Int) ≠ 30 ∧ (55 : Int) ≠ 40 ∧ (55 : Int) ≠ 41 ∧ (55 : Int) ≠ 48 ∧ (55 : Int) ≠ 49; decide, .inr ⟨by show (55 : Int) ≠ 1; decide, rfl⟩, by show ((1 : Nat) : Int) * 8 ≤ 140737488351232; decide⟩
theorem check_ex3 (b1 b2 : Nat) (x : Option Addr) (c : Nat) (w : World) (hv : RdN w (.slice x 3 c) [ex0, ex1 b1, ex2 b2]) :
    Calls Tryd.prog 13 #[.slice x 3 c] w fun e w' => e = .returned (.tuple #[.int .i64 0, .int .i64 0]) ∧ Below w.heap.size w w' := by
  have h := check_plain [ex0, ex1 b1, ex2 b2] exK (fun i h => by
    match i, h with
    | 0, _ => exact ex0_p
    | 1, _ => exact ex1_p b1
    | 2, _ => exact ex2_p b2) (by show 3 ≤ 100000; decide) x c w hv (fun i => kidF [ex0, ex1 b1, ex2 b2] (exK i) (kidsAt [ex0, ex1 b1, ex2 b2] i)) (fun _ => rfl)
  have e : chkN [ex0, ex1 b1, ex2 b2] (fun i => kidF [ex0, ex1 b1, ex2 b2] (exK i) (kidsAt [ex0, ex1 b1, ex2 b2] i)) 3 (List.replicate 3 false) 0 = (0, 0) := by kernel_rfl
  rw [show [ex0, ex1 b1, ex2 b2].length = 3 from rfl, e] at h
  exact h
theorem check_ex2 (b1 : Nat) (x : Option Addr) (c : Nat) (w : World) (hv : RdN w (.slice x 2 c) [ex0, ex1 b1]) :
    Calls Tryd.prog 13 #[.slice x 2 c] w fun e w' => e = .returned (.tuple #[.int .i64 1, .int .i64 60]) ∧ Below w.heap.size w w' := by
  have h := check_plain [ex0, ex1 b1] exK (fun i h => by
    match i, h with
    | 0, _ => exact ex0_p
    | 1, _ => exact ex1_p b1) (by show 2 ≤ 100000; decide) x c w hv (fun i => kidF [ex0, ex1 b1] (exK i) (kidsAt [ex0, ex1 b1] i)) (fun _ => rfl)
  have e : chkN [ex0, ex1 b1] (fun i => kidF [ex0, ex1 b1] (exK i) (kidsAt [ex0, ex1 b1] i)) 2 (List.replicate 2 false) 0 = (1, 60) := by kernel_rfl
  rw [show [ex0, ex1 b1].length = 2 from rfl, e] at h
  exact h
theorem deep_ex3 (b1 b2 : Nat) : deepN [ex0, ex1 b1, ex2 b2] = 3 := by kernel_rfl
end Go.Proofs.YtkiofkppdpkboaaDoor
