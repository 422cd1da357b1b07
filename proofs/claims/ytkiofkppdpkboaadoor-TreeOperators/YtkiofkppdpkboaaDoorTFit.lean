/- strFits, numFits at two numbers, fine where nothing more is asked, textFits where no text may be; kidsFit. -/
import Derived.Test.YtkiofkppdpkboaaDoorTTake
namespace Go.Proofs.YtkiofkppdpkboaaDoor
set_option linter.unusedVariables false
open Go.RowKit

/-- A node's box is new memory. -/
theorem nd_box (w : World) (c : Array Value) (t : TypeId) : Below w.heap.size w (w.alloc (.cells c t)) := (Below.refl _ _).alloc (Nat.le_refl _) _

set_option maxHeartbeats 1000000 in
set_option maxRecDepth 100000 in
theorem strFits_any (n : Nd) (w : World) (hs : n.str.size ≤ maxLen) :
    Calls Tryd.prog 43 #[n.val] w fun e w' => e = .returned (.bool (decide (n.kind = 2) || decide (n.str.size / 2 = 0))) ∧ Below w.heap.size w w' := by
  obtain ⟨nk, nt, ns, nn, kp, ks, kc, pl⟩ := n
  dsimp only [Nd.val] at hs ⊢
  have HL := Hid.mk' (fun W => len_any ns W hs)
  have HB := Hid.mk' (nd_box w #[.int .i64 nk, .string nt, .string ns, .float .f64 nn, .slice kp ks.length kc, .int .i64 pl] 39)
  obtain ⟨m, hm⟩ : ∃ m, ns.size / 2 = m := ⟨_, rfl⟩
  rw [hm] at HL ⊢
  obtain ⟨kl, hkl⟩ : ∃ kl, ks.length = kl := ⟨_, rfl⟩
  rw [hkl] at HB ⊢
  obtain ⟨r, hr⟩ : ∃ r, (decide (nk = 2) || decide (m = 0)) = r := ⟨_, rfl⟩
  rw [hr]
  clear hm hkl hs
  by_cases h2 : nk = 2
  · have HE : Hid (r = true) := Hid.mk' (by rw [← hr]; simp [h2])
    have z2 : (nk == 2) = true := by simp [h2]
    clear hr h2
    go_enter Tryd.func43, Tryd.ntmps43
    go_wp2
    go_ret
    exact ⟨by rw [HE.out]; rfl, HB.out⟩
  · have HE : Hid (r = ((m : Int) == 0)) := Hid.mk' (by
      rw [← hr]
      cases h : ((m : Int) == 0)
      · simp at h ⊢; exact ⟨h2, by omega⟩
      · simp at h ⊢; right; omega)
    have z2 : (nk == 2) = false := by simp [h2]
    clear hr h2
    go_enter Tryd.func43, Tryd.ntmps43
    go_wp2_with (first | (go_at_call 59; refine (HL.out _).mono ?_; rintro e w1 ⟨rfl, hw1⟩; rw [hw1]; clear hw1 w1))
    go_ret
    exact ⟨by rw [HE.out]; rfl, HB.out⟩

set_option maxHeartbeats 1000000 in
set_option maxRecDepth 100000 in
/-- Nothing more is asked of most kinds. -/
theorem fine_plain (q : Nat) (n : Nd) (w : World) (h : n.kind ≠ 11 ∧ n.kind ≠ 12 ∧ n.kind ≠ 28 ∧ n.kind ≠ 30 ∧ n.kind ≠ 40 ∧ n.kind ≠ 41 ∧ n.kind ≠ 48 ∧ n.kind ≠ 49) :
    Calls Tryd.prog 46 #[.pointer (some ⟨q, 0, none⟩), n.val] w fun e w' => e = .returned (.bool true) ∧ Below w.heap.size w w' := by
  obtain ⟨nk, nt, ns, nn, kp, ks, kc, pl⟩ := n
  dsimp only [Nd.val] at h ⊢
  have HB := Hid.mk' (nd_box w #[.int .i64 nk, .string nt, .string ns, .float .f64 nn, .slice kp ks.length kc, .int .i64 pl] 39)
  obtain ⟨kl, hkl⟩ : ∃ kl, ks.length = kl := ⟨_, rfl⟩
  rw [hkl] at HB ⊢
  have z1 : (nk == 11) = false := by simp; omega
  have z2 : (nk == 12) = false := by simp; omega
  have z3 : (nk == 28) = false := by simp; omega
  have z4 : (nk == 30) = false := by simp; omega
  have z5 : (nk == 40) = false := by simp; omega
  have z6 : (nk == 41) = false := by simp; omega
  have z7 : (nk == 48) = false := by simp; omega
  have z8 : (nk == 49) = false := by simp; omega
  clear h hkl
  go_enter Tryd.func46, Tryd.ntmps46
  go_wp2_with fail
  go_ret
  exact ⟨rfl, HB.out⟩

set_option maxHeartbeats 1000000 in
set_option maxRecDepth 100000 in
/-- A kind that may have no text. -/
theorem textFits_none (q : Nat) (n : Nd) (k : Nat) (w : World) (hk : n.kind = (k : Int)) (hk57 : k < 57) (hq : q < w.heap.size) (hc : w.cell? ⟨q, 1 + k * 4, none⟩ = some (.int .i64 0)) (ht : n.text = ⟨#[]⟩) :
    Calls Tryd.prog 44 #[.pointer (some ⟨q, 0, none⟩), n.val] w fun e w' => e = .returned (.bool true) ∧ Below w.heap.size w w' := by
  obtain ⟨nk, nt, ns, nn, kp, ks, kc, pl⟩ := n
  dsimp only [Nd.val] at hk ht ⊢
  subst hk ht
  have HB := Hid.mk' (nd_box w #[.int .i64 (k : Int), .string ⟨#[]⟩, .string ns, .float .f64 nn, .slice kp ks.length kc, .int .i64 pl] 39)
  obtain ⟨kl, hkl⟩ : ∃ kl, ks.length = kl := ⟨_, rfl⟩
  rw [hkl] at HB ⊢
  have z1 : (0 : Int) ≤ (k : Int) := by omega
  have z2 : (k : Int) < 57 := by omega
  clear hkl
  go_enter Tryd.func44, Tryd.ntmps44
  go_wp2_with fail
  go_quiet (fail)
  go_wp2_with fail
  go_ret
  exact ⟨by simp, by first | exact below_drewN HB.out _ | exact HB.out⟩
end Go.Proofs.YtkiofkppdpkboaaDoor
