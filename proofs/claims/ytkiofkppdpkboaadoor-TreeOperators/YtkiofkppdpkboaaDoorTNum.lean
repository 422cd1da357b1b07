/- numFits at the numbers 1 (a number's node) and 0 (any other node); fits where no text may be. -/
import Derived.Test.YtkiofkppdpkboaaDoorTKids
namespace Go.Proofs.YtkiofkppdpkboaaDoor
set_option linter.unusedVariables false
open Go.RowKit

set_option maxHeartbeats 1000000 in
set_option maxRecDepth 100000 in
theorem same00 (w : World) :
    Calls Tryd.prog 58 #[.float .f64 0, .float .f64 0, .int .i64 2] w fun e w' => e = .returned (.bool true) ∧ w' = w := by
  have HS := Hid.mk' (fun W => signbit_any 0 W (by omega))
  go_enter Tryd.func58, Tryd.ntmps58
  go_wp2_with (first | (go_at_call 27; refine (HS.out _).mono ?_; rintro e w1 ⟨rfl, hw1⟩; rw [hw1]; clear hw1 w1))
  go_ret
  exact ⟨rfl, rfl⟩

set_option maxHeartbeats 1000000 in
set_option maxRecDepth 100000 in
theorem numFits_zero (n : Nd) (w : World) (hk : n.kind ≠ 1) (hn : n.num = 0) :
    Calls Tryd.prog 42 #[n.val] w fun e w' => e = .returned (.bool true) ∧ Below w.heap.size w w' := by
  obtain ⟨nk, nt, ns, nn, kp, ks, kc, pl⟩ := n
  dsimp only [Nd.val] at hk hn ⊢
  subst hn
  have HB := Hid.mk' (nd_box w #[.int .i64 nk, .string nt, .string ns, .float .f64 0, .slice kp ks.length kc, .int .i64 pl] 39)
  obtain ⟨kl, hkl⟩ : ∃ kl, ks.length = kl := ⟨_, rfl⟩
  rw [hkl] at HB ⊢
  have z : (nk == 1) = false := by simp [hk]
  clear hk hkl
  go_enter Tryd.func42, Tryd.ntmps42
  go_wp2_with (first | (go_at_call 58; refine (same00 _).mono ?_; rintro e w1 ⟨rfl, hw1⟩; rw [hw1]; clear hw1 w1))
  go_ret
  exact ⟨rfl, HB.out⟩

set_option maxHeartbeats 1000000 in
set_option maxRecDepth 100000 in
theorem numFits_one (n : Nd) (w : World) (hk : n.kind = 1) (hn : n.num = 4607182418800017408) :
    Calls Tryd.prog 42 #[n.val] w fun e w' => e = .returned (.bool true) ∧ Below w.heap.size w w' := by
  obtain ⟨nk, nt, ns, nn, kp, ks, kc, pl⟩ := n
  dsimp only [Nd.val] at hk hn ⊢
  subst hn hk
  have HB := Hid.mk' (nd_box w #[.int .i64 1, .string nt, .string ns, .float .f64 4607182418800017408, .slice kp ks.length kc, .int .i64 pl] 39)
  obtain ⟨kl, hkl⟩ : ∃ kl, ks.length = kl := ⟨_, rfl⟩
  rw [hkl] at HB ⊢
  have HS := Hid.mk' (fun W => signbit_any 4607182418800017408 W (by omega))
  clear hkl
  go_enter Tryd.func42, Tryd.ntmps42
  go_wp2_with (first | (go_at_call 27; refine (HS.out _).mono ?_; rintro e w1 ⟨rfl, hw1⟩; rw [hw1]; clear hw1 w1))
  go_ret
  exact ⟨rfl, HB.out⟩
end Go.Proofs.YtkiofkppdpkboaaDoor
