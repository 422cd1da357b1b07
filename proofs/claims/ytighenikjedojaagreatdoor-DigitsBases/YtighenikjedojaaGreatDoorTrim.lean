/- lintelref03.front, Trim: the document's blanks at both ends. -/
import Derived.Test.YtighenikjedojaaGreatDoorBlank
namespace Go.Proofs.YtighenikjedojaaGreatDoor
set_option linter.unusedVariables false
open Go.RowKit

def frontN (us : List Nat) : Nat := (us.takeWhile blankB).length
def backN (us : List Nat) : Nat := (us.reverse.takeWhile blankB).length
/-- Units without blanks at both ends. -/
def trimN (us : List Nat) : List Nat := (us.drop (frontN us)).take ((us.drop (frontN us)).length - backN (us.drop (frontN us)))
theorem takeWhile_len {p : Nat → Bool} : ∀ (us : List Nat) (k : Nat), k ≤ us.length → (∀ j (h : j < us.length), j < k → p us[j] = true) → (∀ h : k < us.length, p us[k] = false) → (us.takeWhile p).length = k
  | [], k, h, _, _ => by simp at h; subst h; rfl
  | x :: r, 0, _, _, h3 => by
    have := h3 (by simp)
    simp at this
    simp [this]
  | x :: r, k + 1, h, h2, h3 => by
    have hx := h2 0 (by simp) (by omega)
    simp at hx
    rw [List.takeWhile_cons, hx]
    simp only [if_true, List.length_cons]
    rw [takeWhile_len r k (by simp at h; omega) (fun j hj hjk => by have := h2 (j + 1) (by simp; omega) (by omega); simpa using this) (fun hk => by have := h3 (by simp; omega); simpa using this)]
theorem frontN_le (us : List Nat) : frontN us ≤ us.length := List.IsPrefix.length_le (List.takeWhile_prefix _)

set_option maxHeartbeats 1000000 in
set_option maxRecDepth 100000 in
theorem rfront_any (us : List Nat) (hu : ∀ u ∈ us, u < 65536) (hl : (us.length : Int) ≤ 1048576) (v : Value) (w : World) (hv : Rd w v us) :
    Calls Tryz.prog 36 #[v] w fun e w' => e = .returned (.int .i64 (frontN us : Nat)) ∧ Below w.heap.size w w' := by
  obtain ⟨x, c, rfl⟩ : ∃ x c, v = .slice x us.length c := by
    rcases hv with ⟨c, rfl, _⟩ | ⟨g, o, c, rfl, _⟩
    · exact ⟨_, _, rfl⟩
    · exact ⟨_, _, rfl⟩
  have HV := Hid.mk' hv
  clear hv
  go_enter Tryz.func36, Tryz.ntmps36
  go_wp2
  go_loopw [3] (fun v wr => ∃ k : Nat, v = .int .i64 k ∧ k ≤ us.length ∧ Hid (∀ j (h : j < us.length), j < k → blankB us[j] = true) ∧ Below w.heap.size w wr) (fun v _ => us.length - (intOf v).toNat)
  case atStart => exact ⟨0, rfl, Nat.zero_le _, fun j h hj => by omega, Below.refl _ _⟩
  case round =>
    obtain ⟨k, rfl, hk, HE, hB⟩ := hrel
    by_cases hlt : k < us.length
    · rcases HV.out.below hB with ⟨c', e1, e2⟩ | ⟨g, o, c', e1, hg, hc⟩
      · rw [e2] at hlt; simp at hlt
      · obtain ⟨rfl, rfl⟩ : x = some ⟨g, o, none⟩ ∧ c = c' := by simpa using e1
        have hcell := hc k hlt
        have i1 : (k : Int) < (us.length : Int) := by omega
        have i2 : (0 : Int) ≤ (k : Int) := by omega
        have HBl := Hid.mk' (fun W => rblank_any us[k] W (hu _ (List.getElem_mem hlt)))
        obtain ⟨z, hz⟩ : ∃ z : Int, ((us[k] : Nat) : Int) = z := ⟨_, rfl⟩
        rw [hz] at hcell HBl
        clear hz hc e1
        by_cases hb : blankB us[k] = true
        · have HN : Hid (∀ j (h : j < us.length), j < k + 1 → blankB us[j] = true) := fun j h hj => by
            by_cases e : j = k
            · subst e; exact hb
            · exact HE.out j h (by omega)
          rw [hb] at HBl
          clear hb
          go_wp2_with (go_at_call 66; refine (HBl.out _).mono ?_; rintro e w3 ⟨rfl, b3⟩)
          go_roundw
          case rel => exact ⟨k + 1, by go_num, by omega, HN, hB.trans (b3.mono hB.size)⟩
          case measure => simp [intOf]; omega
        · have hb' : blankB us[k] = false := by simpa using hb
          have HF : Hid (frontN us = k) := takeWhile_len us k hk HE.out (fun h => hb')
          rw [hb'] at HBl
          clear hb hb'
          go_wp2_with (go_at_call 66; refine (HBl.out _).mono ?_; rintro e w3 ⟨rfl, b3⟩)
          go_ret
          exact ⟨by rw [HF.out]; rfl, hB.trans (b3.mono hB.size)⟩
    · obtain rfl : k = us.length := by omega
      have HF : Hid (frontN us = us.length) := takeWhile_len us _ hk HE.out (fun h => by omega)
      go_wp2
      go_ret
      exact ⟨by rw [HF.out]; rfl, hB⟩

def sliceLen : Value → Nat
  | .slice _ n _ => n
  | _ => 0
theorem trim_end {us d : List Nat} {m : Nat} (hd : us.drop (frontN us) = d) (hm : m ≤ d.length) (h0 : 0 < m) (h1 : ∀ h : m - 1 < d.length, blankB d[m - 1] = false) (h2 : ∀ j (h : j < d.length), m ≤ j → blankB d[j] = true) : trimN us = d.take m := by
  have hb : backN d = d.length - m := by
    unfold backN
    refine takeWhile_len _ _ (by simp) (fun j h hj => ?_) (fun h => ?_)
    · rw [List.getElem_reverse]
      simp at h
      exact h2 _ _ (by omega)
    · rw [List.getElem_reverse]
      simp at h
      have := h1 (by omega)
      have e : d.length - 1 - (d.length - m) = m - 1 := by omega
      simp only [e]
      exact this
  unfold trimN
  rw [hd, hb, show d.length - (d.length - m) = m by omega]
theorem trim_none {us d : List Nat} (hd : us.drop (frontN us) = d) (h2 : ∀ j (h : j < d.length), 0 ≤ j → blankB d[j] = true) : trimN us = d.take 0 := by
  have hb : backN d = d.length := by
    unfold backN
    refine takeWhile_len _ _ (by simp) (fun j h hj => ?_) (fun h => by simp at h)
    rw [List.getElem_reverse]
    exact h2 _ _ (by omega)
  unfold trimN
  rw [hd, hb, Nat.sub_self]

end Go.Proofs.YtighenikjedojaaGreatDoor
