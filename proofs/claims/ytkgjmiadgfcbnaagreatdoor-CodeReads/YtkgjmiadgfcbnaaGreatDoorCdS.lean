/- The document's reader of modules: flags, texts. -/
import Derived.Test.YtkgjmiadgfcbnaaGreatDoorCdR
import Derived.Test.YtkgjmiadgfcbnaaGreatDoorCdC
namespace Go.Proofs.YtkgjmiadgfcbnaaGreatDoor
set_option linter.unusedVariables false
set_option linter.unusedSimpArgs false
open Go.RowKit

theorem aft_bind {α β : Type} {p : List UInt8 → Option (β × List UInt8)} {q : List UInt8 → Option (α × List UInt8)} {F : α × List UInt8 → Option (β × List UInt8)} (h : ∀ L, p L = (q L).bind F) (s : Option (List UInt8)) : aft p s = (aft q s).bind F := by
  cases s with
  | none => rfl
  | some L => exact h L
theorem After.no {α : Type} {p : List UInt8 → Option (α × List UInt8)} {s : Option (List UInt8)} {x : α} (h : After p s x none) : aft p s = none := by
  rcases h with ⟨L, h1, h2⟩ | ⟨h1, h2⟩
  · cases h2
  · exact h1
theorem After.yes {α : Type} {p : List UInt8 → Option (α × List UInt8)} {s : Option (List UInt8)} {x : α} {L : List UInt8} (h : After p s x (some L)) : aft p s = some (x, L) := by
  rcases h with ⟨L', h1, h2⟩ | ⟨h1, h2⟩
  · cases h2; exact h1
  · cases h2
set_option maxHeartbeats 1000000 in
set_option maxRecDepth 100000 in
theorem rflag_any {rb g : Nat} {s : Option (List UInt8)} (w : World) (h : St w rb g s) :
    Calls Tryz.prog 33 #[.pointer (some ⟨rb, 0, none⟩)] w fun e w' => Rrs flagP rb g isFlag s w e w' := by
  have HN := Hid.mk' (rnum_any w h)
  have HE := Hid.mk' (aft_bind (p := flagP) (q := numP) (fun L => rfl) s)
  clear h
  go_enter Tryz.func33, Tryz.ntmps33
  go_wp2_with fail
  refine HN.out.mono ?_
  rintro e w1 ⟨n, v, s1, rfl, rfl, hA, hS, hF⟩
  obtain ⟨c1, cf⟩ := hS.flag
  have HA := Hid.mk' hA
  have HF := Hid.mk' hF
  obtain ⟨z, hz⟩ : ∃ z : Int, (n : Int) = z := ⟨_, rfl⟩
  simp only [hz]
  have HZ := Hid.mk' hz
  cases s1 with
  | none =>
    simp only [Option.isSome_none] at c1
    have HB := Hid.mk' hS.bad
    clear hA hF hS hz
    go_wp2
    go_ret
    exact ⟨_, _, none, rfl, rfl, .inr ⟨by rw [HE.out, HA.out.no]; rfl, rfl⟩, HB.out, HF.out.trans (Fr.set _)⟩
  | some L1 =>
    simp only [Option.isSome_some] at c1
    have HS := Hid.mk' hS.same
    have HB := Hid.mk' hS.bad
    clear hA hF hS hz
    by_cases h1 : z ≤ 1
    · go_wp2
      go_ret
      refine ⟨decide (n = 1), _, some L1, rfl, ?_, .inl ⟨L1, ?_, rfl⟩, HS.out, HF.out.trans (Fr.set _)⟩
      · show Value.bool _ = Value.bool _
        congr 1
        have := HZ.out
        rw [Bool.eq_iff_iff]
        simp
        omega
      · rw [HE.out, HA.out.yes]
        simp only [Option.bind_some]
        rw [if_pos (show n ≤ 1 by have := HZ.out; omega)]
    · go_wp2
      go_ret
      refine ⟨_, _, none, rfl, rfl, .inr ⟨?_, rfl⟩, HB.out, HF.out.trans (Fr.set _)⟩
      rw [HE.out, HA.out.yes]
      simp only [Option.bind_some]
      rw [if_neg (show ¬ n ≤ 1 by have := HZ.out; omega)]
set_option maxHeartbeats 2000000 in
set_option maxRecDepth 100000 in
theorem rtext_any {rb g : Nat} {s : Option (List UInt8)} (w : World) (h : St w rb g s) :
    Calls Tryz.prog 32 #[.pointer (some ⟨rb, 0, none⟩)] w fun e w' => Rrs textP rb g isText s w e w' := by
  have HN := Hid.mk' (rnum_any w h)
  have HE := Hid.mk' (aft_bind (p := textP) (q := numP) (fun L => rfl) s)
  clear h
  go_enter Tryz.func32, Tryz.ntmps32
  go_wp2_with fail
  refine HN.out.mono ?_
  rintro e w1 ⟨n, v, s1, rfl, rfl, hA, hS, hF⟩
  obtain ⟨c1, cf⟩ := hS.flag
  have HA := Hid.mk' hA
  have HF := Hid.mk' hF
  have HB := Hid.mk' hS.bad
  cases s1 with
  | none =>
    simp only [Option.isSome_none] at c1
    clear hA hF hS
    go_wp2
    go_ret
    exact ⟨_, _, none, rfl, rfl, .inr ⟨by rw [HE.out, HA.out.no]; rfl, rfl⟩, HB.out, HF.out.trans (Fr.set _)⟩
  | some L1 =>
    obtain ⟨o, c, c0, c1, cf, hb, hc, hc2⟩ := hS.cells
    have HX : Hid (aft textP s = if n % 2 = 0 ∧ n ≤ L1.length then some (Sb (L1.take n), L1.drop n) else none) := Hid.mk' (by
      rw [HE.out, HA.out.yes]
      rfl)
    obtain ⟨m, hm⟩ : ∃ m, L1.length = m := ⟨_, rfl⟩
    have hcv : n ≤ m → (convert 22 37 (.slice (some ⟨g, o, none⟩) n c)).run Tryz.prog w1 = .ok (.string (Sb (L1.take n))) w1 := fun q => by
      have hb' : Bs w1 g o (L1.take n) := fun j hj => by
        have hj' : j < L1.length := by simp at hj; omega
        have := hb j hj'
        simp only [List.getElem_take]
        exact this
      have := conv_bs (c := c) hb' 37 Tryz.underlying37
      rw [List.length_take, Nat.min_eq_left (by omega)] at this
      exact this
    have HPS : Hid (∀ a c', (c = n ∧ a = ⟨g, o, none⟩ ∧ c' = 0) ∨ (¬ c = n ∧ a = ⟨g, o + n, none⟩ ∧ c' = c - n) → n ≤ m → St (w1.setCell ⟨rb, 0, none⟩ (.slice (some a) (m - n) c')) rb g (some (L1.drop n))) := Hid.mk' (fun a c' q hq => by
      have := hS.pass (o := o) (c := c) c0 n (by omega) a c' q
      rw [hm] at this
      exact this)
    have hlt : n < 9223372036854775808 := by
      have := HA.out.yes
      cases s with
      | none => cases this
      | some L => exact numP_lt this
    rw [hm] at c0 hc
    obtain ⟨md, hmd⟩ : ∃ md : Int, Int.tmod (n : Int) 2 = md := ⟨_, rfl⟩
    have hm2 : Hid (md = ((n % 2 : Nat) : Int)) := Hid.mk' (by rw [← hmd]; rfl)
    have HM := Hid.mk' hm
    clear hA hF hS hb hm
    by_cases h1 : n ≤ m
    · have i1 : ¬ (m : Int) < (n : Int) := by omega
      have i2 : (n : Int) ≤ (m : Int) := by omega
      have i3 : (n : Int) ≤ (c : Int) := by omega
      have hcv := hcv h1
      by_cases h2 : md = 1
      · subst h2
        go_wp2
        go_ret
        refine ⟨_, _, none, rfl, rfl, .inr ⟨?_, rfl⟩, HB.out, HF.out.trans (Fr.set _)⟩
        rw [HX.out, if_neg (fun q => by have := hm2.out; omega)]
      · have h2' : (md == 1) = false := by simp [h2]
        go_wp2
        all_goals
          go_ret
          refine ⟨_, _, some (L1.drop n), rfl, rfl, .inl ⟨_, ?_, rfl⟩, ?_, HF.out.trans (Fr.set _)⟩
          · rw [HX.out, if_pos ⟨by have := hm2.out; omega, by have := HM.out; omega⟩]
          · first
              | exact HPS.out _ _ (.inl ⟨by assumption, rfl, rfl⟩) h1
              | exact HPS.out _ _ (.inr ⟨by assumption, rfl, rfl⟩) h1
    · have i1 : (m : Int) < (n : Int) := by omega
      clear hcv
      go_wp2
      go_ret
      refine ⟨_, _, none, rfl, rfl, .inr ⟨?_, rfl⟩, HB.out, HF.out.trans (Fr.set _)⟩
      rw [HX.out, if_neg (fun q => by have := HM.out; omega)]
end Go.Proofs.YtkgjmiadgfcbnaaGreatDoor
