/- The document's reader of modules: constants. -/
import Derived.Test.YtkgjmiadgfcbnaaGreatDoorCdS
import Derived.Test.YtkgjmiadgfcbnaaGreatDoorCdE
namespace Go.Proofs.YtkgjmiadgfcbnaaGreatDoor
set_option linter.unusedVariables false
set_option linter.unusedSimpArgs false
open Go.RowKit

set_option maxHeartbeats 1000000 in
theorem rbits_any (u : Nat) (hu : u < 18446744073709551616) (w : World) : Calls Tryz.prog 55 #[.float .f64 u] w fun e w' => e = .returned (.int .u64 (if Fl.nan u then 9221120237041090560 else u : Nat)) ∧ w' = w := by
  have hn := isnan_eq u hu
  by_cases h : Fl.nan u
  · rw [if_pos h]
    rw [decide_eq_true h] at hn
    clear h
    go_enter Tryz.func55, Tryz.ntmps55
    go_wp2
    go_ret
    exact ⟨rfl, rfl⟩
  · rw [if_neg h]
    rw [decide_eq_false h] at hn
    clear h
    go_enter Tryz.func55, Tryz.ntmps55
    go_wp2
    go_ret
    exact ⟨rfl, rfl⟩
theorem constP_flag (L : List UInt8) : constP L = (flagP L).bind fun x => if x.1 then (textP x.2).map (fun y => (⟨4, 0, y.1, 0⟩, y.2)) else (bitsP x.2).map (fun y => (⟨3, y.1, ⟨#[]⟩, 0⟩, y.2)) := by
  unfold constP flagP
  cases numP L with
  | none => rfl
  | some x =>
    obtain ⟨n, R⟩ := x
    simp only [Option.bind_some]
    by_cases h0 : n = 0
    · subst h0
      simp
    · by_cases h1 : n = 1
      · subst h1
        simp
      · rw [if_neg h0, if_neg h1, if_neg (by omega)]
        rfl
theorem word_step (u b : Nat) (hu : u < 2 ^ 56) (hb : b < 256) : IntKind.u64.wrap (IntKind.u64.wrap ((u : Int) * 256) + (b : Int)) = ((u * 256 + b : Nat) : Int) := by
  have w : ∀ n : Int, 0 ≤ n → n < 2 ^ 64 → IntKind.u64.wrap n = n := fun n h0 h1 => by rw [IntKind.wrap_u64]; omega
  rw [w ((u : Int) * 256) (by omega) (by omega), w _ (by omega) (by omega)]
  omega
theorem wordP_take' (l : List UInt8) (j : Nat) (h : j < l.length) : wordP 0 (l.take (j + 1)) = wordP 0 (l.take j) * 256 + l[j].toNat := by
  rw [List.take_succ_eq_append_getElem h]
  unfold wordP
  rw [List.foldl_append]
  rfl
theorem res_boxS {rb g : Nat} {s : Option (List UInt8)} {w : World} (h : St w rb g s) (c : Array Value) (t : TypeId) : ∃ W1 bx, w.alloc (.cells c t) = W1 ∧ w.heap.size = bx ∧ St W1 rb g s ∧ Fr rb w W1 ∧ W1.heap[bx]? = some (.cells c t (0, 0)) ∧ bx ≠ rb ∧ bx ≠ g :=
  ⟨_, _, rfl, rfl, h.below lay_below, Fr.of_below lay_below, box_new, by have := h.lt; omega, by have := h.glt; omega⟩
set_option maxHeartbeats 4000000 in
set_option maxRecDepth 100000 in
theorem rconstant_any {rb g : Nat} {s : Option (List UInt8)} (w : World) (h : St w rb g s) :
    Calls Tryz.prog 34 #[.pointer (some ⟨rb, 0, none⟩)] w fun e w' => Rrs constP rb g (fun _ x v => v = .agg x.cs.toArray) s w e w' := by
  have hst : ∀ (p : Addr) (x : Nat) (md : Mode) (W : World), (store p (.float .f64 x) md).run Tryz.prog W = stored Tryz.prog W p (.float .f64 x) md := fun p x md W => run_store Tryz.prog W p _ md rfl
  obtain ⟨W1, bx, hW1, hbx, hS1, hF1, hX, n1, n2⟩ := res_boxS h #[.int .i64 0, .float .f64 0, .string ⟨#[]⟩, .int .i64 0] 83
  have HN := Hid.mk' (rflag_any W1 hS1)
  have HF0 := Hid.mk' hF1
  have HX := Hid.mk' hX
  have HT := Hid.mk' (fun s' W (hR : St W rb g s') => rtext_any W hR)
  have HBX := Hid.mk' hbx
  have HNE := Hid.mk' (And.intro n1 n2)
  have HE := Hid.mk' (aft_bind (p := constP) (q := flagP) constP_flag s)
  clear h hS1 hF1 hX n1 n2
  go_enter Tryz.func34, Tryz.ntmps34
  go_wp2_with fail
  refine HN.out.mono ?_
  rintro e w1 ⟨fl, v1, s1, rfl, rfl, hA, hS, hF⟩
  have HFa := Hid.mk' (HF0.out.trans hF)
  have HFx := Hid.mk' hF
  have HA := Hid.mk' hA
  clear hF hA
  cases fl
  · obtain ⟨y1, y2⟩ := HFx.out.box HNE.out.1 HX.out
    have z0 := y1 0 _ rfl
    have z1 := y1 1 _ rfl
    have z2 := y1 2 _ rfl
    have z3 := y1 3 _ rfl
    have hnr : rb ≠ bx := Ne.symm HNE.out.1
    have hnr2 : bx ≠ rb := HNE.out.1
    obtain ⟨c1, cf⟩ := hS.flag
    have HB := Hid.mk' hS.bad
    cases s1 with
    | none =>
      simp only [Option.isSome_none] at c1
      clear hS y1
      go_wp2
      refine bodyPost_ret (v := .agg #[.int .i64 0, .float .f64 0, .string ⟨#[]⟩, .int .i64 0]) ?_ rfl ⟨⟨0, 0, ⟨#[]⟩, 0⟩, _, none, rfl, rfl, .inr ⟨by rw [HE.out, HA.out.no]; rfl, rfl⟩, ?_, ?_⟩
      · rw [res_cell rfl]
        go_simp
      · repeat (refine St.setNew ?_ _ (Ne.symm HNE.out.1) (Ne.symm HNE.out.2))
        exact HB.out
      · repeat (refine Fr.setNew ?_ (by rw [HBX.out]; exact Nat.le_refl _) _)
        exact HFa.out.trans (Fr.set _)
    | some L1 =>
      obtain ⟨o, c, c0, c1, cf, hb, hc, hc2⟩ := hS.cells
      have HS := Hid.mk' hS
      have HC : Hid (aft constP s = (bitsP L1).map (fun y => (⟨3, y.1, ⟨#[]⟩, 0⟩, y.2))) := Hid.mk' (by rw [HE.out, HA.out.yes]; rfl)
      obtain ⟨m, hm⟩ : ∃ m, L1.length = m := ⟨_, rfl⟩
      rw [hm] at c0 hc
      have HM := Hid.mk' hm
      by_cases h8 : m < 8
      · have i8 : (m : Int) < 8 := by omega
        clear hS y1 hb hm
        go_wp2
        refine bodyPost_ret (v := .agg #[.int .i64 0, .float .f64 0, .string ⟨#[]⟩, .int .i64 0]) ?_ rfl ⟨⟨0, 0, ⟨#[]⟩, 0⟩, _, none, rfl, rfl, .inr ⟨?_, rfl⟩, ?_, ?_⟩
        · rw [res_cell rfl]
          go_simp
        · rw [HC.out]
          unfold bitsP
          rw [if_neg (by have := HM.out; omega)]
          rfl
        · repeat (refine St.setNew ?_ _ (Ne.symm HNE.out.1) (Ne.symm HNE.out.2))
          exact HB.out
        · repeat (refine Fr.setNew ?_ (by rw [HBX.out]; exact Nat.le_refl _) _)
          exact HFa.out.trans (Fr.set _)
      · have i8 : ¬ (m : Int) < 8 := by omega
        have i8' : (8 : Int) ≤ (m : Int) := by omega
        have i9 : (8 : Int) ≤ (c : Int) := by omega
        have HBS := Hid.mk' hb
        have HPS : Hid (∀ a c', (c = 8 ∧ a = ⟨g, o, none⟩ ∧ c' = 0) ∨ (¬ c = 8 ∧ a = ⟨g, o + 8, none⟩ ∧ c' = c - 8) → St (w1.setCell ⟨rb, 0, none⟩ (.slice (some a) (m - 8) c')) rb g (some (L1.drop 8))) := Hid.mk' (fun a c' q => by
          have := hS.pass (o := o) (c := c) (by rw [c0, hm]) 8 (by omega) a c' q
          rw [hm] at this
          exact this)
        have hlen : (L1.take 8).length = 8 := by simp; omega
        obtain ⟨l, hl⟩ : ∃ l, L1.take 8 = l := ⟨_, rfl⟩
        have HB8 : Hid (Bs w1 g o l) := Hid.mk' (fun j hj => by
          subst hl
          have hj' : j < L1.length := by simp at hj; omega
          have := hb j hj'
          simp only [List.getElem_take]
          exact this)
        rw [hl] at hlen
        have HL := Hid.mk' hl
        have HLN := Hid.mk' hlen
        clear hS y1 hb hm hl hlen
        go_wp2
        go_loop [3, 35] (fun s iv => ∃ (j : Nat), s = .int .u64 (wordP 0 (l.take j) : Nat) ∧ iv = .int .i64 (j : Int) ∧ j ≤ 8) (fun s iv => 8 - (intOf iv).toNat)
        case atStart => exact ⟨0, rfl, rfl, by omega⟩
        case round =>
          obtain ⟨j, rfl, rfl, hj⟩ := hrel
          by_cases hlt : j < 8
          · have c5 := HB8.out j (by rw [HLN.out]; exact hlt)
            have hw := wordP_lt (l.take j) 0
            rw [List.length_take, Nat.min_eq_left (by rw [HLN.out]; omega)] at hw
            have hp : 256 ^ j ≤ 256 ^ 7 := Nat.pow_le_pow_right (by omega) (by omega)
            have hor := word_step (wordP 0 (l.take j)) (l[j]'(by rw [HLN.out]; exact hlt)).toNat (by omega) (UInt8.toNat_lt _)
            rw [← wordP_take' l j (by rw [HLN.out]; exact hlt)] at hor
            have hbl := UInt8.toNat_lt (l[j]'(by rw [HLN.out]; exact hlt))
            obtain ⟨u, hu⟩ : ∃ u : Nat, wordP 0 (l.take (j + 1)) = u := ⟨_, rfl⟩
            rw [hu] at hor
            have HU := Hid.mk' hu
            obtain ⟨u0, hu0⟩ : ∃ u0 : Nat, wordP 0 (l.take j) = u0 := ⟨_, rfl⟩
            rw [hu0] at hor ⊢
            obtain ⟨zb, hzb⟩ : ∃ zb : Int, (((l[j]'(by rw [HLN.out]; exact hlt)).toNat : Nat) : Int) = zb := ⟨_, rfl⟩
            rw [hzb] at hor c5
            have hz0 : 0 ≤ zb := by omega
            have hz1 : zb < 256 := by omega
            have hwz : IntKind.u64.wrap zb = zb := by rw [IntKind.wrap_u64]; omega
            have i1 : (j : Int) < 8 := by omega
            clear hw hp hbl hu hu0 hzb
            go_wp2
            go_round
            case rel => exact ⟨j + 1, by rw [HU.out], by go_num, by omega⟩
            case measure => simp [intOf]; omega
          · obtain rfl : j = 8 := by omega
            have hw := wordP_lt (l.take 8) 0
            rw [List.length_take, Nat.min_eq_left (by rw [HLN.out]; omega)] at hw
            have e8 : l.take 8 = l := by rw [← HLN.out]; exact List.take_length
            rw [e8] at hw ⊢
            have HBP : Hid (bitsP L1 = if Fl.nan (wordP 0 l) ∧ wordP 0 l ≠ 9221120237041090560 then none else some (wordP 0 l, L1.drop 8)) := Hid.mk' (by
              unfold bitsP
              rw [if_pos (by have := HM.out; omega), HL.out])
            obtain ⟨u, hu⟩ : ∃ u, wordP 0 l = u := ⟨_, rfl⟩
            rw [hu] at hw HBP ⊢
            have hlt' : u < 18446744073709551616 := by simpa using hw
            have HI := Hid.mk' (fun W => rbits_any u hlt' W)
            clear hw hu e8
            by_cases hbd : Fl.nan u ∧ u ≠ 9221120237041090560
            · rw [if_pos hbd.1] at HI
              have hne2 : ((9221120237041090560 : Int) == (u : Int)) = false := by simp; omega
              have HBD := Hid.mk' hbd
              clear hbd
              go_wp2_with (go_at_call 55; refine (HI.out _).mono ?_; rintro e w1 ⟨rfl, hw1⟩; rw [hw1]; clear hw1 w1)
              all_goals
                refine bodyPost_ret (v := .agg #[.int .i64 3, .float .f64 u, .string ⟨#[]⟩, .int .i64 0]) ?_ rfl ⟨⟨3, u, ⟨#[]⟩, 0⟩, _, none, rfl, rfl, .inr ⟨by rw [HC.out, HBP.out, if_pos HBD.out]; rfl, rfl⟩, ?_, ?_⟩
                · rw [res_cell rfl]
                  go_simp
                · repeat (refine St.setNew ?_ _ (Ne.symm HNE.out.1) (Ne.symm HNE.out.2))
                  first
                    | exact (HPS.out _ _ (.inl ⟨by assumption, rfl, rfl⟩)).bad
                    | exact (HPS.out _ _ (.inr ⟨by assumption, rfl, rfl⟩)).bad
                · repeat (refine Fr.setNew ?_ (by rw [HBX.out]; exact Nat.le_refl _) _)
                  exact HFa.out.trans ((Fr.set _).trans (Fr.set _))
            · have hif : (if Fl.nan u then 9221120237041090560 else u) = u := by
                by_cases q : Fl.nan u
                · rw [if_pos q]
                  exact Classical.byContradiction fun q2 => hbd ⟨q, fun e => q2 e.symm⟩
                · rw [if_neg q]
              rw [hif] at HI
              have HBD := Hid.mk' hbd
              clear hbd hif
              go_wp2_with (go_at_call 55; refine (HI.out _).mono ?_; rintro e w1 ⟨rfl, hw1⟩; rw [hw1]; clear hw1 w1)
              all_goals
                refine bodyPost_ret (v := .agg #[.int .i64 3, .float .f64 u, .string ⟨#[]⟩, .int .i64 0]) ?_ rfl ⟨⟨3, u, ⟨#[]⟩, 0⟩, _, some (L1.drop 8), rfl, rfl, .inl ⟨_, by rw [HC.out, HBP.out, if_neg HBD.out]; rfl, rfl⟩, ?_, ?_⟩
                · rw [res_cell rfl]
                  go_simp
                · repeat (refine St.setNew ?_ _ (Ne.symm HNE.out.1) (Ne.symm HNE.out.2))
                  first
                    | exact HPS.out _ _ (.inl ⟨by assumption, rfl, rfl⟩)
                    | exact HPS.out _ _ (.inr ⟨by assumption, rfl, rfl⟩)
                · repeat (refine Fr.setNew ?_ (by rw [HBX.out]; exact Nat.le_refl _) _)
                  exact HFa.out.trans (Fr.set _)
  · have HN1 := Hid.mk' (HT.out s1 w1 hS)
    clear hS
    go_wp2_with fail
    refine HN1.out.mono ?_
    rintro e w2 ⟨x2, v2, s2, rfl, rfl, hA2, hS, hF⟩
    have HFb := Hid.mk' (HFa.out.trans hF)
    obtain ⟨y1, y2⟩ := (HFx.out.trans hF).box HNE.out.1 HX.out
    have z0 := y1 0 _ rfl
    have z1 := y1 1 _ rfl
    have z2 := y1 2 _ rfl
    have z3 := y1 3 _ rfl
    have HA2 := Hid.mk' hA2
    have HS := Hid.mk' hS
    clear hS hF hA2 y1
    go_wp2
    refine bodyPost_ret (v := .agg #[.int .i64 4, .float .f64 0, .string x2, .int .i64 0]) ?_ rfl ⟨⟨4, 0, x2, 0⟩, _, s2, rfl, rfl, ?_, ?_, ?_⟩
    · rw [res_cell rfl]
      go_simp
    · cases s1 with
      | none =>
        rcases HA2.out with ⟨L', h1, h2⟩ | ⟨h1, h2⟩
        · cases h1
        · exact .inr ⟨by rw [HE.out, HA.out.no]; rfl, h2⟩
      | some L1 =>
        rcases HA2.out with ⟨L', h1, h2⟩ | ⟨h1, h2⟩
        · refine .inl ⟨L', ?_, h2⟩
          rw [HE.out, HA.out.yes]
          have h1' : textP L1 = some (x2, L') := h1
          simp only [Option.bind_some, if_true, h1', Option.map_some]
        · refine .inr ⟨?_, h2⟩
          rw [HE.out, HA.out.yes]
          have h1' : textP L1 = none := h1
          simp only [Option.bind_some, if_true, h1', Option.map_none]
    · repeat (refine St.setNew ?_ _ (Ne.symm HNE.out.1) (Ne.symm HNE.out.2))
      exact HS.out
    · repeat (refine Fr.setNew ?_ (by rw [HBX.out]; exact Nat.le_refl _) _)
      exact HFb.out
end Go.Proofs.YtkgjmiadgfcbnaaGreatDoor
