/- lintelref03.front, Trim: the document's blanks at both ends. -/
import Derived.Test.YtjnbnejfdleocaaGreatDoorBlank
namespace Go.Proofs.YtjnbnejfdleocaaGreatDoor
set_option linter.unusedVariables false
open Go.RowKit

def frontN (us : List Nat) : Nat := (us.takeWhile blankB).length
def backN (us : List Nat) : Nat := (us.reverse.takeWhile blankB).length
/-- Units without blanks at both ends. -/
def trimN (us : List Nat) : List Nat := (us.drop (frontN us)).take ((us.drop (frontN us)).length - backN (us.drop (frontN us)))
theorem takeWhile_len {p : Nat → Bool} : ∀ (us : List Nat) (k : Nat), k ≤ us.length → (∀ j (h : j < us.length), j < k → p us[j] = true) → (∀ h : k < us.length, p us[k] = false) → (us.takeWhile p).length = k
  | [], k, h, _, _ => by simp at h; subst h; rfl
  | x :: r, 0, _, _, h3 => by
    have := h3 (by simp)
    simp at this
    simp [this]
  | x :: r, k + 1, h, h2, h3 => by
    have hx := h2 0 (by simp) (by omega)
    simp at hx
    rw [List.takeWhile_cons, hx]
    simp only [if_true, List.length_cons]
    rw [takeWhile_len r k (by simp at h; omega) (fun j hj hjk => by have := h2 (j + 1) (by simp; omega) (by omega); simpa using this) (fun hk => by have := h3 (by simp; omega); simpa using this)]
theorem frontN_le (us : List Nat) : frontN us ≤ us.length := List.IsPrefix.length_le (List.takeWhile_prefix _)

set_option maxHeartbeats 1000000 in
set_option maxRecDepth 100000 in
theorem rfront_any (us : List Nat) (hu : ∀ u ∈ us, u < 65536) (hl : (us.length : Int) ≤ 1048576) (v : Value) (w : World) (hv : Rd w v us) :
    Calls Tryz.prog 24 #[v] w fun e w' => e = .returned (.int .i64 (frontN us : Nat)) ∧ Below w.heap.size w w' := by
  obtain ⟨x, c, rfl⟩ : ∃ x c, v = .slice x us.length c := by
    rcases hv with ⟨c, rfl, _⟩ | ⟨g, o, c, rfl, _⟩
    · exact ⟨_, _, rfl⟩
    · exact ⟨_, _, rfl⟩
  have HV := Hid.mk' hv
  clear hv
  go_enter Tryz.func24, Tryz.ntmps24
  go_wp2
  go_loopw [3] (fun v wr => ∃ k : Nat, v = .int .i64 k ∧ k ≤ us.length ∧ Hid (∀ j (h : j < us.length), j < k → blankB us[j] = true) ∧ Below w.heap.size w wr) (fun v _ => us.length - (intOf v).toNat)
  case atStart => exact ⟨0, rfl, Nat.zero_le _, fun j h hj => by omega, Below.refl _ _⟩
  case round =>
    obtain ⟨k, rfl, hk, HE, hB⟩ := hrel
    by_cases hlt : k < us.length
    · rcases HV.out.below hB with ⟨c', e1, e2⟩ | ⟨g, o, c', e1, hg, hc⟩
      · rw [e2] at hlt; simp at hlt
      · obtain ⟨rfl, rfl⟩ : x = some ⟨g, o, none⟩ ∧ c = c' := by simpa using e1
        have hcell := hc k hlt
        have i1 : (k : Int) < (us.length : Int) := by omega
        have i2 : (0 : Int) ≤ (k : Int) := by omega
        have HBl := Hid.mk' (fun W => rblank_any us[k] W (hu _ (List.getElem_mem hlt)))
        obtain ⟨z, hz⟩ : ∃ z : Int, ((us[k] : Nat) : Int) = z := ⟨_, rfl⟩
        rw [hz] at hcell HBl
        clear hz hc e1
        by_cases hb : blankB us[k] = true
        · have HN : Hid (∀ j (h : j < us.length), j < k + 1 → blankB us[j] = true) := fun j h hj => by
            by_cases e : j = k
            · subst e; exact hb
            · exact HE.out j h (by omega)
          rw [hb] at HBl
          clear hb
          go_wp2_with (go_at_call 9; refine (HBl.out _).mono ?_; rintro e w3 ⟨rfl, b3⟩)
          go_roundw
          case rel => exact ⟨k + 1, by go_num, by omega, HN, hB.trans (b3.mono hB.size)⟩
          case measure => simp [intOf]; omega
        · have hb' : blankB us[k] = false := by simpa using hb
          have HF : Hid (frontN us = k) := takeWhile_len us k hk HE.out (fun h => hb')
          rw [hb'] at HBl
          clear hb hb'
          go_wp2_with (go_at_call 9; refine (HBl.out _).mono ?_; rintro e w3 ⟨rfl, b3⟩)
          go_ret
          exact ⟨by rw [HF.out]; rfl, hB.trans (b3.mono hB.size)⟩
    · obtain rfl : k = us.length := by omega
      have HF : Hid (frontN us = us.length) := takeWhile_len us _ hk HE.out (fun h => by omega)
      go_wp2
      go_ret
      exact ⟨by rw [HF.out]; rfl, hB⟩

def sliceLen : Value → Nat
  | .slice _ n _ => n
  | _ => 0
theorem trim_end {us d : List Nat} {m : Nat} (hd : us.drop (frontN us) = d) (hm : m ≤ d.length) (h0 : 0 < m) (h1 : ∀ h : m - 1 < d.length, blankB d[m - 1] = false) (h2 : ∀ j (h : j < d.length), m ≤ j → blankB d[j] = true) : trimN us = d.take m := by
  have hb : backN d = d.length - m := by
    unfold backN
    refine takeWhile_len _ _ (by simp) (fun j h hj => ?_) (fun h => ?_)
    · rw [List.getElem_reverse]
      simp at h
      exact h2 _ _ (by omega)
    · rw [List.getElem_reverse]
      simp at h
      have := h1 (by omega)
      have e : d.length - 1 - (d.length - m) = m - 1 := by omega
      simp only [e]
      exact this
  unfold trimN
  rw [hd, hb, show d.length - (d.length - m) = m by omega]
theorem trim_none {us d : List Nat} (hd : us.drop (frontN us) = d) (h2 : ∀ j (h : j < d.length), 0 ≤ j → blankB d[j] = true) : trimN us = d.take 0 := by
  have hb : backN d = d.length := by
    unfold backN
    refine takeWhile_len _ _ (by simp) (fun j h hj => ?_) (fun h => by simp at h)
    rw [List.getElem_reverse]
    exact h2 _ _ (by omega)
  unfold trimN
  rw [hd, hb, Nat.sub_self]

set_option maxHeartbeats 4000000 in
set_option maxRecDepth 100000 in
theorem rtrim_any (s : ByteArray) (w : World) (hs : (s.size : Int) ≤ 1048576) :
    Calls Tryz.prog 11 #[.string s] w fun e w' => e = .returned (.string ⟨(mkB (trimN (uns s))).toArray⟩) ∧ Below w.heap.size w w' := by
  have hlen := uns_length s
  have hfl := frontN_le (uns s)
  go_enter Tryz.func11, Tryz.ntmps11
  go_wp2_with fail
  refine (runits_any s _ hs).mono ?_
  rintro e w1 ⟨v1, rfl, o1, b1⟩
  have HR := Hid.mk' (Rd.own o1)
  have HF := Hid.mk' (rfront_any (uns s) (uns_lt s) (by rw [hlen]; omega) v1 w1 HR.out)
  obtain ⟨x1, c1, rfl, hx⟩ := own_slice' o1
  have hcap : s.size / 2 ≤ c1 := by
    rcases o1.2 with ⟨e, h⟩ | ⟨g, cap, cur, e, _, _, h, _⟩
    · omega
    · simp at e; omega
  have hcm : (c1 : Int) ≤ 9223372036854775807 := by
    rcases o1.2 with ⟨e, _⟩ | ⟨g, cap, cur, e, _, _, _, h, _⟩
    · simp at e; omega
    · simp at e; unfold maxLen at h; omega
  obtain ⟨f, hf⟩ : ∃ f, frontN (uns s) = f := ⟨_, rfl⟩
  rw [hf] at HF hfl
  rw [hlen] at hfl
  have f1 : (0 : Int) ≤ (f : Int) := by omega
  have f2 : (f : Int) ≤ ((s.size / 2 : Nat) : Int) := by omega
  have f3 : ((s.size / 2 : Nat) : Int) ≤ (c1 : Int) := by omega
  have HX := Hid.mk' hx
  have HFE := Hid.mk' hf
  clear hx hf
  obtain ⟨n, hn⟩ : ∃ n, s.size / 2 = n := ⟨_, rfl⟩
  rw [hn] at HF hfl f2 f3 hcap hlen HX o1 HR ⊢
  go_wp2_with fail
  refine HF.out.mono ?_
  rintro e w2 ⟨rfl, b2⟩
  have b12 : Below w.heap.size w w2 := b1.trans (b2.mono b1.size)
  have hnl : (n : Int) ≤ 1048576 := by omega
  obtain ⟨d, hd⟩ : ∃ d, (uns s).drop f = d := ⟨_, rfl⟩
  have hdl : d.length = n - f := by rw [← hd, List.length_drop, hlen]
  have HU : Hid (∀ q ∈ d, q < 65536) := fun q hq => uns_lt s q (by rw [← hd] at hq; exact List.mem_of_mem_drop hq)
  have HDE : Hid ((uns s).drop (frontN (uns s)) = d) := by
    show _ = _
    rw [HFE.out, hd]
  have HR2 := Hid.mk' (HR.out.below b2)
  rcases HX.out with ⟨hx1, hx2, hx3⟩ | ⟨g, hx1, hg⟩
  · have hf0 : f = 0 := by omega
    have HD : Hid (Rd w2 (.slice none 0 0) d) := .inl ⟨0, by rw [hdl]; simp; omega, List.eq_nil_of_length_eq_zero (by omega)⟩
    clear HX HR HR2 HF hd o1 hn HFE
    subst hx1 hx2 hx3 hf0
    go_wp2
    go_loopw [3] (fun v wr => ∃ (m : Nat) (x : Option Addr) (c : Nat), v = .slice x m c ∧ m ≤ d.length ∧ m ≤ c ∧ (c : Int) ≤ 9223372036854775807 ∧ Hid (Rd wr (.slice x m c) (d.take m)) ∧ Hid (∀ j (h : j < d.length), m ≤ j → blankB d[j] = true) ∧ Below w.heap.size w wr) (fun v _ => sliceLen v)
    case atStart => exact ⟨0, _, 0, rfl, by omega, by omega, by omega, by rw [List.take_of_length_le (by omega)]; exact HD, fun j h hj => by omega, b12⟩
    case round =>
      obtain ⟨m, x, c, rfl, hm, hmc, hcm2, HV, HE, hB⟩ := hrel
      have htl : (d.take m).length = m := by rw [List.length_take]; omega
      by_cases hlt : 0 < m
      · rcases HV.out with ⟨c', e1, e2⟩ | ⟨g', o, c', e1, hg', hc⟩
        · rw [e2] at htl; simp at htl; omega
        · obtain ⟨rfl, hmm, rfl⟩ : x = some ⟨g', o, none⟩ ∧ m = (d.take m).length ∧ c = c' := by simpa using e1
          have hcell := hc (m - 1) (by omega)
          rw [List.getElem_take] at hcell
          have i1 : (0 : Int) < (m : Int) := by omega
          have i2 : (m : Int) - 1 < (m : Int) := by omega
          have i3 : (0 : Int) ≤ (m : Int) - 1 := by omega
          have i4 : ((m : Int) - 1).toNat = m - 1 := by omega
          have i5 : (m : Int) - 1 ≤ (c : Int) := by omega
          have HBl := Hid.mk' (fun W => rblank_any (d[m - 1]'(by omega)) W (HU.out _ (List.getElem_mem _)))
          obtain ⟨bl, hbl⟩ : ∃ bl, blankB (d[m - 1]'(by omega)) = bl := ⟨_, rfl⟩
          rw [hbl] at HBl
          obtain ⟨z, hz⟩ : ∃ z : Int, ((d[m - 1]'(by omega) : Nat) : Int) = z := ⟨_, rfl⟩
          rw [hz] at hcell HBl
          have HBL := Hid.mk' hbl
          have HR1 : Hid (∀ w', Below wr.heap.size wr w' → Rd w' (.slice (some ⟨g', o, none⟩) (m - 1) c) (d.take (m - 1))) := fun w' hb => by
            have hl1 : (d.take (m - 1)).length = m - 1 := by rw [List.length_take]; omega
            refine .inr ⟨g', o, c, by rw [hl1], Nat.lt_of_lt_of_le hg' hb.size, fun j hj => ?_⟩
            rw [hl1] at hj
            have := (hb.cell (p := ⟨g', o + j, none⟩) hg').trans (hc j (by omega))
            rw [this, List.getElem_take, List.getElem_take]
          clear hz hc e1 hbl hmm
          cases bl with
          | true =>
            go_wp2_with fail
            refine (HBl.out _).mono ?_
            rintro e w3 ⟨rfl, b3⟩
            go_wp2
            refine ⟨⟨m - 1, _, c, rfl, by omega, by omega, hcm2, HR1.out w3 b3, fun j h hj => ?_, hB.trans (b3.mono hB.size)⟩, ?_⟩
            · by_cases e : j = m - 1
              · subst e; exact HBL.out
              · exact HE.out j h (by omega)
            · simp only [sliceLen]; omega
          | false =>
            have HT : Hid (trimN (uns s) = d.take m) := trim_end HDE.out hm hlt (fun h => HBL.out) HE.out
            have HMk := Hid.mk' (fun w' (hb : Below wr.heap.size wr w') => rmake_any (d.take m) (fun q hq => HU.out q (List.mem_of_mem_take hq)) (by omega) _ w' (HV.out.below hb))
            go_wp2_with fail
            refine (HBl.out _).mono ?_
            rintro e w3 ⟨rfl, b3⟩
            go_wp2_with fail
            refine (HMk.out w3 b3).mono ?_
            rintro e w4 ⟨rfl, b4⟩
            go_wp2
            go_ret
            exact ⟨by rw [HT.out]; rfl, (hB.trans (b3.mono hB.size)).trans (b4.mono (Nat.le_trans hB.size b3.size))⟩
      · obtain rfl : m = 0 := by omega
        have HT : Hid (trimN (uns s) = d.take 0) := trim_none HDE.out HE.out
        have HMk := Hid.mk' (rmake_any (d.take 0) (fun q hq => by simp at hq) (by simp) _ wr HV.out)
        go_wp2_with fail
        refine HMk.out.mono ?_
        rintro e w4 ⟨rfl, b4⟩
        go_wp2
        go_ret
        exact ⟨by rw [HT.out]; rfl, hB.trans (b4.mono hB.size)⟩
  · have hcc : ∀ (j : Nat) (h : j < n), w2.cell? ⟨g, j, none⟩ = some (.int .u16 ((uns s)[j]'(by omega) : Nat)) := by
      rcases HR2.out with ⟨c', e1, e2⟩ | ⟨g', o, c', e1, hg', hc⟩
      · intro j h
        have : (uns s).length = 0 := by rw [e2]; rfl
        omega
      · intro j h
        have e3 : g' = g ∧ o = 0 := by
          rw [hx1] at e1
          simp at e1
          omega
        have := hc j (by omega)
        rw [e3.1, e3.2, Nat.zero_add] at this
        exact this
    have hgl : g < w2.heap.size := by
      have h2 := (o1.lt g (by rw [hx1]; rfl)).2
      exact Nat.lt_of_lt_of_le h2 b2.size
    have HD2 : Hid (∀ k o, n - f = 0 → Rd w2 (.slice (some ⟨g, o, none⟩) (n - f) k) d) := fun k o h0 => .inr ⟨g, o, k, by rw [hdl], hgl, fun j hj => by omega⟩
    have HD3 : Hid (Rd w2 (.slice (some ⟨g, f, none⟩) (n - f) (c1 - f)) d) := .inr ⟨g, f, c1 - f, by rw [hdl], hgl, fun j hj => by
      rw [hcc (f + j) (by omega)]
      simp [← hd]⟩
    clear HX HR HR2 HF hd hn HFE hcc o1
    subst hx1
    go_wp2
    · have HD := Hid.mk' (HD2.out 0 0 (by omega))
      clear HD2 HD3
      go_loopw [3] (fun v wr => ∃ (m : Nat) (x : Option Addr) (c : Nat), v = .slice x m c ∧ m ≤ d.length ∧ m ≤ c ∧ (c : Int) ≤ 9223372036854775807 ∧ Hid (Rd wr (.slice x m c) (d.take m)) ∧ Hid (∀ j (h : j < d.length), m ≤ j → blankB d[j] = true) ∧ Below w.heap.size w wr) (fun v _ => sliceLen v)
      case atStart => exact ⟨(n - f), _, 0, rfl, by omega, by omega, by omega, by rw [List.take_of_length_le (by omega)]; exact HD, fun j h hj => by omega, b12⟩
      case round =>
        obtain ⟨m, x, c, rfl, hm, hmc, hcm2, HV, HE, hB⟩ := hrel
        have htl : (d.take m).length = m := by rw [List.length_take]; omega
        by_cases hlt : 0 < m
        · rcases HV.out with ⟨c', e1, e2⟩ | ⟨g', o, c', e1, hg', hc⟩
          · rw [e2] at htl; simp at htl; omega
          · obtain ⟨rfl, hmm, rfl⟩ : x = some ⟨g', o, none⟩ ∧ m = (d.take m).length ∧ c = c' := by simpa using e1
            have hcell := hc (m - 1) (by omega)
            rw [List.getElem_take] at hcell
            have i1 : (0 : Int) < (m : Int) := by omega
            have i2 : (m : Int) - 1 < (m : Int) := by omega
            have i3 : (0 : Int) ≤ (m : Int) - 1 := by omega
            have i4 : ((m : Int) - 1).toNat = m - 1 := by omega
            have i5 : (m : Int) - 1 ≤ (c : Int) := by omega
            have HBl := Hid.mk' (fun W => rblank_any (d[m - 1]'(by omega)) W (HU.out _ (List.getElem_mem _)))
            obtain ⟨bl, hbl⟩ : ∃ bl, blankB (d[m - 1]'(by omega)) = bl := ⟨_, rfl⟩
            rw [hbl] at HBl
            obtain ⟨z, hz⟩ : ∃ z : Int, ((d[m - 1]'(by omega) : Nat) : Int) = z := ⟨_, rfl⟩
            rw [hz] at hcell HBl
            have HBL := Hid.mk' hbl
            have HR1 : Hid (∀ w', Below wr.heap.size wr w' → Rd w' (.slice (some ⟨g', o, none⟩) (m - 1) c) (d.take (m - 1))) := fun w' hb => by
              have hl1 : (d.take (m - 1)).length = m - 1 := by rw [List.length_take]; omega
              refine .inr ⟨g', o, c, by rw [hl1], Nat.lt_of_lt_of_le hg' hb.size, fun j hj => ?_⟩
              rw [hl1] at hj
              have := (hb.cell (p := ⟨g', o + j, none⟩) hg').trans (hc j (by omega))
              rw [this, List.getElem_take, List.getElem_take]
            clear hz hc e1 hbl hmm
            cases bl with
            | true =>
              go_wp2_with fail
              refine (HBl.out _).mono ?_
              rintro e w3 ⟨rfl, b3⟩
              go_wp2
              refine ⟨⟨m - 1, _, c, rfl, by omega, by omega, hcm2, HR1.out w3 b3, fun j h hj => ?_, hB.trans (b3.mono hB.size)⟩, ?_⟩
              · by_cases e : j = m - 1
                · subst e; exact HBL.out
                · exact HE.out j h (by omega)
              · simp only [sliceLen]; omega
            | false =>
              have HT : Hid (trimN (uns s) = d.take m) := trim_end HDE.out hm hlt (fun h => HBL.out) HE.out
              have HMk := Hid.mk' (fun w' (hb : Below wr.heap.size wr w') => rmake_any (d.take m) (fun q hq => HU.out q (List.mem_of_mem_take hq)) (by omega) _ w' (HV.out.below hb))
              go_wp2_with fail
              refine (HBl.out _).mono ?_
              rintro e w3 ⟨rfl, b3⟩
              go_wp2_with fail
              refine (HMk.out w3 b3).mono ?_
              rintro e w4 ⟨rfl, b4⟩
              go_wp2
              go_ret
              exact ⟨by rw [HT.out]; rfl, (hB.trans (b3.mono hB.size)).trans (b4.mono (Nat.le_trans hB.size b3.size))⟩
        · obtain rfl : m = 0 := by omega
          have HT : Hid (trimN (uns s) = d.take 0) := trim_none HDE.out HE.out
          have HMk := Hid.mk' (rmake_any (d.take 0) (fun q hq => by simp at hq) (by simp) _ wr HV.out)
          go_wp2_with fail
          refine HMk.out.mono ?_
          rintro e w4 ⟨rfl, b4⟩
          go_wp2
          go_ret
          exact ⟨by rw [HT.out]; rfl, hB.trans (b4.mono hB.size)⟩
    · have HD := HD3
      clear HD2 HD3
      go_loopw [3] (fun v wr => ∃ (m : Nat) (x : Option Addr) (c : Nat), v = .slice x m c ∧ m ≤ d.length ∧ m ≤ c ∧ (c : Int) ≤ 9223372036854775807 ∧ Hid (Rd wr (.slice x m c) (d.take m)) ∧ Hid (∀ j (h : j < d.length), m ≤ j → blankB d[j] = true) ∧ Below w.heap.size w wr) (fun v _ => sliceLen v)
      case atStart => exact ⟨(n - f), _, (c1 - f), rfl, by omega, by omega, by omega, by rw [List.take_of_length_le (by omega)]; exact HD, fun j h hj => by omega, b12⟩
      case round =>
        obtain ⟨m, x, c, rfl, hm, hmc, hcm2, HV, HE, hB⟩ := hrel
        have htl : (d.take m).length = m := by rw [List.length_take]; omega
        by_cases hlt : 0 < m
        · rcases HV.out with ⟨c', e1, e2⟩ | ⟨g', o, c', e1, hg', hc⟩
          · rw [e2] at htl; simp at htl; omega
          · obtain ⟨rfl, hmm, rfl⟩ : x = some ⟨g', o, none⟩ ∧ m = (d.take m).length ∧ c = c' := by simpa using e1
            have hcell := hc (m - 1) (by omega)
            rw [List.getElem_take] at hcell
            have i1 : (0 : Int) < (m : Int) := by omega
            have i2 : (m : Int) - 1 < (m : Int) := by omega
            have i3 : (0 : Int) ≤ (m : Int) - 1 := by omega
            have i4 : ((m : Int) - 1).toNat = m - 1 := by omega
            have i5 : (m : Int) - 1 ≤ (c : Int) := by omega
            have HBl := Hid.mk' (fun W => rblank_any (d[m - 1]'(by omega)) W (HU.out _ (List.getElem_mem _)))
            obtain ⟨bl, hbl⟩ : ∃ bl, blankB (d[m - 1]'(by omega)) = bl := ⟨_, rfl⟩
            rw [hbl] at HBl
            obtain ⟨z, hz⟩ : ∃ z : Int, ((d[m - 1]'(by omega) : Nat) : Int) = z := ⟨_, rfl⟩
            rw [hz] at hcell HBl
            have HBL := Hid.mk' hbl
            have HR1 : Hid (∀ w', Below wr.heap.size wr w' → Rd w' (.slice (some ⟨g', o, none⟩) (m - 1) c) (d.take (m - 1))) := fun w' hb => by
              have hl1 : (d.take (m - 1)).length = m - 1 := by rw [List.length_take]; omega
              refine .inr ⟨g', o, c, by rw [hl1], Nat.lt_of_lt_of_le hg' hb.size, fun j hj => ?_⟩
              rw [hl1] at hj
              have := (hb.cell (p := ⟨g', o + j, none⟩) hg').trans (hc j (by omega))
              rw [this, List.getElem_take, List.getElem_take]
            clear hz hc e1 hbl hmm
            cases bl with
            | true =>
              go_wp2_with fail
              refine (HBl.out _).mono ?_
              rintro e w3 ⟨rfl, b3⟩
              go_wp2
              refine ⟨⟨m - 1, _, c, rfl, by omega, by omega, hcm2, HR1.out w3 b3, fun j h hj => ?_, hB.trans (b3.mono hB.size)⟩, ?_⟩
              · by_cases e : j = m - 1
                · subst e; exact HBL.out
                · exact HE.out j h (by omega)
              · simp only [sliceLen]; omega
            | false =>
              have HT : Hid (trimN (uns s) = d.take m) := trim_end HDE.out hm hlt (fun h => HBL.out) HE.out
              have HMk := Hid.mk' (fun w' (hb : Below wr.heap.size wr w') => rmake_any (d.take m) (fun q hq => HU.out q (List.mem_of_mem_take hq)) (by omega) _ w' (HV.out.below hb))
              go_wp2_with fail
              refine (HBl.out _).mono ?_
              rintro e w3 ⟨rfl, b3⟩
              go_wp2_with fail
              refine (HMk.out w3 b3).mono ?_
              rintro e w4 ⟨rfl, b4⟩
              go_wp2
              go_ret
              exact ⟨by rw [HT.out]; rfl, (hB.trans (b3.mono hB.size)).trans (b4.mono (Nat.le_trans hB.size b3.size))⟩
        · obtain rfl : m = 0 := by omega
          have HT : Hid (trimN (uns s) = d.take 0) := trim_none HDE.out HE.out
          have HMk := Hid.mk' (rmake_any (d.take 0) (fun q hq => by simp at hq) (by simp) _ wr HV.out)
          go_wp2_with fail
          refine HMk.out.mono ?_
          rintro e w4 ⟨rfl, b4⟩
          go_wp2
          go_ret
          exact ⟨by rw [HT.out]; rfl, hB.trans (b4.mono hB.size)⟩
end Go.Proofs.YtjnbnejfdleocaaGreatDoor
