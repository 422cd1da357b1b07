/- Blanks are those of the document: DigitsBlanks returns true, whatever the unit and the text. -/
import Derived.Test.YtjnbnejfdleocaaGreatDoorAwakeD
namespace Go.Proofs.YtjnbnejfdleocaaGreatDoor
set_option linter.unusedVariables false
open Go.RowKit Fl

theorem uns_mk (us : List Nat) (hu : ∀ u ∈ us, u < 65536) : uns ⟨(mkB us).toArray⟩ = us := by
  have hs : (⟨(mkB us).toArray⟩ : ByteArray).size / 2 = us.length := by
    show (mkB us).toArray.size / 2 = _
    simp [mkB_length]
  apply List.ext_getElem
  · rw [uns_length, hs]
  · intro i h1 h2
    rw [uns_at]
    unfold un by'
    have h3 : (⟨(mkB us).toArray⟩ : ByteArray).data.toList = mkB us := by simp
    rw [h3]
    have hk : (mkB us).drop (2 * i) = ub us[i] ++ mkB (us.drop (i + 1)) := by
      rw [← mkB_drop, List.drop_eq_getElem_cons h2]
      rfl
    have g0 : (mkB us)[2 * i]? = (ub us[i])[0]? := by
      have := congrArg (·[0]?) hk
      simp only [List.getElem?_drop, Nat.add_zero] at this
      rw [this, List.getElem?_append_left (by simp [ub])]
    have g1 : (mkB us)[2 * i + 1]? = (ub us[i])[1]? := by
      have := congrArg (·[1]?) hk
      simp only [List.getElem?_drop] at this
      rw [this, List.getElem?_append_left (by simp [ub])]
    rw [List.getD_eq_getElem?_getD, List.getD_eq_getElem?_getD, g0, g1]
    have := hu _ (List.getElem_mem h2)
    simp [ub]
    omega
theorem trim_lt (us : List Nat) (hu : ∀ u ∈ us, u < 65536) : ∀ u ∈ trimN us, u < 65536 := fun u h => hu u (List.mem_of_mem_drop (List.mem_of_mem_take h))
theorem tw_stop {p : Nat → Bool} : ∀ (l : List Nat) (h : (l.takeWhile p).length < l.length), p l[(l.takeWhile p).length] = false
  | [], h => by simp at h
  | x :: r, h => by
    cases hx : p x with
    | false => simp [hx]
    | true =>
      have e : (x :: r).takeWhile p = x :: r.takeWhile p := by simp [hx]
      have h2 : (r.takeWhile p).length < r.length := by rw [e] at h; simpa using h
      have := tw_stop r h2
      simp only [e, List.length_cons, List.getElem_cons_succ]
      exact this
theorem trim_same (l : List Nat) (h : l = [] ∨ ∃ h0 : 0 < l.length, blankB l[0] = false ∧ blankB (l[l.length - 1]'(by omega)) = false) : trimN l = l := by
  rcases h with rfl | ⟨h0, h1, h2⟩
  · rfl
  · have f0 : frontN l = 0 := takeWhile_len l 0 (by omega) (fun j _ hj => by omega) (fun _ => h1)
    have b0 : backN l = 0 := takeWhile_len l.reverse 0 (by omega) (fun j _ hj => by omega) (fun hk => by rw [List.getElem_reverse]; simpa using h2)
    unfold trimN
    rw [f0, List.drop_zero, b0]
    simp
theorem trim_trim (us : List Nat) : trimN (trimN us) = trimN us := by
  apply trim_same
  by_cases h : trimN us = []
  · exact .inl h
  · right
    have h0 := List.length_pos_iff.2 h
    refine ⟨h0, ?_, ?_⟩
    · have hF : frontN us < us.length := by
        unfold trimN at h0
        simp at h0
        omega
      have := tw_stop (p := blankB) us hF
      simp only [trimN, List.getElem_take, List.getElem_drop, Nat.add_zero]
      exact this
    · obtain ⟨d, hd⟩ : ∃ d, us.drop (frontN us) = d := ⟨_, rfl⟩
      have e : trimN us = d.take (d.length - backN d) := by unfold trimN; rw [hd]
      have hb : backN d < d.length := by
        rw [e] at h0
        simp at h0
        omega
      have hs := tw_stop (p := blankB) d.reverse (by simpa [backN] using hb)
      rw [List.getElem_reverse] at hs
      have hl : (trimN us).length = d.length - backN d := by rw [e]; simp
      have hg : (trimN us)[(trimN us).length - 1]'(by omega) = d[d.length - 1 - (d.reverse.takeWhile blankB).length]'(by unfold backN at hb; omega) := by
        simp only [e, List.getElem_take]
        congr 1
        simp
        unfold backN
        omega
      rw [hg]
      exact hs
set_option maxHeartbeats 2000000 in
set_option maxRecDepth 100000 in
theorem blanks_walk (u : Int) (s : ByteArray) (w : World) (hu : (Lit.int .u16 u).wf = true) (hs : s.size ≤ 140737488351232) (hl : Laid w) :
    Calls Tryz.prog 4 #[.int .u16 u, .string s] w fun e w' => e = .returned (.bool true) ∧ Below w.heap.size w w' := by
  have hu2 : 0 ≤ u ∧ u ≤ 65535 := by simpa [Lit.wf, IntKind.min, IntKind.max, IntKind.signed, IntKind.bits] using hu
  obtain ⟨n, rfl⟩ : ∃ n : Nat, u = n := ⟨u.toNat, by omega⟩
  have HA := Hid.mk' (fun W hW => awake_any W hW)
  have hlh : Hid (Laid w) := hl
  have hs2 : (s.size : Int) ≤ 140737488351232 := by omega
  clear hl hu
  by_cases h2 : (s.size : Int) ≤ 2000
  · have HB := Hid.mk' (fun W => blank_any n W (by omega))
    have HRB := Hid.mk' (fun W => rblank_any n W (by omega))
    have HT := Hid.mk' (fun W => trim_any s W (by omega))
    have HRT := Hid.mk' (fun W => rtrim_any s W (by omega))
    have hTs : (⟨(mkB (trimN (uns s))).toArray⟩ : ByteArray).size ≤ 2000 := by
      show (mkB (trimN (uns s))).toArray.size ≤ 2000
      have h3 : (trimN (uns s)).length ≤ (uns s).length := by
        unfold trimN
        simp
        omega
      rw [uns_length] at h3
      simp [mkB_length]
      omega
    have HTT := Hid.mk' (fun W => trim_any ⟨(mkB (trimN (uns s))).toArray⟩ W (by omega))
    rw [uns_mk _ (trim_lt _ (uns_lt s)), trim_trim] at HTT
    generalize (⟨(mkB (trimN (uns s))).toArray⟩ : ByteArray) = T at *
    generalize blankB n = bb at *
    go_enter Tryz.func4, Tryz.ntmps4
    go_wp2_with fail
    refine (HA.out _ hlh).mono ?_
    rintro e w1 ⟨rfl, b1⟩
    go_wp2_with (go_at_call 8; refine (HB.out _).mono ?_; rintro e w2 ⟨rfl, hw2⟩; rw [hw2]; clear hw2 w2)
    refine (HRB.out _).mono ?_
    rintro e w2 ⟨rfl, b2⟩
    have c2 : Below w.heap.size w w2 := b1.trans (b2.mono b1.size)
    clear b1 b2
    have hbb : (bb == bb) = true := by simp
    go_wp2_with fail
    refine (HT.out _).mono ?_
    rintro e w3 ⟨rfl, b3⟩
    have c3 : Below w.heap.size w w3 := c2.trans (b3.mono c2.size)
    clear b3 c2
    go_wp2_with fail
    refine (HRT.out _).mono ?_
    rintro e w4 ⟨rfl, b4⟩
    have c4 : Below w.heap.size w w4 := c3.trans (b4.mono c3.size)
    clear b4 c3
    go_wp2_with fail
    refine (HT.out _).mono ?_
    rintro e w5 ⟨rfl, b5⟩
    have c5 : Below w.heap.size w w5 := c4.trans (b5.mono c4.size)
    clear b5 c4
    go_wp2_with fail
    refine (HTT.out _).mono ?_
    rintro e w6 ⟨rfl, b6⟩
    have c6 : Below w.heap.size w w6 := c5.trans (b6.mono c5.size)
    clear b6 c5
    go_wp2_with fail
    refine (HT.out _).mono ?_
    rintro e w7 ⟨rfl, b7⟩
    go_wp2
    go_ret
    exact ⟨rfl, c6.trans (b7.mono c6.size)⟩
  · have h3 : 2000 < (s.size : Int) := by omega
    go_enter Tryz.func4, Tryz.ntmps4
    go_wp2_with fail
    refine (HA.out _ hlh).mono ?_
    rintro e w1 ⟨rfl, b1⟩
    go_wp2
    go_ret
    exact ⟨rfl, b1⟩
end Go.Proofs.YtjnbnejfdleocaaGreatDoor
