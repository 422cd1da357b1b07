/- lintelref05.list, Words, Word, Name. -/
import Derived.Test.YtllglkegdlcgcaaGreatDoorRWd
import Derived.Test.YtllglkegdlcgcaaGreatDoorSb
import Derived.Deep.Cut
namespace Go.Proofs.YtllglkegdlcgcaaGreatDoor
set_option linter.unusedVariables false
open Go.RowKit

theorem enc_ascii' (c : UInt8) (h : c.toNat < 128) : Utf8.encode (c.toNat : Int) = Sb [c] := by
  unfold Utf8.encode
  have hv : Utf8.valid (c.toNat : Int) = true := by unfold Utf8.valid; simp; omega
  simp only [hv, if_true]
  simp [h, Sb]
theorem ne32 {c : UInt8} (h : ¬ c = 32) : ¬ ((c.toNat : Int) = 32) := fun e => by
  apply h
  have h2 : c.toNat = (32 : UInt8).toNat := by show _ = 32; omega
  exact UInt8.toNat_inj.1 h2
theorem eq32 {c : UInt8} (h : c = 32) : (c.toNat : Int) = 32 := by rw [h]; rfl
/-- What stands between blanks. -/
def spl : List UInt8 → List UInt8 → List (List UInt8)
  | [], ws => if ws.isEmpty then [] else [ws]
  | c :: r, ws => if c == 32 then (if ws.isEmpty then spl r [] else ws :: spl r []) else spl r (ws ++ [c])
def txt (l : List UInt8) : ByteArray := Sb l
theorem Sb_toList (l : List UInt8) : (Sb l).toList = l := by rw [ByteArray.toList_eq]; exact Sb_list l
theorem infoStr : (Tryz.prog.info? 9).map (fun i => (i.zero, i.size, i.bytes)) = some (some (.string ⟨#[]⟩), 1, 16) := by kernel_rfl
set_option maxHeartbeats 2000000 in
set_option maxRecDepth 100000 in
theorem list_any (s : ByteArray) (w : World) (hs : s.size ≤ 10000) (ha : ∀ i (h : i < s.size), s[i].toNat < 128) :
    Calls Tryz.prog 16 #[.string s] w fun e w' => ∃ v, e = .returned v ∧ RdS w' v ((spl s.data.toList []).map Sb) ∧ Below w.heap.size w w' := by
  obtain ⟨i0, hi0, hz0, hz1, hz2⟩ := info_parts infoStr
  obtain ⟨R, hR⟩ : ∃ R, spl s.data.toList [] = R := ⟨_, rfl⟩
  rw [hR]
  have HR := Hid.mk' hR
  have HA := Hid.mk' ha
  clear hR ha
  go_enter Tryz.func16, Tryz.ntmps16
  go_wp2_with fail
  go_loopw [3, 4, 5] (fun v3 v4 v5 wr => ∃ (i : Nat) (ws : List UInt8) (out : List (List UInt8)), v4 = .string (Sb ws) ∧ v5 = .int .i64 i ∧ i ≤ s.size + 1 ∧ ws.length ≤ i ∧ out.length ≤ i ∧ wr.ownsRow w.heap.size 9 1 v3 out.length ((out.map Sb).map Value.string) ∧ Below w.heap.size w wr ∧ Hid ((i ≤ s.size ∧ out ++ spl (s.data.toList.drop i) ws = R) ∨ (i = s.size + 1 ∧ out = R))) (fun _ _ v5 _ => s.size + 1 - (intOf v5).toNat)
  case atStart => exact ⟨0, [], [], rfl, rfl, Nat.zero_le _, Nat.le_refl _, Nat.le_refl _, World.ownsRow_nil _ _ _ _, Below.refl _ _, Hid.mk' (.inl ⟨Nat.zero_le _, by rw [List.drop_zero, List.nil_append]; exact HR.out⟩)⟩
  case round =>
    clear HR
    obtain ⟨i, ws, out, rfl, rfl, hi, hwl, hol, hown, hbw, HR⟩ := hrel
    have hBW : w.heap.size ≤ wr.heap.size := hbw.size
    by_cases hend : i = s.size + 1
    · subst hend
      have zi : ¬ ((s.size : Int) + 1 ≤ (s.size : Int)) := by omega
      have HF : Hid (out = R) := Hid.mk' (by rcases HR.out with ⟨h, _⟩ | ⟨_, h⟩; omega; exact h)
      go_wp2
      go_ret
      refine ⟨_, rfl, ?_, hbw⟩
      rw [← HF.out]
      exact RdS.own (by rw [List.length_map]; exact hown)
    · have hle : i ≤ s.size := by omega
      have HE : Hid (out ++ spl (s.data.toList.drop i) ws = R) := Hid.mk' (by rcases HR.out with ⟨_, h⟩ | ⟨h, _⟩; exact h; omega)
      have zi : (i : Int) ≤ (s.size : Int) := by omega
      clear HR
      by_cases hlt : i < s.size
      · have i1 : (i : Int) < (s.size : Int) := by omega
        have i2 : (0 : Int) ≤ (i : Int) := by omega
        have henc := enc_ascii' s[i] (HA.out i hlt)
        have hdr := list_drop s i hlt
        have HE2 : Hid (out ++ (if s[i] == 32 then (if ws.isEmpty then spl (s.data.toList.drop (i + 1)) [] else ws :: spl (s.data.toList.drop (i + 1)) []) else spl (s.data.toList.drop (i + 1)) (ws ++ [s[i]])) = R) := Hid.mk' (by rw [← HE.out, hdr, spl])
        clear HE hdr
        obtain ⟨cb, hcb⟩ : ∃ cb, ((s[i].toNat : Int) != 32) = cb := ⟨_, rfl⟩
        have h32 : (s[i] == 32) = !cb := by
          rw [← hcb]
          by_cases h : s[i] = 32
          · have e := eq32 h
            have e1 : (s[i] == 32) = true := by rw [beq_iff_eq]; exact h
            have e2 : ((s[i].toNat : Int) != 32) = false := by rw [bne_eq_false_iff_eq]; exact e
            rw [e1, e2]; rfl
          · have e := ne32 h
            have e1 : (s[i] == 32) = false := by rw [beq_eq_false_iff_ne]; exact h
            have e2 : ((s[i].toNat : Int) != 32) = true := by rw [bne_iff_ne]; exact e
            rw [e1, e2]; rfl
        rw [h32] at HE2
        have HCB := Hid.mk' hcb
        clear h32 hcb
        go_upto_if 21 with fail
        rw [HCB.out]
        cases cb
        · have HE3 : Hid (out ++ (if ws.isEmpty then spl (s.data.toList.drop (i + 1)) [] else ws :: spl (s.data.toList.drop (i + 1)) []) = R) := Hid.mk' (by simpa using HE2.out)
          clear HE2 henc
          obtain ⟨we, hww⟩ : ∃ we, ws.isEmpty = we := ⟨_, rfl⟩
          cases we
          · have hwe : (Sb ws).toList.isEmpty = false := by rw [Sb_toList]; exact hww
            have HF : Hid (out ++ [ws] ++ spl (s.data.toList.drop (i + 1)) [] = R) := Hid.mk' (by have := HE3.out; rw [hww] at this; simpa using this)
            clear HE3
            go_wp2_with (at_builtin; refine wpList_append_own _ rfl _ _ 33 rfl w.heap.size 9 i0 (.string ⟨#[]⟩) 1 16 Tryz.underlying33 hi0 hz0 hz1 hz2 rfl (by decide) _ _ _ rfl (hown.alloc _) ⟨wr.heap.size, 0, none⟩ 1 1 [.string (Sb ws)] rfl rfl (cells_new _ _ _) (by simp [Value.oneCell']) (by unfold maxLen; omega) (by omega) (by simp; omega) ?_; intro v1 w1 o1 g1 _)
            have b1 : Below w.heap.size w w1 := hbw.trans (kept_append hown (grown_of_alloc g1) hBW).1
            have o2 : w1.ownsRow w.heap.size 9 1 v1 (out ++ [ws]).length (((out ++ [ws]).map Sb).map Value.string) := by simpa using o1
            clear o1 g1
            go_roundw
            case rel => exact ⟨i + 1, [], out ++ [ws], rfl, by go_num, by omega, by simp, by simp; omega, o2, b1, Hid.mk' (.inl ⟨by omega, HF.out⟩)⟩
            case measure => simp [intOf] <;> omega
          · have hwe : (Sb ws).toList.isEmpty = true := by rw [Sb_toList]; exact hww
            have HF : Hid (out ++ spl (s.data.toList.drop (i + 1)) [] = R) := Hid.mk' (by have := HE3.out; rw [hww] at this; simpa using this)
            clear HE3
            go_wp2
            go_roundw
            case rel => exact ⟨i + 1, [], out, rfl, by go_num, by omega, by simp, by omega, hown, hbw, Hid.mk' (.inl ⟨by omega, HF.out⟩)⟩
            case measure => simp [intOf] <;> omega
        · have HF : Hid (out ++ spl (s.data.toList.drop (i + 1)) (ws ++ [s[i]]) = R) := Hid.mk' (by simpa using HE2.out)
          have hwz : ((Sb ws).size : Int) ≤ 20000 := by rw [Sb_size]; omega
          have hap : Sb ws ++ Sb [s[i]] = Sb (ws ++ [s[i]]) := Sb_append _ _
          have hz1' : ((Sb [s[i]]).size : Int) = 1 := by rw [Sb_size]; rfl
          clear HE2
          go_wp2
          go_roundw
          case rel => exact ⟨i + 1, ws ++ [s[i]], out, rfl, by go_num, by omega, by simp; omega, by omega, hown, hbw, Hid.mk' (.inl ⟨by omega, HF.out⟩)⟩
          case measure => simp [intOf] <;> omega
      · obtain rfl : i = s.size := by omega
        have i1 : ¬ ((s.size : Int) < (s.size : Int)) := by omega
        have HE3 : Hid (out ++ (if ws.isEmpty then [] else [ws]) = R) := Hid.mk' (by rw [← HE.out, List.drop_of_length_le (by simp), spl])
        clear HE
        obtain ⟨we, hww⟩ : ∃ we, ws.isEmpty = we := ⟨_, rfl⟩
        cases we
        · have hwe : (Sb ws).toList.isEmpty = false := by rw [Sb_toList]; exact hww
          have HF : Hid (out ++ [ws] ++ [] = R) := Hid.mk' (by have := HE3.out; rw [hww] at this; simpa using this)
          clear HE3
          go_wp2_with (at_builtin; refine wpList_append_own _ rfl _ _ 33 rfl w.heap.size 9 i0 (.string ⟨#[]⟩) 1 16 Tryz.underlying33 hi0 hz0 hz1 hz2 rfl (by decide) _ _ _ rfl (hown.alloc _) ⟨wr.heap.size, 0, none⟩ 1 1 [.string (Sb ws)] rfl rfl (cells_new _ _ _) (by simp [Value.oneCell']) (by unfold maxLen; omega) (by omega) (by simp; omega) ?_; intro v1 w1 o1 g1 _)
          have b1 : Below w.heap.size w w1 := hbw.trans (kept_append hown (grown_of_alloc g1) hBW).1
          have o2 : w1.ownsRow w.heap.size 9 1 v1 (out ++ [ws]).length (((out ++ [ws]).map Sb).map Value.string) := by simpa using o1
          clear o1 g1
          go_roundw
          case rel => exact ⟨s.size + 1, [], out ++ [ws], rfl, by go_num, by omega, by simp, by simp; omega, o2, b1, Hid.mk' (.inr ⟨rfl, by simpa using HF.out⟩)⟩
          case measure => simp [intOf] <;> omega
        · have hwe : (Sb ws).toList.isEmpty = true := by rw [Sb_toList]; exact hww
          have HF : Hid (out ++ [] = R) := Hid.mk' (by have := HE3.out; rw [hww] at this; simpa using this)
          clear HE3
          go_wp2
          go_roundw
          case rel => exact ⟨s.size + 1, [], out, rfl, by go_num, by omega, by simp, by omega, hown, hbw, Hid.mk' (.inr ⟨rfl, by simpa using HF.out⟩)⟩
          case measure => simp [intOf] <;> omega
def wordsT : List UInt8 := [98, 114, 101, 97, 107, 32, 99, 97, 115, 101, 32, 99, 97, 116, 99, 104, 32, 99, 108, 97, 115, 115, 32, 99, 111, 110, 115, 116, 32, 99, 111, 110, 116, 105, 110, 117, 101, 32, 100, 101, 98, 117, 103, 103, 101, 114, 32, 100, 101, 102, 97, 117, 108, 116, 32, 100, 101, 108, 101, 116, 101, 32, 100, 111, 32, 101, 108, 115, 101, 32, 101, 110, 117, 109, 32, 101, 120, 112, 111, 114, 116, 32, 101, 120, 116, 101, 110, 100, 115, 32, 102, 97, 108, 115, 101, 32, 102, 105, 110, 97, 108, 108, 121, 32, 102, 111, 114, 32, 102, 117, 110, 99, 116, 105, 111, 110, 32, 105, 102, 32, 105, 109, 112, 111, 114, 116, 32, 105, 110, 32, 105, 110, 115, 116, 97, 110, 99, 101, 111, 102, 32, 110, 101, 119, 32, 110, 117, 108, 108, 32, 114, 101, 116, 117, 114, 110, 32, 115, 117, 112, 101, 114, 32, 115, 119, 105, 116, 99, 104, 32, 116, 104, 105, 115, 32, 116, 104, 114, 111, 119, 32, 116, 114, 117, 101, 32, 116, 114, 121, 32, 116, 121, 112, 101, 111, 102, 32, 118, 97, 114, 32, 118, 111, 105, 100, 32, 119, 104, 105, 108, 101, 32, 119, 105, 116, 104, 32, 105, 109, 112, 108, 101, 109, 101, 110, 116, 115, 32, 105, 110, 116, 101, 114, 102, 97, 99, 101, 32, 108, 101, 116, 32, 112, 97, 99, 107, 97, 103, 101, 32, 112, 114, 105, 118, 97, 116, 101, 32, 112, 114, 111, 116, 101, 99, 116, 101, 100, 32, 112, 117, 98, 108, 105, 99, 32, 115, 116, 97, 116, 105, 99, 32, 121, 105, 101, 108, 100]
theorem Sb_mem (l : List UInt8) (i : Nat) (h : i < (Sb l).size) : (Sb l)[i] ∈ l := by
  have h2 : i < l.length := by rw [Sb_size] at h; exact h
  show l.toArray[i]'(by simpa using h2) ∈ l
  rw [List.getElem_toArray]
  exact List.getElem_mem _
theorem words_spl : (spl wordsT []).map Sb = wordsN.map Sb := by kernel_rfl
theorem among_words (s : ByteArray) : amongB (wordsN.map Sb) s = wordB s := by
  unfold amongB wordB
  rw [List.any_map]
  congr 1
  funext t
  show ((Sb t).toList == s.toList) = (s.toList == t)
  rw [Sb_toList]
  rw [Bool.eq_iff_iff, beq_iff_eq, beq_iff_eq]
  exact eq_comm
set_option maxHeartbeats 2000000 in
set_option maxRecDepth 100000 in
theorem words_any (w : World) : Calls Tryz.prog 11 #[] w fun e w' => ∃ v, e = .returned v ∧ RdS w' v (wordsN.map Sb) ∧ Below w.heap.size w w' := by
  have HL := Hid.mk' (list_any (Sb wordsT) w (by rw [Sb_size]; decide +kernel) (fun i h => by
    have := List.all_eq_true.1 (show (wordsT.all fun (b : UInt8) => decide (b.toNat < 128)) = true by kernel_rfl) (Sb wordsT)[i] (Sb_mem _ _ h)
    simpa using this))
  rw [Sb_list, words_spl] at HL
  go_enter Tryz.func11, Tryz.ntmps11
  go_wp2_with fail
  refine HL.out.mono ?_
  rintro e w1 ⟨v, rfl, hr, b1⟩
  obtain ⟨x, c, rfl⟩ := hr.form
  go_wp2
  go_ret
  exact ⟨_, rfl, hr, b1⟩
set_option maxHeartbeats 2000000 in
set_option maxRecDepth 100000 in
theorem rWord_any (s : ByteArray) (w : World) : Calls Tryz.prog 6 #[.string s] w fun e w' => e = .returned (.bool (wordB s)) ∧ Below w.heap.size w w' := by
  have HW := Hid.mk' (words_any w)
  have HA := Hid.mk' (fun v W h => among_any (wordsN.map Sb) s (by decide +kernel) v W h)
  rw [among_words] at HA
  generalize wordsN.map Sb = ts at *
  go_enter Tryz.func6, Tryz.ntmps6
  go_wp2_with fail
  refine HW.out.mono ?_
  rintro e w1 ⟨v, rfl, hr, b1⟩
  obtain ⟨x, c, rfl⟩ := hr.form
  go_wp2_with fail
  refine (HA.out _ _ hr).mono ?_
  rintro e w2 ⟨rfl, hw2⟩
  rw [hw2]; clear hw2 w2
  go_wp2
  go_ret
  exact ⟨rfl, b1⟩
/-- Both sides' words for names are one. -/
def rnmB (l : List UInt8) : Bool := l.all (fun c => letZ (c.toNat : Int) || digZ (c.toNat : Int))
theorem nm_all : ∀ (l : List UInt8) (i : Nat), i ≠ 0 → (nmN l i = i + l.length ↔ rnmB l = true)
  | [], i, _ => by simp [nmN, rnmB]
  | c :: r, i, hi => by
    have ih := nm_all r (i + 1) (by omega)
    have hn : nmB i c = (letZ (c.toNat : Int) || digZ (c.toNat : Int)) := by unfold nmB; rw [show (i != 0) = true by simpa using hi, Bool.true_and]
    unfold nmN rnmB
    rw [hn, List.all_cons]
    have hle := nmN_le r (i + 1)
    by_cases h : (letZ (c.toNat : Int) || digZ (c.toNat : Int)) = true
    · rw [if_pos h, h, Bool.true_and, List.length_cons, show i + (r.length + 1) = i + 1 + r.length by omega]
      exact ih
    · rw [if_neg h, Bool.not_eq_true] at *
      rw [h, Bool.false_and, List.length_cons]
      constructor
      · intro e; omega
      · intro e; exact absurd e (by decide)
theorem name_eq (s : ByteArray) (h0 : 0 < s.size) : nameB s = (letZ (s[0].toNat : Int) && (!wordB s && rnmB s.data.toList)) := by
  have hd := list_drop s 0 h0
  rw [List.drop_zero] at hd
  have hl : s.data.toList.length = s.size := by simp
  unfold nameB
  rw [show (s.size != 0) = true from bne_iff_ne.2 (by omega), Bool.true_and]
  have hr : (s.data.toList.drop (0 + 1)).length + 1 = s.size := by rw [← hl, hd]; simp
  have h1 := nm_all (s.data.toList.drop (0 + 1)) 1 (by decide)
  have hle := nmN_le (s.data.toList.drop (0 + 1)) 1
  have hrn : rnmB s.data.toList = ((letZ (s[0].toNat : Int) || digZ (s[0].toNat : Int)) && rnmB (s.data.toList.drop (0 + 1))) := by
    conv => lhs; rw [hd]
    rfl
  have hnm : nmN s.data.toList 0 = if letZ (s[0].toNat : Int) then nmN (s.data.toList.drop (0 + 1)) 1 else 0 := by
    conv => lhs; rw [hd, nmN]
    unfold nmB
    rw [show ((0 : Nat) != 0) = false from rfl, Bool.false_and, Bool.or_false]
  rw [hnm, hrn]
  cases hl0 : letZ (s[0].toNat : Int)
  · rw [if_neg (by decide), show ((0 : Nat) == s.size) = false from beq_eq_false_iff_ne.2 (by omega)]
    rfl
  · rw [if_pos rfl, Bool.true_or, Bool.true_and, Bool.true_and]
    by_cases he : nmN (s.data.toList.drop (0 + 1)) 1 = s.size
    · have hr1 := h1.1 (by omega)
      rw [he, hr1]
      simp
    · have hr1 : rnmB (s.data.toList.drop (0 + 1)) = false := by
        rw [← Bool.not_eq_true]
        intro h
        have := h1.2 h
        omega
      rw [hr1, show (nmN (s.data.toList.drop (0 + 1)) 1 == s.size) = false by simpa using he]
      simp
end Go.Proofs.YtllglkegdlcgcaaGreatDoor
