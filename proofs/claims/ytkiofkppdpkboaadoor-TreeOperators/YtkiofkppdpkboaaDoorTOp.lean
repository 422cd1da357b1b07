/- tree.Operators, lintelref06.Operators, lintelref05.Among: the operators of a kind. -/
import Derived.Test.YtkiofkppdpkboaaDoorTSm
import Derived.Test.YtkiofkppdpkboaaDoorRdSt
import Derived.Test.YtkiofkppdpkboaaDoorShelf
import Derived.Lib.AppendIntMem
namespace Go.Proofs.YtkiofkppdpkboaaDoor
set_option linter.unusedVariables false
open Go.RowKit

def opsB (k : Int) : ByteArray := if k = 19 then ⟨#[33, 32, 126, 32, 43, 32, 45, 32, 116, 121, 112, 101, 111, 102, 32, 118, 111, 105, 100, 32, 100, 101, 108, 101, 116, 101]⟩ else if k = 20 ∨ k = 21 then ⟨#[43, 43, 32, 45, 45]⟩ else if k = 22 then ⟨#[43, 32, 45, 32, 42, 32, 47, 32, 37, 32, 42, 42, 32, 60, 60, 32, 62, 62, 32, 62, 62, 62, 32, 38, 32, 124, 32, 94, 32, 60, 32, 62, 32, 60, 61, 32, 62, 61, 32, 61, 61, 32, 33, 61, 32, 61, 61, 61, 32, 33, 61, 61, 32, 105, 110, 32, 105, 110, 115, 116, 97, 110, 99, 101, 111, 102]⟩ else if k = 26 then ⟨#[61, 32, 43, 61, 32, 45, 61, 32, 42, 61, 32, 47, 61, 32, 37, 61, 32, 42, 42, 61, 32, 60, 60, 61, 32, 62, 62, 61, 32, 62, 62, 62, 61, 32, 38, 61, 32, 124, 61, 32, 94, 61]⟩ else ⟨#[]⟩
def opsL (k : Int) : List ByteArray := (Lib.fields (opsB k).data.toList).map fun l => ⟨l.toArray⟩
theorem opsB_19 : opsB 19 = ⟨#[33, 32, 126, 32, 43, 32, 45, 32, 116, 121, 112, 101, 111, 102, 32, 118, 111, 105, 100, 32, 100, 101, 108, 101, 116, 101]⟩ := by rfl
theorem opsB_20 : opsB 20 = ⟨#[43, 43, 32, 45, 45]⟩ := by rfl
theorem opsB_21 : opsB 21 = ⟨#[43, 43, 32, 45, 45]⟩ := by rfl
theorem opsB_22 : opsB 22 = ⟨#[43, 32, 45, 32, 42, 32, 47, 32, 37, 32, 42, 42, 32, 60, 60, 32, 62, 62, 32, 62, 62, 62, 32, 38, 32, 124, 32, 94, 32, 60, 32, 62, 32, 60, 61, 32, 62, 61, 32, 61, 61, 32, 33, 61, 32, 61, 61, 61, 32, 33, 61, 61, 32, 105, 110, 32, 105, 110, 115, 116, 97, 110, 99, 101, 111, 102]⟩ := by rfl
theorem opsB_26 : opsB 26 = ⟨#[61, 32, 43, 61, 32, 45, 61, 32, 42, 61, 32, 47, 61, 32, 37, 61, 32, 42, 42, 61, 32, 60, 60, 61, 32, 62, 62, 61, 32, 62, 62, 62, 61, 32, 38, 61, 32, 124, 61, 32, 94, 61]⟩ := by rfl
theorem opsB_no (k : Int) (h1 : ¬ k = 19) (h2 : ¬ k = 20) (h3 : ¬ k = 21) (h4 : ¬ k = 22) (h5 : ¬ k = 26) : opsB k = ⟨#[]⟩ := by
  unfold opsB
  rw [if_neg h1, if_neg (by omega), if_neg h4, if_neg h5]

theorem kinds_split (k : Int) : k = 19 ∨ k = 20 ∨ k = 21 ∨ k = 22 ∨ k = 26 ∨ (¬ k = 19 ∧ ¬ k = 20 ∧ ¬ k = 21 ∧ ¬ k = 22 ∧ ¬ k = 26) := by omega
set_option maxHeartbeats 1000000 in
theorem operators_any (k : Int) (w : World) : Calls Tryd.prog 23 #[.int .i64 k] w fun e w' => e = .returned (.string (opsB k)) ∧ w' = w := by
  rcases kinds_split k with rfl | rfl | rfl | rfl | rfl | ⟨h1, h2, h3, h4, h5⟩
  · rw [opsB_19]; go_enter Tryd.func23, Tryd.ntmps23; go_wp2; go_ret; exact ⟨rfl, rfl⟩
  · rw [opsB_20]; go_enter Tryd.func23, Tryd.ntmps23; go_wp2; go_ret; exact ⟨rfl, rfl⟩
  · rw [opsB_21]; go_enter Tryd.func23, Tryd.ntmps23; go_wp2; go_ret; exact ⟨rfl, rfl⟩
  · rw [opsB_22]; go_enter Tryd.func23, Tryd.ntmps23; go_wp2; go_ret; exact ⟨rfl, rfl⟩
  · rw [opsB_26]; go_enter Tryd.func23, Tryd.ntmps23; go_wp2; go_ret; exact ⟨rfl, rfl⟩
  · rw [opsB_no k h1 h2 h3 h4 h5]; go_enter Tryd.func23, Tryd.ntmps23; go_wp2; go_ret; exact ⟨rfl, rfl⟩
theorem opsB_ascii (k : Int) : (∀ (j : Nat) b, (opsB k).data.toList[j]? = some b → b.toNat < 128) ∧ (opsB k).size < 1000 := by
  have key : ∀ s : ByteArray, (s.data.toList.all fun b => decide (b.toNat < 128)) = true → ∀ (j : Nat) b, s.data.toList[j]? = some b → b.toNat < 128 := fun s h j b hb => by
    have := List.all_eq_true.1 h b (List.mem_of_getElem? hb)
    simpa using this
  rcases kinds_split k with rfl | rfl | rfl | rfl | rfl | ⟨h1, h2, h3, h4, h5⟩
  · rw [opsB_19]; exact ⟨key _ (by kernel_rfl), by decide⟩
  · rw [opsB_20]; exact ⟨key _ (by kernel_rfl), by decide⟩
  · rw [opsB_21]; exact ⟨key _ (by kernel_rfl), by decide⟩
  · rw [opsB_22]; exact ⟨key _ (by kernel_rfl), by decide⟩
  · rw [opsB_26]; exact ⟨key _ (by kernel_rfl), by decide⟩
  · rw [opsB_no k h1 h2 h3 h4 h5]; exact ⟨key _ (by kernel_rfl), by decide⟩
/-- The table of blanks lies there. -/
def SpT (w : World) : Prop := Lib.TabIs Tryd.prog w "strings.asciiSpace" .u8 Lib.asciiSpaceTab
theorem SpT.below {w w' : World} (h : SpT w) (hb : Below w.heap.size w w') : SpT w' := Lib.tabBelow_of_tabIs h _ hb
set_option maxHeartbeats 1000000 in
theorem tOperators_any (k : Int) (w : World) (hT : SpT w) : Calls Tryd.prog 10 #[.int .i64 k] w fun e w' => ∃ v, e = .returned v ∧ RdS w' v (opsL k) ∧ Below w.heap.size w w' := by
  have HO := Hid.mk' (fun W => operators_any k W)
  obtain ⟨ha, hs⟩ := opsB_ascii k
  have HC : Hid (∀ W, Calls Tryd.prog 22 #[.string (opsB k)] W fun e w' => e = .returned (.string (opsB k)) ∧ Below W.heap.size W w') := Hid.mk' (fun W => by
    have HS := Hid.mk' (Tryd.stringslite_Clone (opsB k) W (by omega))
    generalize opsB k = B at *
    clear HO ha hs hT
    go_enter Tryd.func22, Tryd.ntmps22
    go_wp2_with fail
    refine HS.out.mono ?_
    rintro e w1 ⟨rfl, b1⟩
    go_wp2
    go_ret
    exact ⟨rfl, b1⟩)
  have HF := Hid.mk' (fun W h => Tryd.strings_Fields (opsB k) W (by omega) ha h)
  have HL : Hid (opsL k = (Lib.fields (opsB k).data.toList).map fun l => ⟨l.toArray⟩) := Hid.mk' rfl
  have HT := Hid.mk' hT
  generalize opsL k = TS at *
  generalize Lib.fields (opsB k).data.toList = FL at *
  generalize opsB k = B at *
  clear hT ha hs
  go_enter Tryd.func10, Tryd.ntmps10
  go_wp2_with fail
  refine (HO.out _).mono ?_
  rintro e w1 ⟨rfl, hw1⟩
  rw [hw1]; clear hw1 w1
  go_wp2_with fail
  refine (HC.out _).mono ?_
  rintro e w2 ⟨rfl, b2⟩
  go_wp2_with fail
  refine (HF.out _ (HT.out.below b2)).mono ?_
  rintro e w3 ⟨rfl, hw3⟩
  go_wp2
  go_ret
  refine ⟨_, rfl, ?_, ?_⟩
  · rw [HL.out]
    have := RdS.new w2 (FL.map fun l => ⟨l.toArray⟩) 9
    simp only [List.map_map, List.length_map] at this ⊢
    exact this
  · exact b2.trans (((Below.refl _ _).alloc (Nat.le_refl _) _).mono b2.size)
set_option maxHeartbeats 1000000 in
set_option maxRecDepth 100000 in
theorem rOperators_any (k : Int) (w : World) : Calls Tryd.prog 11 #[.int .i64 k] w fun e w' => ∃ v, e = .returned v ∧ RdS w' v (opsL k) ∧ Below w.heap.size w w' := by
  rcases kinds_split k with rfl | rfl | rfl | rfl | rfl | ⟨h1, h2, h3, h4, h5⟩
  · have e : opsL 19 = [⟨#[33]⟩, ⟨#[126]⟩, ⟨#[43]⟩, ⟨#[45]⟩, ⟨#[116, 121, 112, 101, 111, 102]⟩, ⟨#[118, 111, 105, 100]⟩, ⟨#[100, 101, 108, 101, 116, 101]⟩] := by kernel_rfl
    rw [e]
    go_enter Tryd.func11, Tryd.ntmps11
    go_wp2
    go_ret
    exact ⟨_, rfl, RdS.new w [⟨#[33]⟩, ⟨#[126]⟩, ⟨#[43]⟩, ⟨#[45]⟩, ⟨#[116, 121, 112, 101, 111, 102]⟩, ⟨#[118, 111, 105, 100]⟩, ⟨#[100, 101, 108, 101, 116, 101]⟩] 9, (Below.refl _ _).alloc (Nat.le_refl _) _⟩
  · have e : opsL 20 = [⟨#[43, 43]⟩, ⟨#[45, 45]⟩] := by kernel_rfl
    rw [e]
    go_enter Tryd.func11, Tryd.ntmps11
    go_wp2
    go_ret
    exact ⟨_, rfl, RdS.new w [⟨#[43, 43]⟩, ⟨#[45, 45]⟩] 9, (Below.refl _ _).alloc (Nat.le_refl _) _⟩
  · have e : opsL 21 = [⟨#[43, 43]⟩, ⟨#[45, 45]⟩] := by kernel_rfl
    rw [e]
    go_enter Tryd.func11, Tryd.ntmps11
    go_wp2
    go_ret
    exact ⟨_, rfl, RdS.new w [⟨#[43, 43]⟩, ⟨#[45, 45]⟩] 9, (Below.refl _ _).alloc (Nat.le_refl _) _⟩
  · have e : opsL 22 = [⟨#[43]⟩, ⟨#[45]⟩, ⟨#[42]⟩, ⟨#[47]⟩, ⟨#[37]⟩, ⟨#[42, 42]⟩, ⟨#[60, 60]⟩, ⟨#[62, 62]⟩, ⟨#[62, 62, 62]⟩, ⟨#[38]⟩, ⟨#[124]⟩, ⟨#[94]⟩, ⟨#[60]⟩, ⟨#[62]⟩, ⟨#[60, 61]⟩, ⟨#[62, 61]⟩, ⟨#[61, 61]⟩, ⟨#[33, 61]⟩, ⟨#[61, 61, 61]⟩, ⟨#[33, 61, 61]⟩, ⟨#[105, 110]⟩, ⟨#[105, 110, 115, 116, 97, 110, 99, 101, 111, 102]⟩] := by kernel_rfl
    rw [e]
    go_enter Tryd.func11, Tryd.ntmps11
    go_wp2
    go_ret
    exact ⟨_, rfl, RdS.new w [⟨#[43]⟩, ⟨#[45]⟩, ⟨#[42]⟩, ⟨#[47]⟩, ⟨#[37]⟩, ⟨#[42, 42]⟩, ⟨#[60, 60]⟩, ⟨#[62, 62]⟩, ⟨#[62, 62, 62]⟩, ⟨#[38]⟩, ⟨#[124]⟩, ⟨#[94]⟩, ⟨#[60]⟩, ⟨#[62]⟩, ⟨#[60, 61]⟩, ⟨#[62, 61]⟩, ⟨#[61, 61]⟩, ⟨#[33, 61]⟩, ⟨#[61, 61, 61]⟩, ⟨#[33, 61, 61]⟩, ⟨#[105, 110]⟩, ⟨#[105, 110, 115, 116, 97, 110, 99, 101, 111, 102]⟩] 9, (Below.refl _ _).alloc (Nat.le_refl _) _⟩
  · have e : opsL 26 = [⟨#[61]⟩, ⟨#[43, 61]⟩, ⟨#[45, 61]⟩, ⟨#[42, 61]⟩, ⟨#[47, 61]⟩, ⟨#[37, 61]⟩, ⟨#[42, 42, 61]⟩, ⟨#[60, 60, 61]⟩, ⟨#[62, 62, 61]⟩, ⟨#[62, 62, 62, 61]⟩, ⟨#[38, 61]⟩, ⟨#[124, 61]⟩, ⟨#[94, 61]⟩] := by kernel_rfl
    rw [e]
    go_enter Tryd.func11, Tryd.ntmps11
    go_wp2
    go_ret
    exact ⟨_, rfl, RdS.new w [⟨#[61]⟩, ⟨#[43, 61]⟩, ⟨#[45, 61]⟩, ⟨#[42, 61]⟩, ⟨#[47, 61]⟩, ⟨#[37, 61]⟩, ⟨#[42, 42, 61]⟩, ⟨#[60, 60, 61]⟩, ⟨#[62, 62, 61]⟩, ⟨#[62, 62, 62, 61]⟩, ⟨#[38, 61]⟩, ⟨#[124, 61]⟩, ⟨#[94, 61]⟩] 9, (Below.refl _ _).alloc (Nat.le_refl _) _⟩
  · have e : opsL k = [] := by unfold opsL; rw [opsB_no k h1 h2 h3 h4 h5]; rfl
    rw [e]
    go_enter Tryd.func11, Tryd.ntmps11
    go_wp2
    go_ret
    exact ⟨_, rfl, .inl ⟨_, _, rfl, rfl⟩, Below.refl _ _⟩
theorem opsL_full (k : Int) : (∀ t ∈ opsL k, t.size ≠ 0) ∧ (opsL k).length ≤ 22 := by
  have key : ∀ l : List ByteArray, (l.all fun t => decide (t.size ≠ 0)) = true → ∀ t ∈ l, t.size ≠ 0 := fun l h t ht => by
    have := List.all_eq_true.1 h t ht
    simpa using this
  rcases kinds_split k with rfl | rfl | rfl | rfl | rfl | ⟨h1, h2, h3, h4, h5⟩
  · exact ⟨key _ (by kernel_rfl), by decide +kernel⟩
  · exact ⟨key _ (by kernel_rfl), by decide +kernel⟩
  · exact ⟨key _ (by kernel_rfl), by decide +kernel⟩
  · exact ⟨key _ (by kernel_rfl), by decide +kernel⟩
  · exact ⟨key _ (by kernel_rfl), by decide +kernel⟩
  · have e : opsL k = [] := by unfold opsL; rw [opsB_no k h1 h2 h3 h4 h5]; rfl
    rw [e]; exact ⟨fun t h => by simp at h, by decide⟩
set_option maxHeartbeats 1000000 in
set_option maxRecDepth 100000 in
theorem among_no (ts : List ByteArray) (hts : ∀ t ∈ ts, t.size ≠ 0) (hl : ts.length ≤ 22) (v : Value) (w : World) (hv : RdS w v ts) :
    Calls Tryd.prog 12 #[v, .string ⟨#[]⟩] w fun e w' => e = .returned (.bool false) ∧ w' = w := by
  obtain ⟨x, c, rfl⟩ := hv.form
  have HV := Hid.mk' hv
  have HT := Hid.mk' hts
  clear hv hts
  obtain ⟨N, hN⟩ : ∃ N, ts.length = N := ⟨_, rfl⟩
  rw [hN] at hl HV ⊢
  have HN := Hid.mk' hN
  clear hN
  go_enter Tryd.func12, Tryd.ntmps12
  go_wp2_with fail
  go_loop [9] (fun vi => ∃ i : Nat, vi = .int .i64 i ∧ i ≤ N) (fun vi => N - (intOf vi).toNat)
  case atStart => exact ⟨0, rfl, Nat.zero_le _⟩
  case round =>
    obtain ⟨i, rfl, hi⟩ := hrel
    by_cases hlt : i < N
    · have zi : (i : Int) < (N : Int) := by omega
      have hil : i < ts.length := by rw [HN.out]; exact hlt
      rcases HV.out with ⟨a', c', e', h'⟩ | ⟨g, o, c', e', hlc, hg, hcc⟩
      · rw [h'] at hil; simp at hil
      · obtain rfl : x = some ⟨g, o, none⟩ := by injection e'
        have cc := hcc i hil
        have ht := HT.out _ (List.getElem_mem hil)
        obtain ⟨t, htt⟩ : ∃ t, ts[i] = t := ⟨_, rfl⟩
        rw [htt] at cc ht
        have hne : t.toList.isEmpty = false := text_full (by omega)
        clear hcc ht htt e' hlc
        go_wp2
        go_round
        case rel => exact ⟨i + 1, by go_num, by omega⟩
        case measure => simp [intOf]; omega
    · obtain rfl : i = N := by omega
      have zi : ¬ (i : Int) < (i : Int) := by omega
      go_wp2
      go_ret
      exact ⟨rfl, rfl⟩
end Go.Proofs.YtkiofkppdpkboaaDoor
