/- internal/strconv.fmtEFG in the form 'e': all cases. -/
import Derived.Test.YtjnbnejfdleocaaGreatDoorFmtO
namespace Go.Proofs.YtjnbnejfdleocaaGreatDoor
set_option linter.unusedVariables false
open Go.RowKit Fl

theorem fmtE_any (B g : Nat) (v0 : Value) (dp : Int) (w0 : World) (o0 : w0.ownsRow B 5 1 v0 0 []) (hBw : B ≤ w0.heap.size) (ds : List Nat) (hds : ds.length ≤ 20) (hb : ∀ d ∈ ds, d < 256)
    (hc : ∀ j (h : j < ds.length), w0.cell? ⟨g, j, none⟩ = some (.int .u8 (ds[j] : Nat))) (hg : RowT w0 g 151) (hdp : -998 ≤ dp ∧ dp ≤ 1000) :
    Calls Tryz.prog 135 #[v0, .bool false, .slice (some ⟨g, 0, none⟩) 32 32, .int .i64 dp, .int .i64 (ds.length : Nat), .int .i64 (ds.length - 1 : Nat), .int .u8 101, .bool true] w0 fun e w' => ∃ v', e = .returned v' ∧ w'.ownsRow B 5 1 v' (fmtN ds (dp - 1)).length (u8c (fmtN ds (dp - 1))) ∧ Kept B 5 w0 w' := by
  obtain ⟨cs, fz, hg⟩ := hg
  rcases ds with _ | ⟨d, r⟩
  · exact fmtE_none B g v0 dp w0 o0 hBw
  · have hd : d < 256 := hb d (by simp)
    have hc0 : w0.cell? ⟨g, 0, none⟩ = some (.int .u8 (d : Nat)) := hc 0 (by simp)
    rcases r with _ | ⟨d2, r⟩
    · by_cases h1 : dp - 1 < 0
      · obtain ⟨x, hx⟩ : ∃ x, -(dp - 1) = x := ⟨_, rfl⟩
        by_cases a1 : x < 10
        · exact fmtE_one_neg1 B g v0 dp w0 o0 hBw h1 x hx a1 d hd hc0
        · by_cases a2 : x < 100
          · exact fmtE_one_neg2 B g v0 dp w0 o0 hBw h1 x hx ⟨by omega, a2⟩ d hd hc0
          · exact fmtE_one_neg3 B g v0 dp w0 o0 hBw h1 x hx ⟨by omega, by omega⟩ d hd hc0
      · by_cases a1 : dp - 1 < 10
        · exact fmtE_one_pos1 B g v0 dp w0 o0 hBw (by omega) a1 d hd hc0
        · by_cases a2 : dp - 1 < 100
          · exact fmtE_one_pos2 B g v0 dp w0 o0 hBw (by omega) ⟨by omega, a2⟩ d hd hc0
          · exact fmtE_one_pos3 B g v0 dp w0 o0 hBw (by omega) ⟨by omega, by omega⟩ d hd hc0
    · have hr1 : 1 ≤ (d2 :: r).length := by simp
      generalize d2 :: r = q at *
      have hr2 : q.length ≤ 19 := by simp at hds; omega
      have hcr : ∀ j u, (u8c q)[j]? = some u → w0.cell? ⟨g, 1 + j, none⟩ = some u := fun j u h => by
        obtain ⟨hj, e⟩ := List.getElem?_eq_some_iff.1 h
        rw [u8c_length] at hj
        have := hc (j + 1) (by simp; omega)
        rw [show 1 + j = j + 1 by omega, this, ← e]
        simp [u8c]
      have e1 : ((d :: q).length : Int) = (q.length : Int) + 1 := by simp
      have e2 : (((d :: q).length - 1 : Nat) : Int) = (q.length : Int) := by simp
      rw [e1, e2]
      by_cases h1 : dp - 1 < 0
      · obtain ⟨x, hx⟩ : ∃ x, -(dp - 1) = x := ⟨_, rfl⟩
        by_cases a1 : x < 10
        · exact fmtE_more_neg1 B g v0 dp w0 o0 hBw h1 x hx a1 d _ q rfl hr1 hr2 hd hc0 hcr cs fz hg
        · by_cases a2 : x < 100
          · exact fmtE_more_neg2 B g v0 dp w0 o0 hBw h1 x hx ⟨by omega, a2⟩ d _ q rfl hr1 hr2 hd hc0 hcr cs fz hg
          · exact fmtE_more_neg3 B g v0 dp w0 o0 hBw h1 x hx ⟨by omega, by omega⟩ d _ q rfl hr1 hr2 hd hc0 hcr cs fz hg
      · by_cases a1 : dp - 1 < 10
        · exact fmtE_more_pos1 B g v0 dp w0 o0 hBw (by omega) a1 d _ q rfl hr1 hr2 hd hc0 hcr cs fz hg
        · by_cases a2 : dp - 1 < 100
          · exact fmtE_more_pos2 B g v0 dp w0 o0 hBw (by omega) ⟨by omega, a2⟩ d _ q rfl hr1 hr2 hd hc0 hcr cs fz hg
          · exact fmtE_more_pos3 B g v0 dp w0 o0 hBw (by omega) ⟨by omega, by omega⟩ d _ q rfl hr1 hr2 hd hc0 hcr cs fz hg

/-- How many decimal digits the program counts. -/
def ndN (d : Nat) : Nat := if d = 0 then 0 else Lib.nDigits d
set_option maxHeartbeats 1000000 in
theorem numDigits_zero (w : World) (htab : Lib.TabIs Tryz.prog w "internal/strconv.uint64pow10" .u64 Lib.pow10Tab) :
    Calls Tryz.prog 138 #[.int .u64 0] w fun e w' => e = .returned (.int .i64 0) ∧ w' = w := by
  have c0 : w.cell? ⟨8, 0, none⟩ = some (.int .u64 1) := htab.cell (by kernel_rfl) 0 (by decide)
  go_enter Tryz.func138, Tryz.ntmps138
  go_wp2_with (first | (go_at_call 121; refine (Tryz.bits_Len64 _ _ (by omega) (by omega)).mono ?_; rintro e w1 ⟨rfl, hw1⟩; rw [hw1]; clear hw1 w1; rw [show Lib.bitLen (0 : Int).toNat = 0 by decide]) | (go_at_call 139; refine (log10Pow2_any _ _ ⟨by omega, by omega⟩).mono ?_; rintro e w1 ⟨rfl, hw1⟩; rw [hw1]; clear hw1 w1) | (go_at_call 173; refine (Tryz.internal_strconv_bool2_int _ _).mono ?_; rintro e w1 ⟨rfl, hw1⟩; rw [hw1]; clear hw1 w1))
  go_ret
  exact ⟨rfl, rfl⟩
theorem numDigits_any (d : Nat) (hd : d < 18446744073709551616) (w : World) (htab : Lib.TabIs Tryz.prog w "internal/strconv.uint64pow10" .u64 Lib.pow10Tab) :
    Calls Tryz.prog 138 #[.int .u64 (d : Nat)] w fun e w' => e = .returned (.int .i64 (ndN d : Nat)) ∧ w' = w := by
  unfold ndN
  by_cases h : d = 0
  · subst h
    rw [if_pos rfl]
    exact numDigits_zero w htab
  · rw [if_neg h]
    exact Tryz.internal_strconv_numDigits d (by omega) hd w htab
theorem ndN_lt (d : Nat) (hd : d < 18446744073709551616) : ndN d ≤ 20 ∧ d < 10 ^ ndN d := by
  unfold ndN
  by_cases h : d = 0
  · rw [if_pos h, h]; decide
  · rw [if_neg h]
    have := Lib.numDigits_eq d (by omega) hd
    exact ⟨by split at this <;> omega, Lib.lt_pow_nDigits d⟩
/-- The digits that are shown, without noughts at the end. -/
def digL (d : Nat) : List Nat := (List.range (trimTo d (ndN d) (ndN d))).map (dgN d (ndN d))
theorem digL_length (d : Nat) : (digL d).length = trimTo d (ndN d) (ndN d) := by simp [digL]
theorem digL_digit (d : Nat) : ∀ c ∈ digL d, 48 ≤ c ∧ c ≤ 57 := by
  intro c hc
  simp only [digL, List.mem_map] at hc
  obtain ⟨t, _, rfl⟩ := hc
  exact dgN_lt _ _ _
/-- The text of a positive number. -/
def ffT (b : Nat) : List Nat := fmtN (digL (ffS b).1.toNat) ((ndN (ffS b).1.toNat : Int) + (ffS b).2 - 1)
theorem ffT_01 : ffT 4591870180066957722 = [49, 101, 45, 48, 49] := by kernel_rfl
theorem ffT_e21 : ffT 4921056587992461136 = [49, 101, 43, 50, 49] := by kernel_rfl
end Go.Proofs.YtjnbnejfdleocaaGreatDoor
