/- Plain mathematics: units, their bytes, pieces. -/
import Derived.Test.YtbkkkpfoaggejaaGreatDoorUnits
namespace Go.Proofs.YtbkkkpfoaggejaaGreatDoor
set_option linter.unusedVariables false

/-- A text without an odd byte. -/
def evenS (s : ByteArray) : ByteArray := s.extract 0 (s.size / 2 * 2)

/-- The bytes of a text without an odd one. -/
def ebs (s : ByteArray) : List UInt8 := s.data.toList.take (s.size / 2 * 2)
theorem evenS_bytes (s : ByteArray) : (evenS s).data.toList = ebs s := by
  unfold evenS ebs
  rw [ByteArray.data_extract]
  simp
theorem ebs_length (s : ByteArray) : (ebs s).length = 2 * (s.size / 2) := by
  have : s.data.toList.length = s.size := by simp
  unfold ebs; rw [List.length_take, this]; omega
theorem ebs_get (s : ByteArray) (i : Nat) (h : i < (ebs s).length) : ((ebs s)[i]).toNat = by' s i := by
  unfold by'
  have h2 : i < s.data.toList.length := by rw [ebs_length] at h; simp; omega
  rw [List.getD_eq_getElem?_getD, List.getElem?_eq_getElem h2]
  simp [ebs]
/-- The units of a text. -/
def uns (s : ByteArray) : List Nat := (List.range (s.size / 2)).map (un s)
theorem uns_length (s : ByteArray) : (uns s).length = s.size / 2 := by simp [uns]
theorem uns_lt (s : ByteArray) : ∀ u ∈ uns s, u < 65536 := by
  intro u hu
  simp only [uns, List.mem_map] at hu
  obtain ⟨i, _, rfl⟩ := hu
  exact un_lt s i
/-- The bytes of units. -/
def mkB (us : List Nat) : List UInt8 := us.flatMap ub
theorem mkB_length (us : List Nat) : (mkB us).length = 2 * us.length := by
  induction us with
  | nil => rfl
  | cons u r ih =>
    have h : mkB (u :: r) = ub u ++ mkB r := rfl
    rw [h, List.length_append, ih, ub_length, List.length_cons]; omega
theorem mkB_take (us : List Nat) (k : Nat) (h : k < us.length) : mkB (us.take (k + 1)) = mkB (us.take k) ++ ub us[k] := by
  rw [List.take_succ_eq_append_getElem h]
  unfold mkB
  rw [List.flatMap_append]
  simp only [List.flatMap_cons, List.flatMap_nil, List.append_nil]

theorem by_u8 (s : ByteArray) (i : Nat) (h : i < s.data.toList.length) : (by' s i).toUInt8 = s.data.toList[i] := by
  unfold by'
  rw [List.getD_eq_getElem?_getD, List.getElem?_eq_getElem h, Option.getD_some]
  exact UInt8.ofNat_toNat
theorem ub_un (s : ByteArray) (k : Nat) (h : 2 * k + 1 < s.data.toList.length) : ub (un s k) = [s.data.toList[2 * k], s.data.toList[2 * k + 1]] := by
  have l1 := by_lt s (2 * k); have l2 := by_lt s (2 * k + 1)
  have e1 : un s k / 256 = by' s (2 * k) := by unfold un; omega
  have e2 : un s k % 256 = by' s (2 * k + 1) := by unfold un; omega
  unfold ub
  rw [e1, e2, by_u8 s _ (by omega), by_u8 s _ h]
theorem mkB_range (s : ByteArray) (k : Nat) (h : 2 * k ≤ s.data.toList.length) : mkB ((List.range k).map (un s)) = s.data.toList.take (2 * k) := by
  induction k with
  | zero => simp [mkB]
  | succ k ih =>
    have e : mkB ((List.range (k + 1)).map (un s)) = mkB ((List.range k).map (un s)) ++ ub (un s k) := by
      rw [List.range_succ, List.map_append]; unfold mkB; rw [List.flatMap_append]; simp only [List.map_cons, List.map_nil, List.flatMap_cons, List.flatMap_nil, List.append_nil]
    rw [e, ih (by omega), ub_un s k (by omega), show 2 * (k + 1) = 2 * k + 1 + 1 from by omega, List.take_succ_eq_append_getElem (by omega), List.take_succ_eq_append_getElem (by omega)]
    simp only [List.append_assoc, List.cons_append, List.nil_append]
theorem mkB_uns (s : ByteArray) : mkB (uns s) = ebs s := by
  have h : s.data.toList.length = s.size := by simp
  unfold uns ebs
  rw [mkB_range s _ (by omega), Nat.mul_comm]
theorem mkB_drop (us : List Nat) (k : Nat) : mkB (us.drop k) = (mkB us).drop (2 * k) := by
  induction us generalizing k with
  | nil => simp [mkB]
  | cons u r ih =>
    cases k with
    | zero => simp
    | succ k =>
      have h : mkB (u :: r) = ub u ++ mkB r := rfl
      rw [List.drop_succ_cons, ih, h, show 2 * (k + 1) = (ub u).length + 2 * k from by rw [ub_length]; omega, List.drop_length_add_append]
theorem mkB_takeK (us : List Nat) (k : Nat) : mkB (us.take k) = (mkB us).take (2 * k) := by
  induction us generalizing k with
  | nil => simp [mkB]
  | cons u r ih =>
    cases k with
    | zero => simp [mkB]
    | succ k =>
      have h : ∀ r, mkB (u :: r) = ub u ++ mkB r := fun r => rfl
      rw [List.take_succ_cons, h, ih, h, show 2 * (k + 1) = (ub u).length + 2 * k from by rw [ub_length]; omega, List.take_length_add_append]

/-- The units of a code point. -/
def pu (r : Nat) : List Nat := if r < 65536 then [r] else [55296 + (r - 65536) / 1024, 56320 + (r - 65536) % 1024]
theorem pb_pu (r : Nat) : pb r = mkB (pu r) := by unfold pb pu mkB; split <;> simp
theorem pu_lt (r : Nat) (h : r ≤ 1114111) : ∀ u ∈ pu r, u < 65536 := by
  intro u hu
  unfold pu at hu
  split at hu
  · simp at hu; omega
  · simp at hu; omega
def u16c (us : List Nat) : List Value := us.map fun (u : Nat) => Value.int .u16 (u : Int)

theorem u16c_append (a b : List Nat) : u16c (a ++ b) = u16c a ++ u16c b := by simp [u16c]
theorem u16c_length (a : List Nat) : (u16c a).length = a.length := by simp [u16c]
theorem oneCell_u16c (l : List Nat) : ∀ u ∈ u16c l, u.oneCell' = true := by
  intro u hu
  simp only [u16c, List.mem_map] at hu
  obtain ⟨b, _, rfl⟩ := hu
  rfl
theorem mkB_append (a b : List Nat) : mkB (a ++ b) = mkB a ++ mkB b := by simp [mkB]
theorem pu_length (r : Nat) : 1 ≤ (pu r).length ∧ (pu r).length ≤ 2 := by unfold pu; split <;> simp

end Go.Proofs.YtbkkkpfoaggejaaGreatDoor
