/- How a text literal is written, plainly; and that such a text is UTF-8. -/
import Derived.Test.YtopdogpcachonaaGreatDoorBytes
import Derived.Test.YtopdogpcachonaaGreatDoorSb
import Derived.Test.YtopdogpcachonaaGreatDoorOf
namespace Go.Proofs.YtopdogpcachonaaGreatDoor
set_option linter.unusedVariables false
open Go.RowKit

def hxd (n : Nat) : UInt8 := if n < 10 then (48 + n).toUInt8 else (87 + n).toUInt8
def qE (u : Nat) : Bool := decide (u = 34 ∨ u = 92)
def qP (u : Nat) : Bool := decide (32 ≤ u ∧ u ≤ 126)
/-- What a unit is written as. -/
def qU (u : Nat) : List UInt8 := if qE u then [92, u.toUInt8] else if qP u then [u.toUInt8] else [92, 117, hxd (u / 4096 % 16), hxd (u / 256 % 16), hxd (u / 16 % 16), hxd (u % 16)]
def qB (us : List Nat) : List UInt8 := us.flatMap qU
def qT (us : List Nat) : List UInt8 := 34 :: (qB us ++ [34])
theorem hxd_lt (n : Nat) (h : n < 16) : (hxd n).toNat < 128 := by
  unfold hxd
  split
  · rw [show (48 + n).toUInt8.toNat = (48 + n) % 256 from rfl]; omega
  · rw [show (87 + n).toUInt8.toNat = (87 + n) % 256 from rfl]; omega
theorem u8_lt (u : Nat) (h : u < 128) : u.toUInt8.toNat = u := by rw [show u.toUInt8.toNat = u % 256 from rfl]; omega
theorem qU_ascii (u : Nat) : ∀ x ∈ qU u, x.toNat < 128 := by
  intro x hx
  unfold qU at hx
  have m (k : Nat) : k % 16 < 16 := Nat.mod_lt _ (by decide)
  split at hx
  · rename_i h
    have h' : u = 34 ∨ u = 92 := by simpa [qE] using h
    simp only [List.mem_cons, List.not_mem_nil, or_false] at hx
    rcases hx with rfl | rfl
    · decide
    · rcases h' with rfl | rfl <;> decide
  · split at hx
    · rename_i h
      have h' : 32 ≤ u ∧ u ≤ 126 := by simpa [qP] using h
      simp only [List.mem_cons, List.not_mem_nil, or_false] at hx
      subst hx
      rw [u8_lt u (by omega)]; omega
    · simp only [List.mem_cons, List.not_mem_nil, or_false] at hx
      rcases hx with rfl | rfl | rfl | rfl | rfl | rfl
      · decide
      · decide
      · exact hxd_lt _ (m _)
      · exact hxd_lt _ (m _)
      · exact hxd_lt _ (m _)
      · exact hxd_lt _ (m _)
theorem qU_len (u : Nat) : 1 ≤ (qU u).length ∧ (qU u).length ≤ 6 := by
  unfold qU
  split
  · simp
  · split <;> simp
theorem qB_ascii (us : List Nat) : ∀ x ∈ qB us, x.toNat < 128 := by
  intro x hx
  obtain ⟨u, _, h⟩ := List.mem_flatMap.1 hx
  exact qU_ascii u x h
theorem qT_ascii (us : List Nat) : ∀ x ∈ qT us, x.toNat < 128 := by
  intro x hx
  unfold qT at hx
  simp only [List.mem_cons, List.mem_append, List.not_mem_nil, or_false] at hx
  rcases hx with rfl | h | rfl
  · decide
  · exact qB_ascii us x h
  · decide
theorem qB_len (us : List Nat) : (qB us).length ≤ 6 * us.length := by
  induction us with
  | nil => simp [qB]
  | cons u t ih =>
    have := (qU_len u).2
    simp only [qB, List.flatMap_cons, List.length_append, List.length_cons] at ih ⊢
    omega
theorem qB_snoc (us : List Nat) (u : Nat) : qB (us ++ [u]) = qB us ++ qU u := by simp [qB]
theorem qB_take (us : List Nat) (k : Nat) (h : k < us.length) : qB (us.take (k + 1)) = qB (us.take k) ++ qU us[k] := by
  rw [← qB_snoc, List.take_append_getElem h]
theorem qB_split (us : List Nat) (k : Nat) : qB us = qB (us.take k) ++ qB (us.drop k) := by
  unfold qB
  rw [← List.flatMap_append, List.take_append_drop]
/-- Where the k-th unit begins. -/
def qO (us : List Nat) (k : Nat) : Nat := (qB (us.take k)).length
theorem qO_zero (us : List Nat) : qO us 0 = 0 := by simp [qO, qB]
theorem qO_succ (us : List Nat) (k : Nat) (h : k < us.length) : qO us (k + 1) = qO us k + (qU us[k]).length := by
  unfold qO; rw [qB_take us k h, List.length_append]
theorem qO_end (us : List Nat) : qO us us.length = (qB us).length := by unfold qO; rw [List.take_length]
theorem qO_le (us : List Nat) (k : Nat) : qO us k ≤ (qB us).length := by
  unfold qO
  have := congrArg List.length (qB_split us k)
  rw [List.length_append] at this
  omega
theorem q_drop (us : List Nat) (k : Nat) (h : k < us.length) : (qB us ++ [34]).drop (qO us k) = qU us[k] ++ (qB (us.drop (k + 1)) ++ [34]) := by
  rw [qB_split us k, List.append_assoc]
  unfold qO
  rw [List.drop_left, List.drop_eq_getElem_cons h]
  unfold qB
  rw [List.flatMap_cons, List.append_assoc]
theorem q_drop_end (us : List Nat) : (qB us ++ [34]).drop (qO us us.length) = [34] := by
  rw [qO_end, List.drop_left]
theorem ascii_ofFrom (s : ByteArray) (hs : ∀ i (h : i < s.size), s[i].toNat < 128) : ∀ (f i : Nat) (acc : List UInt8), ∃ bs, ofFrom s f acc i = .ok bs := by
  intro f
  induction f with
  | zero => intro i acc; exact ⟨acc, rfl⟩
  | succ f ih =>
    intro i acc
    unfold ofFrom
    by_cases h : i < s.size
    · rw [if_pos h]
      have hd := decode_ascii s i h (hs i h)
      have hb : bad s i = false := by
        unfold bad
        rw [hd, show decide ((s[i].toNat, 1).1 = 65533) = false from decide_eq_false (by have := hs i h; show ¬ s[i].toNat = 65533; omega), Bool.false_and]
      rw [hb, if_neg (by decide)]
      exact ih _ _
    · rw [if_neg h]
      exact ⟨acc, rfl⟩
theorem Sb_get (l : List UInt8) (i : Nat) (h : i < (Sb l).size) : (Sb l)[i] = l[i]'(by rw [← Sb_size]; exact h) := rfl
theorem ascii_ofS (l : List UInt8) (h : ∀ x ∈ l, x.toNat < 128) : ∃ bs, ofS (Sb l) = .ok bs :=
  ascii_ofFrom (Sb l) (fun i hi => by rw [Sb_get]; exact h _ (List.getElem_mem _)) _ _ _

set_option maxHeartbeats 1000000 in
set_option maxRecDepth 100000 in
theorem worth_lo (z : Int) (w : World) (h0 : 48 ≤ z) (h1 : z ≤ 57) : Calls Tryz.prog 206 #[.int .i32 z] w fun e w' => e = .returned (.int .i32 (z - 48)) ∧ w' = w := by
  have x1 : IntKind.i32.wrap (z - 48) = z - 48 := by rw [IntKind.wrap_i32]; omega
  go_enter Tryz.func206, Tryz.ntmps206
  go_wp2
  go_ret
  exact ⟨rfl, rfl⟩
set_option maxHeartbeats 1000000 in
set_option maxRecDepth 100000 in
theorem worth_hi (z : Int) (w : World) (h0 : 97 ≤ z) (h1 : z ≤ 102) : Calls Tryz.prog 206 #[.int .i32 z] w fun e w' => e = .returned (.int .i32 (z - 97 + 10)) ∧ w' = w := by
  have x1 : IntKind.i32.wrap (z - 97) = z - 97 := by rw [IntKind.wrap_i32]; omega
  have x2 : IntKind.i32.wrap (z - 97 + 10) = z - 97 + 10 := by rw [IntKind.wrap_i32]; omega
  have h2 : ¬ z ≤ 57 := by omega
  have h3 : 48 ≤ z := by omega
  go_enter Tryz.func206, Tryz.ntmps206
  go_wp2
  go_ret
  exact ⟨rfl, rfl⟩
theorem worth_hxd (m : Nat) (hm : m < 16) (w : World) : Calls Tryz.prog 206 #[.int .i32 ((hxd m).toNat : Int)] w fun e w' => e = .returned (.int .i32 (m : Int)) ∧ w' = w := by
  by_cases h : m < 10
  · have e : (hxd m).toNat = 48 + m := by unfold hxd; rw [if_pos h, u8_lt _ (by omega)]
    rw [e]
    refine (worth_lo _ w (by omega) (by omega)).mono ?_
    rintro e w' ⟨rfl, rfl⟩
    exact ⟨by rw [show ((48 + m : Nat) : Int) - 48 = (m : Int) by omega], rfl⟩
  · have e : (hxd m).toNat = 87 + m := by unfold hxd; rw [if_neg h, u8_lt _ (by omega)]
    rw [e]
    refine (worth_hi _ w (by omega) (by omega)).mono ?_
    rintro e w' ⟨rfl, rfl⟩
    exact ⟨by rw [show ((87 + m : Nat) : Int) - 97 + 10 = (m : Int) by omega], rfl⟩
def hv (ds : List Nat) : Nat := ds.foldl (fun a d => 16 * a + d) 0
theorem hv_snoc (ds : List Nat) (d : Nat) : hv (ds ++ [d]) = 16 * hv ds + d := by simp [hv]
theorem hv_take (ds : List Nat) (k : Nat) (h : k < ds.length) : hv (ds.take (k + 1)) = 16 * hv (ds.take k) + ds[k] := by rw [← List.take_append_getElem h, hv_snoc]
theorem hv_lt (ds : List Nat) (hd : ∀ d ∈ ds, d < 16) : ∀ k, k ≤ ds.length → hv (ds.take k) < 16 ^ k := by
  intro k
  induction k with
  | zero => intro _; simp [hv]
  | succ k ih =>
    intro hk
    have h1 := ih (by omega)
    have h2 := hd ds[k] (List.getElem_mem _)
    rw [hv_take ds k (by omega), Nat.pow_succ]
    omega
set_option maxHeartbeats 2000000 in
set_option maxRecDepth 100000 in
theorem hexed_any (ds : List Nat) (hd : ∀ d ∈ ds, d < 16) (hl : ds.length ≤ 4) (w : World) : Calls Tryz.prog 186 #[.string (Sb (ds.map hxd))] w fun e w' => e = .returned (.int .i32 (hv ds)) ∧ Below w.heap.size w w' := by
  obtain ⟨R, hR⟩ : ∃ R, Sb (ds.map hxd) = R := ⟨_, rfl⟩
  have hRs : R.size = ds.length := by rw [← hR, Sb_size, List.length_map]
  have hRg : ∀ i (h : i < R.size), R[i].toNat = (hxd (ds[i]'(by omega))).toNat := fun i h => by subst hR; rw [Sb_get]; simp
  have HG := Hid.mk' hRg
  have HD := Hid.mk' hd
  rw [hR]
  clear hR hRg hd
  go_enter Tryz.func186, Tryz.ntmps186
  go_wp2
  obtain ⟨X0, hX0⟩ : ∃ X0, w.iter R 0 = X0 := ⟨_, rfl⟩
  obtain ⟨kb, hkb⟩ : ∃ kb, w.heap.size = kb := ⟨_, rfl⟩
  have hit0 : X0.heap[kb]? = some (.stringIter R 0) := by rw [← hX0, ← hkb]; exact World.iter_heap w R 0
  have bX : Below kb w X0 := by rw [← hX0, ← hkb]; exact (Below.refl _ _).alloc (Nat.le_refl _) _
  simp only [hX0, hkb]
  have HI0 := Hid.mk' hit0
  have HB0 := Hid.mk' bX
  have HKB := Hid.mk' hkb
  clear hit0 bX hX0 hkb
  go_loopw [3] (fun v wr => ∃ j : Nat, v = .int .i32 (hv (ds.take j)) ∧ j ≤ ds.length ∧ Hid (wr.heap[kb]? = some (.stringIter R j)) ∧ Hid (Below kb w wr)) (fun v wr => R.size - wr.iterPos kb)
  case atStart => exact ⟨0, rfl, Nat.zero_le _, HI0, HB0⟩
  case round =>
    obtain ⟨j, rfl, hj, HI, HB⟩ := hrel
    by_cases hp : j < R.size
    · have hlt : j < ds.length := by omega
      have hd := HD.out ds[j] (List.getElem_mem _)
      have hdec : Utf8.decode R j = ((hxd ds[j]).toNat, 1) := by rw [decode_ascii R j hp (by rw [HG.out j hp]; exact hxd_lt _ hd), HG.out j hp]
      have hnx : ∀ ty, (Instr.next (.pointer (some ⟨kb, 0, none⟩)) true ty).run Tryz.prog wr = _ := fun ty => Lib.run_next_any_at wr kb R j ty HI.out hp
      simp only [hdec] at hnx
      have HIT2 := Hid.mk' (Lib.iterAt_heap wr kb R j (j + 1) HI.out)
      have HBY := Hid.mk' (Lib.below_iterAt HB.out (k := kb) (Nat.le_refl _) R (j + 1))
      have HW := Hid.mk' (fun W => worth_hxd ds[j] hd W)
      obtain ⟨c, hc⟩ : ∃ c : Int, ((hxd ds[j]).toNat : Int) = c := ⟨_, rfl⟩
      rw [hc] at HW hnx
      obtain ⟨d, hdd⟩ : ∃ d : Int, (ds[j] : Int) = d := ⟨_, rfl⟩
      rw [hdd] at HW
      have hvl := hv_lt ds HD.out j (by omega)
      have hv4 : hv (ds.take j) < 4096 := Nat.lt_of_lt_of_le hvl (by have : 16 ^ j ≤ 16 ^ 3 := Nat.pow_le_pow_right (by decide) (by omega); omega)
      have HE : Hid ((hv (ds.take (j + 1)) : Int) = (hv (ds.take j) : Int) * 16 + d) := Hid.mk' (by rw [hv_take ds j hlt, ← hdd]; omega)
      obtain ⟨a, ha⟩ : ∃ a : Int, (hv (ds.take j) : Int) = a := ⟨_, rfl⟩
      rw [ha] at HE
      rw [ha]
      have a0 : 0 ≤ a := by omega
      have a1 : a < 4096 := by omega
      have d0 : 0 ≤ d := by omega
      have d1 : d < 16 := by omega
      have x1 : IntKind.i32.wrap (a * 16) = a * 16 := by rw [IntKind.wrap_i32]; omega
      have x2 : IntKind.i32.wrap (a * 16 + d) = a * 16 + d := by rw [IntKind.wrap_i32]; omega
      have x3 : ¬ (1114112 : Int) < a * 16 + d := by omega
      have x4 : a * 16 + d ≤ 1114112 := by omega
      clear hdec hc hdd hvl hv4 ha
      go_wp2_with (go_at_call 206; refine (HW.out _).mono ?_; rintro e w3 ⟨rfl, hw3⟩; rw [hw3]; clear hw3 w3)
      go_roundw
      case rel => exact ⟨j + 1, by rw [HE.out], hlt, HIT2, HBY⟩
      case measure =>
        have h1 := HIT2.out
        have h2 := HI.out
        simp only [World.iterPos, h1, h2]
        omega
    · obtain rfl : j = ds.length := by omega
      have hnx : ∀ ty, (Instr.next (.pointer (some ⟨kb, 0, none⟩)) true ty).run Tryz.prog wr = _ := fun ty => Lib.run_next_end_at wr kb R ds.length ty HI.out hp
      have HE : Hid (hv (ds.take ds.length) = hv ds) := Hid.mk' (by rw [List.take_length])
      go_wp2
      go_ret
      exact ⟨by rw [← HE.out]; rfl, by rw [HKB.out]; exact HB.out⟩
end Go.Proofs.YtopdogpcachonaaGreatDoor
