/- lintelref01.utf and Text: the document's UTF-8 of a text. -/
import Derived.Test.YtalnmophdebnfaaRPts
import Derived.Test.YtalnmophdebnfaaText
namespace Go.Proofs.Ytalnmophdebnfaa
set_option linter.unusedVariables false
open Go.RowKit

set_option maxHeartbeats 400000 in
set_option maxRecDepth 100000 in
theorem utf_one (r : Int) (h0 : 0 ≤ r) (h1 : r ≤ 127) (w : World) :
    Calls Try.prog 39 #[.int .i32 r] w fun e w' => e = .returned (.slice (some ⟨w.heap.size, 0, none⟩) 1 1) ∧ w' = w.alloc (.cells #[.int .u8 r] 5) := by
  go_enter Try.func39, Try.ntmps39
  go_wp2
  go_ret
  exact ⟨rfl, rfl⟩

set_option maxHeartbeats 400000 in
set_option maxRecDepth 100000 in
theorem utf_two (r : Int) (h0 : 128 ≤ r) (h1 : r ≤ 2047) (w : World) :
    Calls Try.prog 39 #[.int .i32 r] w fun e w' => e = .returned (.slice (some ⟨w.heap.size, 0, none⟩) 2 2) ∧ w' = w.alloc (.cells #[.int .u8 (192 + r / 64), .int .u8 (128 + r % 64)] 5) := by
  go_enter Try.func39, Try.ntmps39
  go_wp2
  go_ret
  exact ⟨rfl, rfl⟩

set_option maxHeartbeats 400000 in
set_option maxRecDepth 100000 in
theorem utf_lo (r : Int) (h0 : 2048 ≤ r) (h1 : r < 55296) (w : World) :
    Calls Try.prog 39 #[.int .i32 r] w fun e w' => e = .returned (.slice (some ⟨w.heap.size, 0, none⟩) 3 3) ∧ w' = w.alloc (.cells #[.int .u8 (224 + r / 4096), .int .u8 (128 + r / 64 % 64), .int .u8 (128 + r % 64)] 5) := by
  go_enter Try.func39, Try.ntmps39
  go_wp2
  go_ret
  exact ⟨rfl, rfl⟩

set_option maxHeartbeats 400000 in
set_option maxRecDepth 100000 in
theorem utf_hi (r : Int) (h0 : 57343 < r) (h1 : r ≤ 65535) (w : World) :
    Calls Try.prog 39 #[.int .i32 r] w fun e w' => e = .returned (.slice (some ⟨w.heap.size, 0, none⟩) 3 3) ∧ w' = w.alloc (.cells #[.int .u8 (224 + r / 4096), .int .u8 (128 + r / 64 % 64), .int .u8 (128 + r % 64)] 5) := by
  go_enter Try.func39, Try.ntmps39
  go_wp2
  go_ret
  exact ⟨rfl, rfl⟩

set_option maxHeartbeats 400000 in
set_option maxRecDepth 100000 in
theorem utf_sur (r : Int) (h0 : 55296 ≤ r) (h1 : r ≤ 57343) (w : World) :
    Calls Try.prog 39 #[.int .i32 r] w fun e w' => e = .returned (.slice (some ⟨w.heap.size, 0, none⟩) 3 3) ∧ w' = w.alloc (.cells #[.int .u8 239, .int .u8 191, .int .u8 189] 5) := by
  go_enter Try.func39, Try.ntmps39
  go_wp2
  go_ret
  exact ⟨rfl, rfl⟩

set_option maxHeartbeats 400000 in
set_option maxRecDepth 100000 in
theorem utf_four (r : Int) (h0 : 65536 ≤ r) (h1 : r ≤ 1114111) (w : World) :
    Calls Try.prog 39 #[.int .i32 r] w fun e w' => e = .returned (.slice (some ⟨w.heap.size, 0, none⟩) 4 4) ∧ w' = w.alloc (.cells #[.int .u8 (240 + r / 262144), .int .u8 (128 + r / 4096 % 64), .int .u8 (128 + r / 64 % 64), .int .u8 (128 + r % 64)] 5) := by
  go_enter Try.func39, Try.ntmps39
  go_wp2
  go_ret
  exact ⟨rfl, rfl⟩

theorem utf_any (r : Nat) (h : r ≤ 1114111) (w : World) :
    Calls Try.prog 39 #[.int .i32 r] w fun e w' => e = .returned (.slice (some ⟨w.heap.size, 0, none⟩) (Lib.encodeRune r).length (Lib.encodeRune r).length) ∧ w' = w.alloc (.cells (Lib.byteCells (Lib.encodeRune r)).toArray 5) := by
  rw [Lib.byteCells_encodeRune, ← Lib.runeCells_length]
  unfold Lib.runeCells
  by_cases a1 : r ≤ 127
  · rw [Lib.encodeRuneZ_one (by omega) (by omega)]
    exact utf_one r (by omega) (by omega) w
  · by_cases a2 : r ≤ 2047
    · rw [Lib.encodeRuneZ_two (by omega) (by omega)]
      exact utf_two r (by omega) (by omega) w
    · by_cases a3 : r < 55296
      · rw [Lib.encodeRuneZ_three (.inl (by omega))]
        exact utf_lo r (by omega) (by omega) w
      · by_cases a4 : r ≤ 57343
        · rw [Lib.encodeRuneZ_bad (.inr (.inl (by omega)))]
          exact utf_sur r (by omega) (by omega) w
        · by_cases a5 : r ≤ 65535
          · rw [Lib.encodeRuneZ_three (.inr (by omega))]
            exact utf_hi r (by omega) (by omega) w
          · rw [Lib.encodeRuneZ_four (by omega) (by omega)]
            exact utf_four r (by omega) (by omega) w

theorem ptsFrom_le (s : ByteArray) : ∀ (f i : Nat), ∀ x ∈ ptsFrom s f i, x.2 ≤ 1114111 := by
  intro f
  induction f with
  | zero => intro i x hx; cases hx
  | succ f ih =>
    intro i x hx
    simp only [ptsFrom] at hx
    split at hx
    · rcases List.mem_cons.1 hx with rfl | hx
      · exact ptAt_le s i
      · exact ih _ x hx
    · cases hx
theorem pts_le (s : ByteArray) : ∀ x ∈ pts s, x.2 ≤ 1114111 := ptsFrom_le s _ _
theorem rc_get (l : List (Nat × Nat)) (k : Nat) (h : k < l.length) : (rc l)[k]? = some (.int .i32 (l[k].2 : Nat)) := by simp [rc, h]
theorem ac_get (l : List (Nat × Nat)) (k : Nat) (h : k < l.length) : (ac l)[k]? = some (.int .i64 (l[k].1 : Nat)) := by simp [ac, h]
theorem textC_take (l : List (Nat × Nat)) (k : Nat) (h : k < l.length) (hl : l[k].2 ≤ 1114111) : textC (l.take (k + 1)) = textC (l.take k) ++ Lib.encodeRune (l[k].2 : Nat) := by
  rw [List.take_succ_eq_append_getElem h, textC_snoc]
  have : cap21 l[k].2 = l[k].2 := by unfold cap21; omega
  rw [this]

set_option maxHeartbeats 1000000 in
set_option maxRecDepth 100000 in
theorem rtext_any (s : ByteArray) (w : World) (hs : (s.size : Int) ≤ 1048576) :
    Calls Try.prog 13 #[.string s] w fun e w' => e = .returned (.string ⟨(textC (pts s)).toArray⟩) ∧ Below w.heap.size w w' := by
  obtain ⟨i0, hi, hz0, hz1, hz2⟩ := info_parts info8
  have hpl := pts_length s
  go_enter Try.func13, Try.ntmps13
  go_wp2_with fail
  refine (rpoints_any s _ hs).mono ?_
  rintro e w1 ⟨va, vr, rfl, oa, or, b1⟩
  obtain ⟨x, c, rfl⟩ := own_slice' or |>.imp fun _ h => h.imp fun _ h => h.1
  clear oa
  go_wp2
  go_loopw [5, 15] (fun v i wr => ∃ k : Nat, i = .int .i64 k ∧ k ≤ (pts s).length ∧ wr.ownsRow w.heap.size 5 1 v (textC ((pts s).take k)).length (Lib.byteCells (textC ((pts s).take k))) ∧ wr.ownsRow w.heap.size 21 1 (.slice x (pts s).length c) (pts s).length (rc (pts s)) ∧ Below w.heap.size w wr) (fun _ i _ => (pts s).length - (intOf i).toNat)
  case atStart => exact ⟨0, rfl, Nat.zero_le _, World.ownsRow_nil _ _ _ _, or, b1⟩
  case round =>
    obtain ⟨k, rfl, hk, hown, hr, hbw⟩ := hrel
    have hBW : w.heap.size ≤ wr.heap.size := hbw.size
    clear or b1
    by_cases hlt : k < (pts s).length
    · obtain ⟨g, rfl⟩ := own_some hr (by omega)
      have hle := pts_le s _ (List.getElem_mem hlt)
      have HT := Hid.mk' (textC_take (pts s) k hlt hle)
      have hcl : wr.cell? ⟨g, k, none⟩ = some (.int .i32 ((pts s)[k].2 : Nat)) := own_cell hr (rc_get (pts s) k hlt)
      have hln := textC_length ((pts s).take k)
      have hln2 : ((pts s).take k).length ≤ k := List.length_take_le _ _
      have h4 := Lib.encodeRuneZ_length ((pts s)[k].2 : Nat)
      have HU := Hid.mk' (fun W => utf_any (pts s)[k].2 hle W)
      obtain ⟨r, hr'⟩ : ∃ r, (pts s)[k].2 = r := ⟨_, rfl⟩
      rw [hr'] at hcl HT HU h4
      obtain ⟨bs, hbs⟩ : ∃ bs, Lib.encodeRune (r : Int) = bs := ⟨_, rfl⟩
      have hbl : bs.length ≤ 4 := by rw [← hbs]; simp only [Lib.encodeRune, List.length_map]; exact h4.2
      rw [hbs] at HT HU
      clear hr' hle hbs h4
      have i1 : (k : Int) < ((pts s).length : Int) := by omega
      go_wp2_with (first | (go_at_call 39; refine (HU.out _).mono ?_; rintro e w2 ⟨rfl, hw2⟩; rw [hw2]; clear hw2 w2) | (at_builtin; refine wpList_append_own _ rfl _ _ 61 rfl w.heap.size 5 i0 (.int .u8 0) 1 1 Try.underlying61 hi hz0 hz1 hz2 rfl (by decide) _ _ _ rfl (hown.alloc _) ⟨wr.heap.size, 0, none⟩ bs.length bs.length (Lib.byteCells bs) rfl (by rw [Lib.byteCells_length, Nat.mul_one]) (cells_new _ _ _) (oneCell_bytes _) (by unfold maxLen; omega) (by omega) (by simp; omega) ?_; intro v2 w2 o2 g2 _))
      have k2 := kept_append hown (grown_of_alloc g2) hBW
      have hr2 := own_kept hr k2 (by decide)
      clear g2
      go_wp2
      go_roundw
      case rel => exact ⟨k + 1, by go_num, by omega, by rw [HT.out, List.length_append, byteCells_append']; exact o2, hr2, hbw.trans k2.1⟩
      case measure => simp [intOf]; omega
    · obtain rfl : k = (pts s).length := by omega
      rw [List.take_length] at hown
      have hcv := conv_row hown 9 Try.underlying9
      go_wp2
      go_ret
      exact ⟨rfl, hbw⟩

end Go.Proofs.Ytalnmophdebnfaa
