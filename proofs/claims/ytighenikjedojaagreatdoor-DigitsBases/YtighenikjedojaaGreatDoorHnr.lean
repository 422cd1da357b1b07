/- lintelref03.nearest: digits to a base as the nearest float. lintelref03.nearest: digits to a base as the nearest float. -/
import Derived.Test.YtighenikjedojaaGreatDoorHrd
import Derived.Test.YtighenikjedojaaGreatDoorFb3
import Derived.Test.YtighenikjedojaaGreatDoorWnr
namespace Go.Proofs.YtighenikjedojaaGreatDoor
set_option linter.unusedVariables false
open Go.RowKit Fl

theorem info32 : (Tryz.prog.info? 89).map (fun i => (i.zero, i.size, i.bytes)) = some (some (.int .u32 0), 1, 4) := by kernel_rfl
abbrev W32 : Nat := 4294967296
/-- Words of 32 bits as cells. -/
def vC (l : List Nat) : List Value := l.map fun x => Value.int .u32 (x : Nat)
theorem vC_get (l : List Nat) (j : Nat) (h : j < l.length) : (vC l)[j]? = some (.int .u32 ((l.getD j 0 : Nat) : Int)) := by
  unfold vC
  rw [List.getElem?_map, List.getElem?_eq_getElem h, List.getD_eq_getElem?_getD, List.getElem?_eq_getElem h]
  rfl
theorem vC_set (l : List Nat) (j x : Nat) : (vC l).set j (.int .u32 (x : Nat)) = vC (l.set j x) := by
  unfold vC; rw [List.map_set]
theorem w32_pow : W32 = 16 ^ 8 := by decide
/-- The text of the words from the highest down. -/
def hxT (N len j : Nat) : List Nat := [48, 120, 48] ++ hexds (8 * (len - j)) (N / W32 ^ j)
theorem hxT_step (N len j : Nat) (h : j < len) : hxT N len (j + 1) ++ hexds 8 (N / W32 ^ j % W32) = hxT N len j := by
  unfold hxT
  rw [List.append_assoc]
  congr 1
  have e1 : 8 * (len - j) = 8 * (len - (j + 1)) + 8 := by omega
  rw [e1, hexds_add, w32_pow, hexds_mod 8, ← w32_pow, Nat.div_div_eq_div_mul, ← Nat.pow_succ]
theorem hxT_start (N len : Nat) : hxT N len len = [48, 120, 48] := by
  unfold hxT; rw [Nat.sub_self, Nat.mul_zero]; rfl
theorem hxT_length (N len j : Nat) : (hxT N len j).length = 3 + 8 * (len - j) := by
  unfold hxT; rw [List.length_append, hexds_length]; rfl
theorem fds_word (x : Nat) (h : x < W32) : fds 16 (x + 4294967296) = 49 :: hexds 8 x := by
  have := fds_hex 8 64 1 x [] (by omega) (by omega) (by rw [← w32_pow]; exact h) (by omega)
  rw [List.append_nil, Nat.one_mul, ← w32_pow] at this
  unfold fds
  rw [Nat.add_comm]
  exact this
theorem dgc_lt (d : Nat) (h : d < 16) : dgc d < 256 := by unfold dgc; split <;> omega
theorem bt_nb (l : List Nat) (j : Nat) (h : j < l.length) (h2 : l.getD j 0 < 256) : PlainAid.bt (Sb (nb l)) j = (l.getD j 0 : Nat) := by
  unfold PlainAid.bt
  have hs : j < (Sb (nb l)).size := by rw [Sb_size, nb_length]; exact h
  rw [dif_pos hs]
  have e : (Sb (nb l))[j]'hs = UInt8.ofNat (l.getD j 0) := by
    have e1 : (Sb (nb l)).data.toList[j]? = some ((Sb (nb l))[j]'hs) := by
      rw [List.getElem?_eq_getElem (by simpa using hs)]
      rfl
    rw [Sb_list] at e1
    unfold nb at e1
    rw [List.getElem?_map, List.getElem?_eq_getElem h] at e1
    have e2 : l.getD j 0 = l[j] := by rw [List.getD_eq_getElem?_getD, List.getElem?_eq_getElem h]; rfl
    rw [e2]
    exact (Option.some.inj e1).symm
  rw [e, UInt8.toNat_ofNat_of_lt' h2]
theorem hx_of (N len : Nat) (h : N < W32 ^ len) : HX (Sb (nb (hxT N len 0 ++ [112, 48]))) (8 * len + 1) N := by
  have hl : N < 16 ^ (8 * len) := by rw [w32_pow, ← Nat.pow_mul] at h; exact h
  have hT : hxT N len 0 ++ [112, 48] = [48, 120] ++ (hexds (8 * len + 1) N ++ [112, 48]) := by
    unfold hxT
    rw [Nat.sub_zero, Nat.pow_zero, Nat.div_one, show 8 * len + 1 = 1 + 8 * len by omega, hexds_add, Nat.div_eq_of_lt hl]
    simp [hexds, dgc]
  have hlen : ([48, 120] ++ (hexds (8 * len + 1) N ++ [112, 48])).length = 8 * len + 1 + 4 := by
    simp [hexds_length]
  rw [hT]
  have get : ∀ j x, ([48, 120] ++ (hexds (8 * len + 1) N ++ [112, 48])).getD j 0 = x → j < 8 * len + 1 + 4 → x < 256 → PlainAid.bt (Sb (nb ([48, 120] ++ (hexds (8 * len + 1) N ++ [112, 48])))) j = (x : Nat) := fun j x e hj hx => by
    have := bt_nb ([48, 120] ++ (hexds (8 * len + 1) N ++ [112, 48])) j (by rw [hlen]; exact hj) (by rw [e]; exact hx)
    rw [this, e]
  have gt : ∀ j, j < 8 * len + 1 → ([48, 120] ++ (hexds (8 * len + 1) N ++ [112, 48])).getD (j + 2) 0 = dgc (N / 16 ^ (8 * len + 1 - 1 - j) % 16) := fun j hj => by
    rw [← hexds_get (8 * len + 1) N j hj, List.getD_eq_getElem?_getD, List.getElem?_append_right (by simp), List.getD_eq_getElem?_getD]
    simp only [List.length_cons, List.length_nil, Nat.zero_add, Nat.reduceAdd, Nat.add_sub_cancel]
    rw [List.getElem?_append_left (by rw [hexds_length]; exact hj)]
  have gb : ∀ k, ([48, 120] ++ (hexds (8 * len + 1) N ++ [112, 48])).getD (8 * len + 1 + 2 + k) 0 = [112, 48].getD k 0 := fun k => by
    rw [List.getD_eq_getElem?_getD, List.getElem?_append_right (by simp; omega), List.getD_eq_getElem?_getD, List.getElem?_append_right (by rw [hexds_length]; simp; omega), hexds_length]
    congr 2
    simp
    omega
  refine ⟨by rw [Sb_size, nb_length, hlen], get 0 48 rfl (by omega) (by omega), get 1 120 rfl (by omega) (by omega), fun j hj => ?_, ?_, ?_, by omega, ?_⟩
  · exact get (j + 2) _ (gt j hj) (by omega) (dgc_lt _ (Nat.mod_lt _ (by omega)))
  · exact get (8 * len + 1 + 2) 112 (gb 0) (by omega) (by omega)
  · exact get (8 * len + 1 + 3) 48 (gb 1) (by omega) (by omega)
  · exact Nat.lt_of_lt_of_le hl (Nat.pow_le_pow_right (by omega) (by omega))
end Go.Proofs.YtighenikjedojaaGreatDoor

namespace Go.Proofs.YtighenikjedojaaGreatDoor
set_option linter.unusedVariables false
open Go.RowKit Fl

set_option maxHeartbeats 4000000 in
set_option maxRecDepth 100000 in
theorem rnearest_w (s : ByteArray) (b : Nat) (w : World) (hs : s.size ≤ 100000) (hb : 2 ≤ b ∧ b ≤ 36) (hd : ∀ j, j < s.size → digitN (by' s j) < b) (htz : Hid (∀ W, Below w.heap.size w W → TZ W))
    (HPF : Hid (∀ (S : ByteArray) (n N : Nat) (W : World), HX S n N → n ≤ 1000000 → Below w.heap.size w W → Calls Tryz.prog 69 #[.string S, .int .i64 64] W fun e w' => ∃ err, e = .returned (.tuple #[.float .f64 (NF N), err]) ∧ Below W.heap.size W w')) :
    Calls Tryz.prog 39 #[.string s, .int .i64 b] w fun e w' => e = .returned (.float .f64 (NF (numN s b s.size))) ∧ Below w.heap.size w w' := by
  have hbt := PlainAid.get_bt s
  obtain ⟨n, hn⟩ : ∃ n, s.size = n := ⟨_, rfl⟩
  obtain ⟨i0, hi, hz0, hz1, hz2⟩ := info_parts info32
  have HD := Hid.mk' hd
  rw [hn] at HD hs ⊢
  obtain ⟨R, hR⟩ : ∃ R, NF (numN s b n) = R := ⟨_, rfl⟩
  have HRn := Hid.mk' hR
  rw [hR]
  clear hR
  have hsz : (s.size : Int) = (n : Int) := by rw [hn]
  have hwb : IntKind.u64.wrap (b : Int) = (b : Int) := wrap_nat b (by omega)
  clear hd hn
  go_enter Tryz.func39, Tryz.ntmps39
  go_wp2
  go_loopw [5, 6] (fun v iv wr => ∃ (i : Nat) (l : List Nat) (a : Option Addr) (cap : Nat), v = .slice a l.length cap ∧ iv = .int .i64 i ∧ i ≤ n ∧ l.length ≤ i ∧ Hid (IsW W32 (numN s b i) l) ∧ Hid (wr.ownsRow w.heap.size 89 1 (.slice a l.length cap) l.length (vC l)) ∧ Hid (Below w.heap.size w wr)) (fun _ i _ => n - (intOf i).toNat)
  case atStart => exact ⟨0, [], none, 0, rfl, rfl, by omega, by simp, Hid.mk' (isW_nil _), Hid.mk' (World.ownsRow_nil _ _ _ _), Hid.mk' (Below.refl _ _)⟩
  case round =>
    obtain ⟨i, l, a, cap, rfl, rfl, hin, hli, HW, HO, HB⟩ := hrel
    by_cases hlt : i < n
    · obtain ⟨d, hdd⟩ : ∃ d, digitN (by' s i) = d := ⟨_, rfl⟩
      have hdb : d < b := by rw [← hdd]; exact HD.out i hlt
      have l0 : by' s i < 256 := by unfold by'; exact UInt8.toNat_lt _
      have HDg := Hid.mk' (digit_any (by' s i) wr l0)
      rw [hdd, ← bt_by] at HDg
      have HNs : Hid (numN s b i * b + d = numN s b (i + 1)) := by show _ = _; rw [← hdd]; rfl
      have hil : (i : Int) < (n : Int) := by omega
      have hwd : IntKind.u64.wrap (d : Int) = (d : Int) := wrap_nat d (by omega)
      obtain ⟨m, hm⟩ : ∃ m, l.length = m := ⟨_, rfl⟩
      have hl0 := HW.out.wdo b d
      have HM := Hid.mk' hm
      have ho := HO.out
      rw [hm] at ho hl0 hli ⊢
      rw [hl0] at ho
      have HO0 := Hid.mk' ho
      obtain ⟨N, hN⟩ : ∃ N, numN s b i = N := ⟨_, rfl⟩
      rw [hN] at HO0 HNs HW
      have hm5 : (m : Int) ≤ 100000 := by omega
      clear ho hl0 hm HO hN hdd
      go_wp2_with (go_at_call 67; refine HDg.out.mono ?_; rintro e w1 ⟨rfl, hw1⟩; rw [hw1]; clear hw1 w1)
      go_loopw [7, 28] (fun cv kv w2 => ∃ (k c : Nat), cv = .int .u64 (c : Nat) ∧ kv = .int .i64 (k : Nat) ∧ k ≤ m ∧ c < 36 ∧ Hid (c = cry W32 N b d k) ∧ Hid (w2.ownsRow w.heap.size 89 1 (.slice a m cap) m (vC (wdo W32 N b d k m))) ∧ Hid (Below w.heap.size w w2)) (fun _ k _ => m - (intOf k).toNat)
      case atStart => exact ⟨0, d, rfl, rfl, by omega, by omega, Hid.mk' (cry_zero ..).symm, HO0, HB⟩
      case round =>
        obtain ⟨k, c, rfl, rfl, hkm, hc36, HK, HO1, HB1⟩ := hrel
        by_cases hk : k < m
        · obtain ⟨g, rfl⟩ : ∃ g, a = some ⟨g, 0, none⟩ := own_some HO1.out (by omega)
          obtain ⟨x, hx⟩ : ∃ x, N / W32 ^ k % W32 = x := ⟨_, rfl⟩
          have hx32 : x < 4294967296 := by rw [← hx]; exact Nat.mod_lt _ (by decide)
          have hcell : wr.cell? ⟨g, k, none⟩ = some (.int .u32 (x : Nat)) := by
            refine own_cell HO1.out ?_
            rw [vC_get _ _ (by rw [wdo_length]; exact hk), wdo_get _ _ _ _ _ _ _ hk, if_neg (by omega), hx]
          have hfr := HO1.out.frozenAt k
          have hst := cry_step W32 N b d k (by decide)
          rw [hx, ← HK.out] at hst
          obtain ⟨h1, h2⟩ := hst
          obtain ⟨P, hP⟩ : ∃ P, x * b = P := ⟨_, rfl⟩
          have hPb : P ≤ 4294967295 * 36 := by rw [← hP]; exact Nat.mul_le_mul (by omega) hb.2
          obtain ⟨T, hT⟩ : ∃ T, P + c = T := ⟨_, rfl⟩
          rw [hP, hT] at h1 h2
          obtain ⟨Sx, hSx⟩ : ∃ Sx, T % 4294967296 = Sx := ⟨_, rfl⟩
          obtain ⟨C, hC⟩ : ∃ C, T / 4294967296 = C := ⟨_, rfl⟩
          have f0 : IntKind.u64.wrap (x : Int) = (x : Int) := wrap_nat x (by omega)
          have f1 : IntKind.u64.wrap ((x : Int) * (b : Int)) = (P : Int) := by
            rw [show (x : Int) * (b : Int) = ((P : Nat) : Int) by rw [← hP, Int.natCast_mul]]; exact wrap_nat P (by omega)
          have f2 : IntKind.u64.wrap ((P : Int) + (c : Int)) = (T : Int) := by
            rw [show (P : Int) + (c : Int) = ((T : Nat) : Int) by omega]; exact wrap_nat T (by omega)
          have f3 : IntKind.u32.wrap (T : Int) = (Sx : Int) := by rw [IntKind.wrap_u32]; omega
          have f4 : (T : Int) / 4294967296 = (C : Int) := by omega
          have HC := Hid.mk' (show C = cry W32 N b d (k + 1) by rw [← hC]; exact h2)
          have hC36 : C < 36 := by rw [HC.out]; exact Nat.lt_of_lt_of_le (cry_lt W32 N b d (k + 1) (by decide) hdb) hb.2
          have hst2 := HO1.out.stored k (.int .u32 (Sx : Nat))
          have e1 : Sx = (N * b + d) / W32 ^ k % W32 := by rw [← hSx]; exact h1
          rw [vC_set, e1, wdo_step W32 N b d k m hk, ← e1] at hst2
          have HS2 := Hid.mk' hst2.1
          have hgB : w.heap.size ≤ g := by
            obtain ⟨a', c', e, hh⟩ := own_slice' HO1.out
            cases e
            rcases hh with ⟨q, _⟩ | ⟨g', q, hB'⟩
            · cases q
            · cases q; exact hB'
          have HB2 : Hid (Below w.heap.size w (wr.setCell ⟨g, k, none⟩ (.int .u32 (Sx : Nat)))) := HB1.out.setCell (p := ⟨g, k, none⟩) hgB _
          clear hst2 e1 h1 h2 hx hP hT hSx hC HK HO1 HO0 HB HB1
          have hkl : (k : Int) < (m : Int) := by omega
          go_wp2
          go_roundw
          case rel => exact ⟨k + 1, C, rfl, by go_num, by omega, hC36, HC, HS2, HB2⟩
          case measure => simp [intOf]; omega
        · have hkm' : k = m := by omega
          subst hkm'
          have hkl : ¬ (k : Int) < (k : Int) := by omega
          have hn := HM.out
          rw [← hn] at HK
          by_cases hc0 : c = 0
          · subst hc0
            have hr := HW.out.same b d (by omega) (by decide) HK.out.symm
            rw [hn, HNs.out] at hr
            have HR := Hid.mk' hr
            have hlen : k = (wdo W32 N b d k k).length := (wdo_length ..).symm
            generalize wdo W32 N b d k k = L2 at *
            subst hlen
            clear hr HK
            go_wp2
            go_roundw
            case rel => exact ⟨i + 1, L2, a, cap, rfl, by go_num, by omega, by omega, HR, HO1, HB1⟩
            case measure => simp [intOf]; omega
          · have hr := HW.out.more b d hdb (Nat.le_trans hb.2 (by decide)) (by rw [← HK.out]; exact hc0)
            rw [← HK.out, hn, HNs.out] at hr
            have HR := Hid.mk' hr
            have hcp : (0 : Int) < (c : Int) := by omega
            have f5 : IntKind.u32.wrap (c : Int) = (c : Int) := by rw [IntKind.wrap_u32]; omega
            clear hr HK
            go_wp2_with (at_builtin; refine wpList_append_own _ rfl _ _ 88 rfl w.heap.size 89 i0 (.int .u32 0) 1 4 Tryz.underlying88 hi hz0 hz1 hz2 rfl (by decide) _ _ _ rfl (HO1.out.alloc _) ⟨wr.heap.size, 0, none⟩ 1 1 [.int .u32 (c : Nat)] rfl rfl (cells_new _ _ _) (by intro u hu; simp at hu; subst hu; rfl) (by unfold maxLen; omega) (by omega) (by have := HB1.out.size; simp; omega) ?_)
            intro v1 w3 o1 g1 _
            have hb3 : Below w.heap.size w w3 := HB1.out.trans (kept_append HO1.out (grown_of_alloc g1) (by have := HB1.out.size; omega)).1
            have e2 : vC (wdo W32 N b d k k) ++ [.int .u32 (c : Nat)] = vC (wdo W32 N b d k k ++ [c]) := by unfold vC; rw [List.map_append]; rfl
            rw [e2] at o1
            have hlen : k + 1 = (wdo W32 N b d k k ++ [c]).length := by rw [List.length_append, wdo_length]; rfl
            generalize wdo W32 N b d k k ++ [c] = L2 at *
            rw [hlen] at o1
            obtain ⟨a1, c1, rfl, _⟩ := own_slice' o1
            have HO3 := Hid.mk' o1
            have HB3 := Hid.mk' hb3
            clear o1 hb3 g1 e2
            go_wp2
            go_roundw
            case rel => exact ⟨i + 1, L2, a1, c1, rfl, by go_num, by omega, by omega, HR, HO3, HB3⟩
            case measure => simp [intOf]; omega
    · have hin' : i = n := by omega
      subst hin'
      have hil : ¬ (i : Int) < (i : Int) := by omega
      obtain ⟨N, hN⟩ : ∃ N, numN s b i = N := ⟨_, rfl⟩
      have HRN := Hid.mk' HRn.out
      rw [hN] at HW HRN
      obtain ⟨m, hm⟩ : ∃ m, l.length = m := ⟨_, rfl⟩
      have HW2 := Hid.mk' HW.out
      have HM := Hid.mk' hm
      rw [hm] at HO hli ⊢
      have hm5 : (m : Int) ≤ 100000 := by omega
      clear hN hm HW
      go_wp2
      go_loopw [10, 11] (fun hv kv w3 => ∃ (j : Nat) (X : ByteArray), j ≤ m ∧ hv = .string X ∧ kv = .int .i64 ((j : Int) - 1) ∧ (X.size : Int) ≤ 900000 ∧ Hid (X = Sb (nb (hxT N m j))) ∧ Hid (w3.ownsRow w.heap.size 89 1 (.slice a m cap) m (vC l)) ∧ Hid (Below w.heap.size w w3)) (fun _ k _ => (intOf k + 1).toNat)
      case atStart => exact ⟨m, _, Nat.le_refl _, rfl, rfl, by decide, Hid.mk' (by rw [hxT_start]; rfl), HO, HB⟩
      case round =>
        obtain ⟨j, X, hjm, rfl, rfl, hXs, HX1, HO1, HB1⟩ := hrel
        by_cases hj : j = 0
        · subst hj
          have HXX : Hid (HX (X ++ ⟨#[112, 48]⟩) (8 * m + 1) N) := by
            have hh := hx_of N m (by have := HW2.out.lt; rw [HM.out] at this; exact this)
            have e : X ++ ⟨#[112, 48]⟩ = Sb (nb (hxT N m 0 ++ [112, 48])) := by
              rw [HX1.out, show (⟨#[112, 48]⟩ : ByteArray) = Sb (nb [112, 48]) from rfl, Sb_append]
              unfold nb
              rw [List.map_append]
            rw [e]
            exact hh
          have HP := Hid.mk' (HPF.out (X ++ ⟨#[112, 48]⟩) (8 * m + 1) N wr HXX.out (by omega) HB1.out)
          rw [HRN.out] at HP
          have HB2 := Hid.mk' HB1.out
          clear HX1 HXX HO1 HO HB HB1
          go_wp2_with fail
          refine HP.out.mono ?_
          rintro e w4 ⟨err, rfl, b4⟩
          have bb : Below w.heap.size w w4 := HB2.out.trans (b4.mono HB2.out.size)
          have HBB := Hid.mk' bb
          clear b4 bb
          go_wp2
          go_ret
          exact ⟨rfl, HBB.out⟩
        · obtain ⟨y, rfl⟩ : ∃ y, j = y + 1 := ⟨j - 1, by omega⟩
          obtain ⟨g, rfl⟩ : ∃ g, a = some ⟨g, 0, none⟩ := own_some HO1.out (by omega)
          have hlen := HM.out
          obtain ⟨x, hx⟩ : ∃ x, N / W32 ^ y % W32 = x := ⟨_, rfl⟩
          have hx32 : x < 4294967296 := by rw [← hx]; exact Nat.mod_lt _ (by decide)
          have hcell : wr.cell? ⟨g, y, none⟩ = some (.int .u32 (x : Nat)) := by
            refine own_cell HO1.out ?_
            rw [vC_get _ _ (by omega), HW2.out.get y (by omega), hx]
          have f0 : IntKind.u64.wrap (x : Int) = (x : Int) := wrap_nat x (by omega)
          obtain ⟨U, hU⟩ : ∃ U, x + 4294967296 = U := ⟨_, rfl⟩
          have f1 : IntKind.u64.wrap ((x : Int) + 4294967296) = (U : Int) := by
            rw [show (x : Int) + 4294967296 = ((U : Nat) : Int) by omega]; exact wrap_nat U (by omega)
          have HF := Hid.mk' (fmtHex_any U wr (by omega) (htz.out wr HB1.out))
          have hT : fds 16 U = 49 :: hexds 8 x := by rw [← hU]; exact fds_word x hx32
          rw [hT] at HF
          obtain ⟨Tx, hTx⟩ : ∃ Tx, Sb (nb (49 :: hexds 8 x)) = Tx := ⟨_, rfl⟩
          rw [hTx] at HF
          have hTs : (Tx.size : Int) = 9 := by rw [← hTx, Sb_size, nb_length, List.length_cons, hexds_length]; rfl
          have hext : Tx.extract 1 Tx.size = Sb (nb (hexds 8 x)) := by
            rw [← hTx, Sb_extract, Sb_size, List.take_of_length_le (Nat.le_refl _)]
            rfl
          have hYs : ((Tx.extract 1 Tx.size).size : Int) = 8 := by rw [hext, Sb_size, nb_length, hexds_length]; rfl
          have HE : Hid (X ++ Tx.extract 1 Tx.size = Sb (nb (hxT N m y))) := by
            show _ = _
            rw [hext, HX1.out, Sb_append, ← hxT_step N m y (by omega), hx]
            unfold nb
            rw [List.map_append]
          have HOb := Hid.mk' HO1.out
          have HSz : Hid (((X ++ Tx.extract 1 Tx.size).size : Int) ≤ 900000) := by
            show _ ≤ _
            rw [HE.out, Sb_size, nb_length, hxT_length]
            omega
          have hyi : (0 : Int) ≤ (y : Int) := by omega
          clear hT hTx hext hU hx HX1 HO HB
          go_wp2_with fail
          refine HF.out.mono ?_
          rintro e w4 ⟨rfl, b4⟩
          have HO4 := Hid.mk' (own_below HO1.out b4)
          have HB4 := Hid.mk' (HB1.out.trans (b4.mono HB1.out.size))
          clear b4 HO1 HB1 hcell
          go_wp2
          go_roundw
          case rel => exact ⟨y, _, by omega, rfl, by go_num, HSz.out, HE, HO4, HB4⟩
          case measure => simp [intOf]
end Go.Proofs.YtighenikjedojaaGreatDoor
