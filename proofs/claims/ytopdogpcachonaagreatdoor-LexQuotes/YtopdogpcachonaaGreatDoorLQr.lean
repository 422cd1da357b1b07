/- lintelref05.Quote: the document's text literal. -/
import Derived.Test.YtopdogpcachonaaGreatDoorLQp
import Derived.Test.YtopdogpcachonaaGreatDoorRUnits
import Derived.Test.YtopdogpcachonaaGreatDoorOwn
namespace Go.Proofs.YtopdogpcachonaaGreatDoor
set_option linter.unusedVariables false
open Go.RowKit

theorem enc_one (c : UInt8) (h : c.toNat < 128) : Utf8.encode (c.toNat : Int) = Sb [c] := by
  unfold Utf8.encode
  have hv : Utf8.valid (c.toNat : Int) = true := by unfold Utf8.valid; simp; omega
  simp only [hv, if_true]
  simp [h, Sb]
def hxs (u : Nat) : List UInt8 := [hxd (u / 4096 % 16), hxd (u / 256 % 16), hxd (u / 16 % 16), hxd (u % 16)]
abbrev H16 : ByteArray := ⟨#[48, 49, 50, 51, 52, 53, 54, 55, 56, 57, 97, 98, 99, 100, 101, 102]⟩
theorem h16_get : ∀ m : Fin 16, H16.data.toList[m.val]? = some (hxd m.val) := by decide
theorem hexfact (m : Nat) (hm : m < 16) : ∃ (d : Int) (x : UInt8), (m : Int) = d ∧ 0 ≤ d ∧ d < 16 ∧ hxd m = x ∧ (∀ h : d.toNat < H16.size, H16[d.toNat]'h = x) ∧ Utf8.encode (x.toNat : Int) = Sb [x] := by
  refine ⟨m, hxd m, rfl, by omega, by omega, rfl, fun h => ?_, enc_one _ (hxd_lt m hm)⟩
  have e := h16_get ⟨m, hm⟩
  have h2 : m < H16.data.toList.length := hm
  rw [List.getElem?_eq_getElem h2] at e
  exact Option.some.inj e
theorem mask16 (z : Int) (m : Nat) (h0 : 0 ≤ z) (h1 : z < 65536) (e : z % 16 = (m : Int)) : bits BinOp.and IntKind.u16 z 15 = (m : Int) := by
  have q := bits_mask .u16 16 (by decide) wraps_u16 4 (by decide) z h0 (by omega)
  rw [← e]
  exact q
theorem qU_hex (u : Nat) (h : ¬ (u = 34 ∨ u = 92)) (h' : ¬ (32 ≤ u ∧ u ≤ 126)) : qU u = [92, 117] ++ hxs u := by
  unfold qU
  rw [show qE u = false from decide_eq_false h, show qP u = false from decide_eq_false h', if_neg (by decide), if_neg (by decide)]
  rfl
theorem qU_esc (u : Nat) (h : u = 34 ∨ u = 92) : qU u = [92, u.toUInt8] := by
  unfold qU
  rw [show qE u = true from decide_eq_true h, if_pos rfl]
theorem qU_plain (u : Nat) (h : ¬ (u = 34 ∨ u = 92)) (h' : 32 ≤ u ∧ u ≤ 126) : qU u = [u.toUInt8] := by
  unfold qU
  rw [show qE u = false from decide_eq_false h, show qP u = true from decide_eq_true h', if_neg (by decide), if_pos rfl]
theorem Sb_more (l m : List UInt8) (A : ByteArray) (h : Sb l = A) : A ++ Sb m = Sb (l ++ m) := by rw [← h, Sb_append]
set_option maxHeartbeats 4000000 in
set_option maxRecDepth 100000 in
theorem rquote_any (s : ByteArray) (w : World) (hs : (s.size : Int) ≤ 140737488351232) :
    Calls Tryz.prog 7 #[.string s] w fun e w' => e = .returned (.string (Sb (qT (uns s)))) ∧ Below w.heap.size w w' := by
  have HU := Hid.mk' (runits_wide s w hs)
  go_enter Tryz.func7, Tryz.ntmps7
  go_wp2_with fail
  refine HU.out.mono ?_
  rintro e w1 ⟨v, rfl, o1, b1⟩
  obtain ⟨a1, c1, rfl, _⟩ := own_slice' o1
  go_wp2
  go_loop [10, 3] (fun v l => ∃ k : Nat, v = .int .i64 k ∧ k ≤ s.size / 2 ∧ l = .string (Sb (34 :: qB ((uns s).take k)))) (fun v _ => s.size / 2 - (intOf v).toNat)
  case atStart => exact ⟨0, rfl, Nat.zero_le _, rfl⟩
  case round =>
    obtain ⟨k, rfl, hk, rfl⟩ := hrel
    by_cases hlt : k < s.size / 2
    · obtain ⟨g, rfl⟩ := own_some o1 (by omega)
      have hcl : w1.cell? ⟨g, k, none⟩ = some (.int .u16 (un s k)) := own_cell o1 (uc_get s _ k hlt)
      obtain ⟨z, hz⟩ : ∃ z : Int, (un s k : Int) = z := ⟨_, rfl⟩
      rw [hz] at hcl
      have hu := un_lt s k
      obtain ⟨u, hu'⟩ : ∃ u, un s k = u := ⟨_, rfl⟩
      have hk1 : k < (uns s).length := by rw [uns_length]; exact hlt
      have htk : qB ((uns s).take (k + 1)) = qB ((uns s).take k) ++ qU u := by
        rw [qB_take _ k hk1]
        congr 2
        rw [← hu']
        simp [uns]
      rw [hu'] at hz hu
      have HT := Hid.mk' htk
      obtain ⟨pre, hpre⟩ : ∃ pre, qB ((uns s).take k) = pre := ⟨_, rfl⟩
      rw [hpre] at HT ⊢
      have hpl : (Sb (34 :: pre)).size ≤ 844424930131968 := by
        have h1 := qB_len ((uns s).take k)
        rw [hpre, List.length_take] at h1
        rw [Sb_size, List.length_cons]
        omega
      clear hpre htk
      obtain ⟨A, hA⟩ : ∃ A, Sb (34 :: pre) = A := ⟨_, rfl⟩
      rw [hA] at hpl ⊢
      have HA := Hid.mk' hA
      clear hA
      have n1 : ¬ 9223372036854775807 < A.size + 2 := by omega
      have n2 : ¬ 9223372036854775807 < A.size + 1 := by omega
      have HFIN : Hid (∀ m : List UInt8, qU u = m → Sb (34 :: qB ((uns s).take (k + 1))) = A ++ Sb m) := Hid.mk' (fun m hm => by
        rw [HT.out, hm, Sb_more _ m A HA.out]; rfl)
      clear HT HA
      by_cases q1 : z = 34
      · subst q1
        have en : Utf8.encode 34 = ⟨#[34]⟩ := by decide +kernel
        have HF := Hid.mk' (HFIN.out [92, 34] (by rw [qU_esc u (.inl (by omega)), show u = 34 by omega]; rfl))
        clear hz
        go_wp2
        exact ⟨⟨k + 1, by go_num, by omega, by rw [HF.out]; rfl⟩, by simp [intOf]; omega⟩
      by_cases q2 : z = 92
      · subst q2
        have en : Utf8.encode 92 = ⟨#[92]⟩ := by decide +kernel
        have HF := Hid.mk' (HFIN.out [92, 92] (by rw [qU_esc u (.inr (by omega)), show u = 92 by omega]; rfl))
        clear hz
        go_wp2
        exact ⟨⟨k + 1, by go_num, by omega, by rw [HF.out]; rfl⟩, by simp [intOf]; omega⟩
      have e1 : (z == 34) = false := by simpa using q1
      have e2 : (z == 92) = false := by simpa using q2
      by_cases q3 : 32 ≤ z ∧ z ≤ 126
      · have HF := Hid.mk' (HFIN.out [u.toUInt8] (qU_plain u (by omega) (by omega)))
        obtain ⟨q4, q5⟩ := q3
        obtain ⟨x, hx⟩ : ∃ x, u.toUInt8 = x := ⟨_, rfl⟩
        have en : Utf8.encode z = Sb [x] := by
          have e := enc_one x (by rw [← hx, u8_lt u (by omega)]; omega)
          rw [← hx, u8_lt u (by omega), hz] at e
          rw [hx] at e
          exact e
        have en1 : (Sb [x]).size = 1 := rfl
        rw [hx] at HF
        clear hx hz hu'
        go_wp2
        exact ⟨⟨k + 1, by go_num, by omega, by rw [HF.out]⟩, by simp [intOf]; omega⟩
      have HF := Hid.mk' (HFIN.out _ (qU_hex u (by omega) (by omega)))
      have q3' : ¬ 32 ≤ z ∨ ¬ z ≤ 126 := by omega
      obtain ⟨d3, x3, hd3, a3, b3, hx3, g3, en3⟩ := hexfact (u / 4096 % 16) (Nat.mod_lt _ (by decide))
      obtain ⟨d2, x2, hd2, a2, b2, hx2, g2, en2⟩ := hexfact (u / 256 % 16) (Nat.mod_lt _ (by decide))
      obtain ⟨d1, x1, hd1, a1, b1', hx1, g1, en1⟩ := hexfact (u / 16 % 16) (Nat.mod_lt _ (by decide))
      obtain ⟨d0, x0, hd0, a0, b0, hx0, g0, en0⟩ := hexfact (u % 16) (Nat.mod_lt _ (by decide))
      have m3 := mask16 (z / 4096) (u / 4096 % 16) (by omega) (by omega) (by omega)
      have m2 := mask16 (z / 256) (u / 256 % 16) (by omega) (by omega) (by omega)
      have m1 := mask16 (z / 16) (u / 16 % 16) (by omega) (by omega) (by omega)
      have m0 := mask16 z (u % 16) (by omega) (by omega) (by omega)
      rw [hd3] at m3
      rw [hd2] at m2
      rw [hd1] at m1
      rw [hd0] at m0
      unfold hxs at HF
      rw [hx3, hx2, hx1, hx0] at HF
      have hsz : ∀ l : List UInt8, l.length ≤ 6 → ¬ 9223372036854775807 < (A ++ Sb l).size + 1 := fun l hl => by
        rw [ByteArray.size_append, Sb_size]; omega
      have happ : ∀ (l : List UInt8) (x : UInt8), A ++ Sb l ++ Sb [x] = A ++ Sb (l ++ [x]) := fun l x => by rw [ByteArray.append_assoc, Sb_append]
      have s0 := hsz [92, 117] (by simp)
      have s1 := hsz [92, 117, x3] (by simp)
      have s2 := hsz [92, 117, x3, x2] (by simp)
      have s3 := hsz [92, 117, x3, x2, x1] (by simp)
      have p1 := happ [92, 117] x3
      have p2 := happ [92, 117, x3] x2
      have p3 := happ [92, 117, x3, x2] x1
      have p4 := happ [92, 117, x3, x2, x1] x0
      simp only [List.cons_append, List.nil_append] at p1 p2 p3 p4 HF
      have p0 : A ++ ⟨#[92, 117]⟩ = A ++ Sb [92, 117] := rfl
      generalize A ++ Sb [92, 117] = A0 at *
      generalize A ++ Sb [92, 117, x3] = A1 at *
      generalize A ++ Sb [92, 117, x3, x2] = A2 at *
      generalize A ++ Sb [92, 117, x3, x2, x1] = A3 at *
      generalize A ++ Sb [92, 117, x3, x2, x1, x0] = A4 at *
      have sb1 : ∀ x : UInt8, (Sb [x]).size = 1 := fun x => rfl
      have M3 := Hid.mk' (And.intro m3 (And.intro g3 (And.intro en3 (And.intro a3 (And.intro b3 (And.intro s0 p1))))))
      have M2 := Hid.mk' (And.intro m2 (And.intro g2 (And.intro en2 (And.intro a2 (And.intro b2 (And.intro s1 p2))))))
      have M1 := Hid.mk' (And.intro m1 (And.intro g1 (And.intro en1 (And.intro a1 (And.intro b1' (And.intro s2 p3))))))
      have M0 := Hid.mk' (And.intro m0 (And.intro g0 (And.intro en0 (And.intro a0 (And.intro b0 (And.intro s3 p4))))))
      clear hsz happ hd3 hd2 hd1 hd0 hx3 hx2 hx1 hx0 m3 m2 m1 m0 g3 g2 g1 g0 en3 en2 en1 en0 a3 a2 a1 a0 b3 b2 b1' b0 s0 s1 s2 s3 p1 p2 p3 p4
      rcases q3' with q4 | q4
      all_goals
        clear q3
        go_wp2
        go_loop [6, 3] (fun v l => (v = .int .i64 12 ∧ l = .string A0) ∨ (v = .int .i64 8 ∧ l = .string A1) ∨ (v = .int .i64 4 ∧ l = .string A2) ∨ (v = .int .i64 0 ∧ l = .string A3) ∨ (v = .int .i64 (-4) ∧ l = .string A4)) (fun v _ => (intOf v + 4).toNat)
        case atStart => exact .inl ⟨rfl, rfl⟩
        case round =>
          clear q4 e1 e2 q1 q2 hz hcl HU
          rcases hrel with ⟨rfl, rfl⟩ | ⟨rfl, rfl⟩ | ⟨rfl, rfl⟩ | ⟨rfl, rfl⟩ | ⟨rfl, rfl⟩
          · obtain ⟨mm, gg, en, aa, bb, ss, pp⟩ := M3.out
            go_wp2
            go_round
            case rel => exact .inr (.inl ⟨rfl, rfl⟩)
            case measure => simp [intOf]
          · obtain ⟨mm, gg, en, aa, bb, ss, pp⟩ := M2.out
            go_wp2
            go_round
            case rel => exact .inr (.inr (.inl ⟨rfl, rfl⟩))
            case measure => simp [intOf]
          · obtain ⟨mm, gg, en, aa, bb, ss, pp⟩ := M1.out
            go_wp2
            go_round
            case rel => exact .inr (.inr (.inr (.inl ⟨rfl, rfl⟩)))
            case measure => simp [intOf]
          · obtain ⟨mm, gg, en, aa, bb, ss, pp⟩ := M0.out
            go_wp2
            go_round
            case rel => exact .inr (.inr (.inr (.inr ⟨rfl, rfl⟩)))
            case measure => simp [intOf]
          · go_wp2
            exact ⟨⟨k + 1, by go_num, by omega, by rw [HF.out]⟩, by simp [intOf]; omega⟩
    · obtain rfl : k = s.size / 2 := by omega
      have hsz : ¬ 9223372036854775807 < (Sb (34 :: qB ((uns s).take (s.size / 2)))).size + 1 := by
        have h1 := qB_len ((uns s).take (s.size / 2))
        rw [List.length_take] at h1
        rw [Sb_size, List.length_cons]
        omega
      have HFIN : Hid (Sb (34 :: qB ((uns s).take (s.size / 2))) ++ ⟨#[34]⟩ = Sb (qT (uns s))) := Hid.mk' (by
        rw [List.take_of_length_le (by rw [uns_length]; exact Nat.le_refl _), show (⟨#[34]⟩ : ByteArray) = Sb [34] from rfl, Sb_append]
        rfl)
      obtain ⟨A, hA⟩ : ∃ A, Sb (34 :: qB ((uns s).take (s.size / 2))) = A := ⟨_, rfl⟩
      rw [hA] at hsz HFIN ⊢
      clear hA
      go_wp2
      go_ret
      exact ⟨by rw [← HFIN.out]; rfl, b1⟩
end Go.Proofs.YtopdogpcachonaaGreatDoor
