/- tree.below: the closure that calls itself tells a node and those of its tree, each ahead of its kids. -/
import Derived.Test.YtkiofkppdpkboaaDoorKRng2
import Derived.Test.YtkiofkppdpkboaaDoorTSm
namespace Go.Proofs.YtkiofkppdpkboaaDoor
set_option linter.unusedVariables false
open Go.RowKit Go.Shelf
attribute [local go_sem] Oper.semAt_some

theorem KN.cell {Bk : Nat} {W W' : World} (h : KN Bk W W') {k j : Nat} {v : Value} (hne : k ≠ Bk) (hc : W.cell? ⟨k, j, none⟩ = some v) : W'.cell? ⟨k, j, none⟩ = some v := by
  have hlt : k < W.heap.size := World.block_lt_of_cell? W _ hc
  have h1 : W.heap[k]? = some W.heap[k] := Array.getElem?_eq_getElem hlt
  have h2 := h.same k _ hne h1
  have e : W'.cell? ⟨k, j, none⟩ = W.cell? ⟨k, j, none⟩ := by
    simp only [World.cell?, h1, h2]
  rw [e, hc]
/-- A row of numbers in memory, outside block Bk. -/
def RdI (Bk : Nat) (W : World) (v : Value) (ks : List Int) : Prop :=
  (∃ a c, v = .slice a 0 c ∧ ks = []) ∨ ∃ g o c, v = .slice (some ⟨g, o, none⟩) ks.length c ∧ ks.length ≤ c ∧ g ≠ Bk ∧ ∀ j (h : j < ks.length), W.cell? ⟨g, o + j, none⟩ = some (.int .i64 ks[j])
theorem RdI.keep {Bk : Nat} {W W' : World} {v : Value} {ks : List Int} (h : RdI Bk W v ks) (hk : KN Bk W W') : RdI Bk W' v ks := by
  rcases h with h | ⟨g, o, c, e, hl, hne, hc⟩
  · exact .inl h
  · exact .inr ⟨g, o, c, e, hl, hne, fun j hj => hk.cell hne (hc j hj)⟩
theorem RdI.form {Bk : Nat} {W : World} {v : Value} {ks : List Int} (h : RdI Bk W v ks) : ∃ x c, v = .slice x ks.length c := by
  rcases h with ⟨a, c, rfl, rfl⟩ | ⟨g, o, c, rfl, _⟩
  · exact ⟨_, _, rfl⟩
  · exact ⟨_, _, rfl⟩
/-- All nodes' kids in memory. -/
def RdK2 (Bk : Nat) (W : World) (v : Value) (K : List (List Int)) : Prop :=
  ∃ g c, v = .slice (some ⟨g, 0, none⟩) K.length c ∧ K.length ≤ c ∧ g ≠ Bk ∧ ∀ j (h : j < K.length), ∃ vj, W.cell? ⟨g, j, none⟩ = some vj ∧ RdI Bk W vj K[j]
theorem RdK2.keep {Bk : Nat} {W W' : World} {v : Value} {K : List (List Int)} (h : RdK2 Bk W v K) (hk : KN Bk W W') : RdK2 Bk W' v K := by
  obtain ⟨g, c, e, hl, hne, hc⟩ := h
  exact ⟨g, c, e, hl, hne, fun j hj => by obtain ⟨vj, h1, h2⟩ := hc j hj; exact ⟨vj, hk.cell hne h1, h2.keep hk⟩⟩
/-- A node and those of its tree, each ahead of its kids, with how deep they stand. -/
def poF (K : List (List Int)) : Nat → Nat → Int → List (Int × Int)
  | 0, _, _ => []
  | f + 1, n, d => ((n : Int), d) :: (K.getD n []).flatMap (fun k => poF K f k.toNat (d + 1))
/-- What the closure reads. -/
structure WB (Bk l y kb wk : Nat) (K : List (List Int)) (W : World) : Prop where
  cy : W.cell? ⟨y, 0, none⟩ = some (.func (.yield l) #[] #[])
  ck : ∃ v, W.cell? ⟨kb, 0, none⟩ = some v ∧ RdK2 Bk W v K
  cw : W.cell? ⟨wk, 0, none⟩ = some (.func (.func 37) #[] #[.pointer (some ⟨y, 0, none⟩), .pointer (some ⟨kb, 0, none⟩), .pointer (some ⟨wk, 0, none⟩)])
  hy : y ≠ Bk
  hk : kb ≠ Bk
  hw : wk ≠ Bk
theorem WB.keep {Bk l y kb wk : Nat} {K : List (List Int)} {W W' : World} (h : WB Bk l y kb wk K W) (hk : KN Bk W W') : WB Bk l y kb wk K W' := by
  obtain ⟨v, h1, h2⟩ := h.ck
  exact ⟨hk.cell h.hy h.cy, ⟨v, hk.cell h.hk h1, h2.keep hk⟩, hk.cell h.hw h.cw, h.hy, h.hk, h.hw⟩
def encT (x : Int × Int) : Array Value := #[.int .i64 x.1, .int .i64 x.2]

set_option maxRecDepth 100000 in
set_option maxHeartbeats 2000000 in
theorem walk_in (l Bk B0 y kb wk Nm : Nat) (K : List (List Int)) (hK : ∀ j (h : j < K.length), (K[j].length : Int) ≤ 140737488351232 ∧ ∀ k ∈ K[j], 0 ≤ k ∧ k < (j : Int)) (J Jx : List (Int × Int) → World → Prop)
    (hY : ∀ m pre x W1, J pre W1 → pre.length < Nm → YieldAt Fence.wide m Tryd.prog l (encT x) W1 fun e W' =>
      (e = .returned (.bool true) ∧ J (pre ++ [x]) W' ∧ KN Bk W1 W') ∨ (e = .returned (.bool false) ∧ Jx (pre ++ [x]) W' ∧ KF B0 W1 W')) :
    ∀ (f n : Nat) (d : Int) (pre : List (Int × Int)) (W : World) (m : Nat), n < f → n < K.length → WB Bk l y kb wk K W → J pre W → pre.length + (poF K f n d).length ≤ Nm → 0 ≤ d → d + (n : Int) ≤ 1000000000 →
      CallsIn Fence.wide m Tryd.prog 37 #[.int .i64 n, .int .i64 d, .pointer (some ⟨y, 0, none⟩), .pointer (some ⟨kb, 0, none⟩), .pointer (some ⟨wk, 0, none⟩)] W fun e W' =>
        (e = .returned (.bool true) ∧ J (pre ++ poF K f n d) W' ∧ KN Bk W W') ∨ (e = .returned (.bool false) ∧ ∃ q, q <+: poF K f n d ∧ Jx (pre ++ q) W')
  | 0, n, d, pre, W, m, hf, _, _, _, _, _, _ => absurd hf (Nat.not_lt_zero n)
  | f + 1, n, d, pre, W, m, hf, hn, hB, hJ, hlen, hd, hdn => by
    have IH := Hid.mk' (walk_in l Bk B0 y kb wk Nm K hK J Jx hY f)
    have HB := Hid.mk' hB
    have cy := hB.cy
    have hpo : poF K (f + 1) n d = ((n : Int), d) :: (K.getD n []).flatMap (fun k => poF K f k.toNat (d + 1)) := rfl
    have hks : K.getD n [] = K[n] := by rw [List.getD_eq_getElem?_getD, List.getElem?_eq_getElem hn]; rfl
    obtain ⟨ks, hksn⟩ : ∃ ks, K[n] = ks := ⟨_, rfl⟩
    obtain ⟨hkl, hka⟩ := hK n hn
    rw [hksn] at hkl hka hks
    rw [hks] at hpo
    obtain ⟨fn, tmps, assign, body, hy, hR⟩ := hY (m - 1) pre ((n : Int), d) W hJ (by rw [hpo, List.length_cons] at hlen; omega)
    simp only [encT] at hy
    have HR := Hid.mk' hR
    have HKA := Hid.mk' hka
    have HP := Hid.mk' hpo
    have HL := Hid.mk' hlen
    have HJ := Hid.mk' hJ
    have HKS := Hid.mk' hksn
    clear hR hB hka hpo hlen hJ hks hksn
    refine callsIn_of_wp Tryd.func37 rfl trivial ?_ rfl
    simp only [Tryd.ntmps37, List.size_toArray, List.length_cons, List.length_nil, Nat.reduceAdd, Nat.reduceSub, Array.replicate_succ, Array.replicate_zero, List.push_toArray, List.append_toArray, List.nil_append, List.cons_append]
    gi_wp2
    refine ⟨fun h => (by cases h), HR.out.mono ?_⟩
    rintro e W3 (⟨rfl, hJ3, hk3⟩ | ⟨rfl, hJx3, _⟩)
    · have HB3 := Hid.mk' (HB.out.keep hk3)
      obtain ⟨v, ckc, g, c, rfl, hl, hne, hc⟩ := HB3.out.ck
      obtain ⟨vj, cj, hrj⟩ := hc n hn
      rw [HKS.out] at hrj
      obtain ⟨x, cc, rfl⟩ := hrj.form
      have HRJ := Hid.mk' hrj
      have HK3 := Hid.mk' hk3
      have zn : (n : Int) < (K.length : Int) := by omega
      obtain ⟨kl, hkln⟩ : ∃ kl, ks.length = kl := ⟨_, rfl⟩
      rw [hkln] at hkl cj HRJ
      have HKL := Hid.mk' hkln
      have x1 : wrap64 (d + 1) = d + 1 := by unfold wrap64; omega
      clear hc hrj hk3 cy hy HR HB hl hkln
      gi_wp2
      gi_loopw [20] (fun v wr => ∃ (j : Nat), v = .int .i64 j ∧ j ≤ kl ∧ Hid (KN Bk W3 wr) ∧ Hid (J (pre ++ (((n : Int), d) :: (ks.take j).flatMap (fun k => poF K f k.toNat (d + 1)))) wr)) (fun v _ => kl - (intOf v).toNat)
      case atStart => exact ⟨0, rfl, Nat.zero_le _, Hid.mk' (KN.refl _ _), Hid.mk' hJ3⟩
      case round =>
        clear ckc cj hJ3
        obtain ⟨j, rfl, hj, HKN, HJ2⟩ := hrel
        by_cases hlt : j < kl
        · have zj : (j : Int) < (kl : Int) := by omega
          have hjl : j < ks.length := by rw [HKL.out]; exact hlt
          rcases HRJ.out with ⟨a', c', e', h'⟩ | ⟨g2, o2, c', e', hlc, hne2, hcc⟩
          · rw [h'] at hjl; simp at hjl
          · obtain rfl : x = some ⟨g2, o2, none⟩ := by injection e'
            have ck := HKN.out.cell hne2 (hcc j hjl)
            have HBW := Hid.mk' (HB3.out.keep HKN.out)
            have cw := HBW.out.cw
            obtain ⟨k0, k1⟩ := HKA.out _ (List.getElem_mem hjl)
            obtain ⟨kn, hkn⟩ : ∃ kn : Nat, ks[j] = (kn : Int) := ⟨_, (Int.toNat_of_nonneg k0).symm⟩
            have htk : ks.take (j + 1) = ks.take j ++ [(kn : Int)] := by rw [List.take_succ_eq_append_getElem hjl, hkn]
            have hsp : ks.flatMap (fun k => poF K f k.toNat (d + 1)) = (ks.take j).flatMap (fun k => poF K f k.toNat (d + 1)) ++ (poF K f kn (d + 1) ++ (ks.drop (j + 1)).flatMap (fun k => poF K f k.toNat (d + 1))) := by
              conv => lhs; rw [← List.take_append_drop j ks, List.drop_eq_getElem_cons hjl, hkn]
              rw [List.flatMap_append, List.flatMap_cons, Int.toNat_natCast]
            have hlen : (pre ++ (((n : Int), d) :: (ks.take j).flatMap (fun k => poF K f k.toNat (d + 1)))).length + (poF K f kn (d + 1)).length ≤ Nm := by
              have a := HL.out
              rw [HP.out, List.length_cons, hsp] at a
              simp only [List.length_append, List.length_cons] at a ⊢
              omega
            rw [hkn] at ck k1
            have HI := Hid.mk' (IH.out kn (d + 1) _ wr (m - 1) (by omega) (by omega) HBW.out HJ2.out hlen (by omega) (by omega))
            have HTK := Hid.mk' htk
            have HSP := Hid.mk' hsp
            clear hcc e' hlc htk hsp hlen k0 k1 hkn
            gi_wp2_with fail
            refine ⟨trivial, fun h => (by cases h), HI.out.mono ?_⟩
            rintro e W4 (⟨rfl, hJ4, hk4⟩ | ⟨rfl, qq, hq, hx⟩)
            · have HJ4 : Hid (J (pre ++ (((n : Int), d) :: (ks.take (j + 1)).flatMap (fun k => poF K f k.toNat (d + 1)))) W4) := Hid.mk' (by
                rw [HTK.out, List.flatMap_append]
                simpa using hJ4)
              have HK4 := Hid.mk' (HKN.out.trans hk4)
              clear hJ4 hk4
              gi_wp2
              go_roundw
              case rel => exact ⟨j + 1, by go_num, by omega, HK4, HJ4⟩
              case measure => simp [intOf]; omega
            · have HX : Hid (∃ q, q <+: poF K (f + 1) n d ∧ Jx (pre ++ q) W4) := Hid.mk' (by
                refine ⟨((n : Int), d) :: ((ks.take j).flatMap (fun k => poF K f k.toNat (d + 1)) ++ qq), ?_, by simpa using hx⟩
                rw [HP.out, HSP.out]
                obtain ⟨r, hr⟩ := hq
                exact ⟨r ++ (ks.drop (j + 1)).flatMap (fun k => poF K f k.toNat (d + 1)), by rw [← hr]; simp⟩)
              clear hx hq
              gi_wp2
              go_ret
              exact .inr ⟨rfl, HX.out⟩
        · obtain rfl : j = kl := by omega
          have zj : ¬ (j : Int) < (j : Int) := by omega
          gi_wp2
          go_ret
          refine .inl ⟨rfl, ?_, HK3.out.trans HKN.out⟩
          rw [HP.out]
          have := HJ2.out
          rwa [List.take_of_length_le (by rw [HKL.out]; exact Nat.le_refl _)] at this
    · gi_wp2
      go_ret
      refine .inr ⟨rfl, [((n : Int), d)], ?_, hJx3⟩
      rw [HP.out]
      exact ⟨_, rfl⟩
end Go.Proofs.YtkiofkppdpkboaaDoor
