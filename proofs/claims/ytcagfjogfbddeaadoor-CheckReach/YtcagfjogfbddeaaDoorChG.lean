/- Package check: the first instruction that is wrong. -/
import Derived.Test.YtcagfjogfbddeaaDoorChF
import Derived.PlainAid
import Derived.Lib.Fold
import Derived.Deep.LoopGhost
import Derived.WalkMore
import Derived.Shelf.Abstract
namespace Go.Proofs.YtcagfjogfbddeaaDoor
set_option linter.unusedVariables false
set_option linter.unusedSimpArgs false
open Go.RowKit

theorem LaidL.below' {W W' : World} (h : LaidL W) (hb : Below W.heap.size W W') : LaidL W' := fun k hk => (hb.cell (World.block_lt_of_cell? W _ (h k hk))).trans (h k hk)
/-- The checker with all that it leans on. -/
structure Cx (w : World) (cb mp B : Nat) (a : Option Addr) (c : Nat) (vn : Value) (q : FW) (qs : List FW) : Prop where
  ck : Ck w cb a qs.length c vn mp q
  km : KM w mp
  own : w.ownsRow B 81 3 vn qs.length ((needs qs).flatMap Need.cs)
  rd : q.rd w
  laid : LaidL w
theorem Cx.below {w w' : World} {cb mp B : Nat} {a : Option Addr} {c : Nat} {vn : Value} {q : FW} {qs : List FW} (h : Cx w cb mp B a c vn q qs) (hb : Below w.heap.size w w') : Cx w' cb mp B a c vn q qs :=
  ⟨h.ck.below hb, h.km.below hb, own_below h.own hb, h.rd.below hb, h.laid.below' hb⟩
set_option maxHeartbeats 4000000 in
set_option maxRecDepth 100000 in
theorem firstWrong_any {cb mp B : Nat} {a : Option Addr} {c : Nat} {vn : Value} {q : FW} {qs : List FW} (w : World) (h : Cx w cb mp B a c vn q qs) (hf : Fine' q.f) :
    Calls Tryd.prog 34 #[.pointer (some ⟨cb, 0, none⟩)] w fun e w' => e = .returned (.int .i64 (fwI (qs.map FW.f) q.f : Nat)) ∧ Below w.heap.size w w' := by
  have HX := Hid.mk' h
  have HF := Hid.mk' hf
  have hle := h.rd.i.le
  have hcl : q.yc * (5 * 8) ≤ 140737488351232 := h.rd.i.cle
  obtain ⟨n2, hn2⟩ : ∃ n, q.f.code.length = n := ⟨_, rfl⟩
  rw [hn2] at hle
  have HN := Hid.mk' hn2
  obtain ⟨R, hR⟩ : ∃ R, fwI (qs.map FW.f) q.f = R := ⟨_, rfl⟩
  rw [hR]
  have HR : Hid (∀ k, k ≤ n2 → (∀ j, j < k → insB (qs.map FW.f) q.f j (insAt q.f j) = true) → (k < n2 → insB (qs.map FW.f) q.f k (insAt q.f k) = false) → R = k) := Hid.mk' (fun k h1 h2 h3 => by rw [← hR]; exact fwI_eq (by rw [hn2]; exact h1) h2 (by rw [hn2]; exact h3))
  have HC9 : Hid (∀ W, Below w.heap.size w W → W.cell? ⟨cb, 9, none⟩ = some (.slice q.ya n2 q.yc)) := Hid.mk' (fun W hW => by have := (h.below hW).ck.cell 9; rw [this]; simp [hn2])
  obtain ⟨ya, hya⟩ : ∃ ya, q.ya = ya := ⟨_, rfl⟩
  obtain ⟨yc, hyc⟩ : ∃ yc, q.yc = yc := ⟨_, rfl⟩
  rw [hya, hyc] at HC9
  rw [hyc] at hle hcl
  have HRD : Hid (RdE Ins.cs 5 w ya yc q.f.code) := Hid.mk' (by rw [← hya, ← hyc]; exact h.rd.i)
  clear h hf hn2 hR hya hyc
  go_enter Tryd.func34, Tryd.ntmps34
  go_wp2_with fail
  go_step3
  go_wp2_with fail
  go_step3
  go_wp2_with fail
  go_loopg [3] n2 (fun gh v3 wr => ∃ k : Nat, k + gh = n2 ∧ v3 = .int .i64 (k : Int) ∧ k ≤ n2 ∧ Hid (Below w.heap.size w wr) ∧ Hid (∀ j, j < k → insB (qs.map FW.f) q.f j (insAt q.f j) = true))
  case atStart => exact ⟨0, by omega, rfl, Nat.zero_le _, Hid.mk' (Below.refl _ _), Hid.mk' (fun j h => by omega)⟩
  case round =>
    obtain ⟨k, hkg, rfl, hk, HBW, HAL⟩ := hrel
    have HKG := Hid.mk' hkg
    clear hkg
    have c9 := HC9.out wr HBW.out
    by_cases hlt : k < n2
    · have hlq : k < q.f.code.length := by rw [HN.out]; exact hlt
      obtain ⟨g, o, rfl, hg, hc⟩ := ((HRD.out).below HBW.out).at k hlq
      have i1 : (k : Int) < (n2 : Int) := by omega
      have i2 : (k : Int) < 140737488351232 := by omega
      have HFI := Hid.mk' (HF.out.i _ (List.getElem_mem hlq))
      have hIA : insAt q.f k = q.f.code[k] := by simp [insAt, List.getD_eq_getElem?_getD, List.getElem?_eq_getElem hlq]
      have HSt : Hid (∀ i, q.f.code[k] = i → insB (qs.map FW.f) q.f k i = true → ∀ j, j < k + 1 → insB (qs.map FW.f) q.f j (insAt q.f j) = true) := Hid.mk' (fun i hi hok j hj => by
        rcases Nat.lt_or_ge j k with h1 | h1
        · exact HAL.out j h1
        · obtain rfl : j = k := by omega
          rw [hIA, hi]; exact hok)
      have HEn : Hid (∀ i, q.f.code[k] = i → insB (qs.map FW.f) q.f k i = false → R = k) := Hid.mk' (fun i hi hno => HR.out k hk HAL.out (fun _ => by rw [hIA, hi]; exact hno))
      generalize q.f.code[k] = ins at hc HFI HSt HEn
      have HSt := Hid.mk' (HSt.out _ rfl)
      have HEn := Hid.mk' (HEn.out _ rfl)
      obtain ⟨op, ia, ib, ic, id⟩ := ins
      have d0 := hc 0 (.int .i64 op) (by omega) rfl
      have d1 := hc 1 (.int .i64 ia) (by omega) rfl
      have d2 := hc 2 (.int .i64 ib) (by omega) rfl
      have d3 := hc 3 (.int .i64 ic) (by omega) rfl
      have d4 := hc 4 (.int .i64 id) (by omega) rfl
      simp only [Nat.add_zero] at d0
      obtain ⟨W2, hW2⟩ : ∃ W2, wr.alloc (.cells #[.int .i64 op, .int .i64 ia, .int .i64 ib, .int .i64 ic, .int .i64 id] 44) = W2 := ⟨_, rfl⟩
      have b2 : Below wr.heap.size wr W2 := by rw [← hW2]; exact lay_below
      have q2 : W2.heap[wr.heap.size]? = some (.cells #[.int .i64 op, .int .i64 ia, .int .i64 ib, .int .i64 ic, .int .i64 id] 44 (0, 0)) := by rw [← hW2]; exact box_new
      have B2 := HBW.out.trans (b2.mono HBW.out.size)
      have HX2 := Hid.mk' (HX.out.below B2)
      have HOP := Hid.mk' (operandsZ op W2 (Hid.mk' HX2.out.laid))
      obtain ⟨bi, hbi⟩ : ∃ bi, wr.heap.size = bi := ⟨_, rfl⟩
      rw [hbi] at q2
      have HQ2 := Hid.mk' q2
      have HB2 := Hid.mk' B2
      have e0 : W2.cell? ⟨bi, 0, none⟩ = some (.int .i64 op) := (cell_row _ _ 0 _ _ q2).trans rfl
      have e1 : W2.cell? ⟨bi, 1, none⟩ = some (.int .i64 ia) := (cell_row _ _ 1 _ _ q2).trans rfl
      have e2 : W2.cell? ⟨bi, 2, none⟩ = some (.int .i64 ib) := (cell_row _ _ 2 _ _ q2).trans rfl
      have e3 : W2.cell? ⟨bi, 3, none⟩ = some (.int .i64 ic) := (cell_row _ _ 3 _ _ q2).trans rfl
      have e4 : W2.cell? ⟨bi, 4, none⟩ = some (.int .i64 id) := (cell_row _ _ 4 _ _ q2).trans rfl
      obtain ⟨L, hL⟩ : ∃ L, letz op = L := ⟨_, rfl⟩
      have HLZ := Hid.mk' hL
      have hl4 : L.length ≤ 4 := by rw [← hL]; exact letz_len op
      have HLI : Hid (∀ x ∈ L, x ∈ ([114, 107, 115, 110, 116, 102, 117] : List UInt8)) := Hid.mk' (by rw [← hL]; exact letz_in op)
      rw [hL] at HOP
      have hLT := Hid.mk' hlt
      have HNB : Hid ((n2 : Int) ≤ 140737488351232) := Hid.mk' (by omega)
      clear hc b2 B2 q2 hL hIA hg hlt hcl hle
      by_cases hE : L = []
      · subst hE
        have hR := HEn.out (by simp [insB, HLZ.out])
        subst hR
        have hS : (Sb []) = ⟨#[]⟩ := rfl
        rw [hS] at HOP
        clear i2
        go_wp2_with (go_at_call 20; refine HOP.out.mono ?_; rintro e w1 ⟨rfl, hw1⟩; rw [hw1]; clear hw1 w1)
        (try rw [Exit.noGoto_ret])
        go_ret
        exact ⟨rfl, HB2.out⟩
      · obtain ⟨S, hSb⟩ : ∃ S, Sb L = S := ⟨_, rfl⟩
        have hemp : S.toList.isEmpty = false := by
          rw [← hSb, Lib.toList_data, Sb_list]
          cases L with
          | nil => exact absurd rfl hE
          | cons x r => rfl
        have HOD := Hid.mk' (opnds_any W2 op ia ib ic id)
        rw [hSb] at HOP
        have hsL : S.size = L.length := by rw [← hSb, Sb_size]
        obtain ⟨z, hsz⟩ : ∃ z : Int, (S.size : Int) = z := ⟨_, rfl⟩
        have hz4 : z ≤ 4 := by omega
        have HSB := Hid.mk' hSb
        have HSL := Hid.mk' hsL
        have HSZ := Hid.mk' hsz
        have HNE := Hid.mk' hE
        clear hSb hE hl4 hsL
        go_wp2_with (first
          | (go_at_call 20; refine HOP.out.mono ?_; rintro e w1 ⟨rfl, hw1⟩; rw [hw1]; clear hw1 w1)
          | (go_at_call 21; refine HOD.out.mono ?_; rintro e w5 ⟨rfl, b5⟩))
        have B5 := HB2.out.trans ((b5).mono HB2.out.size)
        have HQ5 : Hid (w5.heap[bi]? = some (.cells #[.int .i64 op, .int .i64 ia, .int .i64 ib, .int .i64 ic, .int .i64 id] 44 (0, 0))) := Hid.mk' ((b5.block bi (Array.getElem?_eq_some_iff.1 HQ2.out).1).trans HQ2.out)
        have HB5 := Hid.mk' B5
        have HX5 := Hid.mk' (HX.out.below B5)
        clear b5 B5 e0 e1 e2 e3 e4 d0 d1 d2 d3 d4 c9 hemp
        go_loopg [33] 4 (fun gh v33 w6 => ∃ m : Nat, m + gh = 4 ∧ v33 = .int .i64 (m : Int) ∧ Hid (Below w5.heap.size w5 w6) ∧ Hid (∀ j, j < m → opkB qs.length q.f L ⟨op, ia, ib, ic, id⟩ j = true))
        case atStart => exact ⟨0, by omega, rfl, Hid.mk' (Below.refl _ _), Hid.mk' (fun j h => by omega)⟩
        case round =>
          obtain ⟨m, hmg, rfl, HB6, HOK⟩ := hrel
          have HX6 := Hid.mk' (HX5.out.below HB6.out)
          have c2 : wr.cell? ⟨cb, 2, none⟩ = some (.map (some mp)) := (HX6.out.ck.cell 2).trans rfl
          have HMG := Hid.mk' hmg
          have hm : m = 0 ∨ m = 1 ∨ m = 2 ∨ m = 3 ∨ m = 4 := by omega
          clear hmg hW2 hbi hk i1 i2 hz4
          rcases hm with rfl | rfl | rfl | rfl | rfl
          -- ROUNDS
          · have HSn : Hid (opkB qs.length q.f L ⟨op, ia, ib, ic, id⟩ 0 = true → ∀ j, j < 1 → opkB qs.length q.f L ⟨op, ia, ib, ic, id⟩ j = true) := Hid.mk' (fun h j hj => by
              rcases Nat.lt_or_ge j 0 with h1 | h1
              · exact HOK.out j h1
              · obtain rfl : j = 0 := by omega
                exact h)
            have HNo : Hid (opkB qs.length q.f L ⟨op, ia, ib, ic, id⟩ 0 = false → R = k) := Hid.mk' (fun h => HEn.out (by simp [insB, opsB, HLZ.out, h]))
            have hix : ∀ W, (Instr.index 63 (.agg #[.int .i64 ia, .int .i64 ib, .int .i64 ic, .int .i64 id]) (.int .i64 0)).run Tryd.prog W = .ok (.int .i64 ia) W := fun W => by kernel_rfl
            by_cases hml : (0 : Int) < z
            · have hm0 : 0 < S.size := by have := HSZ.out; omega
              have hLm : 0 < L.length := by rw [← HSL.out]; exact hm0
              have hj1 : ¬ z ≤ (0 : Int) := by omega
              obtain ⟨K, hlook, hent, hcall⟩ := kind_call wr HX6.out.ck HX6.out.km HX6.out.rd.c (L[0]'hLm) (HLI.out _ (List.getElem_mem _)) ia
              have eO : opkB qs.length q.f L ⟨op, ia, ib, ic, id⟩ 0 = opnB qs.length q.f (L[0]'hLm) ia := by
                simp [opkB, hLm, opx, List.getD_eq_getElem?_getD, List.getElem?_eq_getElem hLm]
              rw [eO] at HSn HNo
              have hbm : PlainAid.bt S 0 = ((L[0]'hLm).toNat : Int) := by
                rw [← PlainAid.get_bt S 0 hm0]
                have := HSB.out
                subst this
                rfl
              obtain ⟨lv, hlv⟩ : ∃ lv : Int, ((L[0]'hLm).toNat : Int) = lv := ⟨_, rfl⟩
              rw [hlv] at hbm hlook
              have hrun : ∀ n, (Instr.lookup 75 (.map (some mp)) (.int .u8 lv) false).run Tryd.prog (wr.drewN n) = .ok (.func (.func K) #[] #[]) (wr.drewN n) := fun n => hlook _ (by simp)
              have HCa := Hid.mk' (fun n => hcall (wr.drewN n) (by simp))
              have hbt := PlainAid.get_bt S
              obtain ⟨rb, hrb⟩ : ∃ rb, opnB qs.length q.f (L[0]'hLm) ia = rb := ⟨_, rfl⟩
              rw [hrb] at HSn HNo HCa
              clear hlook hcall hlv eO hrb
              cases rb with
              | true =>
                go_upto_region 10 with fail
                go_quiet ((go_at_fn K; refine Calls.quiet_of_same (HCa.out _)))
                go_wp2_with fail
                go_roundg 3
                case measure => have := HMG.out; omega
                case rel => exact ⟨1, by omega, rfl, Hid.mk' (HB6.out.trans (kept_drewN _ 0 _ _).1), Hid.mk' (HSn.out (by first | trivial | rfl))⟩
              | false =>
                have hR := HNo.out rfl
                subst hR
                go_upto_region 10 with fail
                go_quiet ((go_at_fn K; refine Calls.quiet_of_same (HCa.out _)))
                go_wp2_with fail
                (try rw [Exit.noGoto_ret])
                go_ret
                exact ⟨rfl, (HB5.out.trans ((HB6.out).mono HB5.out.size)).trans (kept_drewN _ 0 _ _).1⟩
            · have hj1 : z ≤ (0 : Int) := by omega
              have hLm : ¬ 0 < L.length := by rw [← HSL.out]; have := HSZ.out; omega
              have eO : opkB qs.length q.f L ⟨op, ia, ib, ic, id⟩ 0 = decide (ia = 0) := by simp [opkB, hLm, opx]
              rw [eO] at HSn HNo
              clear eO hLm
              by_cases hx : ia = 0
              · rw [decide_eq_true hx] at HSn HNo
                have hx' : (ia != 0) = false := by simp [hx]
                clear hx
                go_upto_region 10 with fail
                go_quiet (fail)
                go_wp2_with fail
                go_roundg 3
                case measure => have := HMG.out; omega
                case rel => exact ⟨1, by omega, rfl, Hid.mk' (HB6.out.trans (kept_drewN _ 0 _ _).1), Hid.mk' (HSn.out (by first | trivial | rfl))⟩
              · rw [decide_eq_false hx] at HSn HNo
                have hx' : (ia != 0) = true := by simp [hx]
                clear hx
                have hR := HNo.out rfl
                subst hR
                go_upto_region 10 with fail
                go_quiet (fail)
                go_wp2_with fail
                (try rw [Exit.noGoto_ret])
                go_ret
                exact ⟨rfl, (HB5.out.trans ((HB6.out).mono HB5.out.size)).trans (kept_drewN _ 0 _ _).1⟩
          · have HSn : Hid (opkB qs.length q.f L ⟨op, ia, ib, ic, id⟩ 1 = true → ∀ j, j < 2 → opkB qs.length q.f L ⟨op, ia, ib, ic, id⟩ j = true) := Hid.mk' (fun h j hj => by
              rcases Nat.lt_or_ge j 1 with h1 | h1
              · exact HOK.out j h1
              · obtain rfl : j = 1 := by omega
                exact h)
            have HNo : Hid (opkB qs.length q.f L ⟨op, ia, ib, ic, id⟩ 1 = false → R = k) := Hid.mk' (fun h => HEn.out (by simp [insB, opsB, HLZ.out, h]))
            have hix : ∀ W, (Instr.index 63 (.agg #[.int .i64 ia, .int .i64 ib, .int .i64 ic, .int .i64 id]) (.int .i64 1)).run Tryd.prog W = .ok (.int .i64 ib) W := fun W => by kernel_rfl
            by_cases hml : (1 : Int) < z
            · have hm0 : 1 < S.size := by have := HSZ.out; omega
              have hLm : 1 < L.length := by rw [← HSL.out]; exact hm0
              have hj1 : ¬ z ≤ (1 : Int) := by omega
              obtain ⟨K, hlook, hent, hcall⟩ := kind_call wr HX6.out.ck HX6.out.km HX6.out.rd.c (L[1]'hLm) (HLI.out _ (List.getElem_mem _)) ib
              have eO : opkB qs.length q.f L ⟨op, ia, ib, ic, id⟩ 1 = opnB qs.length q.f (L[1]'hLm) ib := by
                simp [opkB, hLm, opx, List.getD_eq_getElem?_getD, List.getElem?_eq_getElem hLm]
              rw [eO] at HSn HNo
              have hbm : PlainAid.bt S 1 = ((L[1]'hLm).toNat : Int) := by
                rw [← PlainAid.get_bt S 1 hm0]
                have := HSB.out
                subst this
                rfl
              obtain ⟨lv, hlv⟩ : ∃ lv : Int, ((L[1]'hLm).toNat : Int) = lv := ⟨_, rfl⟩
              rw [hlv] at hbm hlook
              have hrun : ∀ n, (Instr.lookup 75 (.map (some mp)) (.int .u8 lv) false).run Tryd.prog (wr.drewN n) = .ok (.func (.func K) #[] #[]) (wr.drewN n) := fun n => hlook _ (by simp)
              have HCa := Hid.mk' (fun n => hcall (wr.drewN n) (by simp))
              have hbt := PlainAid.get_bt S
              obtain ⟨rb, hrb⟩ : ∃ rb, opnB qs.length q.f (L[1]'hLm) ib = rb := ⟨_, rfl⟩
              rw [hrb] at HSn HNo HCa
              clear hlook hcall hlv eO hrb
              cases rb with
              | true =>
                go_upto_region 10 with fail
                go_quiet ((go_at_fn K; refine Calls.quiet_of_same (HCa.out _)))
                go_wp2_with fail
                go_roundg 2
                case measure => have := HMG.out; omega
                case rel => exact ⟨2, by omega, rfl, Hid.mk' (HB6.out.trans (kept_drewN _ 0 _ _).1), Hid.mk' (HSn.out (by first | trivial | rfl))⟩
              | false =>
                have hR := HNo.out rfl
                subst hR
                go_upto_region 10 with fail
                go_quiet ((go_at_fn K; refine Calls.quiet_of_same (HCa.out _)))
                go_wp2_with fail
                (try rw [Exit.noGoto_ret])
                go_ret
                exact ⟨rfl, (HB5.out.trans ((HB6.out).mono HB5.out.size)).trans (kept_drewN _ 0 _ _).1⟩
            · have hj1 : z ≤ (1 : Int) := by omega
              have hLm : ¬ 1 < L.length := by rw [← HSL.out]; have := HSZ.out; omega
              have eO : opkB qs.length q.f L ⟨op, ia, ib, ic, id⟩ 1 = decide (ib = 0) := by simp [opkB, hLm, opx]
              rw [eO] at HSn HNo
              clear eO hLm
              by_cases hx : ib = 0
              · rw [decide_eq_true hx] at HSn HNo
                have hx' : (ib != 0) = false := by simp [hx]
                clear hx
                go_upto_region 10 with fail
                go_quiet (fail)
                go_wp2_with fail
                go_roundg 2
                case measure => have := HMG.out; omega
                case rel => exact ⟨2, by omega, rfl, Hid.mk' (HB6.out.trans (kept_drewN _ 0 _ _).1), Hid.mk' (HSn.out (by first | trivial | rfl))⟩
              · rw [decide_eq_false hx] at HSn HNo
                have hx' : (ib != 0) = true := by simp [hx]
                clear hx
                have hR := HNo.out rfl
                subst hR
                go_upto_region 10 with fail
                go_quiet (fail)
                go_wp2_with fail
                (try rw [Exit.noGoto_ret])
                go_ret
                exact ⟨rfl, (HB5.out.trans ((HB6.out).mono HB5.out.size)).trans (kept_drewN _ 0 _ _).1⟩
          · have HSn : Hid (opkB qs.length q.f L ⟨op, ia, ib, ic, id⟩ 2 = true → ∀ j, j < 3 → opkB qs.length q.f L ⟨op, ia, ib, ic, id⟩ j = true) := Hid.mk' (fun h j hj => by
              rcases Nat.lt_or_ge j 2 with h1 | h1
              · exact HOK.out j h1
              · obtain rfl : j = 2 := by omega
                exact h)
            have HNo : Hid (opkB qs.length q.f L ⟨op, ia, ib, ic, id⟩ 2 = false → R = k) := Hid.mk' (fun h => HEn.out (by simp [insB, opsB, HLZ.out, h]))
            have hix : ∀ W, (Instr.index 63 (.agg #[.int .i64 ia, .int .i64 ib, .int .i64 ic, .int .i64 id]) (.int .i64 2)).run Tryd.prog W = .ok (.int .i64 ic) W := fun W => by kernel_rfl
            by_cases hml : (2 : Int) < z
            · have hm0 : 2 < S.size := by have := HSZ.out; omega
              have hLm : 2 < L.length := by rw [← HSL.out]; exact hm0
              have hj1 : ¬ z ≤ (2 : Int) := by omega
              obtain ⟨K, hlook, hent, hcall⟩ := kind_call wr HX6.out.ck HX6.out.km HX6.out.rd.c (L[2]'hLm) (HLI.out _ (List.getElem_mem _)) ic
              have eO : opkB qs.length q.f L ⟨op, ia, ib, ic, id⟩ 2 = opnB qs.length q.f (L[2]'hLm) ic := by
                simp [opkB, hLm, opx, List.getD_eq_getElem?_getD, List.getElem?_eq_getElem hLm]
              rw [eO] at HSn HNo
              have hbm : PlainAid.bt S 2 = ((L[2]'hLm).toNat : Int) := by
                rw [← PlainAid.get_bt S 2 hm0]
                have := HSB.out
                subst this
                rfl
              obtain ⟨lv, hlv⟩ : ∃ lv : Int, ((L[2]'hLm).toNat : Int) = lv := ⟨_, rfl⟩
              rw [hlv] at hbm hlook
              have hrun : ∀ n, (Instr.lookup 75 (.map (some mp)) (.int .u8 lv) false).run Tryd.prog (wr.drewN n) = .ok (.func (.func K) #[] #[]) (wr.drewN n) := fun n => hlook _ (by simp)
              have HCa := Hid.mk' (fun n => hcall (wr.drewN n) (by simp))
              have hbt := PlainAid.get_bt S
              obtain ⟨rb, hrb⟩ : ∃ rb, opnB qs.length q.f (L[2]'hLm) ic = rb := ⟨_, rfl⟩
              rw [hrb] at HSn HNo HCa
              clear hlook hcall hlv eO hrb
              cases rb with
              | true =>
                go_upto_region 10 with fail
                go_quiet ((go_at_fn K; refine Calls.quiet_of_same (HCa.out _)))
                go_wp2_with fail
                go_roundg 1
                case measure => have := HMG.out; omega
                case rel => exact ⟨3, by omega, rfl, Hid.mk' (HB6.out.trans (kept_drewN _ 0 _ _).1), Hid.mk' (HSn.out (by first | trivial | rfl))⟩
              | false =>
                have hR := HNo.out rfl
                subst hR
                go_upto_region 10 with fail
                go_quiet ((go_at_fn K; refine Calls.quiet_of_same (HCa.out _)))
                go_wp2_with fail
                (try rw [Exit.noGoto_ret])
                go_ret
                exact ⟨rfl, (HB5.out.trans ((HB6.out).mono HB5.out.size)).trans (kept_drewN _ 0 _ _).1⟩
            · have hj1 : z ≤ (2 : Int) := by omega
              have hLm : ¬ 2 < L.length := by rw [← HSL.out]; have := HSZ.out; omega
              have eO : opkB qs.length q.f L ⟨op, ia, ib, ic, id⟩ 2 = decide (ic = 0) := by simp [opkB, hLm, opx]
              rw [eO] at HSn HNo
              clear eO hLm
              by_cases hx : ic = 0
              · rw [decide_eq_true hx] at HSn HNo
                have hx' : (ic != 0) = false := by simp [hx]
                clear hx
                go_upto_region 10 with fail
                go_quiet (fail)
                go_wp2_with fail
                go_roundg 1
                case measure => have := HMG.out; omega
                case rel => exact ⟨3, by omega, rfl, Hid.mk' (HB6.out.trans (kept_drewN _ 0 _ _).1), Hid.mk' (HSn.out (by first | trivial | rfl))⟩
              · rw [decide_eq_false hx] at HSn HNo
                have hx' : (ic != 0) = true := by simp [hx]
                clear hx
                have hR := HNo.out rfl
                subst hR
                go_upto_region 10 with fail
                go_quiet (fail)
                go_wp2_with fail
                (try rw [Exit.noGoto_ret])
                go_ret
                exact ⟨rfl, (HB5.out.trans ((HB6.out).mono HB5.out.size)).trans (kept_drewN _ 0 _ _).1⟩
          · have HSn : Hid (opkB qs.length q.f L ⟨op, ia, ib, ic, id⟩ 3 = true → ∀ j, j < 4 → opkB qs.length q.f L ⟨op, ia, ib, ic, id⟩ j = true) := Hid.mk' (fun h j hj => by
              rcases Nat.lt_or_ge j 3 with h1 | h1
              · exact HOK.out j h1
              · obtain rfl : j = 3 := by omega
                exact h)
            have HNo : Hid (opkB qs.length q.f L ⟨op, ia, ib, ic, id⟩ 3 = false → R = k) := Hid.mk' (fun h => HEn.out (by simp [insB, opsB, HLZ.out, h]))
            have hix : ∀ W, (Instr.index 63 (.agg #[.int .i64 ia, .int .i64 ib, .int .i64 ic, .int .i64 id]) (.int .i64 3)).run Tryd.prog W = .ok (.int .i64 id) W := fun W => by kernel_rfl
            by_cases hml : (3 : Int) < z
            · have hm0 : 3 < S.size := by have := HSZ.out; omega
              have hLm : 3 < L.length := by rw [← HSL.out]; exact hm0
              have hj1 : ¬ z ≤ (3 : Int) := by omega
              obtain ⟨K, hlook, hent, hcall⟩ := kind_call wr HX6.out.ck HX6.out.km HX6.out.rd.c (L[3]'hLm) (HLI.out _ (List.getElem_mem _)) id
              have eO : opkB qs.length q.f L ⟨op, ia, ib, ic, id⟩ 3 = opnB qs.length q.f (L[3]'hLm) id := by
                simp [opkB, hLm, opx, List.getD_eq_getElem?_getD, List.getElem?_eq_getElem hLm]
              rw [eO] at HSn HNo
              have hbm : PlainAid.bt S 3 = ((L[3]'hLm).toNat : Int) := by
                rw [← PlainAid.get_bt S 3 hm0]
                have := HSB.out
                subst this
                rfl
              obtain ⟨lv, hlv⟩ : ∃ lv : Int, ((L[3]'hLm).toNat : Int) = lv := ⟨_, rfl⟩
              rw [hlv] at hbm hlook
              have hrun : ∀ n, (Instr.lookup 75 (.map (some mp)) (.int .u8 lv) false).run Tryd.prog (wr.drewN n) = .ok (.func (.func K) #[] #[]) (wr.drewN n) := fun n => hlook _ (by simp)
              have HCa := Hid.mk' (fun n => hcall (wr.drewN n) (by simp))
              have hbt := PlainAid.get_bt S
              obtain ⟨rb, hrb⟩ : ∃ rb, opnB qs.length q.f (L[3]'hLm) id = rb := ⟨_, rfl⟩
              rw [hrb] at HSn HNo HCa
              clear hlook hcall hlv eO hrb
              cases rb with
              | true =>
                go_upto_region 10 with fail
                go_quiet ((go_at_fn K; refine Calls.quiet_of_same (HCa.out _)))
                go_wp2_with fail
                go_roundg 0
                case measure => have := HMG.out; omega
                case rel => exact ⟨4, by omega, rfl, Hid.mk' (HB6.out.trans (kept_drewN _ 0 _ _).1), Hid.mk' (HSn.out (by first | trivial | rfl))⟩
              | false =>
                have hR := HNo.out rfl
                subst hR
                go_upto_region 10 with fail
                go_quiet ((go_at_fn K; refine Calls.quiet_of_same (HCa.out _)))
                go_wp2_with fail
                (try rw [Exit.noGoto_ret])
                go_ret
                exact ⟨rfl, (HB5.out.trans ((HB6.out).mono HB5.out.size)).trans (kept_drewN _ 0 _ _).1⟩
            · have hj1 : z ≤ (3 : Int) := by omega
              have hLm : ¬ 3 < L.length := by rw [← HSL.out]; have := HSZ.out; omega
              have eO : opkB qs.length q.f L ⟨op, ia, ib, ic, id⟩ 3 = decide (id = 0) := by simp [opkB, hLm, opx]
              rw [eO] at HSn HNo
              clear eO hLm
              by_cases hx : id = 0
              · rw [decide_eq_true hx] at HSn HNo
                have hx' : (id != 0) = false := by simp [hx]
                clear hx
                go_upto_region 10 with fail
                go_quiet (fail)
                go_wp2_with fail
                go_roundg 0
                case measure => have := HMG.out; omega
                case rel => exact ⟨4, by omega, rfl, Hid.mk' (HB6.out.trans (kept_drewN _ 0 _ _).1), Hid.mk' (HSn.out (by first | trivial | rfl))⟩
              · rw [decide_eq_false hx] at HSn HNo
                have hx' : (id != 0) = true := by simp [hx]
                clear hx
                have hR := HNo.out rfl
                subst hR
                go_upto_region 10 with fail
                go_quiet (fail)
                go_wp2_with fail
                (try rw [Exit.noGoto_ret])
                go_ret
                exact ⟨rfl, (HB5.out.trans ((HB6.out).mono HB5.out.size)).trans (kept_drewN _ 0 _ _).1⟩
          -- END
          · have k0 := HOK.out 0 (by omega)
            have k1 := HOK.out 1 (by omega)
            have k2 := HOK.out 2 (by omega)
            have k3 := HOK.out 3 (by omega)
            have hops : opsB (qs.map FW.f).length q.f L ⟨op, ia, ib, ic, id⟩ = true := by simp [opsB, k0, k1, k2, k3]
            have hq6 := (HB6.out.block bi (Array.getElem?_eq_some_iff.1 HQ5.out).1).trans HQ5.out
            have e0 : wr.cell? ⟨bi, 0, none⟩ = some (.int .i64 op) := (cell_row _ _ 0 _ _ hq6).trans rfl
            have e1 : wr.cell? ⟨bi, 1, none⟩ = some (.int .i64 ia) := (cell_row _ _ 1 _ _ hq6).trans rfl
            have e2 : wr.cell? ⟨bi, 2, none⟩ = some (.int .i64 ib) := (cell_row _ _ 2 _ _ hq6).trans rfl
            have e3 : wr.cell? ⟨bi, 3, none⟩ = some (.int .i64 ic) := (cell_row _ _ 3 _ _ hq6).trans rfl
            have e4 : wr.cell? ⟨bi, 4, none⟩ = some (.int .i64 id) := (cell_row _ _ 4 _ _ hq6).trans rfl
            have hrg : q.f.regs ≤ 9223372036854775807 := by have := HF.out.r; simp [Lit.wf, IntKind.min, IntKind.max, IntKind.bits, IntKind.signed] at this; omega
            have hAT := allThere_any wr HX6.out.ck HX6.out.own ⟨op, ia, ib, ic, id⟩ (fun e => by
                have eL : L = [114, 102] := by rw [← HLZ.out]; dsimp only at e; rw [e]; rfl
                subst eL
                simp [opkB, opnB, madB, opx] at k1
                dsimp only
                omega) (fun e => by
                have eL : L = [114, 114] := by rw [← HLZ.out]; dsimp only at e; rw [e]; rfl
                subst eL
                simp [opkB, opnB, regB, opx] at k0
                dsimp only
                omega) (fun e => by
                have eL : L = [114, 114, 116] := by rw [← HLZ.out]; dsimp only at e; rw [e]; rfl
                subst eL
                simp [opkB, opnB, regB, opx] at k1
                dsimp only
                omega)
            simp only [Ins.cs] at hAT
            obtain ⟨rA, hrA⟩ : ∃ rA, allB (qs.map FW.f) q.f ⟨op, ia, ib, ic, id⟩ = rA := ⟨_, rfl⟩
            obtain ⟨rL, hrL⟩ : ∃ rL, leaB op = rL := ⟨_, rfl⟩
            rw [hrA] at hAT
            have HAT := Hid.mk' hAT
            have HLV := Hid.mk' (fun W => leaves_any W op)
            rw [hrL] at HLV
            have hins : insB (qs.map FW.f) q.f k ⟨op, ia, ib, ic, id⟩ = (rA && !(decide ((k : Int) = (n2 : Int) - 1) && !rL)) := by
              have hne : L.isEmpty = false := by
                cases L with
                | nil => simp [Sb] at HSB; have := HNE.out; simp at this
                | cons x r => rfl
              unfold insB
              dsimp only
              rw [HLZ.out, hne, hops, hrA, hrL, HN.out]
              simp
            rw [hins] at HSt HEn
            have hnb := HNB.out
            clear k0 k1 k2 k3 hops hq6 hAT hrA hrL hins hrg
            have HQ6 := Hid.mk' ((HB6.out.block bi (Array.getElem?_eq_some_iff.1 HQ5.out).1).trans HQ5.out)
            have B6w := HB5.out.trans ((HB6.out).mono HB5.out.size)
            have HB6w := Hid.mk' B6w
            have C9 : Hid (∀ W, Below wr.heap.size wr W → W.cell? ⟨cb, 9, none⟩ = some (.slice (some ⟨g, o, none⟩) n2 yc)) := Hid.mk' (fun W hW => HC9.out W (B6w.trans (hW.mono B6w.size)))
            clear B6w
            have i2 : (k : Int) < 140737488351232 := by have := HNB.out; have := hLT.out; omega
            cases rA with
            | false =>
              have hR := HEn.out rfl
              subst hR
              go_wp2_with (first
                | (go_at_call 46; refine HAT.out.mono ?_; rintro e w7 ⟨rfl, b7⟩; have hq7 := (b7.block bi (Array.getElem?_eq_some_iff.1 HQ6.out).1).trans HQ6.out; have f0 : w7.cell? ⟨bi, 0, none⟩ = some (.int .i64 op) := (cell_row _ _ 0 _ _ hq7).trans rfl; have g9 := C9.out _ b7; have HB7 := Hid.mk' b7; clear b7 hq7)
                | (go_at_call 14; refine (HLV.out _).mono ?_; rintro e w8 ⟨rfl, hw8⟩; rw [hw8]; clear hw8 w8))
              (try rw [Exit.noGoto_ret])
              go_ret
              exact ⟨rfl, HB6w.out.trans (HB7.out.mono HB6w.out.size)⟩
            | true =>
              by_cases hla : (k : Int) = (n2 : Int) - 1
              · have hlb : ((k : Int) == (n2 : Int) - 1) = true := by simp [hla]
                rw [decide_eq_true hla] at HSt HEn
                clear hla
                cases rL with
                | false =>
                  have hR := HEn.out rfl
                  subst hR
                  go_wp2_with (first
                | (go_at_call 46; refine HAT.out.mono ?_; rintro e w7 ⟨rfl, b7⟩; have hq7 := (b7.block bi (Array.getElem?_eq_some_iff.1 HQ6.out).1).trans HQ6.out; have f0 : w7.cell? ⟨bi, 0, none⟩ = some (.int .i64 op) := (cell_row _ _ 0 _ _ hq7).trans rfl; have g9 := C9.out _ b7; have HB7 := Hid.mk' b7; clear b7 hq7)
                | (go_at_call 14; refine (HLV.out _).mono ?_; rintro e w8 ⟨rfl, hw8⟩; rw [hw8]; clear hw8 w8))
                  (try rw [Exit.noGoto_ret])
                  go_ret
                  exact ⟨rfl, HB6w.out.trans (HB7.out.mono HB6w.out.size)⟩
                | true =>
                  go_wp2_with (first
                | (go_at_call 46; refine HAT.out.mono ?_; rintro e w7 ⟨rfl, b7⟩; have hq7 := (b7.block bi (Array.getElem?_eq_some_iff.1 HQ6.out).1).trans HQ6.out; have f0 : w7.cell? ⟨bi, 0, none⟩ = some (.int .i64 op) := (cell_row _ _ 0 _ _ hq7).trans rfl; have g9 := C9.out _ b7; have HB7 := Hid.mk' b7; clear b7 hq7)
                | (go_at_call 14; refine (HLV.out _).mono ?_; rintro e w8 ⟨rfl, hw8⟩; rw [hw8]; clear hw8 w8))
                  go_roundg (n2 - (k + 1))
                  case measure => have := HKG.out; have := hLT.out; omega
                  case rel => exact ⟨k + 1, by have := hLT.out; omega, by go_num, hLT.out, Hid.mk' (HB6w.out.trans (HB7.out.mono HB6w.out.size)), Hid.mk' (HSt.out rfl)⟩
              · have hlb : ((k : Int) == (n2 : Int) - 1) = false := by simp [hla]
                rw [decide_eq_false hla] at HSt HEn
                clear hla
                go_wp2_with (first
                | (go_at_call 46; refine HAT.out.mono ?_; rintro e w7 ⟨rfl, b7⟩; have hq7 := (b7.block bi (Array.getElem?_eq_some_iff.1 HQ6.out).1).trans HQ6.out; have f0 : w7.cell? ⟨bi, 0, none⟩ = some (.int .i64 op) := (cell_row _ _ 0 _ _ hq7).trans rfl; have g9 := C9.out _ b7; have HB7 := Hid.mk' b7; clear b7 hq7)
                | (go_at_call 14; refine (HLV.out _).mono ?_; rintro e w8 ⟨rfl, hw8⟩; rw [hw8]; clear hw8 w8))
                go_roundg (n2 - (k + 1))
                case measure => have := HKG.out; have := hLT.out; omega
                case rel => exact ⟨k + 1, by have := hLT.out; omega, by go_num, hLT.out, Hid.mk' (HB6w.out.trans (HB7.out.mono HB6w.out.size)), Hid.mk' (HSt.out rfl)⟩
    · have i1 : ¬ (k : Int) < (n2 : Int) := by omega
      have hR := HR.out k hk HAL.out (fun h => absurd h hlt)
      subst hR
      go_wp2
      (try rw [Exit.noGoto_ret])
      go_ret
      exact ⟨rfl, HBW.out⟩
end Go.Proofs.YtcagfjogfbddeaaDoor
