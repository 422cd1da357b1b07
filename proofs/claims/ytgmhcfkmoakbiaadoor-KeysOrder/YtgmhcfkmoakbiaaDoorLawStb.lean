/- KeysStable: putting keys in order keeps them all, and once is enough. -/
import Derived.Test.YtgmhcfkmoakbiaaDoorKPl
import Derived.Test.YtgmhcfkmoakbiaaDoorKFew
import Derived.Test.YtgmhcfkmoakbiaaDoorKSrt9
import Derived.Laws.MakeOwn
namespace Go.Proofs.YtgmhcfkmoakbiaaDoor
set_option linter.unusedVariables false
open Go.RowKit

/-- The classes of keys that are not used yet. -/
def fr : KL → List Bool → KL
  | p :: l, u :: U => if u then fr l U else cls p :: fr l U
  | _, _ => []
theorem fr_start : ∀ (l : KL), fr l (List.replicate l.length false) = l.map cls
  | [] => rfl
  | p :: l => by
    show fr (p :: l) (false :: List.replicate l.length false) = _
    rw [fr, if_neg (by simp), fr_start l]; rfl
theorem fr_mem : ∀ (l : KL) (U : List Bool) (c : ByteArray × Int), U.length = l.length → c ∈ fr l U → ∃ (n : Nat) (h : n < l.length), U[n]? = some false ∧ cls l[n] = c
  | [], U, c, _, h => by cases U <;> cases h
  | p :: l, [], c, hl, h => by cases h
  | p :: l, u :: U, c, hl, h => by
    have hl' : U.length = l.length := by simpa using hl
    rw [fr] at h
    cases u
    · rw [if_neg (by simp)] at h
      rcases List.mem_cons.1 h with rfl | h
      · exact ⟨0, by simp, rfl, rfl⟩
      · obtain ⟨n, hn, h1, h2⟩ := fr_mem l U c hl' h
        exact ⟨n + 1, by simpa using hn, by simpa using h1, by simpa using h2⟩
    · rw [if_pos rfl] at h
      obtain ⟨n, hn, h1, h2⟩ := fr_mem l U c hl' h
      exact ⟨n + 1, by simpa using hn, by simpa using h1, by simpa using h2⟩
theorem fr_set : ∀ (l : KL) (U : List Bool) (n : Nat) (h : n < l.length), U[n]? = some false → (fr l U).Perm (cls l[n] :: fr l (U.set n true))
  | [], U, n, h, _ => by simp at h
  | p :: l, [], n, h, hu => by simp at hu
  | p :: l, u :: U, 0, h, hu => by
    simp only [List.getElem?_cons_zero, Option.some.injEq] at hu
    subst hu
    rw [List.set_cons_zero, fr, fr, if_neg (by simp), if_pos rfl]
    exact List.Perm.refl _
  | p :: l, u :: U, n + 1, h, hu => by
    have ih := fr_set l U n (by simpa using h) (by simpa using hu)
    rw [List.set_cons_succ, fr, fr]
    cases u
    · rw [if_neg (by simp), if_neg (by simp)]
      exact (List.Perm.cons _ ih).trans (List.Perm.swap _ _ _)
    · rw [if_pos rfl, if_pos rfl]
      exact ih

/-- The world of the law's loops: below the row of those used all stands; that row. -/
structure SR (w0 : World) (U : List Bool) (wr : World) : Prop where
  b : Below w0.heap.size w0 wr
  u : wr.heap[w0.heap.size]? = some (.cells (U.map Value.bool).toArray 4 (0, 0))
theorem SR.lt {w0 wr : World} {U : List Bool} (h : SR w0 U wr) : w0.heap.size < wr.heap.size := (Array.getElem?_eq_some_iff.1 h.u).1
theorem SR.grow {w0 wr w1 : World} {U : List Bool} (h : SR w0 U wr) (hb : Below wr.heap.size wr w1) : SR w0 U w1 :=
  ⟨h.b.trans (hb.mono (Nat.le_of_lt h.lt)), (hb.block _ h.lt).trans h.u⟩
theorem SR.cell {w0 wr : World} {U : List Bool} (h : SR w0 U wr) (n : Nat) (hn : n < U.length) : wr.cell? ⟨w0.heap.size, n, none⟩ = some (.bool U[n]) := by
  rw [cell_of_row _ _ _ _ _ _ h.u]; simp [hn]
theorem SR.frozen {w0 wr : World} {U : List Bool} (h : SR w0 U wr) (n : Nat) : wr.frozen? ⟨w0.heap.size, n, none⟩ = false := by
  simp [World.frozen?, h.u]
theorem SR.set {w0 wr : World} {U : List Bool} (h : SR w0 U wr) (n : Nat) (hn : n < U.length) : SR w0 (U.set n true) (wr.setCell ⟨w0.heap.size, n, none⟩ (.bool true)) := by
  refine ⟨h.b.setCell (p := ⟨w0.heap.size, n, none⟩) (Nat.le_refl _) _, ?_⟩
  simp [World.setCell, Array.getElem?_modify, h.u, List.map_set]
theorem SR.new (w0 : World) (n : Nat) : SR w0 (List.replicate n false) (w0.alloc (.cells (Array.replicate n (.bool false)) 4)) := by
  refine ⟨(Below.refl _ _).alloc (Nat.le_refl _) _, ?_⟩
  rw [heap_alloc_new]
  simp
/-- A key in its box. -/
structure KB (w : World) (b : Nat) (p : ByteArray × Int) : Prop where
  c0 : w.cell? ⟨b, 0, none⟩ = some (.string p.1)
  c1 : w.cell? ⟨b, 1, none⟩ = some (.int .i64 p.2)
  lt : b < w.heap.size
theorem KB.grow {w w' : World} {b : Nat} {p : ByteArray × Int} (h : KB w b p) (hb : Below w.heap.size w w') : KB w' b p :=
  ⟨(hb.cell (p := ⟨b, 0, none⟩) h.lt).trans h.c0, (hb.cell (p := ⟨b, 1, none⟩) h.lt).trans h.c1, Nat.lt_of_lt_of_le h.lt hb.size⟩
theorem KB.set {w : World} {b g n : Nat} {p : ByteArray × Int} (h : KB w b p) (hne : g ≠ b) (v : Value) : KB (w.setCell ⟨g, n, none⟩ v) b p :=
  ⟨by rw [World.cell?_setCell_other _ _ _ _ (by intro e; cases e; exact hne rfl)]; exact h.c0, by rw [World.cell?_setCell_other _ _ _ _ (by intro e; cases e; exact hne rfl)]; exact h.c1, by simpa using h.lt⟩
theorem KB.new (w : World) (s : ByteArray) (z : Int) : KB (w.alloc (.cells #[.string s, .int .i64 z] 25)) w.heap.size (s, z) :=
  ⟨World.cell?_alloc_new w _ _ _, World.cell?_alloc_new w _ _ _, by simp⟩

theorem step_call2' {P : Program} {ops : Array Oper} {o : Oper} {a : Act} {w : World} {K : Act → World → Prop} {Q : Exit → Act → World → Prop} {E : Prop}
    (hg : o.guard = none) (f : FuncId) (x y : Operand) (t u : TypeId) (hop : o.op = Op.call { callee := Callee.value (Operand.func f), args := #[x, y], argTypes := #[t, u] })
    (he : ∀ args w, (callFunc f args).run P w = .ok (.enter f args) w) (vx vy : Value) (hx : a.eval x = vx) (hy : a.eval y = vy) {R : Ending → World → Prop} (hC : Calls P f #[vx, vy] w R)
    (hK : ∀ e w', R e w' → ∃ v, e = .returned v ∧ K (a.put o.dst v) w') :
    if Region.wanted o (yielded ops a.tmps) = true then Oper.wp P o a w K Q else E := by
  have hw : Region.wanted o (yielded ops a.tmps) = true := by simp [Region.wanted, hg]
  rw [if_pos hw]
  unfold Oper.wp
  have hf : a.eval (Operand.func f) = .func (.func f) #[] #[] := rfl
  simp [execOp, hop, resolve, invoke, Deferred.ofValue, hx, hy, hf, he]
  rw [Oper.upon_enter]
  exact hC.mono (fun e w' h => by obtain ⟨v, rfl, hk⟩ := hK e w' h; exact hk)

theorem infoB : (Tryd.prog.info? 4).map (fun i => (i.zero, i.size, i.bytes)) = some (some (.bool false), 1, 1) := by kernel_rfl
theorem made_bools (n : Nat) : madeCells (Value.bool false).cells n = Array.replicate n (.bool false) := by
  apply Array.ext
  · simp [size_madeCells]
  · intro i h1 h2
    simp [madeCells, Value.cells, Nat.mod_one]

set_option maxHeartbeats 8000000 in
set_option maxRecDepth 100000 in
theorem stable_walk (x : Option Addr) (c : Nat) (l : KL) (w : World) (hv : RdK w (.slice x l.length c) l) (hz : ∀ p ∈ l, (p.1.size : Int) ≤ 140737488351232) (hn : (l.length : Int) * 24 ≤ 140737488351232) (hP : P10 w) :
    Calls Tryd.prog 4 #[.slice x l.length c] w fun e w' => e = .returned (.bool true) ∧ Below w.heap.size w w' := by
  have HA := Hid.mk' (awake_any w hP)
  have HV := Hid.mk' hv
  have HZ := Hid.mk' hz
  have HP := Hid.mk' hP
  clear hv hz hP
  have hM : (l.length : Nat) < 4611686018427387904 := by omega
  go_enter Tryd.func4, Tryd.ntmps4
  go_wp2_with fail
  refine (HA.out).mono ?_
  rintro e w1 ⟨rfl, b1⟩
  have HV1 := Hid.mk' (HV.out.below b1)
  have HF := Hid.mk' (few_any l hn HZ.out _ w1 HV1.out)
  clear HA
  go_wp2_with fail
  refine (HF.out).mono ?_
  rintro e w2 ⟨⟨fb, rfl⟩, b2⟩
  have B2 : Below w.heap.size w w2 := b1.trans (b2.mono b1.size)
  have HV2 := Hid.mk' (HV1.out.below b2)
  clear HF HV1 b1 b2
  cases fb
  · go_wp2
    go_ret
    exact ⟨rfl, B2⟩
  · have hix : ∀ l' : KL, (ixs l').length ≤ l'.length := fun l' => by have := parts_length l'; omega
    have HO := Hid.mk' (order_any l.length (sort_all _ hM) l (hix l) HZ.out hn _ w2 HV2.out (HP.out.below B2))
    go_wp2_with fail
    refine (HO.out).mono ?_
    rintro e w3 ⟨vo, rfl, o3, b3⟩
    have B3 : Below w.heap.size w w3 := B2.trans (b3.mono B2.size)
    have hol := ord_length l
    have HRo := Hid.mk' (RdK.own o3)
    have HV3 := Hid.mk' (HV2.out.below b3)
    have HO2 := Hid.mk' (order_any l.length (sort_all _ hM) (ordK l) (by have := hix (ordK l); omega) (ord_small l HZ.out) (by rw [hol]; exact hn) vo w3 HRo.out (HP.out.below B3))
    rw [ord_ord] at HO2
    have HOS := Hid.mk' (ord_small l HZ.out)
    have HOC := Hid.mk' (cls_ord l)
    obtain ⟨os, hos⟩ : ∃ os, ordK l = os := ⟨_, rfl⟩
    rw [hos] at HO2 HRo hol HOS HOC
    clear HO HV2 o3 b3 hos hix
    go_wp2_with fail
    refine (HO2.out).mono ?_
    rintro e w4 ⟨vp, rfl, o4, b4⟩
    have B4 : Below w.heap.size w w4 := B3.trans (b4.mono B3.size)
    have HRp := Hid.mk' (RdK.own o4)
    have HRo4 := Hid.mk' (HRo.out.below b4)
    have HV4 := Hid.mk' (HV3.out.below b4)
    obtain ⟨xo, co, rfl⟩ := HRo4.out.form
    obtain ⟨xp, cp, rfl⟩ := HRp.out.form
    clear HO2 HRo HV3 o4 b4 B3 B2 HV HP
    obtain ⟨i0, hi0, hz0, hz1, hz2⟩ := info_parts infoB
    have mk : ∀ W : World, (Instr.makeSlice 32 (.int .i64 (l.length : Int)) (.int .i64 (l.length : Int))).run Tryd.prog W = .ok (.slice (some ⟨W.heap.size, 0, none⟩) l.length l.length) (W.alloc (.cells (Array.replicate l.length (.bool false)) 4)) := fun W => by
      have h := run_make (P := Tryd.prog) W 32 4 i0 (.bool false) Tryd.underlying32 hi0 hz0 .i64 .i64 (l.length : Int) (l.length : Int) (by omega) (by omega) (by rw [hz2]; omega) (by omega)
      rw [made_bools, hz1] at h
      simpa using h
    have hlo : (os.length : Int) = (l.length : Int) := by omega
    have HSN := Hid.mk' (SR.new w4 l.length)
    go_wp2_with fail
    go_loopw [37] (fun vi wr => ∃ (i : Nat) (U : List Bool), vi = .int .i64 i ∧ i ≤ os.length ∧ U.length = l.length ∧ Hid (SR w4 U wr) ∧ Hid (((os.drop i).map cls).Perm (fr l U))) (fun vi _ => os.length - (intOf vi).toNat)
    case atStart => exact ⟨0, List.replicate l.length false, rfl, Nat.zero_le _, by simp, HSN, Hid.mk' (by rw [fr_start]; exact HOC.out)⟩
    case round =>
      clear HSN HOC mk
      obtain ⟨i, U, rfl, hi, hU, HS, HPm⟩ := hrel
      by_cases hlt : i < os.length
      · have zi : (i : Int) < (os.length : Int) := by omega
        obtain ⟨p, hp⟩ : ∃ p, os[i] = p := ⟨_, rfl⟩
        have hpz : (p.1.size : Int) ≤ 140737488351232 := by rw [← hp]; exact HOS.out _ (List.getElem_mem hlt)
        have hdr : os.drop i = p :: os.drop (i + 1) := by rw [List.drop_eq_getElem_cons hlt, hp]
        have HPm2 : Hid ((cls p :: (os.drop (i + 1)).map cls).Perm (fr l U)) := Hid.mk' (by have := HPm.out; rw [hdr] at this; exact this)
        obtain ⟨ps, pz⟩ := p
        rcases HRo4.out.below HS.out.b with ⟨a', c', e', h', _⟩ | ⟨g, o, c', e', hlc, hg, hc⟩
        · rw [h'] at hlt; simp at hlt
        simp only [Value.slice.injEq] at e'
        obtain ⟨rfl, _, rfl⟩ := e'
        obtain ⟨c0, c1⟩ := hc i hlt
        rw [hp] at c0 c1
        dsimp only at c0 c1
        rcases HRp.out.below HS.out.b with ⟨a', c', e', h', _⟩ | ⟨g', o', c', e', hlc', hg', hc'⟩
        · rw [h'] at hlt; simp at hlt
        simp only [Value.slice.injEq] at e'
        obtain ⟨rfl, _, rfl⟩ := e'
        obtain ⟨c0', c1'⟩ := hc' i hlt
        rw [hp] at c0' c1'
        dsimp only at c0' c1'
        clear hc hc' hlc hlc' hp hdr HPm
        have HKB := Hid.mk' (KB.new wr ps pz)
        have HSa := Hid.mk' (HS.out.grow ((Below.refl _ wr).alloc (Nat.le_refl _) (.cells #[.string ps, .int .i64 pz] 25)))
        have HSame := Hid.mk' (fun W => same_any ps ps pz pz W (by simpa using hpz) (by simpa using hpz))
        have hsm : sameK (ps, pz) (ps, pz) = true := (same_cls _ _).2 rfl
        rw [hsm] at HSame
        go_wp2_with fail
        go_cut [37, 48] from 37 to 76 (fun s37 s48 wc => s37 = .int .i64 i ∧ s48 = .bool false ∧ Hid (SR w4 U wc) ∧ Hid (KB wc wr.heap.size (ps, pz)))
        case first =>
          go_region_law (first | (refine step_call2' rfl 9 (.tmp 42) (.tmp 46) 25 25 rfl (enters_of Tryd.func9 (by kernel_rfl) rfl) _ _ rfl rfl (HSame.out _) ?_; rintro e w5 ⟨rfl, b5⟩; refine ⟨_, rfl, ?_⟩))
          all_goals
            have b5' := ((Below.refl _ (wr.alloc (.cells #[.string ps, .int .i64 pz] 25))).drew).trans b5
            go_wp2_with fail
            go_meet
            exact ⟨rfl, rfl, Hid.mk' (HSa.out.grow b5'), Hid.mk' (HKB.out.grow b5')⟩
        obtain ⟨rfl, rfl, HS5, HKB5⟩ := hcut
        have hne : w4.heap.size ≠ wr.heap.size := Nat.ne_of_lt HS.out.lt
        obtain ⟨kb, hkb⟩ : ∃ kb, wr.heap.size = kb := ⟨_, rfl⟩
        rw [hkb] at HKB5 hne ⊢
        clear HSa HKB HSame hsm c0 c1 c0' c1' hg hg' hkb HS
        go_wp2_with fail
        go_loopw [8, 51] (fun vf vn wr2 => ∃ (n : Nat) (f : Bool) (U' : List Bool), vf = .bool f ∧ vn = .int .i64 n ∧ n ≤ l.length ∧ U'.length = l.length ∧ Hid (SR w4 U' wr2) ∧ Hid (KB wr2 kb (ps, pz)) ∧
            Hid ((f = false ∧ U' = U ∧ ∀ j (h : j < l.length), j < n → U[j]? = some false → cls l[j] ≠ cls (ps, pz)) ∨ (f = true ∧ ∃ j, ∃ h : j < l.length, U[j]? = some false ∧ cls l[j] = cls (ps, pz) ∧ U' = U.set j true))) (fun _ vn _ => l.length - (intOf vn).toNat)
        case atStart => exact ⟨0, false, U, rfl, rfl, Nat.zero_le _, hU, HS5, HKB5, Hid.mk' (.inl ⟨rfl, rfl, fun j h h0 => by omega⟩)⟩
        case round =>
          clear HS5 HKB5
          obtain ⟨n, f, U', rfl, rfl, hnl, hU', HS6, HK6, HR⟩ := hrel
          by_cases hlt2 : n < l.length
          · have zn : (n : Int) < (l.length : Int) := by omega
            obtain ⟨q, hq⟩ : ∃ q, l[n] = q := ⟨_, rfl⟩
            have hqz : (q.1.size : Int) ≤ 140737488351232 := by rw [← hq]; exact HZ.out _ (List.getElem_mem hlt2)
            have HQ := Hid.mk' hq
            obtain ⟨ns, nz⟩ := q
            rcases HV4.out.below HS6.out.b with ⟨a', c', e', h', _⟩ | ⟨g2, o2, c', e', hlc, hg2, hc⟩
            · rw [h'] at hlt2; simp at hlt2
            simp only [Value.slice.injEq] at e'
            obtain ⟨rfl, _, rfl⟩ := e'
            obtain ⟨c0, c1⟩ := hc n hlt2
            rw [hq] at c0 c1
            dsimp only at c0 c1
            have k0 := HK6.out.c0
            have k1 := HK6.out.c1
            have klt := HK6.out.lt
            have ult := HS6.out.lt
            have cu := HS6.out.cell n (by omega)
            dsimp only at k0 k1
            obtain ⟨ub, hub⟩ : ∃ ub, U'[n]'(by omega) = ub := ⟨_, rfl⟩
            rw [hub] at cu
            have HUB : Hid (U'[n]? = some ub) := Hid.mk' (by rw [List.getElem?_eq_getElem (by omega), hub])
            have b7 : Below wr.heap.size wr (wr.alloc (.cells #[.string ns, .int .i64 nz] 25)) := (Below.refl _ _).alloc (Nat.le_refl _) _
            have HS7 := Hid.mk' (HS6.out.grow b7)
            have HK7 := Hid.mk' (HK6.out.grow b7)
            have HSame := Hid.mk' (fun W => same_any ns ps nz pz W (by simpa using hqz) (by simpa using hpz))
            clear hc hlc hq hub b7
            cases f
            · have hR : U' = U ∧ ∀ j (h : j < l.length), j < n → U[j]? = some false → cls l[j] ≠ cls (ps, pz) := by
                rcases HR.out with ⟨_, h1, h2⟩ | ⟨h, _⟩
                · exact ⟨h1, h2⟩
                · cases h
              obtain ⟨hUU, HNo⟩ := hR
              subst hUU
              have HNO := Hid.mk' HNo
              clear HNo HR
              cases ub
              · have hsv : Hid (sameK (ns, nz) (ps, pz) = true ↔ cls (ns, nz) = cls (ps, pz)) := Hid.mk' (same_cls _ _)
                obtain ⟨sb, hsb⟩ : ∃ sb, sameK (ns, nz) (ps, pz) = sb := ⟨_, rfl⟩
                rw [hsb] at HSame hsv
                clear hsb
                cases sb
                · go_wp2_with (first | (go_at_call 9; refine (HSame.out _).mono ?_; rintro e w8 ⟨rfl, b8⟩; have HS8 := Hid.mk' (HS7.out.grow b8); have HK8 := Hid.mk' (HK7.out.grow b8); have fu8 := HS8.out.frozen n; have cu8 := HS8.out.cell n (by omega)))
                  go_roundw
                  case rel =>
                    refine ⟨n + 1, false, U', rfl, by go_num, by omega, hU', HS8, HK8, Hid.mk' (.inl ⟨rfl, rfl, fun j h hj hf => ?_⟩)⟩
                    by_cases hjn : j < n
                    · exact HNO.out j h hjn hf
                    · obtain rfl : j = n := by omega
                      rw [HQ.out]
                      intro e
                      exact absurd (hsv.out.2 e) (by simp)
                  case measure => simp [intOf]; omega
                · go_wp2_with (first | (go_at_call 9; refine (HSame.out _).mono ?_; rintro e w8 ⟨rfl, b8⟩; have HS8 := Hid.mk' (HS7.out.grow b8); have HK8 := Hid.mk' (HK7.out.grow b8); have fu8 := HS8.out.frozen n; have cu8 := HS8.out.cell n (by omega)))
                  go_roundw
                  case rel =>
                    refine ⟨n + 1, true, U'.set n true, rfl, by go_num, by omega, by simpa using hU', Hid.mk' (HS8.out.set n (by omega)), Hid.mk' (HK8.out.set hne _), Hid.mk' (.inr ⟨rfl, n, hlt2, HUB.out, ?_, rfl⟩)⟩
                    rw [HQ.out]
                    exact hsv.out.1 (by first | rfl | trivial)
                  case measure => simp [intOf]; omega
              · go_wp2_with (first | (go_at_call 9; refine (HSame.out _).mono ?_; rintro e w8 ⟨rfl, b8⟩; have HS8 := Hid.mk' (HS7.out.grow b8); have HK8 := Hid.mk' (HK7.out.grow b8); have fu8 := HS8.out.frozen n; have cu8 := HS8.out.cell n (by omega)))
                go_roundw
                case rel =>
                  refine ⟨n + 1, false, U', rfl, by go_num, by omega, hU', HS7, HK7, Hid.mk' (.inl ⟨rfl, rfl, fun j h hj hf => ?_⟩)⟩
                  by_cases hjn : j < n
                  · exact HNO.out j h hjn hf
                  · obtain rfl : j = n := by omega
                    rw [HUB.out] at hf
                    cases hf
                case measure => simp [intOf]; omega
            · obtain ⟨hff, _⟩ | ⟨_, HYes⟩ := HR.out
              · cases hff
              have HYES := Hid.mk' HYes
              clear HYes HR
              go_wp2_with (first | (go_at_call 9; refine (HSame.out _).mono ?_; rintro e w8 ⟨rfl, b8⟩; have HS8 := Hid.mk' (HS7.out.grow b8); have HK8 := Hid.mk' (HK7.out.grow b8); have fu8 := HS8.out.frozen n; have cu8 := HS8.out.cell n (by omega)))
              go_roundw
              case rel => exact ⟨n + 1, true, U', rfl, by go_num, by omega, hU', HS7, HK7, Hid.mk' (.inr ⟨rfl, HYES.out⟩)⟩
              case measure => simp [intOf]; omega
          · have zn : ¬ (n : Int) < (l.length : Int) := by omega
            cases f
            · have hR : U' = U ∧ ∀ j (h : j < l.length), j < n → U[j]? = some false → cls l[j] ≠ cls (ps, pz) := by
                rcases HR.out with ⟨_, h1, h2⟩ | ⟨h, _⟩
                · exact ⟨h1, h2⟩
                · cases h
              obtain ⟨hUU, HNo⟩ := hR
              exfalso
              obtain ⟨j, hj, h1, h2⟩ := fr_mem l U (cls (ps, pz)) hU ((HPm2.out.mem_iff).1 (by simp))
              exact HNo j hj (by omega) h1 h2
            · obtain ⟨hff, _⟩ | ⟨_, j, hj, h1, h2, h3⟩ := HR.out
              · cases hff
              have HNX : Hid (((os.drop (i + 1)).map cls).Perm (fr l U')) := Hid.mk' (by
                rw [h3]
                have := HPm2.out.trans (fr_set l U j hj h1)
                rw [h2] at this
                exact List.Perm.cons_inv this)
              clear HR h1 h2 h3
              go_wp2_with fail
              go_roundw
              case rel => exact ⟨i + 1, U', by go_num, by omega, hU', HS6, HNX⟩
              case measure => simp [intOf]; omega
      · have zi : ¬ (i : Int) < (os.length : Int) := by omega
        go_wp2
        go_ret
        exact ⟨rfl, B4.trans (HS.out.b.mono B4.size)⟩
end Go.Proofs.YtgmhcfkmoakbiaaDoor
