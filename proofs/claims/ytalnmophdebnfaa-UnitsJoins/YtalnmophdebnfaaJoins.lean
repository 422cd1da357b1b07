/- UnitsJoins: for every list of texts, text and number the law returns true: units.Join puts texts one behind the other as the document says, or tells that they are too long together. No condition. -/
import Derived.Test.YtalnmophdebnfaaRows
import Derived.Test.YtalnmophdebnfaaAwake
import Derived.Test.YtalnmophdebnfaaRJoin
import Derived.SliceStrings
import Derived.ProofKit
import Derived.OpenShut
import Derived.ShutString
import Derived.SizedLaws
namespace Go.Proofs.Ytalnmophdebnfaa
set_option linter.unusedVariables false
open Go.ChangeShapes Go.WideShapes Go.ChangeAt Go.RowKit
open Go.ChangeMaps (open_string shut_string)

theorem infoS : (Try.prog.info? 22).map (fun i => (i.zero, i.size, i.bytes)) = some (some (.string ⟨#[]⟩), 1, 16) := by kernel_rfl
def sc (ss : List ByteArray) : List Value := ss.map Value.string
theorem RdS.own {w : World} {B : Nat} {v : Value} {ss : List ByteArray} (h : w.ownsRow B 22 1 v ss.length (sc ss)) : RdS w v ss := by
  rcases h.2 with ⟨rfl, h0⟩ | ⟨g, cap, cur, rfl, hb, hg, hnc, hcm, _⟩
  · obtain rfl : ss = [] := by simpa using h0
    exact .inl ⟨none, 0, rfl, rfl, fun _ => rfl, by omega⟩
  · refine .inr ⟨g, 0, cap, rfl, hnc, by unfold maxLen at hcm; omega, (Array.getElem?_eq_some_iff.1 hg).1, fun j hj => ?_⟩
    rw [Nat.zero_add]
    exact own_cell h (by simp [sc, hj])
theorem RdS.cells {w : World} {x : Option Addr} {n c : Nat} {ss : List ByteArray} (h : RdS w (.slice x n c) ss) : ∀ b, x = some b → ∀ j u, (sc ss)[j]? = some u → w.cell? (b.add j) = some u := by
  intro b hb j u hu
  rcases h with ⟨a, c', e, rfl, _⟩ | ⟨g, o, c', e, _, _, _, hc⟩
  · simp [sc] at hu
  · simp at e
    rw [hb] at e
    obtain rfl := Option.some.inj e.1
    have hj : j < ss.length := by have := (List.getElem?_eq_some_iff.1 hu).1; simpa [sc] using this
    rw [Addr.add_lit, hc j hj]
    simpa [sc, hj] using hu
theorem RdS.nil {w : World} {x : Option Addr} {n c : Nat} {ss : List ByteArray} (h : RdS w (.slice x n c) ss) : x = none → n = 0 ∧ c = 0 := by
  intro hx
  rcases h with ⟨a, c', e, _, h0, _⟩ | ⟨g, o, c', e, _⟩
  · simp at e; obtain ⟨rfl, rfl, rfl⟩ := e; exact ⟨rfl, h0 hx⟩
  · simp at e; rw [hx] at e; cases e.1
theorem RdS.len {w : World} {x : Option Addr} {n c : Nat} {ss : List ByteArray} (h : RdS w (.slice x n c) ss) : n = ss.length ∧ n ≤ c ∧ (c : Int) ≤ 9223372036854775807 := by
  rcases h with ⟨a, c', e, rfl, _, hm⟩ | ⟨g, o, c', e, hl, hm, _⟩
  · simp at e; obtain ⟨rfl, rfl, rfl⟩ := e; exact ⟨rfl, Nat.zero_le _, hm⟩
  · simp at e; obtain ⟨rfl, rfl, rfl⟩ := e; exact ⟨rfl, hl, hm⟩

theorem rep_succ (ss : List ByteArray) (l : ByteArray) (k : Nat) : ss ++ List.replicate (k + 1) l = (ss ++ List.replicate k l) ++ [l] := by rw [List.replicate_succ', List.append_assoc]
theorem sc_snoc (ss : List ByteArray) (l : ByteArray) : sc (ss ++ [l]) = sc ss ++ [.string l] := by unfold sc; rw [List.map_append]; rfl
theorem len_rep (ss : List ByteArray) (l : ByteArray) (k : Nat) : ((ss ++ List.replicate k l) ++ [l]).length = ss.length + k + 1 := by rw [List.length_append, List.length_append, List.length_replicate]; rfl

def ssum (ss : List ByteArray) : Nat := (ss.map fun s => s.size).sum
theorem ssum_append (a b : List ByteArray) : ssum (a ++ b) = ssum a + ssum b := by unfold ssum; rw [List.map_append, List.sum_append]
theorem ssum_take (ss : List ByteArray) (k : Nat) (h : k < ss.length) : ssum (ss.take (k + 1)) = ssum (ss.take k) + ss[k].size := by
  rw [List.take_succ_eq_append_getElem h, ssum_append]
  rfl
theorem le_ssum (ss : List ByteArray) : ∀ s ∈ ss, s.size ≤ ssum ss := by
  induction ss with
  | nil => intro s hs; cases hs
  | cons a r ih =>
    intro s hs
    have e : ssum (a :: r) = a.size + ssum r := by simp [ssum]
    rcases List.mem_cons.1 hs with rfl | hs
    · omega
    · have := ih s hs; omega

set_option maxHeartbeats 2000000 in
set_option maxRecDepth 100000 in
theorem joins_many (x : Option Addr) (c : Nat) (ss : List ByteArray) (long : ByteArray) (many : Int) (w : World) (hv : RdS w (.slice x ss.length c) ss) (hl : (100 : Int) < (ss.length : Int)) (hcap : (ss.length : Int) ≤ 9223372036854775807) :
    Calls Try.prog 8 #[.slice x ss.length c, .string long, .int .i64 many] w fun e w' => e = .returned (.bool true) ∧ Below w.heap.size w w' := by
  go_enter Try.func8, Try.ntmps8
  go_wp2_with fail
  refine (awake_any _).mono ?_
  rintro e w1 ⟨rfl, b1⟩
  have hv1 := hv.below b1
  clear hv
  go_wp2
  go_loop [7, 19] (fun t i => ∃ (k : Nat) (T : Int), i = .int .i64 k ∧ t = .int .i64 T ∧ k ≤ ss.length) (fun _ i => ss.length - (intOf i).toNat)
  case atStart => exact ⟨0, 0, rfl, rfl, Nat.zero_le _⟩
  case round =>
    obtain ⟨k, T, rfl, rfl, hk⟩ := hrel
    by_cases hlt : k < ss.length
    · rcases hv1 with ⟨a, c', e, h0, _⟩ | ⟨g, o, c', e, hcl, hcm, hg, hc⟩
      · exact absurd hlt (by simp [h0])
      · obtain ⟨rfl, rfl⟩ : x = some ⟨g, o, none⟩ ∧ c = c' := by simpa using e
        have hcell := hc k hlt
        obtain ⟨s, hs⟩ : ∃ s, ss[k] = s := ⟨_, rfl⟩
        rw [hs] at hcell
        clear hs hc e
        have i1 : (k : Int) < (ss.length : Int) := by omega
        go_wp2
        go_round
        case rel => exact ⟨k + 1, _, by go_num, rfl, by omega⟩
        case measure => simp [intOf]; omega
    · by_cases hT : 4000 < T
      · go_wp2
        go_ret
        exact ⟨rfl, b1⟩
      · go_wp2
        go_ret
        exact ⟨rfl, b1⟩

set_option maxHeartbeats 4000000 in
set_option maxRecDepth 100000 in
theorem joins_few (x : Option Addr) (c : Nat) (ss : List ByteArray) (long : ByteArray) (many : Int) (w : World) (hv : RdS w (.slice x ss.length c) ss) (hl : ss.length ≤ 100) (hz : ∀ s ∈ ss, s.size ≤ 140737488351232) (hlong : long.size ≤ 140737488351232) :
    Calls Try.prog 8 #[.slice x ss.length c, .string long, .int .i64 many] w fun e w' => e = .returned (.bool true) ∧ Below w.heap.size w w' := by
  obtain ⟨i0, hi, hz0, hz1, hz2⟩ := info_parts infoS
  go_enter Try.func8, Try.ntmps8
  go_wp2_with fail
  refine (awake_any _).mono ?_
  rintro e w1 ⟨rfl, b1⟩
  have hv1 := hv.below b1
  clear hv
  go_wp2
  go_loop [7, 19] (fun t i => ∃ (k : Nat) (T : Int), i = .int .i64 k ∧ t = .int .i64 T ∧ k ≤ ss.length ∧ Hid ((ssum (ss.take k) : Int) = T) ∧ 0 ≤ T ∧ T ≤ 140737488351232 * (k : Int)) (fun _ i => ss.length - (intOf i).toNat)
  case atStart => exact ⟨0, 0, rfl, rfl, Nat.zero_le _, Hid.mk' rfl, by omega, by omega⟩
  case round =>
    obtain ⟨k, T, rfl, rfl, hk, HT, hT0, hT1⟩ := hrel
    by_cases hlt : k < ss.length
    · rcases hv1 with ⟨a, c', e, h0, _⟩ | ⟨g, o, c', e, hcl, hcm, hg, hc⟩
      · exact absurd hlt (by simp [h0])
      · obtain ⟨rfl, rfl⟩ : x = some ⟨g, o, none⟩ ∧ c = c' := by simpa using e
        have hcell := hc k hlt
        have hsz := hz _ (List.getElem_mem hlt)
        have HN := Hid.mk' (ssum_take ss k hlt)
        obtain ⟨s, hs⟩ : ∃ s, ss[k] = s := ⟨_, rfl⟩
        rw [hs] at hcell hsz HN
        clear hs hc e hz
        have i1 : (k : Int) < (ss.length : Int) := by omega
        have hsz' : (s.size : Int) ≤ 140737488351232 := by omega
        clear hsz
        go_wp2
        go_round
        case rel => exact ⟨k + 1, T + s.size, by go_num, rfl, by omega, by show _ = _; rw [HN.out, ← HT.out]; omega, by omega, by omega⟩
        case measure => simp [intOf]; omega
    · have HS : Hid ((ssum ss : Int) = T) := by
        have := HT.out
        rwa [List.take_of_length_le (by omega)] at this
      clear HT hT1
      by_cases hT : 4000 < T
      · go_wp2
        go_ret
        exact ⟨rfl, b1⟩
      · have hl' : (ss.length : Int) ≤ 100 := by omega
        have hlong' : (long.size : Int) ≤ 140737488351232 := by omega
        by_cases hL : (2000 : Int) < (long.size : Int)
        · go_wp2
          go_ret
          exact ⟨rfl, b1⟩
        · by_cases hM : 200 < many
          · go_wp2
            go_ret
            exact ⟨rfl, b1⟩
          · have hsmall : ∀ s ∈ ss, s.size ≤ 4000 := fun s hs => by have := le_ssum ss s hs; have := HS.out; omega
            have HSm := Hid.mk' hsmall
            clear hz hsmall HS hlong
            go_wp2
            go_loopw [0, 10] (fun v i wr => ∃ (k : Nat) (y : Option Addr) (d : Nat), i = .int .i64 k ∧ ((k : Int) ≤ many ∨ k = 0) ∧ v = .slice y (ss.length + k) d ∧ RdS wr v (ss ++ List.replicate k long) ∧ Below w.heap.size w wr) (fun _ i _ => (many - intOf i).toNat)
            case atStart => exact ⟨0, x, c, rfl, .inr rfl, by simp, by simpa using hv1, b1⟩
            case round =>
              obtain ⟨k, y, d, rfl, hk, rfl, hR, hbw⟩ := hrel
              have hBW : w.heap.size ≤ wr.heap.size := hbw.size
              obtain ⟨hn1, hn2, hn3⟩ := hR.len
              have hk2 : (k : Int) ≤ 200 := by omega
              clear hv1 b1
              by_cases hlt2 : (k : Int) < many
              · have holds := Hid.mk' hR.cells
                have hnil := Hid.mk' hR.nil
                have hscl : Hid ((sc (ss ++ List.replicate k long)).length = (ss.length + k) * 1) := by show _ = _; simp [sc]
                have hdl : ((ss.length : Int) + (k : Int)) ≤ (d : Int) := by omega
                clear hR hn1
                cases y with
                | some ad =>
                  go_wp2_with (at_builtin; go_must (refine wpList_append_grows _ rfl _ _ 55 rfl 22 i0 (.string ⟨#[]⟩) 1 16 Try.underlying55 hi hz0 hz1 hz2 rfl (by decide) (some ad) (ss.length + k) (ss.length + k) (sc (ss ++ List.replicate k long)) rfl (fun h => by cases h) hscl.out (fun b hb j u hu => (World.grownBy_alloc wr _ none).cell (holds.out b hb j u hu) (by simp)) ⟨wr.heap.size, 0, none⟩ 1 1 [.string long] rfl rfl (cells_new _ _ _) (by simp [Value.oneCell']) (by omega) (by unfold maxLen; omega) (by omega) ?_); intro v2 w2 o2 g2; obtain ⟨y2, d2, rfl⟩ := own_slice' o2 |>.imp fun _ h => h.imp fun _ h => h.1)
                  have hb2 : Below w.heap.size w w2 := (hbw.alloc hBW _).grown g2 (by simp; omega) (by simp)
                  have hR2 : RdS w2 (.slice y2 (ss.length + k + 1) d2) (ss ++ List.replicate (k + 1) long) := by
                    have e := rep_succ ss long k
                    refine RdS.own (B := (wr.alloc (.cells #[.string long] 22)).heap.size) ?_
                    rw [e]
                    have e2 := sc_snoc (ss ++ List.replicate k long) long
                    have e3 := len_rep ss long k
                    rw [e2, e3]
                    exact o2
                  have HR2 := Hid.mk' hR2
                  clear g2 o2 hR2
                  go_wp2
                  go_roundw
                  case rel => exact ⟨k + 1, y2, d2, by go_num, .inl (by omega), rfl, HR2.out, hb2⟩
                  case measure => simp [intOf]; omega
                | none =>
                  obtain ⟨hn0, rfl⟩ := hnil.out rfl
                  have hk0 : k = 0 := by omega
                  have hs0 : ss = [] := List.eq_nil_of_length_eq_zero (by omega)
                  subst hk0
                  subst hs0
                  go_wp2_with (at_builtin; refine wpList_append_own _ rfl _ _ 55 rfl wr.heap.size 22 i0 (.string ⟨#[]⟩) 1 16 Try.underlying55 hi hz0 hz1 hz2 rfl (by decide) _ 0 [] rfl (World.ownsRow_nil _ _ _ _) ⟨wr.heap.size, 0, none⟩ 1 1 [.string long] rfl rfl (cells_new _ _ _) (by simp [Value.oneCell']) (by unfold maxLen; omega) (by omega) (by simp) ?_; intro v2 w2 o2 g2 _; obtain ⟨y2, d2, rfl⟩ := own_slice' o2 |>.imp fun _ h => h.imp fun _ h => h.1)
                  have hb2 : Below w.heap.size w w2 := (hbw.alloc hBW _).grown g2 (by simp; omega) (fun k hk => absurd (show (none : Option Nat) = some k from hk) (by simp))
                  have HR2 : Hid (RdS w2 (.slice y2 1 d2) [long]) := RdS.own (B := wr.heap.size) (by simpa [sc] using o2)
                  clear g2 o2
                  go_wp2
                  go_roundw
                  case rel => exact ⟨1, rfl, .inl (by omega), rfl, HR2.out, hb2⟩
                  case measure => simp [intOf]; omega
              · have hlen : (ss ++ List.replicate k long).length ≤ 300 := by rw [List.length_append, List.length_replicate]; omega
                have hall : ∀ s ∈ ss ++ List.replicate k long, s.size ≤ 4000 := by
                  intro s hs
                  rcases List.mem_append.1 hs with h | h
                  · exact HSm.out s h
                  · rw [List.mem_replicate] at h; rw [h.2]; omega
                obtain ⟨L, hL'⟩ : ∃ L, ss ++ List.replicate k long = L := ⟨_, rfl⟩
                rw [hL'] at hlen hall hR hn1
                clear hL'
                by_cases hbig : 65536 < hsum L
                · have HJ := Hid.mk' (join_no L (by omega) hall _ wr hR hbig)
                  have HJ2 := Hid.mk' (fun W (h : RdS W (.slice y (ss.length + k) d) L) => rjoin_any L (by omega) hall _ W h)
                  rw [if_pos hbig] at HJ2
                  unfold joinNo at HJ HJ2
                  have HRR := Hid.mk' hR
                  clear hall hbig hR hlen hn1
                  go_wp2_with fail
                  refine HJ.out.mono ?_
                  rintro e w3 ⟨rfl, b3⟩
                  go_wp2_with fail
                  refine (HJ2.out _ (HRR.out.below b3)).mono ?_
                  rintro e w4 ⟨rfl, b4⟩
                  have b14 : Below w.heap.size w w4 := (hbw.trans (b3.mono hBW)).trans (b4.mono (Nat.le_trans hBW b3.size))
                  clear b3 b4
                  go_wp2
                  go_ret
                  exact ⟨rfl, b14⟩
                · have HJ := Hid.mk' (join_yes L (by omega) hall _ wr hR (by omega))
                  have HJ2 := Hid.mk' (fun W (h : RdS W (.slice y (ss.length + k) d) L) => rjoin_any L (by omega) hall _ W h)
                  rw [if_neg hbig] at HJ2
                  unfold joinYes at HJ HJ2
                  have HRR := Hid.mk' hR
                  clear hall hbig hR hlen hn1
                  go_wp2_with fail
                  refine HJ.out.mono ?_
                  rintro e w3 ⟨rfl, b3⟩
                  go_wp2_with fail
                  refine (HJ2.out _ (HRR.out.below b3)).mono ?_
                  rintro e w4 ⟨rfl, b4⟩
                  have b14 : Below w.heap.size w w4 := (hbw.trans (b3.mono hBW)).trans (b4.mono (Nat.le_trans hBW b3.size))
                  clear b3 b4
                  go_wp2
                  go_ret
                  exact ⟨rfl, b14⟩

theorem joins_walk (x : Option Addr) (c : Nat) (ss : List ByteArray) (long : ByteArray) (many : Int) (w : World) (hv : RdS w (.slice x ss.length c) ss) (hz : ∀ s ∈ ss, s.size ≤ 140737488351232) (hlong : long.size ≤ 140737488351232) :
    Calls Try.prog 8 #[.slice x ss.length c, .string long, .int .i64 many] w fun e w' => e = .returned (.bool true) ∧ Below w.heap.size w w' := by
  by_cases hl : ss.length ≤ 100
  · exact joins_few x c ss long many w hv hl hz hlong
  · have := hv.len
    exact joins_many x c ss long many w hv (by omega) (by omega)

theorem unitsJoins_own : ownKnob Try.prog.godebug = none := by kernel_rfl
theorem unitsJoins_laid : laidOutB Try.prog = true := by kernel_rfl

theorem weight_all {H : Type} {e : TypeId} (ss : List ByteArray) : ∀ s ∈ ss, s.data.toList.length ∈ DataW.weightsAll (H := H) Try.prog e (strs ss) := by
  induction ss with
  | nil => intro s hs; cases hs
  | cons a r ih =>
    intro s hs
    simp only [strs, List.map_cons, DataW.weightsAll, DataW.weights, List.mem_append]
    rcases List.mem_cons.1 hs with rfl | hs
    · exact .inl (by simp)
    · exact .inr (ih s hs)

set_option maxRecDepth 100000 in
theorem unitsJoins_lifted (os : Os) (started : os.Started) (H : Type) (enc : TypeId × Value → H) :
    ReturnsInHanded {} Try.checked os 8 .any (Rows.unitsJoinsSpec.pre6 enc Try.prog Try.f8 Rows.unitsJoinsRow.domain false) (Rows.unitsJoinsSpec.post enc Try.prog Try.f8 false true false false) := by
  refine returnsInHanded_of_change_sized (C := Try.checked) unitsJoins_own started (by kernel_rfl) Try.func8
    (ChangeSpec.witness6 (enc := enc) (C := Try.checked) false ⟨#[], #[.slice none 0 0, .string ByteArray.empty, .int .i64 0], []⟩ 8 (by kernel_rfl) (by kernel_rfl) (by kernel_rfl) (by kernel_rfl)) ?_
  intro W base args ds gs before hval0 hW hcnd hsz0 _
  have hval : ∀ (j : Nat) t v, Try.f8.params[j]? = some t → args[j]? = some v → Value.okWide Try.prog W .any base t v := hval0
  have hsz : (DataW.weightsEach Try.prog (Try.f8.params.toList ++ Rows.unitsJoinsSpec.plain.varTypes Try.prog) (ds ++ gs)).all (· ≤ reachBytes) = true := hsz0
  have hW' := hW
  obtain ⟨p, q, hA0, hV, rfl, hfz, hnd⟩ := hW
  have hA : DataW.TrodAll enc Try.prog W 0 (fun _ => true) true Try.f8.params.toList args.toList ds p := hA0
  rw [Try.params8] at hA hval hsz
  obtain ⟨v0, vs0, d0, ds0, p0, q0, hargs, rfl, rfl, h0, r0⟩ := trodAll_cons hA
  obtain ⟨v1, vs1, d1, ds1, p1, q1, rfl, rfl, rfl, h1, r1⟩ := trodAll_cons r0
  obtain ⟨v2, vs2, d2, ds2, p2, q2, rfl, rfl, rfl, h2, r2⟩ := trodAll_cons r1
  obtain ⟨rfl, rfl, rfl⟩ := trodAll_nil r2
  obtain rfl : args = #[v0, v1, v2] := by cases args; simp_all
  obtain ⟨rfl, rfl⟩ := trodVars_none hV
  obtain ⟨a0, len0, cap0, rfl⟩ := okWide_slice Try.underlying55 (hval 0 55 v0 rfl rfl)
  have k0 := h0
  have lt0 : ∀ x ∈ p0, x.block < W.heap.size := by obtain ⟨m, hm⟩ := k0; exact DataW.trod_lt m _ _ _ hm
  obtain ⟨a1, rfl, rfl, rfl, w1⟩ := open_string Try.underlying22 (hval 1 22 v1 rfl rfl) h1
  have z1 := sized_string hsz (j := 1) (t := 22) rfl rfl
  simp only [reachBytes] at z1
  obtain ⟨a2, rfl, rfl, rfl, w2⟩ := open_int Try.underlying3 (hval 2 3 v2 rfl rfl) h2
  obtain ⟨ss, hR, hZ⟩ : ∃ ss, RdS W (.slice a0 len0 cap0) ss ∧ ∀ s ∈ ss, s.size ≤ 140737488351232 := by
    obtain ⟨fuel, hf⟩ := h0
    rcases open_strings Try.underlying55 Try.underlying22 (by kernel_rfl) hf with ⟨hcs, _⟩ | ⟨a, l, c, ss, hcs, _, hl, hm, hz, hx, hcell, hwz⟩
    · simp [Value.cells] at hcs
      obtain ⟨rfl, rfl, rfl⟩ := hcs
      exact ⟨[], .inl ⟨none, 0, rfl, rfl, fun _ => rfl, by omega⟩, fun s hs => by cases hs⟩
    · simp [Value.cells] at hcs
      obtain ⟨rfl, rfl, rfl⟩ := hcs
      have hz' : ss.length = cap0 := by simpa using hz
      unfold maxLen at hm
      have hlt : (ss.take len0).length = len0 := by rw [List.length_take]; omega
      refine ⟨ss.take len0, ?_, ?_⟩
      · by_cases hn : len0 = 0
        · subst hn
          exact .inl ⟨_, _, rfl, by simp, (fun h => by cases h), by omega⟩
        · obtain ⟨b, off, spot⟩ := a
          have hspot : spot = none := by simpa [Addr.add] using World.cell?_spot (hcell 0 (by omega))
          subst hspot
          have hb := World.block_lt_of_cell? W _ (hcell 0 (by omega))
          refine .inr ⟨b, off, cap0, by rw [hlt], by omega, by omega, by simpa [Addr.add] using hb, fun j hj => ?_⟩
          rw [hlt] at hj
          have := hcell j (by omega)
          rw [Addr.add_lit] at this
          rw [this]
          simp [List.getD, show j < ss.length by omega]
      · intro s hs
        have hx' : d0 = .slice (strs (ss.take len0)) (strs (ss.drop len0)) := by simpa using congrArg Prod.fst hx
        have hw : s.data.toList.length ∈ DataW.weights Try.prog 55 d0 := by
          rw [hx']
          simp only [DataW.weights, Try.underlying55, List.mem_cons, List.mem_append]
          exact .inr (.inl (weight_all _ s hs))
        have hq := List.all_eq_true.1 hsz _ (DataW.weights_mem_each (j := 0) (t := 55) rfl rfl _ hw)
        have hq2 : s.data.toList.length ≤ reachBytes := of_decide_eq_true hq
        simp only [reachBytes] at hq2
        simpa using hq2
  have hlen := hR.len.1
  subst hlen
  clear hA0 hval0 hsz0
  refine (joins_walk a0 cap0 ss a1 a2 W hR hZ (by simpa using z1)).mono fun e W' ⟨he, bel⟩ => ?_
  subst he
  exact ⟨_, rfl, _, _, _, [], _, [], hW', trodAll_cons_mk (shut_bool Try.underlying4 _) trodAll_mk0, (trodAll_cons_mk (Below.trod unitsJoins_laid (by kernel_rfl) (of_decide_eq_true (by kernel_rfl)) k0 bel lt0) (trodAll_cons_mk (shut_string Try.underlying22 w1) (trodAll_cons_mk (shut_int Try.underlying3 w2) trodAll_mk0))), rfl, bel.frame _, fun h => by cases h⟩

theorem unitsJoins_proved : Rows.UnitsJoinsSaid :=
  OpenClaim.holds_of_wide 8 Try.f8 rfl rfl rfl rfl rfl rfl rfl ⟨rfl, rfl, rfl, rfl, rfl⟩ rfl rfl rfl rfl rfl (by kernel_rfl) Try.func8 (by kernel_rfl)
    (of_decide_eq_true (by kernel_rfl)) (by unfold Func.isWrapper; first | (rw [if_pos (by decide +kernel)]; kernel_rfl) | (rw [if_neg (by decide +kernel)]; exact ⟨rfl, rfl⟩))
    (fun os started H enc _ => unitsJoins_lifted os started H enc)
#print axioms unitsJoins_proved

end Go.Proofs.Ytalnmophdebnfaa
