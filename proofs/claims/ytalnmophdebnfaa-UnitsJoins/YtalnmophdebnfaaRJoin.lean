/- lintelref01.Join: the document's texts one behind the other. -/
import Derived.Test.YtalnmophdebnfaaJoin
namespace Go.Proofs.Ytalnmophdebnfaa
set_option linter.unusedVariables false
open Go.RowKit

/-- append onto a row that the call owns, of a slice that may be nil. -/
theorem wpList_append_own_any {P : Program} (w : World) {ops : Array Oper} {rest : List Oper} {o : Oper} {a : Act} {Q : Exit → Act → World → Prop} (hgd : o.guard = none) (s x : Operand) (t : TypeId)
    (ho : o.op = .call { callee := .builtin .append, args := #[s, x], argTypes := #[t, t] })
    (base : Nat) (e : TypeId) (i : TypeInfo) (z : Value) (size bytes : Nat) (ht : P.underlying t = some (.slice e)) (hi : P.info? e = some i) (hz : i.zero = some z)
    (hsize : i.size = size) (hby : i.bytes = bytes) (hzs : z.cells.size = size) (hsz : 0 < size)
    (v : Value) (n : Nat) (xs : List Value) (hs : a.eval s = v) (hown : w.ownsRow base e size v n xs)
    (ao : Option Addr) (m c : Nat) (news : List Value) (hx : a.eval x = .slice ao m c) (hl : news.length = m * size) (hnone : ao = none → m = 0 ∧ c = 0) (hnews : ∀ ad, ao = some ad → ∀ j u, news[j]? = some u → w.cell? (ad.add j) = some u) (h1 : ∀ u ∈ news, u.oneCell' = true)
    (h63 : n + m ≤ maxLen) (hbytes : (n + m) * bytes ≤ 140737488355328) (hbase : base ≤ w.heap.size)
    (h : ∀ v' w', w'.ownsRow base e size v' (n + m) (xs ++ news) → w.grownBy w' v.ownBlock → wpList P ops Q rest (a.put o.dst v') w') : wpList P ops Q (o :: rest) a w := by
  cases ao with
  | some ad => exact wpList_append_own w hgd s x t ho base e i z size bytes ht hi hz hsize hby hzs hsz v n xs hs hown ad m c news hx hl (hnews ad rfl) h1 h63 hbytes hbase (fun v' w' h2 h3 _ => h v' w' h2 h3)
  | none =>
    obtain ⟨rfl, rfl⟩ := hnone rfl
    have hnews : news = [] := List.eq_nil_of_length_eq_zero (by simpa using hl)
    subst hnews
    refine wpList_plain hgd fun K hK' => ?_
    have hrun := run_append_owned_none (P := P) w base t o.type e i size ht hi v n xs hown
    unfold Oper.wp
    simp [execOp, ho, resolve, invoke, builtin, hs, hx, hrun, Result.andThen]
    exact hK' _ _ (by simpa using h v w (by simpa using hown) (World.grownBy.refl _ _))

theorem none_of {x : Option Addr} {n c B : Nat} (h : x = none ∧ n = 0 ∧ c = 0 ∨ ∃ g, x = some ⟨g, 0, none⟩ ∧ B ≤ g) : x = none → n = 0 ∧ c = 0 := by
  intro e
  rcases h with ⟨_, h1, h2⟩ | ⟨g, h1, _⟩
  · exact ⟨h1, h2⟩
  · rw [e] at h1; cases h1
theorem cells_of {w : World} {x : Option Addr} {n c B : Nat} {e : TypeId} {xs : List Value} (o : w.ownsRow B e 1 (.slice x n c) n xs) (h : x = none ∧ n = 0 ∧ c = 0 ∨ ∃ g, x = some ⟨g, 0, none⟩ ∧ B ≤ g) :
    ∀ ad, x = some ad → ∀ j u, xs[j]? = some u → w.cell? (ad.add j) = some u := by
  intro ad e j u hu
  rcases h with ⟨h1, _, _⟩ | ⟨g, h1, _⟩
  · rw [e] at h1; cases h1
  · subst h1
    cases e
    exact o.cells (g := g) rfl j u hu

def joinU (ss : List ByteArray) : List Nat := ss.flatMap uns
theorem joinU_take (ss : List ByteArray) (k : Nat) (h : k < ss.length) : joinU (ss.take (k + 1)) = joinU (ss.take k) ++ uns ss[k] := by
  rw [List.take_succ_eq_append_getElem h]; unfold joinU; rw [List.flatMap_append]; simp only [List.flatMap_cons, List.flatMap_nil, List.append_nil]
theorem joinU_length (ss : List ByteArray) : (joinU ss).length = hsum ss := by
  induction ss with
  | nil => rfl
  | cons s r ih =>
    have e : joinU (s :: r) = uns s ++ joinU r := rfl
    have e2 : hsum (s :: r) = s.size / 2 + hsum r := by simp [hsum]
    rw [e, List.length_append, ih, uns_length, e2]
theorem joinU_lt (ss : List ByteArray) : ∀ u ∈ joinU ss, u < 65536 := by
  intro u hu
  obtain ⟨s, _, hu⟩ := List.mem_flatMap.1 hu
  exact uns_lt s u hu
theorem mkB_joinU (ss : List ByteArray) : mkB (joinU ss) = joinB ss := by
  induction ss with
  | nil => rfl
  | cons s r ih =>
    have e : joinU (s :: r) = uns s ++ joinU r := rfl
    have e2 : joinB (s :: r) = ebs s ++ joinB r := rfl
    rw [e, mkB_append, ih, mkB_uns, e2]
theorem uc_u16c (s : ByteArray) : uc s (s.size / 2) = u16c (uns s) := by simp [uc, u16c, uns]
theorem hsum_le (ss : List ByteArray) (h : ∀ s ∈ ss, s.size ≤ 4000) : hsum ss ≤ 2000 * ss.length := by
  induction ss with
  | nil => simp [hsum]
  | cons s r ih =>
    have e2 : hsum (s :: r) = s.size / 2 + hsum r := by simp [hsum]
    have := h s (List.mem_cons_self ..)
    have := ih (fun x hx => h x (List.mem_cons_of_mem _ hx))
    rw [e2, List.length_cons]; omega

set_option maxHeartbeats 2000000 in
set_option maxRecDepth 100000 in
theorem rjoin_any (ss : List ByteArray) (hl : ss.length ≤ 400) (hz : ∀ s ∈ ss, s.size ≤ 4000) (v : Value) (w : World) (hv : RdS w v ss) :
    Calls Try.prog 34 #[v] w fun e w' => e = (if 65536 < hsum ss then joinNo else joinYes ss) ∧ Below w.heap.size w w' := by
  obtain ⟨i0, hi, hz0, hz1, hz2⟩ := info_parts info16
  obtain ⟨x, c, rfl⟩ := hv.form
  have hmax := hsum_le ss hz
  obtain ⟨E, hE⟩ : ∃ E, E = (if 65536 < hsum ss then joinNo else joinYes ss) := ⟨_, rfl⟩
  rw [← hE]
  have HE := Hid.mk' hE
  clear hE
  go_enter Try.func34, Try.ntmps34
  go_wp2
  go_loopw [4, 9] (fun v i wr => ∃ k : Nat, i = .int .i64 k ∧ k ≤ ss.length ∧ wr.ownsRow w.heap.size 37 1 v (joinU (ss.take k)).length (u16c (joinU (ss.take k))) ∧ Below w.heap.size w wr) (fun _ i _ => ss.length - (intOf i).toNat)
  case atStart => exact ⟨0, rfl, Nat.zero_le _, World.ownsRow_nil _ _ _ _, Below.refl _ _⟩
  case round =>
    obtain ⟨q, rfl, hq, hown, hbw⟩ := hrel
    have hBW : w.heap.size ≤ wr.heap.size := hbw.size
    by_cases hlt : q < ss.length
    · rcases hv with ⟨a, c', e, h0, _⟩ | ⟨g, o, c', e, hcl, hcm, hg, hc⟩
      · exact absurd hlt (by simp [h0])
      · obtain ⟨rfl, rfl⟩ : x = some ⟨g, o, none⟩ ∧ c = c' := by simpa using e
        have hcell : wr.cell? ⟨g, o + q, none⟩ = some (.string ss[q]) := (hbw.cell (p := ⟨g, o + q, none⟩) hg).trans (hc q hlt)
        have hsz := hz _ (List.getElem_mem hlt)
        have HR := Hid.mk' (fun W => runits_any ss[q] W (by omega))
        have HJ := Hid.mk' (joinU_take ss q hlt)
        have hjl := joinU_length (ss.take q)
        have hjm := hsum_mono ss q
        have hjn : (joinU (ss.take q)).length ≤ 800000 := by omega
        have HU := Hid.mk' (uc_u16c ss[q])
        have HL := Hid.mk' (uns_length ss[q])
        obtain ⟨s, hs⟩ : ∃ s, ss[q] = s := ⟨_, rfl⟩
        rw [hs] at hcell hsz HR HJ HU HL
        clear hs hc e hz hjl hjm
        have i1 : (q : Int) < (ss.length : Int) := by omega
        go_wp2_with (first | (go_at_call 15; refine (HR.out _).mono ?_; rintro e w1 ⟨v1, rfl, o1, b1⟩; obtain ⟨x1, c1, rfl, hx1⟩ := own_slice' o1; have p1 := own_below hown b1; have hB1 : w.heap.size ≤ w1.heap.size := Nat.le_trans hBW b1.size) | (at_builtin; go_must (refine wpList_append_own_any _ rfl _ _ 31 rfl w.heap.size 37 i0 (.int .u16 0) 1 2 Try.underlying31 hi hz0 hz1 hz2 rfl (by decide) _ _ _ rfl p1 x1 (s.size / 2) c1 (uc s (s.size / 2)) rfl (by rw [uc_length, Nat.mul_one]) (none_of hx1) (cells_of o1 hx1) (by rw [HU.out]; exact oneCell_u16c _) (by unfold maxLen; omega) (by omega) hB1 ?_); intro v2 w2 o2 g2))
        have k2 := kept_append p1 g2 hB1
        clear g2
        go_wp2
        go_roundw
        case rel => exact ⟨q + 1, by go_num, by omega, by rw [HJ.out, List.length_append, u16c_append, HL.out, ← HU.out]; exact o2, (hbw.trans (b1.mono hBW)).trans k2.1⟩
        case measure => simp [intOf]; omega
    · obtain rfl : q = ss.length := by omega
      rw [List.take_length] at hown
      have hjl := joinU_length ss
      obtain ⟨x1, c1, rfl, hx1⟩ := own_slice' hown
      have HM := Hid.mk' (rmake_any (joinU ss) (joinU_lt ss) (by omega) _ wr (Rd.of_own hown))
      rw [mkB_joinU] at HM
      by_cases hbig : 65536 < hsum ss
      · have HE2 : Hid (E = joinNo) := by show _ = _; rw [HE.out, if_pos hbig]
        have hI : (65536 : Int) < ((joinU ss).length : Int) := by omega
        clear hown hjl hbig hmax hlt hq
        go_wp2
        go_ret2
        rw [HE2.out]
        exact ⟨rfl, hbw⟩
      · have HE2 : Hid (E = joinYes ss) := by show _ = _; rw [HE.out, if_neg hbig]
        have hI : ((joinU ss).length : Int) ≤ 65536 := by omega
        clear hown hjl hbig hmax hlt hq
        go_wp2_with (go_at_call 29; refine HM.out.mono ?_; rintro e w1 ⟨rfl, b1⟩)
        go_ret2
        rw [HE2.out]
        exact ⟨rfl, hbw.trans (b1.mono hBW)⟩

end Go.Proofs.Ytalnmophdebnfaa
