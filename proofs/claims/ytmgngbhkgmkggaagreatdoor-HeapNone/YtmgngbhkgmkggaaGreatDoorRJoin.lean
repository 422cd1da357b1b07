/- lintelref01.Join: the document's texts one behind the other. -/
import Derived.Test.YtmgngbhkgmkggaaGreatDoorJoin
namespace Go.Proofs.YtmgngbhkgmkggaaGreatDoor
set_option linter.unusedVariables false
open Go.RowKit

/-- append onto a row that the call owns, of a slice that may be nil. -/
theorem wpList_append_own_any {P : Program} (w : World) {ops : Array Oper} {rest : List Oper} {o : Oper} {a : Act} {Q : Exit → Act → World → Prop} (hgd : o.guard = none) (s x : Operand) (t : TypeId)
    (ho : o.op = .call { callee := .builtin .append, args := #[s, x], argTypes := #[t, t] })
    (base : Nat) (e : TypeId) (i : TypeInfo) (z : Value) (size bytes : Nat) (ht : P.underlying t = some (.slice e)) (hi : P.info? e = some i) (hz : i.zero = some z)
    (hsize : i.size = size) (hby : i.bytes = bytes) (hzs : z.cells.size = size) (hsz : 0 < size)
    (v : Value) (n : Nat) (xs : List Value) (hs : a.eval s = v) (hown : w.ownsRow base e size v n xs)
    (ao : Option Addr) (m c : Nat) (news : List Value) (hx : a.eval x = .slice ao m c) (hl : news.length = m * size) (hnone : ao = none → m = 0 ∧ c = 0) (hnews : ∀ ad, ao = some ad → ∀ j u, news[j]? = some u → w.cell? (ad.add j) = some u) (h1 : ∀ u ∈ news, u.oneCell' = true)
    (h63 : n + m ≤ maxLen) (hbytes : (n + m) * bytes ≤ 140737488355328) (hbase : base ≤ w.heap.size)
    (h : ∀ v' w', w'.ownsRow base e size v' (n + m) (xs ++ news) → w.grownBy w' v.ownBlock → wpList P ops Q rest (a.put o.dst v') w') : wpList P ops Q (o :: rest) a w := by
  cases ao with
  | some ad => exact wpList_append_own w hgd s x t ho base e i z size bytes ht hi hz hsize hby hzs hsz v n xs hs hown ad m c news hx hl (hnews ad rfl) h1 h63 hbytes hbase (fun v' w' h2 h3 _ => h v' w' h2 h3)
  | none =>
    obtain ⟨rfl, rfl⟩ := hnone rfl
    have hnews : news = [] := List.eq_nil_of_length_eq_zero (by simpa using hl)
    subst hnews
    refine wpList_plain hgd fun K hK' => ?_
    have hrun := run_append_owned_none (P := P) w base t o.type e i size ht hi v n xs hown
    unfold Oper.wp
    simp [execOp, ho, resolve, invoke, builtin, hs, hx, hrun, Result.andThen]
    exact hK' _ _ (by simpa using h v w (by simpa using hown) (World.grownBy.refl _ _))

theorem none_of {x : Option Addr} {n c B : Nat} (h : x = none ∧ n = 0 ∧ c = 0 ∨ ∃ g, x = some ⟨g, 0, none⟩ ∧ B ≤ g) : x = none → n = 0 ∧ c = 0 := by
  intro e
  rcases h with ⟨_, h1, h2⟩ | ⟨g, h1, _⟩
  · exact ⟨h1, h2⟩
  · rw [e] at h1; cases h1
theorem cells_of {w : World} {x : Option Addr} {n c B : Nat} {e : TypeId} {xs : List Value} (o : w.ownsRow B e 1 (.slice x n c) n xs) (h : x = none ∧ n = 0 ∧ c = 0 ∨ ∃ g, x = some ⟨g, 0, none⟩ ∧ B ≤ g) :
    ∀ ad, x = some ad → ∀ j u, xs[j]? = some u → w.cell? (ad.add j) = some u := by
  intro ad e j u hu
  rcases h with ⟨h1, _, _⟩ | ⟨g, h1, _⟩
  · rw [e] at h1; cases h1
  · subst h1
    cases e
    exact o.cells (g := g) rfl j u hu

def joinU (ss : List ByteArray) : List Nat := ss.flatMap uns
theorem joinU_take (ss : List ByteArray) (k : Nat) (h : k < ss.length) : joinU (ss.take (k + 1)) = joinU (ss.take k) ++ uns ss[k] := by
  rw [List.take_succ_eq_append_getElem h]; unfold joinU; rw [List.flatMap_append]; simp only [List.flatMap_cons, List.flatMap_nil, List.append_nil]
theorem joinU_length (ss : List ByteArray) : (joinU ss).length = hsum ss := by
  induction ss with
  | nil => rfl
  | cons s r ih =>
    have e : joinU (s :: r) = uns s ++ joinU r := rfl
    have e2 : hsum (s :: r) = s.size / 2 + hsum r := by simp [hsum]
    rw [e, List.length_append, ih, uns_length, e2]
theorem joinU_lt (ss : List ByteArray) : ∀ u ∈ joinU ss, u < 65536 := by
  intro u hu
  obtain ⟨s, _, hu⟩ := List.mem_flatMap.1 hu
  exact uns_lt s u hu
theorem mkB_joinU (ss : List ByteArray) : mkB (joinU ss) = joinB ss := by
  induction ss with
  | nil => rfl
  | cons s r ih =>
    have e : joinU (s :: r) = uns s ++ joinU r := rfl
    have e2 : joinB (s :: r) = ebs s ++ joinB r := rfl
    rw [e, mkB_append, ih, mkB_uns, e2]
theorem uc_u16c (s : ByteArray) : uc s (s.size / 2) = u16c (uns s) := by simp [uc, u16c, uns]
theorem hsum_le (ss : List ByteArray) (h : ∀ s ∈ ss, s.size ≤ 4000) : hsum ss ≤ 2000 * ss.length := by
  induction ss with
  | nil => simp [hsum]
  | cons s r ih =>
    have e2 : hsum (s :: r) = s.size / 2 + hsum r := by simp [hsum]
    have := h s (List.mem_cons_self ..)
    have := ih (fun x hx => h x (List.mem_cons_of_mem _ hx))
    rw [e2, List.length_cons]; omega

end Go.Proofs.YtmgngbhkgmkggaaGreatDoor
