/- The two sides' shapes beside each other: plain. The two sides' shapes in one memory. -/
import Derived.Test.YtoonaljmdiideaaSTe
import Derived.Test.YtoonaljmdiideaaSrH
import Derived.Test.YtoonaljmdiideaaSrI
namespace Go.Proofs.Ytoonaljmdiideaa
set_option linter.unusedVariables false
set_option linter.unusedSimpArgs false
open Go.RowKit Go.Maps Go.ChangeShapes
theorem ix_eq (a : List Int) (b : List Kb) (n : Int) (k : Kb) (hl : a.length = b.length) (h : ∀ (j : Nat) (x : Int) (y : Kb), a[j]? = some x → b[j]? = some y → (x = n ↔ y = k)) : ixI a n = ixB b k := by
  have key : a.findIdx (fun x => decide (x = n)) = b.findIdx (fun x => decide (x = k)) := by
    induction a generalizing b with
    | nil =>
      cases b with
      | nil => rfl
      | cons y s => simp at hl
    | cons x r ih =>
      cases b with
      | nil => simp at hl
      | cons y s =>
        have h0 := h 0 x y rfl rfl
        have e : decide (x = n) = decide (y = k) := by simp [h0]
        rw [List.findIdx_cons, List.findIdx_cons, e, ih s (by simpa using hl) (fun j x y h1 h2 => h (j + 1) x y (by simpa using h1) (by simpa using h2))]
  unfold ixI ixB
  rw [key, hl]
/-- What a shape has, as both sides lay it. -/
def tell (ks : List Kb) (ln fl : List Int) (sl : List SlR) : Prop :=
  sl.length = fl.length ∧ fl.length ≤ ln.length ∧ ∀ (j : Nat) (x : SlR), sl[j]? = some x → ∃ n : Nat, ln[j]? = some (n : Int) ∧ ks[n]? = some x.kb ∧ fl[j]? = some x.f ∧ 0 ≤ x.f ∧ x.f ≤ 15
/-- Whether a shape has a key. -/
def hasK (S : List (List SlR)) (i : Nat) (k : Kb) : Bool := ((S.getD i []).map SlR.kb).any (fun x => decide (x = k))
theorem hasK_yes {S : List (List SlR)} {i : Nat} {k : Kb} (h : k ∈ (S.getD i []).map SlR.kb) : hasK S i k = true := List.any_eq_true.2 ⟨k, h, decide_eq_true rfl⟩
theorem hasK_no {S : List (List SlR)} {i : Nat} {k : Kb} (h : k ∉ (S.getD i []).map SlR.kb) : hasK S i k = false := List.any_eq_false.2 (fun x hx e => h (of_decide_eq_true e ▸ hx))
/-- Keys of a shape are told once. -/
def NK (S : List (List SlR)) : Prop := ∀ l ∈ S, (l.map SlR.kb).Pairwise (· ≠ ·)
theorem NK.at {S : List (List SlR)} (h : NK S) (i : Nat) : ((S.getD i []).map SlR.kb).Pairwise (· ≠ ·) := by
  rw [List.getD_eq_getElem?_getD]
  cases e : S[i]? with
  | none => exact List.Pairwise.nil
  | some l => exact h l (List.mem_of_getElem? e)
/-- The program's shapes and the document's tell the same. -/
structure Sim (ks : List Kb) (LS : List Ln) (fs : List (List Int)) (fv : List (Nat × Value)) (ws : List ((Int × Int × Int) × Int)) (S : List (List SlR)) (W : List WyR) : Prop where
  sl : S.length = fv.length
  fl : fs.length = fv.length
  ne : 0 < fv.length
  nd : ∀ (a b : Nat) (k : Kb), ks[a]? = some k → ks[b]? = some k → a = b
  kw : ∀ t ∈ ks, Kwf t
  l1 : ∀ r ∈ LS, r.2.2.length ≤ 128
  nb : ∀ r ∈ LS, ∀ x ∈ r.2.2, x < (ks.length : Int)
  at_ : ∀ (i : Nat) (h : i < fv.length), ∃ q ∈ LS, fv[i].1 = q.1 ∧ tell ks q.2.2 (fs.getD i []) (S.getD i [])
  wl : ∀ p ∈ ws, p.1.1 < (fv.length : Int) ∧ p.1.2.1 < (ks.length : Int)
  Wl : ∀ x ∈ W, x.fr < (fv.length : Int) ∧ x.kb ∈ ks
  wa : ∀ (i n : Nat) (k : Kb) (f tt : Int), (((i : Int), (n : Int), f), tt) ∈ ws → ks[n]? = some k → wyF W i (hasK S i k) k f = tt ∧ 0 ≤ tt
  wn : ∀ (i n : Nat) (k : Kb) (f : Int), ks[n]? = some k → (∀ p ∈ ws, p.1 ≠ ((i : Int), (n : Int), f)) → wyF W i (hasK S i k) k f = -1
  so : slOk S
  wo : wyOk W
  c1 : ws.length + 1 = fv.length
  c2 : W.length + 1 = fv.length
  c3 : ks.length + 1 ≤ fv.length
  c4 : fv.length ≤ 100000
  nk : NK S
theorem KsW.at {ks ks' : List Kb} {k : Kb} {n : Nat} (h : KsW ks k n ks') : ks'[n]? = some k ∧ n < ks'.length ∧ n ≤ ks.length := by
  rcases h with ⟨h, rfl⟩ | ⟨rfl, _, rfl⟩
  · exact ⟨h, (List.getElem?_eq_some_iff.1 h).1, Nat.le_of_lt (List.getElem?_eq_some_iff.1 h).1⟩
  · exact ⟨by simp, by simp, Nat.le_refl _⟩
theorem KsW.old {ks ks' : List Kb} {k : Kb} {n : Nat} (h : KsW ks k n ks') (a : Nat) (x : Kb) (ha : ks[a]? = some x) : ks'[a]? = some x := by
  rcases h with ⟨h, rfl⟩ | ⟨rfl, _, rfl⟩
  · exact ha
  · rw [List.getElem?_append_left (List.getElem?_eq_some_iff.1 ha).1]; exact ha
theorem KsW.inv {ks ks' : List Kb} {k : Kb} {n : Nat} (h : KsW ks k n ks') (a : Nat) (x : Kb) (ha : ks'[a]? = some x) : ks[a]? = some x ∨ (a = ks.length ∧ x = k ∧ n = ks.length ∧ k ∉ ks) := by
  rcases h with ⟨h, rfl⟩ | ⟨rfl, hno, rfl⟩
  · exact .inl ha
  · rw [List.getElem?_append] at ha
    split at ha
    · exact .inl ha
    · rename_i h1
      have h2 : a - ks.length = 0 := by
        have := (List.getElem?_eq_some_iff.1 ha).1
        simp at this
        omega
      rw [h2] at ha
      exact .inr ⟨by omega, by simpa using ha.symm, rfl, hno⟩
theorem KsW.len {ks ks' : List Kb} {k : Kb} {n : Nat} (h : KsW ks k n ks') : ks.length ≤ ks'.length ∧ ks'.length ≤ ks.length + 1 := by
  rcases h with ⟨h, rfl⟩ | ⟨rfl, hno, rfl⟩
  · omega
  · simp
theorem KsW.mem {ks ks' : List Kb} {k : Kb} {n : Nat} (h : KsW ks k n ks') : ∀ t ∈ ks', t ∈ ks ∨ t = k := by
  rcases h with ⟨h, rfl⟩ | ⟨rfl, hno, rfl⟩
  · exact fun t ht => .inl ht
  · intro t ht
    rcases List.mem_append.1 ht with h | h
    · exact .inl h
    · exact .inr (List.mem_singleton.1 h)
theorem KsW.memOld {ks ks' : List Kb} {k : Kb} {n : Nat} (h : KsW ks k n ks') : k ∈ ks' ∧ ∀ t ∈ ks, t ∈ ks' := by
  refine ⟨List.mem_of_getElem? h.at.1, fun t ht => ?_⟩
  obtain ⟨a, ha, rfl⟩ := List.getElem_of_mem ht
  exact List.mem_of_getElem? (h.old a _ (List.getElem?_eq_getElem ha))
theorem ksW_ex (ks : List Kb) (k : Kb) : ∃ n ks', KsW ks k n ks' := by
  by_cases h : k ∈ ks
  · obtain ⟨a, ha, e⟩ := List.getElem_of_mem h
    exact ⟨a, ks, .inl ⟨by rw [List.getElem?_eq_getElem ha, e], rfl⟩⟩
  · exact ⟨ks.length, ks ++ [k], .inr ⟨rfl, h, rfl⟩⟩
theorem wyF_old {W : List WyR} {x : WyR} {fr : Int} {ch : Bool} {k : Kb} {f t : Int} (h : wyF W fr ch k f = t) (ht : 0 ≤ t) : wyF (W ++ [x]) fr ch k f = t := by
  unfold wyF at h ⊢
  rw [List.find?_append]
  cases e : W.find? (fun x => x.fits fr ch k f) with
  | none => rw [e] at h; simp at h; omega
  | some y => rw [e] at h; simpa using h
theorem wyF_none {W : List WyR} {fr : Int} {ch : Bool} {k : Kb} {f : Int} (hw : wyOk W) (h : wyF W fr ch k f = -1) : W.find? (fun x => x.fits fr ch k f) = none := by
  rcases wyF_cases W fr ch k f hw with ⟨_, h1⟩ | ⟨h1, _⟩
  · exact List.find?_eq_none.2 (fun x hx q => h1 x hx (WyR.fits_iff.1 q))
  · omega
theorem wyF_new {W : List WyR} {x : WyR} {fr : Int} {ch : Bool} {k : Kb} {f : Int} (hw : wyOk W) (h : wyF W fr ch k f = -1) : wyF (W ++ [x]) fr ch k f = if x.fits fr ch k f = true then x.dst else -1 := by
  have e := wyF_none hw h
  unfold wyF
  rw [List.find?_append, e]
  cases hx : x.fits fr ch k f <;> simp [hx]
theorem getD_snoc_lt {α : Type} (l : List (List α)) (x : List α) (i : Nat) (h : i < l.length) : (l ++ [x]).getD i [] = l.getD i [] := by
  rw [List.getD_eq_getElem?_getD, List.getElem?_append_left h, ← List.getD_eq_getElem?_getD]
theorem getD_snoc_eq {α : Type} (l : List (List α)) (x : List α) (i : Nat) (h : i = l.length) : (l ++ [x]).getD i [] = x := by
  subst h
  simp [List.getD_eq_getElem?_getD]
theorem tell.mono {ks ks' : List Kb} {ln ln' fl : List Int} {sl : List SlR} (h : tell ks ln fl sl) (hk : ∀ (a : Nat) (x : Kb), ks[a]? = some x → ks'[a]? = some x) (hl : ln <+: ln') : tell ks' ln' fl sl := by
  obtain ⟨h1, h2, h3⟩ := h
  obtain ⟨r, rfl⟩ := hl
  refine ⟨h1, by rw [List.length_append]; omega, fun j x hx => ?_⟩
  obtain ⟨n, a, b, c⟩ := h3 j x hx
  exact ⟨n, by rw [List.getElem?_append_left (List.getElem?_eq_some_iff.1 a).1]; exact a, hk _ _ b, c⟩
section
variable {ks ks' : List Kb} {LS LS' : List Ln} {fs : List (List Int)} {fv : List (Nat × Value)} {ws : List ((Int × Int × Int) × Int)} {S : List (List SlR)} {W : List WyR}
/-- A key among those of a shape, on both sides. -/
theorem Sim.ix (h : Sim ks LS fs fv ws S W) {ln fl : List Int} {sl : List SlR} (ht : tell ks ln fl sl) {k : Kb} {n : Nat} (hk : KsW ks k n ks') : ixI (ln.take fl.length) (n : Int) = ixB (sl.map SlR.kb) k ∧ ((n : Int) ∈ ln.take fl.length ↔ k ∈ sl.map SlR.kb) := by
  obtain ⟨h1, h2, h3⟩ := ht
  have hlen : (ln.take fl.length).length = (sl.map SlR.kb).length := by rw [List.length_take, List.length_map]; omega
  have hp : ∀ (j : Nat) (x : Int) (y : Kb), (ln.take fl.length)[j]? = some x → (sl.map SlR.kb)[j]? = some y → (x = (n : Int) ↔ y = k) := by
    intro j x y hx hy
    rw [List.getElem?_map] at hy
    obtain ⟨s, hs, rfl⟩ := Option.map_eq_some_iff.1 hy
    obtain ⟨m, a, b, c⟩ := h3 j s hs
    have hj : j < fl.length := by have := (List.getElem?_eq_some_iff.1 hs).1; omega
    rw [List.getElem?_take_of_lt hj, a] at hx
    obtain rfl := Option.some.inj hx
    constructor
    · intro e
      have e' : m = n := by omega
      subst e'
      have := hk.old _ _ b
      rw [hk.at.1] at this
      exact (Option.some.inj this).symm
    · intro e
      rw [e] at b
      rcases hk with ⟨h5, _⟩ | ⟨_, hno, _⟩
      · rw [h.nd m n k b h5]
      · exact absurd (List.mem_of_getElem? b) hno
  refine ⟨ix_eq _ _ _ _ hlen hp, ?_⟩
  constructor
  · intro hm
    obtain ⟨j, hj, e⟩ := List.getElem_of_mem hm
    have hj' : j < (sl.map SlR.kb).length := by omega
    have := (hp j _ _ (List.getElem?_eq_getElem hj) (List.getElem?_eq_getElem hj')).1 e
    exact List.mem_of_getElem? (by rw [List.getElem?_eq_getElem hj', this])
  · intro hm
    obtain ⟨j, hj, e⟩ := List.getElem_of_mem hm
    have hj' : j < (ln.take fl.length).length := by omega
    have := (hp j _ _ (List.getElem?_eq_getElem hj') (List.getElem?_eq_getElem hj)).2 e
    exact List.mem_of_getElem? (by rw [List.getElem?_eq_getElem hj', this])
/-- One more shape on both sides. -/
theorem Sim.grow (h : Sim ks LS fs fv ws S W) {k : Kb} {n : Nat} (hk : KsW ks k n ks') (hkw : Kwf k) (i : Nat) (hi : i < fv.length) (f : Int) (hnw : ∀ p ∈ ws, p.1 ≠ ((i : Int), (n : Int), f)) (hcap : fv.length < 100000) (ch : Bool) (hch : hasK S i k = ch) (s : ByteArray) (z : Int) (hkb : kbOf (s, z) = k) (hs : (s.size : Int) ≤ 140737488351232)
    (hl1 : ∀ r ∈ LS', r.2.2.length ≤ 128) (hnb : ∀ r ∈ LS', ∀ x ∈ r.2.2, x < (ks'.length : Int)) (hold : ∀ r ∈ LS, ∃ r' ∈ LS', r'.1 = r.1 ∧ r.2.2 <+: r'.2.2) (lbx : Nat) (v : Value) (fl : List Int) (sl : List SlR) (hnew : ∃ q ∈ LS', lbx = q.1 ∧ tell ks' q.2.2 fl sl) (hsl : sl.length < 1000 ∧ ∀ x ∈ sl, (x.s.size : Int) ≤ 140737488351232) (hnk : (sl.map SlR.kb).Pairwise (· ≠ ·)) :
    Sim ks' LS' (fs ++ [fl]) (fv ++ [(lbx, v)]) (ws ++ [(((i : Int), (n : Int), f), (fv.length : Int))]) (S ++ [sl]) (W ++ [⟨(i : Int), ch, s, z, f, (fv.length : Int)⟩]) := by
  obtain ⟨hk1, hk2, hk3⟩ := hk.at
  obtain ⟨hk4, hk5⟩ := hk.len
  have hhas : ∀ (i' : Nat) (k' : Kb), i' < fv.length → hasK (S ++ [sl]) i' k' = hasK S i' k' := fun i' k' hi' => by
    unfold hasK
    rw [getD_snoc_lt _ _ _ (by rw [h.sl]; exact hi')]
  have hfar : ∀ (i' : Nat) (k' : Kb) (f' : Int) (ch' : Bool), ¬ i' < fv.length → wyF (W ++ [⟨(i : Int), ch, s, z, f, (fv.length : Int)⟩]) (i' : Int) ch' k' f' = -1 := fun i' k' f' ch' hi' => by
    refine wyF_no (fun x hx hy => ?_)
    have h1 : x.fr < (fv.length : Int) := by
      rcases List.mem_append.1 hx with hx | hx
      · exact (h.Wl x hx).1
      · rw [List.mem_singleton.1 hx]; show (i : Int) < _; omega
    have := hy.1
    omega
  have hnone : ∀ (i' n' : Nat) (k' : Kb) (f' : Int), ks'[n']? = some k' → (∀ p ∈ ws, p.1 ≠ ((i' : Int), (n' : Int), f')) → wyF W (i' : Int) (hasK S i' k') k' f' = -1 := fun i' n' k' f' hn' hno => by
    rcases hk.inv n' k' hn' with h1 | ⟨_, rfl, _, hnk⟩
    · exact h.wn i' n' k' f' h1 hno
    · refine wyF_no (fun x hx hy => hnk ?_)
      have := (h.Wl x hx).2
      rw [hy.2.2.2] at this
      exact this
  refine ⟨by simp [h.sl], by simp [h.fl], by simp, fun a b k' ha hb => ?_, fun t ht => ?_, hl1, hnb, fun i' hi' => ?_, fun p hp => ?_, fun x hx => ?_, fun i' n' k' f' tt hp hn' => ?_, fun i' n' k' f' hn' hno => ?_, fun l hl => ?_, ⟨?_, fun x hx => ?_⟩, by simp [h.c1], by simp [h.c2], ?_, by simp; omega, fun l hl => ?_⟩
  · rcases hk.inv a k' ha with h1 | ⟨h1, h2, _, h4⟩
    · rcases hk.inv b k' hb with h5 | ⟨h5, h6, _, h8⟩
      · exact h.nd a b k' h1 h5
      · rw [h6] at h1
        exact absurd (List.mem_of_getElem? h1) h8
    · rcases hk.inv b k' hb with h5 | ⟨h5, h6, _, h8⟩
      · rw [h2] at h5
        exact absurd (List.mem_of_getElem? h5) h4
      · omega
  · rcases hk.mem t ht with h1 | rfl
    · exact h.kw t h1
    · exact hkw
  · by_cases hlt : i' < fv.length
    · obtain ⟨q, hq, h1, h2⟩ := h.at_ i' hlt
      obtain ⟨q', hq', e1, e2⟩ := hold q hq
      refine ⟨q', hq', by rw [List.getElem_append_left hlt, h1, e1], ?_⟩
      rw [getD_snoc_lt _ _ _ (by rw [h.fl]; exact hlt), getD_snoc_lt _ _ _ (by rw [h.sl]; exact hlt)]
      exact h2.mono hk.old e2
    · obtain rfl : i' = fv.length := by simp at hi'; omega
      obtain ⟨q, hq, h1, h2⟩ := hnew
      refine ⟨q, hq, by simpa using h1, ?_⟩
      rw [getD_snoc_eq _ _ _ h.fl.symm, getD_snoc_eq _ _ _ h.sl.symm]
      exact h2
  · rw [List.length_append]
    rcases List.mem_append.1 hp with hp | hp
    · have := h.wl p hp
      refine ⟨?_, ?_⟩ <;> (try simp only [List.length_cons, List.length_nil]) <;> omega
    · rw [List.mem_singleton.1 hp]
      refine ⟨?_, ?_⟩ <;> (try simp only [List.length_cons, List.length_nil]) <;> omega
  · rw [List.length_append]
    rcases List.mem_append.1 hx with hx | hx
    · have := h.Wl x hx
      exact ⟨by simp only [List.length_cons, List.length_nil]; omega, hk.memOld.2 _ this.2⟩
    · rw [List.mem_singleton.1 hx]
      refine ⟨by show (i : Int) < _; simp only [List.length_cons, List.length_nil]; omega, ?_⟩
      show kbOf (s, z) ∈ ks'
      rw [hkb]
      exact hk.memOld.1
  · rcases List.mem_append.1 hp with hp | hp
    · have hlt : i' < fv.length := by have := (h.wl _ hp).1; dsimp only at this; omega
      rw [hhas i' k' hlt]
      rcases hk.inv n' k' hn' with h1 | ⟨h1, _, _, _⟩
      · obtain ⟨h2, h3⟩ := h.wa i' n' k' f' tt hp h1
        exact ⟨wyF_old h2 h3, h3⟩
      · have := (h.wl _ hp).2
        dsimp only at this
        omega
    · have he := List.mem_singleton.1 hp
      simp only [Prod.mk.injEq] at he
      obtain ⟨⟨e1, e2, rfl⟩, rfl⟩ := he
      obtain rfl : i' = i := by omega
      obtain rfl : n' = n := by omega
      rw [hk1] at hn'
      obtain rfl := Option.some.inj hn'
      rw [hhas i' k hi, wyF_new h.wo (hnone i' n' k f' hk1 hnw), hch, if_pos ((WyR.fits_iff (x := ⟨(i' : Int), ch, s, z, f', (fv.length : Int)⟩)).2 ⟨rfl, rfl, rfl, hkb⟩)]
      exact ⟨rfl, by omega⟩
  · by_cases hlt : i' < fv.length
    · rw [hhas i' k' hlt, wyF_new h.wo (hnone i' n' k' f' hn' (fun p hp => hno p (List.mem_append_left _ hp))), if_neg]
      intro hf
      obtain ⟨e1, e2, e3, e4⟩ := WyR.fits_iff.1 hf
      have e1' : (i : Int) = (i' : Int) := e1
      have e3' : f = f' := e3
      have e4' : kbOf (s, z) = k' := e4
      obtain rfl : i = i' := by omega
      subst e3'
      rw [hkb] at e4'
      subst e4'
      have : n = n' := by
        rcases hk.inv n' k hn' with h1 | ⟨h1, _, h2, _⟩
        · rcases hk.inv n k hk1 with h5 | ⟨_, _, _, h8⟩
          · exact h.nd n n' k h5 h1
          · exact absurd (List.mem_of_getElem? h1) h8
        · omega
      subst this
      exact hno _ (List.mem_append_right _ (List.mem_singleton.2 rfl)) rfl
    · exact hfar i' k' f' _ hlt
  · rcases List.mem_append.1 hl with hl | hl
    · exact h.so l hl
    · rw [List.mem_singleton.1 hl]; exact hsl
  · rw [List.length_append]
    have := h.c2
    simp only [List.length_cons, List.length_nil]
    omega
  · rcases List.mem_append.1 hx with hx | hx
    · exact h.wo.2 x hx
    · rw [List.mem_singleton.1 hx]
      exact ⟨by show (0 : Int) ≤ (fv.length : Int); omega, hs⟩
  · rw [List.length_append]
    have := h.c3
    simp only [List.length_cons, List.length_nil]
    omega
  · rcases List.mem_append.1 hl with hl | hl
    · exact h.nk l hl
    · rw [List.mem_singleton.1 hl]; exact hnk
/-- Add of a new shape. -/
theorem Sim.add (h : Sim ks LS fs fv ws S W) {k : Kb} {n : Nat} (hk : KsW ks k n ks') (hkw : Kwf k) (i : Nat) (hi : i < fv.length) (f : Int) (f0 : 0 ≤ f) (f1 : f ≤ 15) (hnw : ∀ p ∈ ws, p.1 ≠ ((i : Int), (n : Int), f)) (hcap : fv.length < 100000) (s : ByteArray) (z : Int) (hkb : kbOf (s, z) = k) (hs : (s.size : Int) ≤ 140737488351232)
    (q : Ln) (hq : q ∈ LS) (ht : tell ks q.2.2 (fs.getD i []) (S.getD i [])) (hno : k ∉ (S.getD i []).map SlR.kb) (hm : (fs.getD i []).length < 128) (lbx : Nat) (v : Value) (hG : LsG LS LS' lbx (q.2.2.take (fs.getD i []).length ++ [(n : Int)])) :
    Sim ks' LS' (fs ++ [fs.getD i [] ++ [f]]) (fv ++ [(lbx, v)]) (ws ++ [(((i : Int), (n : Int), f), (fv.length : Int))]) (S ++ [S.getD i [] ++ [⟨s, z, f⟩]]) (W ++ [⟨(i : Int), false, s, z, f, (fv.length : Int)⟩]) := by
  obtain ⟨hk1, hk2, hk3⟩ := hk.at
  obtain ⟨hk4, hk5⟩ := hk.len
  obtain ⟨g1, g2, g3, g4⟩ := hG
  obtain ⟨t1, t2, t3⟩ := ht
  have hlen : (q.2.2.take (fs.getD i []).length).length = (fs.getD i []).length := by rw [List.length_take]; omega
  obtain ⟨o1, o2⟩ := h.so.at i
  have hnk : ((S.getD i [] ++ [(⟨s, z, f⟩ : SlR)]).map SlR.kb).Pairwise (· ≠ ·) := by
    rw [List.map_append]
    refine List.pairwise_append.2 ⟨h.nk.at i, List.pairwise_singleton _ _, fun a ha b hb e => hno ?_⟩
    rw [← hkb, ← (show b = kbOf (s, z) from List.mem_singleton.1 hb), ← e]
    exact ha
  refine h.grow hk hkw i hi f hnw hcap false (hasK_no hno) s z hkb hs (g3 h.l1 (by rw [List.length_append, hlen]; simp only [List.length_cons, List.length_nil]; omega)) (fun r hr x hx => ?_) g1 lbx v _ _ ?_ ⟨by rw [List.length_append]; simp only [List.length_cons, List.length_nil]; omega, fun x hx => ?_⟩ hnk
  · rcases g4 r hr x hx with ⟨r0, hr0, h0⟩ | h0
    · have := h.nb r0 hr0 x h0
      omega
    · rcases List.mem_append.1 h0 with h0 | h0
      · have := h.nb q hq x (List.mem_of_mem_take h0)
        omega
      · rw [List.mem_singleton.1 h0]
        omega
  · obtain ⟨r', hr', e1, e2⟩ := g2
    refine ⟨r', hr', e1.symm, ?_⟩
    refine tell.mono (ks := ks') (ln := q.2.2.take (fs.getD i []).length ++ [(n : Int)]) ⟨?_, ?_, fun j x hx => ?_⟩ (fun _ _ h => h) e2
    · rw [List.length_append, List.length_append, t1]; rfl
    · rw [List.length_append, List.length_append, hlen]; exact Nat.le_refl _
    · by_cases hj : j < (S.getD i []).length
      · rw [List.getElem?_append_left hj] at hx
        obtain ⟨m, a, b, c, d⟩ := t3 j x hx
        refine ⟨m, ?_, hk.old _ _ b, ?_, d⟩
        · rw [List.getElem?_append_left (by rw [hlen, ← t1]; exact hj), List.getElem?_take_of_lt (by omega)]
          exact a
        · rw [List.getElem?_append_left (by omega)]
          exact c
      · have hj2 : j = (S.getD i []).length := by
          have := (List.getElem?_eq_some_iff.1 hx).1
          rw [List.length_append] at this
          simp only [List.length_cons, List.length_nil] at this
          omega
        have hj3 : j = (fs.getD i []).length := by omega
        rw [List.getElem?_append_right (by omega), hj2, Nat.sub_self] at hx
        obtain rfl : (⟨s, z, f⟩ : SlR) = x := by simpa using hx
        refine ⟨n, ?_, by show ks'[n]? = some (kbOf (s, z)); rw [hkb]; exact hk1, ?_, f0, f1⟩
        · rw [List.getElem?_append_right (by omega), hlen, hj3, Nat.sub_self]
          rfl
        · rw [List.getElem?_append_right (by omega), hj3, Nat.sub_self]
          rfl
  · rcases List.mem_append.1 hx with hx | hx
    · exact o2 x hx
    · rw [List.mem_singleton.1 hx]; exact hs
/-- Change of flags, by a new shape. -/
theorem Sim.chg (h : Sim ks LS fs fv ws S W) {k : Kb} {n : Nat} (hk : KsW ks k n ks') (hkw : Kwf k) (i : Nat) (hi : i < fv.length) (f : Int) (f0 : 0 ≤ f) (f1 : f ≤ 15) (hnw : ∀ p ∈ ws, p.1 ≠ ((i : Int), (n : Int), f)) (hcap : fv.length < 100000) (s : ByteArray) (z : Int) (hkb : kbOf (s, z) = k) (hs : (s.size : Int) ≤ 140737488351232)
    (q : Ln) (hq : q ∈ LS) (ht : tell ks q.2.2 (fs.getD i []) (S.getD i [])) (j : Nat) (x : SlR) (hj : ixB ((S.getD i []).map SlR.kb) k = (j : Int)) (hx : (S.getD i [])[j]? = some x) (v : Value) :
    Sim ks LS (fs ++ [(fs.getD i []).set j f]) (fv ++ [(q.1, v)]) (ws ++ [(((i : Int), (n : Int), f), (fv.length : Int))]) (S ++ [(S.getD i []).set j ⟨x.s, x.z, f⟩]) (W ++ [⟨(i : Int), true, s, z, f, (fv.length : Int)⟩]) := by
  obtain ⟨t1, t2, t3⟩ := ht
  obtain ⟨o1, o2⟩ := h.so.at i
  have hin : k ∈ (S.getD i []).map SlR.kb := by
    rcases ixB_cases ((S.getD i []).map SlR.kb) k with ⟨e, _⟩ | ⟨j', hj', _, e⟩
    · omega
    · exact List.mem_of_getElem? (by rw [List.getElem?_eq_getElem hj', e])
  have hks : KsW ks k n ks := by
    rcases hk with ⟨h1, rfl⟩ | ⟨_, hno, _⟩
    · exact .inl ⟨h1, rfl⟩
    · obtain ⟨y, hy, e⟩ := List.mem_map.1 hin
      obtain ⟨a, ha, rfl⟩ := List.getElem_of_mem hy
      obtain ⟨m, _, b, _⟩ := t3 a _ (List.getElem?_eq_getElem ha)
      rw [e] at b
      exact absurd (List.mem_of_getElem? b) hno
  have hnk : (((S.getD i []).set j (⟨x.s, x.z, f⟩ : SlR)).map SlR.kb).Pairwise (· ≠ ·) := by
    have e0 : ((S.getD i []).set j (⟨x.s, x.z, f⟩ : SlR)).map SlR.kb = (S.getD i []).map SlR.kb := by
      refine List.ext_getElem? fun n => ?_
      rw [List.getElem?_map, List.getElem?_map]
      by_cases hn : j = n
      · subst hn
        rw [List.getElem?_set_self (List.getElem?_eq_some_iff.1 hx).1, hx]
        rfl
      · rw [List.getElem?_set_ne hn]
    rw [e0]
    exact h.nk.at i
  refine h.grow hks hkw i hi f hnw hcap true (hasK_yes hin) s z hkb hs h.l1 h.nb (fun r hr => ⟨r, hr, rfl, List.prefix_refl _⟩) q.1 v _ _ ⟨q, hq, rfl, ⟨by rw [List.length_set, List.length_set, t1], by rw [List.length_set]; exact t2, fun j' y hy => ?_⟩⟩ ⟨by rw [List.length_set]; exact o1, fun y hy => ?_⟩ hnk
  · by_cases hjj : j' = j
    · subst hjj
      have hlt := (List.getElem?_eq_some_iff.1 hx).1
      rw [List.getElem?_set_self hlt] at hy
      obtain rfl := Option.some.inj hy
      obtain ⟨m, a, b, c, d⟩ := t3 j' x hx
      exact ⟨m, a, b, by rw [List.getElem?_set_self (by omega)], f0, f1⟩
    · rw [List.getElem?_set_ne (fun e => hjj e.symm)] at hy
      obtain ⟨m, a, b, c, d⟩ := t3 j' y hy
      exact ⟨m, a, b, by rw [List.getElem?_set_ne (fun e => hjj e.symm)]; exact c, d⟩
  · rcases List.mem_or_eq_of_mem_set hy with h1 | rfl
    · exact o2 y h1
    · exact o2 x (List.mem_of_getElem? hx)
end
theorem T2.uniq {C : List (Nat × Obj)} {B g mn mw : Nat} {vk vs : Value} {ks : List Kb} {LS : List Ln} {fs : List (List Int)} {fv : List (Nat × Value)} {nw : Nat} {Dn Dw : DataW Unit} {w : World} (h : T2 C B g mn mw vk vs ks LS fs fv nw Dn Dw w) (q r : Ln) (hq : q ∈ LS) (hr : r ∈ LS) (e : q.1 = r.1) : q = r := by
  have hp := h.ap
  clear h
  induction LS with
  | nil => cases hq
  | cons a l ih =>
    obtain ⟨h1, h2⟩ := List.pairwise_cons.1 hp
    rcases List.mem_cons.1 hq with e1 | hq
    · rcases List.mem_cons.1 hr with e2 | hr
      · rw [e1, e2]
      · rw [e1] at e
        exact absurd e (h1 r hr).1
    · rcases List.mem_cons.1 hr with e2 | hr
      · rw [e2] at e
        exact absurd e.symm (h1 q hq).1
      · exact ih hq hr h2
end Go.Proofs.Ytoonaljmdiideaa

namespace Go.Proofs.Ytoonaljmdiideaa
set_option linter.unusedVariables false
set_option linter.unusedSimpArgs false
open Go.RowKit Go.Maps Go.ChangeShapes
/-- Blocks of kinds that are neither side's. -/
def Fr (ob : Obj) : Prop := ∀ c fz, ob ≠ .cells c 5 fz ∧ ob ≠ .cells c 81 fz ∧ ob ≠ .cells c 79 fz ∧ ob ≠ .cells c 119 fz ∧ ob ≠ .cells c 43 fz
theorem fr_kind (c : Array Value) (t : TypeId) (fz) (h1 : t ≠ 5) (h2 : t ≠ 81) (h3 : t ≠ 79) (h4 : t ≠ 119) (h5 : t ≠ 43) : Fr (.cells c t fz) := fun c' fz' =>
  ⟨fun e => by cases e; exact h1 rfl, fun e => by cases e; exact h2 rfl, fun e => by cases e; exact h3 rfl, fun e => by cases e; exact h4 rfl, fun e => by cases e; exact h5 rfl⟩
/-- The blocks of the document's tree. -/
def rBs (rb : Nat) (vL vW : Value) (sv : List Value) : List Nat := rX rb vL vW ++ sv.flatMap (fun v => v.ownBlock.toList)
def ofB (w : World) (bs : List Nat) : List (Nat × Obj) := bs.filterMap (fun b => (w.heap[b]?).map (fun o => (b, o)))
theorem ofB_mem {w : World} {bs : List Nat} {p : Nat × Obj} : p ∈ ofB w bs ↔ p.1 ∈ bs ∧ w.heap[p.1]? = some p.2 := by
  unfold ofB
  rw [List.mem_filterMap]
  constructor
  · rintro ⟨b, hb, e⟩
    obtain ⟨o, ho, rfl⟩ := Option.map_eq_some_iff.1 e
    exact ⟨hb, ho⟩
  · rintro ⟨hb, ho⟩
    exact ⟨p.1, hb, by rw [ho]; rfl⟩
theorem rBs_mem {rb : Nat} {vL vW : Value} {sv : List Value} {b : Nat} (h : b ∈ rBs rb vL vW sv) : b = rb ∨ vL.ownBlock = some b ∨ vW.ownBlock = some b ∨ ∃ v ∈ sv, v.ownBlock = some b := by
  unfold rBs rX at h
  simp only [List.mem_append, List.mem_cons, List.mem_flatMap, Option.mem_toList, Option.mem_def] at h
  rcases h with (h | h | h) | h
  · exact .inl h
  · exact .inr (.inl h)
  · exact .inr (.inr (.inl h))
  · exact .inr (.inr (.inr h))
theorem rBs_in {rb : Nat} {vL vW : Value} {sv : List Value} {b : Nat} (h : b = rb ∨ vL.ownBlock = some b ∨ vW.ownBlock = some b ∨ ∃ v ∈ sv, v.ownBlock = some b) : b ∈ rBs rb vL vW sv := by
  unfold rBs rX
  simp only [List.mem_append, List.mem_cons, List.mem_flatMap, Option.mem_toList, Option.mem_def]
  rcases h with h | h | h | h
  · exact .inl (.inl h)
  · exact .inl (.inr (.inl h))
  · exact .inl (.inr (.inr h))
  · exact .inr h
section
variable {C : List (Nat × Obj)} {B g mn mw rb : Nat} {vk vs : Value} {ks : List Kb} {LS : List Ln} {fs : List (List Int)} {fv : List (Nat × Value)} {nw : Nat} {Dn Dw : DataW Unit} {vL vW : Value} {sv : List Value} {S : List (List SlR)} {W : List WyR} {w w' : World}
theorem T2.turn {C' : List (Nat × Obj)} {X : List Nat} (h : T2 C B g mn mw vk vs ks LS fs fv nw Dn Dw w) (hs : Sv X w w') (hX : ∀ b ∈ X, ∃ ob, (b, ob) ∈ C ∧ ∀ c fz, ob ≠ .cells c 5 fz) (hC : ∀ p ∈ C', w'.heap[p.1]? = some p.2 ∧ ((∃ ob, (p.1, ob) ∈ C) ∨ w.heap.size ≤ p.1)) : T2 C' B g mn mw vk vs ks LS fs fv nw Dn Dw w' :=
  ⟨fun q hq => (h.one q hq).turn hs hX hC, h.ap, h.of, h.fl, h.ne⟩
theorem T2.c (h : T2 C B g mn mw vk vs ks LS fs fv nw Dn Dw w) : ∀ p ∈ C, w.heap[p.1]? = some p.2 := by
  obtain ⟨q, _, hT⟩ := h.any
  exact hT.c
theorem T2.ge (h : T2 C B g mn mw vk vs ks LS fs fv nw Dn Dw w) : B ≤ g ∧ g < w.heap.size := by
  obtain ⟨q, _, hT⟩ := h.any
  exact ⟨hT.ge.1, hT.lts.1⟩
/-- Each block of the document's tree is there. -/
theorem R1.blocks (h : R1 B rb vL vW sv S W w) : ∀ b ∈ rBs rb vL vW sv, ∃ ob, w.heap[b]? = some ob := fun b hb => by
  rcases rBs_mem hb with rfl | e | e | ⟨v, hv, e⟩
  · exact ⟨_, h.row⟩
  · obtain ⟨c, fz, h1⟩ := sh_kind h.l b e; exact ⟨_, h1⟩
  · obtain ⟨c, fz, h1⟩ := sh_kind h.m b e; exact ⟨_, h1⟩
  · obtain ⟨i, hi, rfl⟩ := List.getElem_of_mem hv
    obtain ⟨c, fz, h1⟩ := sh_kind (h.s i hi) b e; exact ⟨_, h1⟩
/-- The document's tree stands where its blocks stand. -/
theorem R1.stand (h : R1 B rb vL vW sv S W w) (hs : ∀ b ∈ rBs rb vL vW sv, w'.heap[b]? = w.heap[b]?) : R1 B rb vL vW sv S W w' :=
  ⟨h.ge, (hs rb (rBs_in (.inl rfl))).trans h.row, own_at' h.l (fun b hb => hs b (rBs_in (.inr (.inl hb)))), fun i hi => own_at' (h.s i hi) (fun b hb => hs b (rBs_in (.inr (.inr (.inr ⟨_, List.getElem_mem hi, hb⟩))))), own_at' h.m (fun b hb => hs b (rBs_in (.inr (.inr (.inl hb)))))⟩
end
/-- What Find tells. -/
def ansF (S : List (List SlR)) (i : Int) (k : Kb) : Int × Int × Bool :=
  if i < 0 then (0, 0, false) else match (S.getD i.toNat [])[((S.getD i.toNat []).map SlR.kb).findIdx (fun x => decide (x = k))]? with
    | some x => ((((S.getD i.toNat []).map SlR.kb).findIdx (fun x => decide (x = k)) : Nat), x.f, true)
    | none => (0, 0, false)
def ansV (a : Int × Int × Bool) : Value := .tuple #[.int .i64 a.1, .int .i64 a.2.1, .bool a.2.2]
theorem ansF_out {S : List (List SlR)} {i : Int} {k : Kb} (h : i < 0 ∨ (S.length : Int) ≤ i) : ansF S i k = (0, 0, false) := by
  unfold ansF
  by_cases h0 : i < 0
  · rw [if_pos h0]
  · rw [if_neg h0]
    have e : S.getD i.toNat [] = [] := by rw [List.getD_eq_getElem?_getD, List.getElem?_eq_none (by omega)]; rfl
    rw [e]
    rfl
theorem ansF_no {S : List (List SlR)} {i : Nat} {k : Kb} (h : ∀ x ∈ (S.getD i []).map SlR.kb, x ≠ k) : ansF S (i : Int) k = (0, 0, false) := by
  unfold ansF
  rw [if_neg (by omega), Int.toNat_natCast]
  have e : ¬ ((S.getD i []).map SlR.kb).findIdx (fun x => decide (x = k)) < (S.getD i []).length := by
    have h1 := List.findIdx_lt_length (p := fun x : Kb => decide (x = k)) (xs := (S.getD i []).map SlR.kb)
    rw [List.length_map] at h1
    rw [h1]
    rintro ⟨x, hx, e⟩
    exact h x hx (of_decide_eq_true e)
  rw [List.getElem?_eq_none (by omega)]
theorem ansF_yes {S : List (List SlR)} {i j : Nat} {k : Kb} {x : SlR} (h : ixB ((S.getD i []).map SlR.kb) k = (j : Int)) (hx : (S.getD i [])[j]? = some x) : ansF S (i : Int) k = ((j : Int), x.f, true) := by
  have e : ((S.getD i []).map SlR.kb).findIdx (fun x => decide (x = k)) = j := by
    unfold ixB at h
    split at h <;> omega
  unfold ansF
  rw [if_neg (by omega), Int.toNat_natCast, e, hx]
/-- A shape that there is does not change. -/
theorem ansF_snoc {S : List (List SlR)} {sl : List SlR} {i : Int} {k : Kb} (h : i < (S.length : Int)) : ansF (S ++ [sl]) i k = ansF S i k := by
  unfold ansF
  by_cases h0 : i < 0
  · rw [if_pos h0, if_pos h0]
  · rw [if_neg h0, if_neg h0, getD_snoc_lt _ _ _ (by omega)]
/-- Both sides' shapes, alike, in one memory; and blocks of others. -/
def Two (B g rb : Nat) (S : List (List SlR)) (D : List (Nat × Obj)) (w : World) : Prop :=
  (∃ mn mw vk vs ks LS fs fv ws Dn Dw vL vW sv W E, T2 (D ++ E) B g mn mw vk vs ks LS fs fv (ws : List ((Int × Int × Int) × Int)).length Dn Dw w ∧ NumOk Dn ks ∧ WayOk Dw ws ∧ R1 B rb vL vW sv S W w ∧ sv.length = fv.length ∧ Sim ks LS fs fv ws S W ∧ ∀ b ∈ rBs rb vL vW sv, ∃ ob, (b, ob) ∈ (E : List (Nat × Obj))) ∧ ∀ p ∈ D, Fr p.2
section
variable {B g rb : Nat} {S : List (List SlR)} {D : List (Nat × Obj)} {w w' : World}
theorem Two.c (h : Two B g rb S D w) : ∀ p ∈ D, w.heap[p.1]? = some p.2 := by
  obtain ⟨⟨mn, mw, vk, vs, ks, LS, fs, fv, ws, Dn, Dw, vL, vW, sv, W, E, hT, _⟩, _⟩ := h
  exact fun p hp => hT.c p (List.mem_append_left _ hp)
theorem Two.ge (h : Two B g rb S D w) : B ≤ g ∧ g < w.heap.size ∧ B ≤ w.heap.size := by
  obtain ⟨⟨mn, mw, vk, vs, ks, LS, fs, fv, ws, Dn, Dw, vL, vW, sv, W, E, hT, _⟩, _⟩ := h
  have := hT.ge
  exact ⟨this.1, this.2, by omega⟩
/-- The others' blocks may turn. -/
theorem Two.turn {D' : List (Nat × Obj)} {X : List Nat} (h : Two B g rb S D w) (hs : Sv X w w') (hX : ∀ b ∈ X, ∃ ob, (b, ob) ∈ D) (hD : ∀ p ∈ D', w'.heap[p.1]? = some p.2 ∧ ((∃ ob, (p.1, ob) ∈ D) ∨ w.heap.size ≤ p.1) ∧ Fr p.2) : Two B g rb S D' w' := by
  obtain ⟨⟨mn, mw, vk, vs, ks, LS, fs, fv, ws, Dn, Dw, vL, vW, sv, W, E, hT, h2, h3, hR, h5, h6, hE⟩, hF⟩ := h
  have hne : ∀ b ∈ X, b ∉ rBs rb vL vW sv := fun b hb hr => by
    obtain ⟨ob, hob⟩ := hX b hb
    have hh := hT.c _ (List.mem_append_left _ hob)
    have hf := hF _ hob
    dsimp only at hh hf
    rcases rBs_mem hr with rfl | e | e | ⟨v, hv, e⟩
    · rw [hR.row] at hh
      cases hh
      exact (hf _ _).2.2.2.2 rfl
    · obtain ⟨c, fz, h1⟩ := sh_kind hR.l b e
      rw [hh] at h1
      cases h1
      exact (hf _ _).2.2.1 rfl
    · obtain ⟨c, fz, h1⟩ := sh_kind hR.m b e
      rw [hh] at h1
      cases h1
      exact (hf _ _).2.2.2.1 rfl
    · obtain ⟨i, hi, rfl⟩ := List.getElem_of_mem hv
      obtain ⟨c, fz, h1⟩ := sh_kind (hR.s i hi) b e
      rw [hh] at h1
      cases h1
      exact (hf _ _).2.1 rfl
  have hst : ∀ b ∈ rBs rb vL vW sv, w'.heap[b]? = w.heap[b]? := fun b hb => by
    obtain ⟨ob, ho⟩ := hR.blocks b hb
    rw [ho]
    exact hs.all b ob (fun hx => hne b hx hb) ho
  have hR' := hR.stand hst
  refine ⟨⟨mn, mw, vk, vs, ks, LS, fs, fv, ws, Dn, Dw, vL, vW, sv, W, ofB w' (rBs rb vL vW sv), hT.turn hs (fun b hb => ?_) (fun p hp => ?_), h2, h3, hR', h5, h6, fun b hb => ?_⟩, fun p hp => (hD p hp).2.2⟩
  · obtain ⟨ob, hob⟩ := hX b hb
    exact ⟨ob, List.mem_append_left _ hob, fun c fz => (hF _ hob c fz).1⟩
  · rcases List.mem_append.1 hp with hp | hp
    · obtain ⟨a, b, _⟩ := hD p hp
      refine ⟨a, ?_⟩
      rcases b with ⟨ob, hob⟩ | hb
      · exact .inl ⟨ob, List.mem_append_left _ hob⟩
      · exact .inr hb
    · obtain ⟨a, b⟩ := ofB_mem.1 hp
      obtain ⟨ob, hob⟩ := hE _ a
      exact ⟨b, .inl ⟨ob, List.mem_append_right _ hob⟩⟩
  · obtain ⟨ob, ho⟩ := hR'.blocks b hb
    exact ⟨ob, ofB_mem.2 ⟨hb, ho⟩⟩
theorem Two.below (h : Two B g rb S D w) (hb : Below w.heap.size w w') : Two B g rb S D w' :=
  h.turn (Sv.below hb) (fun b hb => by cases hb) (fun p hp => ⟨(Sv.below hb).all _ _ (by simp) (h.c p hp), .inl ⟨_, hp⟩, h.2 p hp⟩)
theorem Two.sub {D' : List (Nat × Obj)} (h : Two B g rb S D w) (hD : ∀ p ∈ D', p ∈ D) : Two B g rb S D' w :=
  h.turn (Sv.refl w) (fun b hb => by cases hb) (fun p hp => ⟨h.c p (hD p hp), .inl ⟨_, hD p hp⟩, h.2 p (hD p hp)⟩)
/-- A new block of the others'. -/
theorem Two.cons (h : Two B g rb S D w) (hb : Below w.heap.size w w') (b : Nat) (ob : Obj) (hbl : w.heap.size ≤ b) (ho : w'.heap[b]? = some ob) (hf : Fr ob) : Two B g rb S ((b, ob) :: D) w' := by
  refine h.turn (Sv.below hb) (fun b hb => by cases hb) (fun p hp => ?_)
  rcases List.mem_cons.1 hp with rfl | hp
  · exact ⟨ho, .inr hbl, hf⟩
  · exact ⟨(Sv.below hb).all _ _ (by simp) (h.c p hp), .inl ⟨_, hp⟩, h.2 p hp⟩
/-- A block of the others' is written. -/
theorem Two.set (h : Two B g rb S D w) (b : Nat) (ob ob' : Obj) (D1 D2 : List (Nat × Obj)) (e : D = D1 ++ (b, ob) :: D2) (hs : Sv [b] w w') (ho : w'.heap[b]? = some ob') (hf : Fr ob') (hn : ∀ p ∈ D1 ++ D2, p.1 ≠ b) : Two B g rb S (D1 ++ (b, ob') :: D2) w' := by
  subst e
  have hin : ∀ p ∈ D1 ++ D2, p ∈ D1 ++ (b, ob) :: D2 := fun p hp => by
    rcases List.mem_append.1 hp with hp | hp
    · exact List.mem_append_left _ hp
    · exact List.mem_append_right _ (List.mem_cons_of_mem _ hp)
  have key : ∀ p ∈ D1 ++ D2, w'.heap[p.1]? = some p.2 ∧ ((∃ ob', (p.1, ob') ∈ D1 ++ (b, ob) :: D2) ∨ w.heap.size ≤ p.1) ∧ Fr p.2 := fun p hp => ⟨hs.all _ _ (by simpa using hn p hp) (h.c p (hin p hp)), .inl ⟨_, hin p hp⟩, h.2 p (hin p hp)⟩
  refine h.turn hs (fun x hx => ⟨ob, by rw [List.mem_singleton.1 hx]; simp⟩) (fun p hp => ?_)
  rcases List.mem_append.1 hp with hp | hp
  · exact key p (List.mem_append_left _ hp)
  · rcases List.mem_cons.1 hp with rfl | hp
    · exact ⟨ho, .inl ⟨ob, by simp⟩, hf⟩
    · exact key p (List.mem_append_right _ hp)
theorem tell.at {ks : List Kb} {ln fl : List Int} {sl : List SlR} (h : tell ks ln fl sl) (j : Nat) (f : Int) (hf : fl[j]? = some f) : ∃ x, sl[j]? = some x ∧ x.f = f ∧ 0 ≤ f ∧ f ≤ 15 := by
  obtain ⟨h1, h2, h3⟩ := h
  have hj : j < sl.length := by have := (List.getElem?_eq_some_iff.1 hf).1; omega
  obtain ⟨n, a, b, c, d⟩ := h3 j _ (List.getElem?_eq_getElem hj)
  rw [hf] at c
  obtain rfl := Option.some.inj c
  exact ⟨_, List.getElem?_eq_getElem hj, rfl, d⟩
/-- The program's Find. -/
theorem two_find (i : Int) (s : ByteArray) (z : Int) (w : World) (h : Two B g rb S D w) (hs : (s.size : Int) ≤ 140737488351232) (hz : (Lit.int .i64 (bareZ z)).wf = true) :
    Calls Try.prog 22 #[.pointer (some ⟨g, 0, none⟩), .int .i64 i, .agg #[.string s, .int .i64 z]] w fun e w' => e = .returned (ansV (ansF S i (kbOf (s, z)))) ∧ Below w.heap.size w w' := by
  obtain ⟨⟨mn, mw, vk, vs, ks, LS, fs, fv, ws, Dn, Dw, vL, vW, sv, W, E, hT, h2, h3, hR, h5, h6, hE⟩, hF⟩ := h
  by_cases hi : i < 0 ∨ (fv.length : Int) ≤ i
  · rw [ansF_out (by rw [h6.sl]; exact hi)]
    exact t2_find_out i s z w hT hi
  · obtain ⟨n, rfl⟩ : ∃ n : Nat, i = (n : Int) := ⟨i.toNat, by omega⟩
    have hn : n < fv.length := by omega
    obtain ⟨k, ks', hk⟩ := ksW_ex ks (kbOf (s, z))
    obtain ⟨q, hq, e1, ht⟩ := h6.at_ n hn
    have hff : ∀ x ∈ fs.getD n [], 0 ≤ x ∧ x ≤ 15 := fun x hx => by
      obtain ⟨j, hj, rfl⟩ := List.getElem_of_mem hx
      obtain ⟨_, _, _, d⟩ := ht.at j _ (List.getElem?_eq_getElem hj)
      exact d
    refine (t2_find n k s z (bareS s z) (bareZ z) rfl rfl w hT h2 hs hz hk hn hff h6.nb h6.l1 (by have := h6.c3; have := h6.c4; omega)).mono ?_
    rintro e w' ⟨⟨q', hq', e1', hl, hA⟩, hb⟩
    obtain rfl : q = q' := hT.uniq q q' hq hq' (e1.symm.trans e1')
    obtain ⟨ix, im⟩ := h6.ix ht hk
    rcases hA with ⟨hno, rfl⟩ | ⟨j, f, hj, hkk, hf, rfl⟩
    · rw [ansF_no (k := kbOf (s, z)) (fun x hx e => hno (im.2 (by rw [← e]; exact hx)))]
      exact ⟨rfl, hb⟩
    · obtain ⟨x, hx, rfl, _⟩ := ht.at j f hf
      rw [ansF_yes (j := j) (by rw [← ix]; exact hj) hx]
      exact ⟨rfl, hb⟩
/-- The document's Find. -/
theorem two_rfind (i : Int) (s : ByteArray) (z : Int) (w : World) (h : Two B g rb S D w) (hs : (s.size : Int) ≤ 140737488351232) :
    Calls Try.prog 18 #[.pointer (some ⟨rb, 0, none⟩), .int .i64 i, .agg #[.string s, .int .i64 z]] w fun e w' => e = .returned (ansV (ansF S i (kbOf (s, z)))) ∧ Below w.heap.size w w' := by
  obtain ⟨⟨mn, mw, vk, vs, ks, LS, fs, fv, ws, Dn, Dw, vL, vW, sv, W, E, hT, h2, h3, hR, h5, h6, hE⟩, hF⟩ := h
  by_cases hi : i < 0 ∨ (fv.length : Int) ≤ i
  · rw [ansF_out (by rw [h6.sl]; exact hi)]
    exact rfind_out i s z w hR (by rw [h5]; exact hi)
  · obtain ⟨n, rfl⟩ : ∃ n : Nat, i = (n : Int) := ⟨i.toNat, by omega⟩
    refine (rfind_in n s z w hR (by omega) h6.so hs (by have := h6.c4; omega)).mono ?_
    rintro e w' ⟨hA, hb⟩
    rcases hA with ⟨hno, rfl⟩ | ⟨j, x, hj, hx, rfl⟩
    · rw [ansF_no hno]
      exact ⟨rfl, hb⟩
    · rw [ansF_yes hj hx]
      exact ⟨rfl, hb⟩
end
end Go.Proofs.Ytoonaljmdiideaa
