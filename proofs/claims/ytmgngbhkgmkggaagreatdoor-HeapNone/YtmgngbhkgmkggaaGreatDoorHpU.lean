/- A region that draws its order, whose operations only read, but for the last one, which waits for all others: one walk in the order of the text. Inside a round as well. -/
import Derived.Test.YtmgngbhkgmkggaaGreatDoorProg
import Derived.Sort.QuietTacIn
import Derived.OrdersIn
namespace Go.Proofs.YtmgngbhkgmkggaaGreatDoor
set_option linter.unusedVariables false
set_option linter.unusedSimpArgs false

/-- An operation that puts nothing off, without a guard. -/
def calmB (o : Oper) : Bool := o.guard.isNone && (match o.op with | .defer _ => false | _ => true)
theorem calm_guard {o : Oper} (h : calmB o = true) : o.guard = none := by
  unfold calmB at h
  simp only [Bool.and_eq_true, Option.isNone_iff_eq_none] at h
  exact h.1
theorem calm_defer {o : Oper} (h : calmB o = true) : ∀ c, o.op ≠ .defer c := fun c e => by
  unfold calmB at h
  rw [e] at h
  simp at h
theorem calm_wanted {o : Oper} (h : calmB o = true) (y : Nat → Option Bool) : Region.wanted o y = true := by simp [Region.wanted, calm_guard h]
section
variable {F : Fence} {n : Nat} {P : Program} {C : World → Prop}
/-- What an operation that only reads gives, in a round as well. -/
theorem calm_op {o : Oper} {a : Act} {K : Act → Prop} {K' : Act → World → Prop} {Q' : Exit → Act → World → Prop} {w : World} (hd : calmB o = true) (hw : C w) (h : ∀ a w', C w' → K a → K' a w') (ha : o.askedIn F P a C) (hh : o.quietIn F n P a C K) : o.wpIn F n P a w K' Q' := by
  obtain ⟨v, h1, h2⟩ := hh
  have h3 := h1 w hw
  unfold Oper.quietAtIn at h3
  unfold Oper.wpIn
  refine ⟨ha w hw, ?_⟩
  rw [Oper.semAt_eq _ _ _ (calm_defer hd)]
  generalize (execOp a.eval o).run P w = r at *
  cases r with
  | halt x w' => exact h3.elim
  | ok x w' =>
    cases x with
    | value u => obtain ⟨rfl, rfl⟩ := h3; exact h _ _ hw h2
    | skip => obtain ⟨rfl, rfl⟩ := h3; exact h _ _ hw h2
    | enter f args =>
      obtain ⟨rfl, hd', hc⟩ := h3
      exact ⟨hd', hc.mono (fun e w'' hq => by obtain ⟨rfl, hq2⟩ := hq; exact h _ _ hq2 h2)⟩
    | _ => exact h3.elim
variable {ops ops' : Array Oper} {L : Nat} {md : Region.Mode}
/-- Each operation but the last has one behind it that waits for it, and waits for none behind itself. -/
def chainB (md : Region.Mode) (ops : Array Oper) (L : Nat) : Bool :=
  ((List.range L).all fun j => (List.range (L + 1)).any fun k => decide (j < k) && (match ops[k]? with | some o => o.after.toList.any (fun e => Region.binds md e && (e.on == j)) | none => false)) &&
  ((List.range (L + 1)).all fun k => match ops[k]? with | some o => o.after.toList.all (fun e => decide (e.on < k)) | none => true)
/-- What an operation waits for has come up ahead of it. -/
def Shut (md : Region.Mode) (ops : Array Oper) (listed : Array Bool) : Prop := ∀ k o, ops[k]? = some o → listed.getD k false = true → ∀ e ∈ o.after, Region.binds md e = true → listed.getD e.on false = true
theorem all_before {listed : Array Bool} (hB : chainB md ops L = true) (hcl : Shut md ops listed) (hL : ∀ o, ops[L]? = some o → ∀ e ∈ o.after, Region.binds md e = true → listed.getD e.on false = true) : ∀ m j, L - j = m → j < L → listed.getD j false = true := by
  intro m
  induction m using Nat.strongRecOn with
  | ind m ih =>
    intro j hm hj
    simp only [chainB, Bool.and_eq_true, List.all_eq_true, List.mem_range, List.any_eq_true, decide_eq_true_eq] at hB
    obtain ⟨k, hk, hjk, hx⟩ := hB.1 j hj
    cases ho : ops[k]? with
    | none => rw [ho] at hx; simp at hx
    | some o =>
      rw [ho] at hx
      simp only [List.any_eq_true, Bool.and_eq_true, beq_iff_eq] at hx
      obtain ⟨e, he, hb, hon⟩ := hx
      have he' : e ∈ o.after := by simpa using he
      by_cases hkL : k = L
      · subst hkL
        have := hL o ho e he' hb
        rwa [hon] at this
      · have hk2 := ih (L - k) (by omega) k rfl (by omega)
        have := hcl k o ho hk2 e he' hb
        rwa [hon] at this
theorem ready_some {listed : Array Bool} (hsz : ops.size = L + 1) (hls : listed.size = ops.size) (hB : chainB md ops L = true) (hLn : listed.getD L true = false) : Region.ready md ops listed ≠ [] := by
  intro hr
  have hex : ∃ j, j ≤ L ∧ listed.getD j true = false ∧ ∀ i, i < j → listed.getD i true = true := by
    have key : ∀ m, (∃ j, j ≤ m ∧ listed.getD j true = false) → ∃ j, j ≤ m ∧ listed.getD j true = false ∧ ∀ i, i < j → listed.getD i true = true := by
      intro m
      induction m using Nat.strongRecOn with
      | ind m ih =>
        rintro ⟨j, hj, hf⟩
        by_cases h : ∃ i, i < j ∧ listed.getD i true = false
        · obtain ⟨i, hi, hif⟩ := h
          obtain ⟨x, hx1, hx2, hx3⟩ := ih i (by omega) ⟨i, Nat.le_refl _, hif⟩
          exact ⟨x, by omega, hx2, hx3⟩
        · refine ⟨j, hj, hf, fun i hi => ?_⟩
          cases hh : listed.getD i true with
          | true => rfl
          | false => exact absurd ⟨i, hi, hh⟩ h
    exact key L ⟨L, Nat.le_refl _, hLn⟩
  obtain ⟨j, hj, hf, hall⟩ := hex
  have hjl : j < ops.size := by omega
  have hmem : j ∈ Region.ready md ops listed := mem_ready.2 ⟨hf, ops[j], Array.getElem?_eq_getElem hjl, fun e he hb => by
    simp only [chainB, Bool.and_eq_true, List.all_eq_true, List.mem_range, List.any_eq_true, decide_eq_true_eq] at hB
    have h2 := hB.2 j (by omega)
    rw [Array.getElem?_eq_getElem hjl] at h2
    simp only [List.all_eq_true, decide_eq_true_eq] at h2
    have hlt := h2 e (by simpa using he)
    have h3 := hall e.on hlt
    have hb2 : e.on < listed.size := by omega
    simp [Array.getD_eq_getD_getElem?, hb2] at h3 ⊢
    exact h3⟩
  rw [hr] at hmem
  cases hmem
/-- The last operation, silenced. -/
def mute (o : Oper) : Oper := { o with op := .move (.const undef), dst := none }
theorem mute_get (hL : L < ops.size) (oL : Oper) (hoL : ops[L]? = some oL) (i : Nat) : (ops.setIfInBounds L (mute oL))[i]? = if i = L then some (mute oL) else ops[i]? := by
  by_cases h : i = L
  · subst h; rw [if_pos rfl, Array.getElem?_setIfInBounds_self_of_lt hL]
  · rw [if_neg h, Array.getElem?_setIfInBounds_ne (fun e => h e.symm)]
theorem mute_ready (hL : L < ops.size) (oL : Oper) (hoL : ops[L]? = some oL) (listed : Array Bool) (i : Nat) : i ∈ Region.ready md ops listed ↔ i ∈ Region.ready md (ops.setIfInBounds L (mute oL)) listed := by
  rw [mem_ready, mem_ready, mute_get hL oL hoL]
  by_cases h : i = L
  · subst h
    rw [if_pos rfl, hoL]
    constructor
    · rintro ⟨h0, o, ho, hh⟩; cases ho; exact ⟨h0, _, rfl, hh⟩
    · rintro ⟨h0, o, ho, hh⟩; cases ho; exact ⟨h0, _, rfl, hh⟩
  · rw [if_neg h]
theorem any_last {oL : Oper} {Q : Act → Prop} {Q' : Exit → Act → World → Prop} (hsz : ops.size = L + 1) (hoL : ops[L]? = some oL) (hcalm : ∀ o ∈ ops.toList, calmB o = true) (hB : chainB md ops L = true)
    (hQ : ∀ a w, C w → Q a → oL.wpIn F n P a w (fun a' w' => Q' .normal a' w') Q') :
    ∀ (fuel : Nat) (listed : Array Bool) (a : Act) (w : World), C w → Shut md ops listed → listed.size = ops.size → listed.getD L true = false →
      wpAnyQIn F n P md (ops.setIfInBounds L (mute oL)) C Q fuel listed a → wpAnyIn F n P md ops Q' fuel listed a w := by
  have hLs : L < ops.size := by omega
  have nil_iff : ∀ listed, Region.ready md (ops.setIfInBounds L (mute oL)) listed = [] → Region.ready md ops listed = [] := fun listed h => by
    apply List.eq_nil_iff_forall_not_mem.2
    intro i hi
    have := (mute_ready hLs oL hoL listed i).1 hi
    rw [h] at this
    cases this
  intro fuel
  induction fuel with
  | zero =>
    intro listed a w hw hs hl hn h
    exact absurd (nil_iff _ h.1) (ready_some hsz hl hB hn)
  | succ fuel ih =>
    intro listed a w hw hs hl hn h
    refine ⟨fun h0 => absurd h0 (ready_some hsz hl hB hn), fun i hi => ?_⟩
    have hi' := (mute_ready hLs oL hoL listed i).1 hi
    have hq := h.2 i hi'
    obtain ⟨h0, o, ho, hall⟩ := mem_ready.1 hi
    have hco : calmB o = true := hcalm o (by
      obtain ⟨hlt, e⟩ := Array.getElem?_eq_some_iff.1 ho
      rw [← e]; simp)
    unfold wpOpIn
    rw [ho]
    simp only [calm_wanted hco, if_true]
    unfold qOpIn at hq
    rw [mute_get hLs oL hoL] at hq
    by_cases hiL : i = L
    · subst hiL
      rw [if_pos rfl] at hq
      rw [hoL] at ho
      cases ho
      have hwant : Region.wanted (mute oL) (yielded (ops.setIfInBounds i (mute oL)) a.tmps) = true := by
        have hg : (mute oL).guard = none := show oL.guard = none from calm_guard hco
        simp [Region.wanted, hg]
      simp only [hwant, if_true] at hq
      obtain ⟨v, _, hK⟩ := hq.2
      have hput : a.put (mute oL).dst v = a := rfl
      rw [hput] at hK
      have hal := all_before hB hs (fun o' ho' => by rw [hoL] at ho'; cases ho'; exact hall)
      have hnil : Region.ready md ops (listed.setIfInBounds i true) = [] := by
        apply List.eq_nil_iff_forall_not_mem.2
        intro j hj
        obtain ⟨g0, oj, goj, _⟩ := mem_ready.1 hj
        have hjs : j < ops.size := (Array.getElem?_eq_some_iff.1 goj).1
        by_cases hji : j = i
        · subst hji
          have : j < listed.size := by omega
          simp [this] at g0
        · rw [getD_set_ne true (fun e => hji e.symm)] at g0
          have h1 := hal _ j rfl (by omega)
          have hjl : j < listed.size := by omega
          simp [hjl] at h1 g0
          rw [h1] at g0
          cases g0
      have hnil' : Region.ready md (ops.setIfInBounds i (mute oL)) (listed.setIfInBounds i true) = [] := by
        apply List.eq_nil_iff_forall_not_mem.2
        intro j hj
        have := (mute_ready hLs oL hoL _ j).2 hj
        rw [hnil] at this
        cases this
      have hQa : Q a := by
        cases fuel with
        | zero => exact hK.2
        | succ f => exact hK.1 hnil'
      refine Oper.wpIn_mono (fun a' w' h' => ?_) (hQ a w hw hQa)
      cases fuel with
      | zero => exact ⟨hnil, h'⟩
      | succ f => exact ⟨fun _ => h', by rw [hnil]; intro i hi; cases hi⟩
    · rw [if_neg hiL, ho] at hq
      simp only [calm_wanted hco, if_true] at hq
      refine calm_op hco hw (fun a' w' hw' h' => ih _ a' w' hw' ?_ ?_ ?_ h') hq.1 hq.2
      · intro k ok hok hk e he hb
        by_cases hki : k = i
        · subst hki
          rw [ho] at hok
          cases hok
          exact getD_set_true (hall e he hb)
        · rw [getD_set_ne false (fun e => hki e.symm)] at hk
          exact getD_set_true (hs k ok hok hk e he hb)
      · simpa using hl
      · rw [getD_set_ne true hiL]; exact hn
/-- One walk in the order of the text, then the last operation in a world that only drew. -/
theorem region_last {id L : Nat} {oL : Oper} {Q : Exit → Act → World → Prop} {a : Act} {w : World} (hsz : ops.size = L + 1) (hoL : ops[L]? = some oL) (hm : P.follows .mixedOrders = true) (hcalm : ops.toList.all calmB = true) (hB : chainB .any ops L = true) (hlex : Region.lexB .any (ops.setIfInBounds L (mute oL)) = true)
    (h : wpQuietIn F n P (ops.setIfInBounds L (mute oL)) (fun w' => ∃ n, w' = w.drewN n) (fun a' => ∀ w', (∃ n, w' = w.drewN n) → oL.wpIn F n P a' w' (fun a'' w'' => Q .normal a'' w'') Q) (ops.setIfInBounds L (mute oL)).toList a) : (Code.region id ops true).wpIn F n P Q a w := by
  simp only [Region.lexB, Bool.and_eq_true] at hlex
  refine wpIn_region_any hm (any_last (C := fun w' => ∃ n, w' = w.drewN n) (Q := fun a' => ∀ w', (∃ n, w' = w.drewN n) → oL.wpIn F n P a' w' (fun a'' w'' => Q .normal a'' w'') Q) hsz hoL (fun o ho => List.all_eq_true.1 hcalm o ho) hB (fun _ w' hw' h => h w' hw') _ _ _ _ ⟨1, rfl⟩ ?_ (by simp) ?_ ?_)
  · intro k o ho hk
    have hks : k < ops.size := (Array.getElem?_eq_some_iff.1 ho).1
    simp [hks] at hk
  · have : L < ops.size := by omega
    simp [this]
  · have e1 : (ops.setIfInBounds L (mute oL)).toList.length = ops.size := by simp
    have e2 : (ops.setIfInBounds L (mute oL)).size = ops.size := by simp
    have h2 := hlex.2
    have h3 := wpAnyQIn_lex (F := F) (n := n) (P := P) (C := fun w' => ∃ n, w' = w.drewN n) (md := .any) hlex.1 (ops.setIfInBounds L (mute oL)).toList 0 (Array.replicate (ops.setIfInBounds L (mute oL)).size false) a (fun j => by rw [Nat.zero_add, Array.getElem?_toList]) (by rw [Array.length_toList]; exact h2) h
    rw [e1, e2] at h3
    exact h3
end
end Go.Proofs.YtmgngbhkgmkggaaGreatDoor
