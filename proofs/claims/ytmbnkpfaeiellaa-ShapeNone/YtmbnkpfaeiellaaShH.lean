/- Package shape: numbers of keys; ways. -/
import Derived.Test.YtmbnkpfaeiellaaShG
namespace Go.Proofs.Ytmbnkpfaeiellaa
set_option linter.unusedVariables false
set_option linter.unusedSimpArgs false
open Go.RowKit Go.Maps Go.ChangeShapes

theorem shLaid : laidOutB Try.prog = true := by kernel_rfl
theorem keyRow : (31 : TypeId) < Try.prog.types.size := of_decide_eq_true (by kernel_rfl)
theorem keyDeep : Try.prog.keyTypeAt (Try.prog.types.size + 1) 31 = true := by kernel_rfl
theorem keyWide : (match Try.prog.underlying 31 with | some (.array _ _) | some (.struct _) => true | _ => false) = true := by rw [Try.underlying31]
set_option maxRecDepth 100000 in
theorem keyLaw : Keyed Try.prog 31 := Keyed.of_law (deep_law_laid shLaid (m := 3) (by omega) keyRow (by kernel_rfl) keyWide)
theorem keyFormed {c0 c1 : Value} : (Value.agg #[c0, c1]).formed Try.prog 31 = true := by
  have h : Try.prog.cellsOf 31 = 2 := by kernel_rfl
  simp [Value.formed, Try.underlying31, h]
/-- What a text reads as, as a key. -/
def kl (s : ByteArray) : Lit := (DataW.agg [.lit (.string s.data.toList), .lit (.int .i64 0)] : DataW Unit).asKey
set_option maxRecDepth 100000 in
theorem key_mk (s : ByteArray) (h : s.size ≤ maxLen) : keyOf Try.prog 31 (.agg #[.string s, .int .i64 0]) = some (kl s) := by
  have w : World := default
  have hd : DataW.Trod (H := Unit) (fun _ => ()) Try.prog w 0 (fun _ => false) false 31 (.agg #[.string s, .int .i64 0]) (.agg [.lit (.string s.data.toList), .lit (.int .i64 0)]) ([] ++ []) :=
    Joins.shut_agg2 (y0 := (.lit (.string s.data.toList), [])) (y1 := (.lit (.int .i64 0), [])) Try.underlying31 (by kernel_rfl) (by kernel_rfl) (by obtain ⟨n, hn⟩ := ChangeMaps.shut_string (enc := fun _ => ()) (w := w) (base := 0) (sp := fun _ => false) (held := false) Try.underlying29 (s := s) h; exact ⟨n, hn⟩) ⟨1, trod_int_mk 0 Try.underlying3 (by decide)⟩
  exact (keyOf_asKey keyDeep keyWide keyFormed hd).1
theorem kl_inj {s s' : ByteArray} (h : s.size ≤ maxLen) (h' : s'.size ≤ maxLen) (e : kl s = kl s') : s = s' := by
  have := keyLaw.inj (key_mk s h) (e ▸ key_mk s' h')
  simpa using this
theorem wayRow : (90 : TypeId) < Try.prog.types.size := of_decide_eq_true (by kernel_rfl)
theorem wayDeep : Try.prog.keyTypeAt (Try.prog.types.size + 1) 90 = true := by kernel_rfl
theorem wayWide : (match Try.prog.underlying 90 with | some (.array _ _) | some (.struct _) => true | _ => false) = true := by rw [Try.underlying90]
set_option maxRecDepth 100000 in
theorem wayLaw : Keyed Try.prog 90 := Keyed.of_law (deep_law_laid shLaid (m := 3) (by omega) wayRow (by kernel_rfl) wayWide)
theorem wayFormed {c0 c1 c2 : Value} : (Value.agg #[c0, c1, c2]).formed Try.prog 90 = true := by
  have h : Try.prog.cellsOf 90 = 3 := by kernel_rfl
  simp [Value.formed, Try.underlying90, h]
/-- What a way reads as, as a key. -/
def wl (x : Int × Int × Int) : Lit := (DataW.agg [.lit (.int .i64 x.1), .lit (.int .i32 x.2.1), .lit (.int .i64 x.2.2)] : DataW Unit).asKey
/-- Numbers that are numbers. -/
def Wwf (x : Int × Int × Int) : Prop := (Lit.int .i64 x.1).wf = true ∧ (Lit.int .i32 x.2.1).wf = true ∧ (Lit.int .i64 x.2.2).wf = true
def wv (x : Int × Int × Int) : Value := .agg #[.int .i64 x.1, .int .i32 x.2.1, .int .i64 x.2.2]
set_option maxRecDepth 100000 in
theorem way_mk (x : Int × Int × Int) (h : Wwf x) : keyOf Try.prog 90 (wv x) = some (wl x) := by
  have w : World := default
  have hd : DataW.Trod (H := Unit) (fun _ => ()) Try.prog w 0 (fun _ => false) false 90 (wv x) (.agg [.lit (.int .i64 x.1), .lit (.int .i32 x.2.1), .lit (.int .i64 x.2.2)]) ([] ++ ([] ++ [])) :=
    Joins.shut_agg3 (y0 := (.lit (.int .i64 x.1), [])) (y1 := (.lit (.int .i32 x.2.1), [])) (y2 := (.lit (.int .i64 x.2.2), [])) Try.underlying90 (by kernel_rfl) (by kernel_rfl) ⟨1, trod_int_mk 0 Try.underlying3 h.1⟩ ⟨1, trod_int_mk 0 Try.underlying21 h.2.1⟩ ⟨1, trod_int_mk 0 Try.underlying3 h.2.2⟩
  exact (keyOf_asKey wayDeep wayWide wayFormed hd).1
theorem wl_inj {x y : Int × Int × Int} (h : Wwf x) (h' : Wwf y) (e : wl x = wl y) : x = y := by
  have := wayLaw.inj (way_mk x h) (e ▸ way_mk y h')
  unfold wv at this
  simp at this
  exact Prod.ext this.1 (Prod.ext this.2.1 this.2.2)
/-- The map tells each text's number. -/
structure NumOk (D : DataW Unit) (ts : List ByteArray) : Prop where
  isMap : IsMap D
  yes : ∀ (i : Nat) (s : ByteArray), ts[i]? = some s → has D (kl s) = true ∧ D.atKey (kl s) (.lit (.int .i32 0)) = .lit (.int .i32 i)
  no : ∀ s : ByteArray, s.size ≤ maxLen → s ∉ ts → has D (kl s) = false
theorem numOk_nil : NumOk (.map []) [] := ⟨isMap_empty, fun i s h => by simp at h, fun s _ _ => rfl⟩
theorem NumOk.put {D : DataW Unit} {ts : List ByteArray} (h : NumOk D ts) (s : ByteArray) (hs : s.size ≤ maxLen) (hz : ∀ t ∈ ts, t.size ≤ maxLen) (hn : s ∉ ts) : NumOk (D.put (kl s) (.lit (.int .i32 (ts.length : Nat)))) (ts ++ [s]) := by
  have hk : WideAt.IsKeyLit (kl s) := keyLaw.key (key_mk s hs)
  refine ⟨h.isMap.put _ _, fun i t ht => ?_, fun t ht hnt => ?_⟩
  · rw [List.getElem?_append] at ht
    split at ht
    · have hm : t ∈ ts := List.mem_of_getElem? ht
      have hne : kl t ≠ kl s := fun e => hn (kl_inj (hz t hm) hs e ▸ hm)
      rw [has_put_other hne, atKey_put_other hne]
      exact h.yes i t ht
    · rename_i hi
      have hi2 : i = ts.length := by
        rcases Nat.lt_or_ge (i - ts.length) 1 with h1 | h1
        · omega
        · rw [List.getElem?_eq_none (by simpa using h1)] at ht; cases ht
      subst hi2
      simp at ht
      subst ht
      exact ⟨has_put_same h.isMap hk _, atKey_put_same h.isMap hk _ _⟩
  · simp at hnt
    have hne : kl t ≠ kl s := fun e => hnt.2 (kl_inj ht hs e)
    rw [has_put_other hne]
    exact h.no t ht hnt.1
/-- The map tells where each way leads. -/
structure WayOk (D : DataW Unit) (ws : List ((Int × Int × Int) × Int)) : Prop where
  isMap : IsMap D
  yes : ∀ p ∈ ws, Wwf p.1 ∧ has D (wl p.1) = true ∧ D.atKey (wl p.1) (.lit (.int .i64 0)) = .lit (.int .i64 p.2)
  no : ∀ x, Wwf x → (∀ p ∈ ws, p.1 ≠ x) → has D (wl x) = false
theorem wayOk_nil : WayOk (.map []) [] := ⟨isMap_empty, fun p h => by simp at h, fun x _ _ => rfl⟩
theorem WayOk.put {D : DataW Unit} {ws : List ((Int × Int × Int) × Int)} (h : WayOk D ws) (x : Int × Int × Int) (dst : Int) (hx : Wwf x) (hn : ∀ p ∈ ws, p.1 ≠ x) : WayOk (D.put (wl x) (.lit (.int .i64 dst))) (ws ++ [(x, dst)]) := by
  have hk : WideAt.IsKeyLit (wl x) := wayLaw.key (way_mk x hx)
  refine ⟨h.isMap.put _ _, fun p hp => ?_, fun y hy hny => ?_⟩
  · rcases List.mem_append.1 hp with hp | hp
    · obtain ⟨h1, h2, h3⟩ := h.yes p hp
      have hne : wl p.1 ≠ wl x := fun e => hn p hp (wl_inj h1 hx e)
      exact ⟨h1, by rw [has_put_other hne]; exact h2, by rw [atKey_put_other hne]; exact h3⟩
    · simp at hp
      subst hp
      exact ⟨hx, has_put_same h.isMap hk _, atKey_put_same h.isMap hk _ _⟩
  · have hne : wl y ≠ wl x := fun e => hny (x, dst) (List.mem_append_right _ (by simp)) (wl_inj hy hx e).symm
    rw [has_put_other hne]
    exact h.no y hy (fun p hp => hny p (List.mem_append_left _ hp))
theorem zero32 (w : World) : (zeroValue 21).run Try.prog w = .ok (.int .i32 0) w := by kernel_rfl
theorem zero64 (w : World) : (zeroValue 3).run Try.prog w = .ok (.int .i64 0) w := by kernel_rfl
theorem num_no {w : World} {b n : Nat} {D : DataW Unit} {key : Value} {k : Lit} (h : w.ownsMap Try.prog 31 (plainElem Try.prog 21) b n D) (hk : keyOf Try.prog 31 key = some k) (hh : has D k = false) :
    (Instr.lookup 58 (.map (some b)) key true).run Try.prog w = .ok (.tuple #[.int .i32 0, .bool false]) w := by
  obtain ⟨v, ps, hrun, hv⟩ := h.look_ok keyLaw Try.underlying58 (zero32 w) (plainElem_int Try.underlying21 (by decide)) hk
  rw [atKey_of_not_has hh] at hv
  obtain ⟨a, rfl, ha, _⟩ := plainElem_int_inv Try.underlying21 hv
  simp at ha
  rw [hrun, hh, ← ha.1]
theorem num_yes {w : World} {b n : Nat} {D : DataW Unit} {key : Value} {k : Lit} {i : Int} (h : w.ownsMap Try.prog 31 (plainElem Try.prog 21) b n D) (hk : keyOf Try.prog 31 key = some k) (hh : has D k = true) (hi : D.atKey k (.lit (.int .i32 0)) = .lit (.int .i32 i)) :
    (Instr.lookup 58 (.map (some b)) key true).run Try.prog w = .ok (.tuple #[.int .i32 i, .bool true]) w := by
  obtain ⟨v, ps, hrun, hv⟩ := h.look_ok keyLaw Try.underlying58 (zero32 w) (plainElem_int Try.underlying21 (by decide)) hk
  rw [hi] at hv
  obtain ⟨a, rfl, ha, _⟩ := plainElem_int_inv Try.underlying21 hv
  simp at ha
  rw [hrun, hh, ← ha.1]
theorem way_no {w : World} {b n : Nat} {D : DataW Unit} {key : Value} {k : Lit} (h : w.ownsMap Try.prog 90 (plainElem Try.prog 3) b n D) (hk : keyOf Try.prog 90 key = some k) (hh : has D k = false) :
    (Instr.lookup 60 (.map (some b)) key true).run Try.prog w = .ok (.tuple #[.int .i64 0, .bool false]) w := by
  obtain ⟨v, ps, hrun, hv⟩ := h.look_ok wayLaw Try.underlying60 (zero64 w) (plainElem_int Try.underlying3 (by decide)) hk
  rw [atKey_of_not_has hh] at hv
  obtain ⟨a, rfl, ha, _⟩ := plainElem_int_inv Try.underlying3 hv
  simp at ha
  rw [hrun, hh, ← ha.1]
theorem way_yes {w : World} {b n : Nat} {D : DataW Unit} {key : Value} {k : Lit} {i : Int} (h : w.ownsMap Try.prog 90 (plainElem Try.prog 3) b n D) (hk : keyOf Try.prog 90 key = some k) (hh : has D k = true) (hi : D.atKey k (.lit (.int .i64 0)) = .lit (.int .i64 i)) :
    (Instr.lookup 60 (.map (some b)) key true).run Try.prog w = .ok (.tuple #[.int .i64 i, .bool true]) w := by
  obtain ⟨v, ps, hrun, hv⟩ := h.look_ok wayLaw Try.underlying60 (zero64 w) (plainElem_int Try.underlying3 (by decide)) hk
  rw [hi] at hv
  obtain ⟨a, rfl, ha, _⟩ := plainElem_int_inv Try.underlying3 hv
  simp at ha
  rw [hrun, hh, ← ha.1]
end Go.Proofs.Ytmbnkpfaeiellaa
