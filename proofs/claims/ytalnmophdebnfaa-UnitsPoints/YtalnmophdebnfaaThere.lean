/- Plain mathematics: UTF-8 and units, there and back. -/
import Derived.Test.YtalnmophdebnfaaDec
import Derived.Test.YtalnmophdebnfaaBytes
import Derived.Test.YtalnmophdebnfaaText
import Derived.Lib.RuneCount
namespace Go.Proofs.Ytalnmophdebnfaa
set_option linter.unusedVariables false

theorem ptsFrom_le (s : ByteArray) : ∀ (f i : Nat), ∀ x ∈ ptsFrom s f i, x.2 ≤ 1114111 := by
  intro f
  induction f with
  | zero => intro i x hx; cases hx
  | succ f ih =>
    intro i x hx
    simp only [ptsFrom] at hx
    split at hx
    · rcases List.mem_cons.1 hx with rfl | hx
      · exact ptAt_le s i
      · exact ih _ x hx
    · cases hx
theorem pts_le (s : ByteArray) : ∀ x ∈ pts s, x.2 ≤ 1114111 := ptsFrom_le s _ _
/-- A number that is a code point and no surrogate. -/
def Scalar (r : Nat) : Prop := r ≤ 1114111 ∧ ¬ (55296 ≤ r ∧ r ≤ 57343)

/-- The code points of units. -/
def runesL : List Nat → List Nat
  | [] => []
  | [u] => [u]
  | u :: v :: r => if isHi u && isLo v then (65536 + (u - 55296) * 1024 + (v - 56320)) :: runesL r else u :: runesL (v :: r)

theorem uns_drop (s : ByteArray) (i : Nat) (h : i < s.size / 2) : (uns s).drop i = un s i :: (uns s).drop (i + 1) := by
  rw [List.drop_eq_getElem_cons (by rw [uns_length]; exact h)]
  simp [uns]
theorem uns_drop_end (s : ByteArray) (i : Nat) (h : ¬ i < s.size / 2) : (uns s).drop i = [] := List.drop_eq_nil_of_le (by rw [uns_length]; omega)

theorem pts_runes (s : ByteArray) : ∀ f i, s.size / 2 ≤ i + f → (ptsFrom s f i).map (·.2) = runesL ((uns s).drop i) := by
  intro f
  induction f with
  | zero => intro i h; rw [uns_drop_end s i (by omega)]; rfl
  | succ f ih =>
    intro i h
    simp only [ptsFrom]
    by_cases hi : i < s.size / 2
    · rw [if_pos hi, List.map_cons, ih _ (by have := szAt_pos s i; omega), uns_drop s i hi]
      by_cases hi1 : i + 1 < s.size / 2
      · rw [uns_drop s (i + 1) hi1]
        cases hq : pairAt s i
        · have e1 : ptAt s i = un s i := by simp [ptAt, hq]
          have e2 : szAt s i = 1 := by simp [szAt, hq]
          have e3 : (isHi (un s i) && isLo (un s (i + 1))) = false := by
            simp only [pairAt, hi1, decide_true, Bool.and_true] at hq; exact hq
          rw [e1, e2, runesL, e3, uns_drop s (i + 1) hi1]
          simp
        · have e1 : ptAt s i = 65536 + (un s i - 55296) * 1024 + (un s (i + 1) - 56320) := by simp [ptAt, hq]
          have e2 : szAt s i = 2 := by simp [szAt, hq]
          have e3 : (isHi (un s i) && isLo (un s (i + 1))) = true := by
            simp only [pairAt, hi1, decide_true, Bool.and_true] at hq; exact hq
          rw [e1, e2, runesL, e3]
          simp
      · have hq : pairAt s i = false := by simp [pairAt, hi1]
        have e1 : ptAt s i = un s i := by simp [ptAt, hq]
        have e2 : szAt s i = 1 := by simp [szAt, hq]
        rw [e1, e2, uns_drop_end s (i + 1) hi1]
        rfl
    · rw [if_neg hi, uns_drop_end s i hi]; rfl
theorem pts_runes0 (s : ByteArray) : (pts s).map (·.2) = runesL (uns s) := by
  have := pts_runes s (s.size / 2) 0 (by omega)
  simpa [pts] using this

theorem runesL_pu (r : Nat) (l : List Nat) (h : Scalar r) : runesL (pu r ++ l) = r :: runesL l := by
  obtain ⟨h1, h2⟩ := h
  unfold pu
  split
  · have e : isHi r = false := by simp [isHi]; omega
    cases l with
    | nil => rfl
    | cons v l => simp [runesL, e]
  · have e1 : isHi (55296 + (r - 65536) / 1024) = true := by simp only [isHi, decide_eq_true_eq]; omega
    have e2 : isLo (56320 + (r - 65536) % 1024) = true := by simp only [isLo, decide_eq_true_eq]; omega
    have e3 : 65536 + (55296 + (r - 65536) / 1024 - 55296) * 1024 + (56320 + (r - 65536) % 1024 - 56320) = r := by omega
    rw [List.cons_append, List.cons_append, List.nil_append, runesL, e1, e2, e3]
    rfl
theorem runesL_flat (rs : List Nat) (h : ∀ r ∈ rs, Scalar r) : runesL (rs.flatMap pu) = rs := by
  induction rs with
  | nil => rfl
  | cons r rs ih =>
    rw [List.flatMap_cons, runesL_pu r _ (h r (List.mem_cons_self ..)), ih (fun x hx => h x (List.mem_cons_of_mem _ hx))]

theorem mkB_inj : ∀ (a b : List Nat), (∀ u ∈ a, u < 65536) → (∀ u ∈ b, u < 65536) → mkB a = mkB b → a = b
  | [], [], _, _, _ => rfl
  | [], b :: bs, _, _, h => by
    have := congrArg List.length h
    rw [mkB_length, mkB_length] at this; simp at this
  | a :: us, [], _, _, h => by
    have := congrArg List.length h
    rw [mkB_length, mkB_length] at this; simp at this
  | a :: us, b :: vs, ha, hb, h => by
    have e : ∀ (x : Nat) (l : List Nat), mkB (x :: l) = (x / 256).toUInt8 :: (x % 256).toUInt8 :: mkB l := fun x l => rfl
    rw [e, e] at h
    injection h with h1 h
    injection h with h2 h
    have a1 := ha a (List.mem_cons_self ..)
    have b1 := hb b (List.mem_cons_self ..)
    have h1' := congrArg UInt8.toNat h1
    have h2' := congrArg UInt8.toNat h2
    simp at h1' h2'
    have : a = b := by omega
    rw [this, mkB_inj us vs (fun u hu => ha u (List.mem_cons_of_mem _ hu)) (fun u hu => hb u (List.mem_cons_of_mem _ hu)) h]

theorem flat_pb (rs : List Nat) : rs.flatMap pb = mkB (rs.flatMap pu) := by
  induction rs with
  | nil => rfl
  | cons r rs ih => rw [List.flatMap_cons, List.flatMap_cons, mkB_append, ih, pb_pu]

/-- The units of a text whose bytes are those of code points. -/
theorem uns_flat (rs : List Nat) (h : ∀ r ∈ rs, r ≤ 1114111) : uns ⟨(rs.flatMap pb).toArray⟩ = rs.flatMap pu := by
  have hlt : ∀ u ∈ rs.flatMap pu, u < 65536 := by
    intro u hu
    obtain ⟨r, hr, hu⟩ := List.mem_flatMap.1 hu
    exact pu_lt r (h r hr) u hu
  apply mkB_inj _ _ (uns_lt _) hlt
  rw [mkB_uns, ← flat_pb]
  have hl : (rs.flatMap pb).length = 2 * (rs.flatMap pu).length := by rw [flat_pb, mkB_length]
  have hsz : (⟨(rs.flatMap pb).toArray⟩ : ByteArray).size = (rs.flatMap pb).length := by simp [ByteArray.size]
  unfold ebs
  rw [hsz, hl]
  have : 2 * (rs.flatMap pu).length / 2 * 2 = (rs.flatMap pb).length := by omega
  rw [this, List.take_length]

theorem textC_runes (l : List (Nat × Nat)) (h : ∀ x ∈ l, x.2 ≤ 1114111) : textC l = (l.map (·.2)).flatMap fun r => Lib.encodeRune (r : Nat) := by
  induction l with
  | nil => rfl
  | cons x l ih =>
    have e : cap21 x.2 = x.2 := by have := h x (List.mem_cons_self ..); unfold cap21; omega
    have e2 : textC (x :: l) = Lib.encodeRune (cap21 x.2 : Nat) ++ textC l := rfl
    rw [e2, e, ih (fun y hy => h y (List.mem_cons_of_mem _ hy))]
    rfl

/-- UTF-8 of the units of code points that are no surrogates is the code points' UTF-8. -/
theorem text_flat (rs : List Nat) (h : ∀ r ∈ rs, Scalar r) : textC (pts ⟨(rs.flatMap pb).toArray⟩) = rs.flatMap fun r => Lib.encodeRune (r : Nat) := by
  rw [textC_runes _ (pts_le _), pts_runes0, uns_flat rs (fun r hr => (h r hr).1), runesL_flat rs h]

/-- A code point's UTF-8 is the bytes that it was read from. -/
theorem enc_rptN (m b0 b1 b2 b3 : Nat) (h0 : b0 < 256) (h : (rptN m b0 b1 b2 b3).2 ≠ 0) :
    Scalar (rptN m b0 b1 b2 b3).1 ∧ (rptN m b0 b1 b2 b3).2 ≤ m + (if b0 < 128 then 1 else 0) ∧
    (((rptN m b0 b1 b2 b3).2 = 1 ∧ Lib.encodeRuneZ ((rptN m b0 b1 b2 b3).1 : Nat) = [(b0 : Int)]) ∨
     ((rptN m b0 b1 b2 b3).2 = 2 ∧ Lib.encodeRuneZ ((rptN m b0 b1 b2 b3).1 : Nat) = [(b0 : Int), (b1 : Int)]) ∨
     ((rptN m b0 b1 b2 b3).2 = 3 ∧ Lib.encodeRuneZ ((rptN m b0 b1 b2 b3).1 : Nat) = [(b0 : Int), (b1 : Int), (b2 : Int)]) ∨
     ((rptN m b0 b1 b2 b3).2 = 4 ∧ Lib.encodeRuneZ ((rptN m b0 b1 b2 b3).1 : Nat) = [(b0 : Int), (b1 : Int), (b2 : Int), (b3 : Int)])) := by
  unfold rptN at h ⊢
  by_cases a0 : b0 < 128
  · rw [if_pos a0]
    refine ⟨⟨by dsimp only; omega, by dsimp only; omega⟩, by rw [if_pos a0]; dsimp only; omega, .inl ⟨rfl, ?_⟩⟩
    rw [Lib.encodeRuneZ_one (by omega) (by dsimp only; omega)]
  · rw [if_neg a0] at h ⊢
    rw [if_neg a0]
    by_cases a1 : 194 ≤ b0 ∧ b0 ≤ 223
    · rw [if_pos a1] at h ⊢
      by_cases c : 2 ≤ m ∧ (128 ≤ b1 ∧ b1 ≤ 191)
      · rw [if_pos c]
        refine ⟨⟨by dsimp only; omega, by dsimp only; omega⟩, by dsimp only; omega, .inr (.inl ⟨rfl, ?_⟩)⟩
        dsimp only
        rw [Lib.encodeRuneZ_two (by omega) (by omega)]
        have e1 : (192 : Int) + ((64 * (b0 - 192) + b1 - 128 : Nat) : Int) / 64 = b0 := by omega
        have e2 : (128 : Int) + ((64 * (b0 - 192) + b1 - 128 : Nat) : Int) % 64 = b1 := by omega
        rw [e1, e2]
      · rw [if_neg c] at h; exact absurd rfl h
    · rw [if_neg a1] at h ⊢
      by_cases a2 : 224 ≤ b0 ∧ b0 ≤ 239
      · rw [if_pos a2] at h ⊢
        split at h
        · rename_i c
          rw [if_pos c]
          refine ⟨⟨by dsimp only; omega, by dsimp only; omega⟩, by dsimp only; omega, .inr (.inr (.inl ⟨rfl, ?_⟩))⟩
          dsimp only
          rw [Lib.encodeRuneZ_three (by omega)]
          have e1 : (224 : Int) + ((64 * (64 * (b0 - 224) + b1 - 128) + b2 - 128 : Nat) : Int) / 4096 = b0 := by omega
          have e2 : (128 : Int) + ((64 * (64 * (b0 - 224) + b1 - 128) + b2 - 128 : Nat) : Int) / 64 % 64 = b1 := by omega
          have e3 : (128 : Int) + ((64 * (64 * (b0 - 224) + b1 - 128) + b2 - 128 : Nat) : Int) % 64 = b2 := by omega
          rw [e1, e2, e3]
        · exact absurd rfl h
      · rw [if_neg a2] at h ⊢
        by_cases a3 : 240 ≤ b0 ∧ b0 ≤ 244
        · rw [if_pos a3] at h ⊢
          split at h
          · rename_i c
            rw [if_pos c]
            refine ⟨⟨by dsimp only; omega, by dsimp only; omega⟩, by dsimp only; omega, .inr (.inr (.inr ⟨rfl, ?_⟩))⟩
            dsimp only
            rw [Lib.encodeRuneZ_four (by omega) (by omega)]
            have e1 : (240 : Int) + ((64 * (64 * (64 * (b0 - 240) + b1 - 128) + b2 - 128) + b3 - 128 : Nat) : Int) / 262144 = b0 := by omega
            have e2 : (128 : Int) + ((64 * (64 * (64 * (b0 - 240) + b1 - 128) + b2 - 128) + b3 - 128 : Nat) : Int) / 4096 % 64 = b1 := by omega
            have e3 : (128 : Int) + ((64 * (64 * (64 * (b0 - 240) + b1 - 128) + b2 - 128) + b3 - 128 : Nat) : Int) / 64 % 64 = b2 := by omega
            have e4 : (128 : Int) + ((64 * (64 * (64 * (b0 - 240) + b1 - 128) + b2 - 128) + b3 - 128 : Nat) : Int) % 64 = b3 := by omega
            rw [e1, e2, e3, e4]
          · exact absurd rfl h
        · rw [if_neg a3] at h; exact absurd rfl h

theorem drop_bytes (s : ByteArray) : ∀ (d i : Nat), i + d ≤ s.size → s.data.toList.drop i = ((List.range d).map fun k => (by' s (i + k)).toUInt8) ++ s.data.toList.drop (i + d) := by
  intro d
  induction d with
  | zero => intro i h; simp
  | succ d ih =>
    intro i h
    have hl : s.data.toList.length = s.size := by simp
    rw [ih i (by omega), List.range_succ, List.map_append, List.append_assoc]
    congr 1
    rw [List.drop_eq_getElem_cons (show i + d < s.data.toList.length by omega)]
    simp only [List.map_cons, List.map_nil, List.cons_append, List.nil_append]
    rw [by_u8 s (i + d) (by omega)]
    rfl

/-- What stands at a place that is UTF-8. -/
theorem good_step (s : ByteArray) (i : Nat) (h : i < s.size) (hb : bad s i = false) :
    Scalar (Utf8.decode s i).1 ∧ s.data.toList.drop i = Lib.encodeRune ((Utf8.decode s i).1 : Nat) ++ s.data.toList.drop (i + (Utf8.decode s i).2) := by
  have hd := rpt_good s i h hb
  have hw := Lib.decode_width_pos s i h
  have hf := decode_fit s i h
  have he := enc_rptN (s.size - i) (by' s i) (by' s (i + 1)) (by' s (i + 2)) (by' s (i + 3)) (by_lt _ _) (by
    have : (rpt s i).2 ≠ 0 := by rw [hd]; omega
    exact this)
  have hr : rptN (s.size - i) (by' s i) (by' s (i + 1)) (by' s (i + 2)) (by' s (i + 3)) = Utf8.decode s i := hd
  rw [hr] at he
  refine ⟨he.1, ?_⟩
  rw [drop_bytes s (Utf8.decode s i).2 i hf]
  congr 1
  unfold Lib.encodeRune
  rcases he.2.2 with ⟨e1, e2⟩ | ⟨e1, e2⟩ | ⟨e1, e2⟩ | ⟨e1, e2⟩ <;> rw [e1, e2] <;> rfl

theorem of_there (s : ByteArray) : ∀ (f i : Nat) (acc bs : List UInt8), s.size ≤ i + f → ofFrom s f acc i = .ok bs → ∃ rs : List Nat, (∀ r ∈ rs, Scalar r) ∧ bs = acc ++ rs.flatMap pb ∧ s.data.toList.drop i = rs.flatMap fun r => Lib.encodeRune (r : Nat) := by
  have hl : s.data.toList.length = s.size := by simp
  intro f
  induction f with
  | zero =>
    intro i acc bs h e
    refine ⟨[], by simp, ?_, ?_⟩
    · simp only [ofFrom] at e; injection e with e; simp [e]
    · rw [List.drop_eq_nil_of_le (by omega)]; rfl
  | succ f ih =>
    intro i acc bs h e
    simp only [ofFrom] at e
    by_cases hi : i < s.size
    · rw [if_pos hi] at e
      cases hb : bad s i
      · rw [hb] at e
        have hw := Lib.decode_width_pos s i hi
        obtain ⟨rs, h1, h2, h3⟩ := ih _ _ bs (by omega) e
        obtain ⟨g1, g2⟩ := good_step s i hi hb
        refine ⟨(Utf8.decode s i).1 :: rs, ?_, ?_, ?_⟩
        · intro r hr
          rcases List.mem_cons.1 hr with rfl | hr
          · exact g1
          · exact h1 r hr
        · rw [h2]; simp
        · rw [g2, h3]; rfl
      · rw [hb] at e; cases e
    · rw [if_neg hi] at e
      refine ⟨[], by simp, ?_, ?_⟩
      · injection e with e; simp [e]
      · rw [List.drop_eq_nil_of_le (by omega)]; rfl

/-- UTF-8 that was read is written again as it was. -/
theorem text_of (s : ByteArray) (bs : List UInt8) (h : ofS s = .ok bs) : (⟨(textC (pts ⟨bs.toArray⟩)).toArray⟩ : ByteArray) = s := by
  obtain ⟨rs, h1, h2, h3⟩ := of_there s s.size 0 [] bs (by omega) h
  rw [List.nil_append] at h2
  rw [h2, text_flat rs h1, ← h3]
  simp

theorem of_len (s : ByteArray) : ∀ (f i : Nat) (acc bs : List UInt8), ofFrom s f acc i = .ok bs → bs.length ≤ acc.length + 4 * f := by
  intro f
  induction f with
  | zero => intro i acc bs e; simp only [ofFrom] at e; injection e with e; rw [e]; omega
  | succ f ih =>
    intro i acc bs e
    simp only [ofFrom] at e
    split at e
    · split at e
      · cases e
      · have := ih _ _ bs e
        have := pb_length (Utf8.decode s i).1
        rw [List.length_append] at *
        omega
    · injection e with e; rw [e]; omega

end Go.Proofs.Ytalnmophdebnfaa
