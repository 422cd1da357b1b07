/- digits.showUnsigned, text, Show. -/
import Derived.Test.YtjnbnejfdleocaaGreatDoorShow
import Derived.Test.YtjnbnejfdleocaaGreatDoorMod
namespace Go.Proofs.YtjnbnejfdleocaaGreatDoor
set_option linter.unusedVariables false
open Go.RowKit Fl

theorem gtM (x : Nat) (hx : x < 18446744073709551616) : (FloatKind.f64.format.order x 9218868437227405311 == some Ordering.gt) = decide (x = 9218868437227405312) := by
  rw [f64]
  by_cases hn : nan x
  · rw [order_nan _ _ hx (by omega) (.inl hn)]
    unfold nan at hn
    rw [decide_eq_false (by omega)]
    rfl
  · rw [order_key _ _ hx (by omega) hn (by unfold nan; omega)]
    have k2 : key 9218868437227405311 = 9218868437227405311 := by unfold key; rw [if_neg (by omega)]; rfl
    rw [k2]
    unfold nan at hn
    by_cases e : x = 9218868437227405312
    · have k1 : key x = (x : Int) := by unfold key; rw [if_neg (by omega)]; omega
      rw [decide_eq_true e, k1, Int.compare_eq_gt.2 (by omega)]
      rfl
    · have k1 : key x ≤ 9218868437227405311 := by unfold key; split <;> omega
      have : compare (key x) 9218868437227405311 ≠ .gt := fun h => by have := Int.compare_eq_gt.1 h; omega
      rw [decide_eq_false e]
      generalize compare (key x) 9218868437227405311 = o at this ⊢
      cases o <;> simp at this ⊢
set_option maxHeartbeats 400000 in
theorem isInf1_any (x : Nat) (w : World) (h : x < 18446744073709551616) :
    Calls Tryz.prog 42 #[.float .f64 x, .int .i64 1] w fun e w' => e = .returned (.bool (decide (x = 9218868437227405312))) ∧ w' = w := by
  have hg := gtM x h
  go_enter Tryz.func42, Tryz.ntmps42
  go_wp2
  go_ret
  exact ⟨rfl, rfl⟩
/-- The text of a number that is not below 0, or of none. -/
def unsB (x : Nat) : List UInt8 := if nan x then [78, 97, 78] else if x = 9218868437227405312 then [73, 110, 102, 105, 110, 105, 116, 121] else if x % 9223372036854775808 = 0 then [48] else posB x
set_option maxHeartbeats 1000000 in
set_option maxRecDepth 100000 in
theorem showUns_any (x : Nat) (w : World) (hx : x < 18446744073709551616) (hp : nan x ∨ x ≤ 9218868437227405312 ∨ x % 9223372036854775808 = 0) (hl : Hid (Laid w)) :
    Calls Tryz.prog 17 #[.float .f64 x] w fun e w' => e = .returned (.string (Sb (unsB x))) ∧ Below w.heap.size w w' := by
  have HN := Hid.mk' (fun W => isNaN_any x W hx)
  have HI := Hid.mk' (fun W => isInf1_any x W hx)
  have e0 := eq0 x hx
  by_cases h1 : nan x
  · rw [decide_eq_true h1] at HN
    have HE : Hid (unsB x = [78, 97, 78]) := by show _ = _; unfold unsB; rw [if_pos h1]
    go_enter Tryz.func17, Tryz.ntmps17
    go_wp2_with (go_at_call 41; refine (HN.out _).mono ?_; rintro e w1 ⟨rfl, hw1⟩; rw [hw1]; clear hw1 w1)
    go_ret
    exact ⟨by rw [HE.out]; rfl, Below.refl _ _⟩
  · rw [decide_eq_false h1] at HN
    by_cases h2 : x = 9218868437227405312
    · rw [decide_eq_true h2] at HI
      have HE : Hid (unsB x = [73, 110, 102, 105, 110, 105, 116, 121]) := by show _ = _; unfold unsB; rw [if_neg h1, if_pos h2]
      clear h2
      go_enter Tryz.func17, Tryz.ntmps17
      go_wp2_with (first | (go_at_call 41; refine (HN.out _).mono ?_; rintro e w1 ⟨rfl, hw1⟩; rw [hw1]; clear hw1 w1) | (go_at_call 42; refine (HI.out _).mono ?_; rintro e w1 ⟨rfl, hw1⟩; rw [hw1]; clear hw1 w1))
      go_ret
      exact ⟨by rw [HE.out]; rfl, Below.refl _ _⟩
    · rw [decide_eq_false h2] at HI
      by_cases h3 : x % 9223372036854775808 = 0
      · rw [decide_eq_true h3] at e0
        have HE : Hid (unsB x = [48]) := by show _ = _; unfold unsB; rw [if_neg h1, if_neg h2, if_pos h3]
        clear h3
        go_enter Tryz.func17, Tryz.ntmps17
        go_wp2_with (first | (go_at_call 41; refine (HN.out _).mono ?_; rintro e w1 ⟨rfl, hw1⟩; rw [hw1]; clear hw1 w1) | (go_at_call 42; refine (HI.out _).mono ?_; rintro e w1 ⟨rfl, hw1⟩; rw [hw1]; clear hw1 w1))
        go_ret
        exact ⟨by rw [HE.out]; rfl, Below.refl _ _⟩
      · rw [decide_eq_false h3] at e0
        have hb : 0 < x ∧ x < 9218868437227405312 := by unfold nan at *; omega
        have HE : Hid (unsB x = posB x) := by show _ = _; unfold unsB; rw [if_neg h1, if_neg h2, if_neg h3]
        have HS := Hid.mk' (fun W hW => shortest_any x W hb.1 hb.2 hW)
        have hd := shDs_len x hb.1 hb.2
        have hX := shX_range x hb.1 hb.2
        have HL := Hid.mk' (fun W hW => laid_any (u8s (shDs x)) (shX x + 1) W (by simp [u8s]; omega) ⟨by omega, by omega⟩ hW)
        rw [show laidB (u8s (shDs x)) (shX x + 1) = posB x from rfl] at HL
        generalize u8s (shDs x) = D at HS HL
        generalize shX x = X at *
        go_enter Tryz.func17, Tryz.ntmps17
        go_wp2_with (first | (go_at_call 41; refine (HN.out _).mono ?_; rintro e w1 ⟨rfl, hw1⟩; rw [hw1]; clear hw1 w1) | (go_at_call 42; refine (HI.out _).mono ?_; rintro e w1 ⟨rfl, hw1⟩; rw [hw1]; clear hw1 w1))
        refine (HS.out _ hl).mono ?_
        rintro e w1 ⟨rfl, b1⟩
        have hl1 : Hid (Laid w1) := hl.out.below b1
        go_wp2_with fail
        refine (HL.out _ hl1).mono ?_
        rintro e w2 ⟨rfl, b2⟩
        go_wp2
        go_ret
        exact ⟨by rw [HE.out]; rfl, b1.trans (b2.mono b1.size)⟩

set_option maxHeartbeats 400000 in
theorem text_any (s : ByteArray) (w : World) (hs : (s.size : Int) ≤ 1048576) :
    Calls Tryz.prog 16 #[.string s] w fun e w' => e = .returned (.string (ofFst (ofS s))) ∧ Below w.heap.size w w' := by
  have HO := Hid.mk' (of_any s w hs)
  generalize ofS s = r at HO ⊢
  go_enter Tryz.func16, Tryz.ntmps16
  go_wp2_with fail
  refine HO.out.mono ?_
  rintro e w1 ⟨rfl, b1⟩
  cases r with
  | ok bs =>
    dsimp only [ofEnd, ofFst]
    go_wp2
    go_ret
    exact ⟨rfl, b1⟩
  | error n =>
    dsimp only [ofEnd, ofFst]
    go_wp2
    go_ret
    exact ⟨rfl, b1⟩
theorem laidB_len (d : List UInt8) (n : Int) (hd : d.length ≤ 100) (hn : -9000 ≤ n ∧ n ≤ 9000) : (laidB d n).length ≤ 300 := by
  unfold laidB
  split
  · unfold sciB powB
    have h1 := Lib.itoa_length_le (-(n - 1)) (by omega) (by omega)
    have h2 := Lib.itoa_length_le (n - 1) (by omega) (by omega)
    have h3 : (d.take 1).length ≤ 1 := by simp; omega
    have h4 : (d.drop 1).length ≤ 100 := by simp; omega
    simp only [List.length_append, List.length_cons]
    split <;> split <;> simp only [List.length_cons, List.length_nil] <;> omega
  · split
    · simp [zs]; omega
    · split
      · simp; omega
      · simp [zs]; omega
theorem unsB_len (x : Nat) (hx : x ≤ 9218868437227405312 ∨ nan x ∨ x % 9223372036854775808 = 0) : (unsB x).length ≤ 300 := by
  unfold unsB
  split
  · simp
  · rename_i h1
    split
    · simp
    · split
      · simp
      · rename_i h2 h3
        have hb : 0 < x ∧ x < 9218868437227405312 := by unfold nan at *; omega
        have hd := shDs_len x hb.1 hb.2
        have hX := shX_range x hb.1 hb.2
        exact laidB_len _ _ (by simp [u8s]; omega) ⟨by omega, by omega⟩
/-- The text of any number by its bits. -/
def showB (x : Nat) : List UInt8 := if 9223372036854775808 < x ∧ ¬ nan x then 45 :: unsB (x % 9223372036854775808) else unsB x
theorem showB_neg (x : Nat) (hx : 9223372036854775808 < x) (hn : ¬ nan x) : showB x = 45 :: unsB (x % 9223372036854775808) := by
  unfold showB
  rw [if_pos ⟨hx, hn⟩]
theorem showB_pos (x : Nat) (hx : nan x ∨ ¬ 9223372036854775808 < x) : showB x = unsB x := by
  unfold showB
  rw [if_neg (fun h => hx.elim h.2 (fun q => q h.1))]
theorem showB_len (x : Nat) (hx : x < 18446744073709551616) : (showB x).length ≤ 301 := by
  unfold showB
  split
  · rename_i h
    have := unsB_len (x % 9223372036854775808) (by have := h.2; unfold nan at *; omega)
    simp
    omega
  · rename_i h
    have := unsB_len x (by unfold nan at *; omega)
    omega
set_option maxHeartbeats 1000000 in
set_option maxRecDepth 100000 in
theorem show_any (x : Nat) (w : World) (hx : x < 18446744073709551616) (hl : Hid (Laid w)) :
    Calls Tryz.prog 6 #[.float .f64 x] w fun e w' => e = .returned (.string (ofFst (ofS (Sb (showB x))))) ∧ Below w.heap.size w w' := by
  by_cases h1 : 9223372036854775808 < x ∧ ¬ nan x
  · have hlt := lt0 x hx h1.2
    rw [decide_eq_true h1.1] at hlt
    have hy0 : x % 9223372036854775808 ≤ 9218868437227405312 := by have := h1.2; unfold nan at this; omega
    have hneg : Op.negFloat .f64 x = x % 9223372036854775808 := by
      have := neg_neg' (x % 9223372036854775808) (by omega)
      rw [show 9223372036854775808 + x % 9223372036854775808 = x by omega] at this
      exact this
    have HE := Hid.mk' (showB_neg x h1.1 h1.2)
    have hlen := unsB_len (x % 9223372036854775808) (.inl hy0)
    generalize x % 9223372036854775808 = y at *
    have HU := Hid.mk' (fun W hW => showUns_any y W (by omega) (.inr (.inl hy0)) hW)
    have hsz := Sb_size (unsB y)
    have hs2 : ((Sb (unsB y)).size : Int) ≤ 300 := by omega
    have HT := Hid.mk' (fun W => text_any (Sb (45 :: unsB y)) W (by rw [Sb_size]; simp; omega))
    clear h1 hlen hsz
    go_enter Tryz.func6, Tryz.ntmps6
    go_wp2_with fail
    refine (HU.out _ hl).mono ?_
    rintro e w1 ⟨rfl, b1⟩
    go_wp2_with fail
    rw [show (⟨#[45]⟩ : ByteArray) ++ Sb (unsB y) = Sb (45 :: unsB y) from Sb_append [45] _]
    refine (HT.out _).mono ?_
    rintro e w2 ⟨rfl, b2⟩
    go_wp2
    go_ret
    exact ⟨by rw [HE.out]; rfl, b1.trans (b2.mono b1.size)⟩
  · have h2 : nan x ∨ ¬ 9223372036854775808 < x := by
      by_cases n : nan x
      · exact .inl n
      · exact .inr fun h => h1 ⟨h, n⟩
    have hlt : (FloatKind.f64.format.order x 0 == some Ordering.lt) = false := by
      by_cases n : nan x
      · rw [f64, order_nan x 0 hx (by omega) (.inl n)]; rfl
      · rw [lt0 x hx n, decide_eq_false (h2.resolve_left n)]
    have hp : nan x ∨ x ≤ 9218868437227405312 ∨ x % 9223372036854775808 = 0 := by unfold nan at *; omega
    have HE := Hid.mk' (showB_pos x h2)
    have HU := Hid.mk' (fun W hW => showUns_any x W hx hp hW)
    have hlen := unsB_len x (by unfold nan at *; omega)
    have HT := Hid.mk' (fun W => text_any (Sb (unsB x)) W (by rw [Sb_size]; omega))
    clear h1 hlen h2 hp
    go_enter Tryz.func6, Tryz.ntmps6
    go_wp2_with fail
    refine (HU.out _ hl).mono ?_
    rintro e w1 ⟨rfl, b1⟩
    go_wp2_with fail
    refine (HT.out _).mono ?_
    rintro e w2 ⟨rfl, b2⟩
    go_wp2
    go_ret
    exact ⟨by rw [HE.out]; rfl, b1.trans (b2.mono b1.size)⟩
end Go.Proofs.YtjnbnejfdleocaaGreatDoor
