/- A number's text, plain: digits, where the point stands, and the form that it takes. -/
import Derived.Test.YtjnbnejfdleocaaGreatDoorFFloat
import Derived.Test.YtjnbnejfdleocaaGreatDoorSb
import Derived.Lib.Replace
import Derived.Lib.CutLaws
import Derived.Lib.Atoi
import Derived.Lib.IndexLaws
import Derived.Lib.Repeat
namespace Go.Proofs.YtjnbnejfdleocaaGreatDoor
set_option linter.unusedVariables false
open Go.RowKit Fl Go.Lib

theorem index_one (a b : List UInt8) (c : UInt8) (h : c ∉ a) : index (a ++ c :: b) [c] = (a.length : Int) := by
  refine index_hit (fun j hj => ?_) (by simp) ?_
  · unfold occAt
    rw [List.drop_append_of_le_length (by omega)]
    rw [List.drop_eq_getElem_cons hj]
    have hc : (c == a[j]) = false := by
      rw [beq_eq_false_iff_ne]
      exact fun e => h (e ▸ List.getElem_mem hj)
    show (c == a[j] && _) = false
    rw [hc]
    rfl
  · unfold occAt
    simp
theorem index_not (a : List UInt8) (c : UInt8) (h : c ∉ a) : index a [c] = -1 := by
  refine index_past (i := a.length) (by simp) (fun j hj => ?_) (by simp)
  unfold occAt
  rw [List.drop_eq_getElem_cons hj]
  have hc : (c == a[j]) = false := by
    rw [beq_eq_false_iff_ne]
    exact fun e => h (e ▸ List.getElem_mem hj)
  show (c == a[j] && _) = false
  rw [hc]
  rfl
theorem cut_one (a b : List UInt8) (c : UInt8) (h : c ∉ a) : cut (a ++ c :: b) [c] = (a, b, true) := by
  unfold cut
  rw [index_one a b c h, if_pos (by omega)]
  simp
theorem count_pos (a b : List UInt8) (c : UInt8) (h : c ∉ a) : 0 < count (a ++ c :: b) [c] := by
  unfold count countFrom
  rw [index_one a b c h]
  split
  · rename_i e; have := beq_iff_eq.1 e; omega
  · omega
theorem count_none (a : List UInt8) (c : UInt8) (h : c ∉ a) : count a [c] = 0 := by
  unfold count countFrom
  rw [index_not a c h]
  rfl
theorem replace_one (a b : List UInt8) (c : UInt8) (h : c ∉ a) : replace (a ++ c :: b) [c] [] 1 = a ++ b := by
  unfold replace
  rw [if_neg (by simp)]
  have h1 : replaceNum (a ++ c :: b) [c] 1 = 1 := by
    unfold replaceNum
    have := count_pos a b c h
    split
    · omega
    · rfl
  rw [h1, replaceK_hit [c] [] 0 _ a.length (index_one a b c h)]
  simp [replaceK]
theorem replace_not (a : List UInt8) (c : UInt8) (h : c ∉ a) : replace a [c] [] 1 = a := by
  unfold replace
  rw [if_neg (by simp)]
  have h1 : replaceNum a [c] 1 = 0 := by
    unfold replaceNum
    rw [count_none a c h]
    split
    · rfl
    · omega
  rw [h1]
  rfl

/-- The digits that are told, and the power of the first one. -/
def shDs (b : Nat) : List Nat := if digL (ffS b).1.toNat = [] then [48] else digL (ffS b).1.toNat
def shX (b : Nat) : Int := if digL (ffS b).1.toNat = [] then 0 else (ndN (ffS b).1.toNat : Int) + (ffS b).2 - 1
def u8s (l : List Nat) : List UInt8 := l.map Nat.toUInt8
def manN : List Nat → List Nat
  | [] => []
  | [d] => [d]
  | d :: r => d :: 46 :: r
theorem shDs_digit (b : Nat) : ∀ c ∈ shDs b, 48 ≤ c ∧ c ≤ 57 := by
  unfold shDs
  split
  · intro c hc; simp at hc; omega
  · exact digL_digit _
theorem shDs_len (b : Nat) (h0 : 0 < b) (h1 : b < 9218868437227405312) : 1 ≤ (shDs b).length ∧ (shDs b).length ≤ 20 := by
  obtain ⟨⟨r1, r2⟩, r3, r4⟩ := ffS_range b h0 h1
  have := ndN_lt (ffS b).1.toNat (by omega)
  have h2 := trimTo_le (ffS b).1.toNat (ndN (ffS b).1.toNat) (ndN (ffS b).1.toNat)
  have h3 := digL_length (ffS b).1.toNat
  unfold shDs
  split
  · simp
  · rename_i h
    have := List.length_pos_iff.2 h
    omega
theorem shX_range (b : Nat) (h0 : 0 < b) (h1 : b < 9218868437227405312) : -402 ≤ shX b ∧ shX b ≤ 420 := by
  obtain ⟨⟨r1, r2⟩, r3, r4⟩ := ffS_range b h0 h1
  have := ndN_lt (ffS b).1.toNat (by omega)
  unfold shX
  split <;> omega
theorem ffT_parts (b : Nat) : ffT b = manN (shDs b) ++ 101 :: expS (shX b) := by
  unfold ffT shDs shX
  cases h : digL (ffS b).1.toNat with
  | nil => rfl
  | cons d r =>
    cases r with
    | nil => simp [fmtN, manN]
    | cons e r => simp [fmtN, manN]
theorem u8s_append (a b : List Nat) : u8s (a ++ b) = u8s a ++ u8s b := by simp [u8s]
theorem u8s_mem {l : List Nat} {c : UInt8} (h : c ∈ u8s l) (hl : ∀ x ∈ l, x < 256) : c.toNat ∈ l := by
  simp only [u8s, List.mem_map] at h
  obtain ⟨x, hx, rfl⟩ := h
  have := hl x hx
  rw [show x.toUInt8.toNat = x by simp; omega]
  exact hx
theorem manN_mem {l : List Nat} {x : Nat} (h : x ∈ manN l) : x = 46 ∨ x ∈ l := by
  cases l with
  | nil => simp [manN] at h
  | cons d r =>
    cases r with
    | nil => simp [manN] at h; simp [h]
    | cons e r =>
      simp [manN] at h
      rcases h with rfl | rfl | rfl | h
      · simp
      · simp
      · simp
      · simp [h]
theorem man_no_e (b : Nat) : (101 : UInt8) ∉ u8s (manN (shDs b)) := fun h => by
  have hd := shDs_digit b
  have := u8s_mem h (fun x hx => by
    rcases manN_mem hx with rfl | hx
    · omega
    · have := hd x hx; omega)
  rcases manN_mem this with e | e
  · exact absurd e (by decide)
  · have := hd _ e
    exact absurd this.2 (by decide)
theorem man_digits (b : Nat) : replace (u8s (manN (shDs b))) [46] [] 1 = u8s (shDs b) := by
  have hd := shDs_digit b
  cases h : shDs b with
  | nil => rfl
  | cons d r =>
    rw [h] at hd
    have n1 : (46 : UInt8) ∉ u8s [d] := fun hh => by
      have h3 := hd d (by simp)
      have := u8s_mem hh (fun x hx => by simp at hx; omega)
      simp at this
      omega
    cases r with
    | nil => exact replace_not _ _ n1
    | cons e r => exact replace_one (u8s [d]) (u8s (e :: r)) 46 n1
theorem atoi_tab : ∀ i : Fin 900, Lib.atoi (u8s (expS ((i.val : Int) - 450))) = some ((i.val : Int) - 450) := by decide +kernel
theorem atoi_exp (X : Int) (h : -450 ≤ X ∧ X < 450) : Lib.atoi (u8s (expS X)) = some X := by
  have := atoi_tab ⟨(X + 450).toNat, by omega⟩
  rw [show (((X + 450).toNat : Nat) : Int) - 450 = X by omega] at this
  exact this
theorem expS_len (X : Int) : (expS X).length ≤ 4 := by
  unfold expS expN
  split <;> (repeat' split) <;> simp

def zs (n : Nat) : List UInt8 := List.replicate n 48
/-- The power behind an e. -/
def powB (p : Int) : List UInt8 := if p < 0 then 45 :: Lib.itoa (-p) else 43 :: Lib.itoa p
def sciB (d : List UInt8) (p : Int) : List UInt8 := d.take 1 ++ (if 1 < d.length then 46 :: d.drop 1 else []) ++ (101 :: powB p)
/-- Digits with n of them ahead of the point. -/
def laidB (d : List UInt8) (n : Int) : List UInt8 :=
  if n < -5 ∨ 21 < n then sciB d (n - 1) else if n ≤ 0 then [48, 46] ++ zs (-n).toNat ++ d else if n < d.length then d.take n.toNat ++ 46 :: d.drop n.toNat else d ++ zs (n - d.length).toNat
/-- The text of a number above 0. -/
def posB (b : Nat) : List UInt8 := laidB (u8s (shDs b)) (shX b + 1)
theorem repeat_zs (n : Nat) : Lib.repeatL [48] n = zs n := by
  induction n with
  | zero => rfl
  | succ n ih => unfold zs at *; simp [Lib.repeatL, List.replicate_succ, ih]
end Go.Proofs.YtjnbnejfdleocaaGreatDoor
