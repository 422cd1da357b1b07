/- A number's text, plain: digits, where the point stands, and the form that it takes. digits.Show: the program's text of a number. digits.showUnsigned, text, Show. -/
import Derived.Test.YtbkkkpfoaggejaaGreatDoorFFloat
import Derived.Test.YtbkkkpfoaggejaaGreatDoorSb
import Derived.Lib.Replace
import Derived.Lib.CutLaws
import Derived.Lib.Atoi
import Derived.Lib.IndexLaws
import Derived.Lib.Repeat
import Derived.Test.YtbkkkpfoaggejaaGreatDoorMf
import Derived.Lib.AtoiErrMem
import Derived.Lib.ItoaLen
import Derived.Test.YtbkkkpfoaggejaaGreatDoorMod
namespace Go.Proofs.YtbkkkpfoaggejaaGreatDoor
set_option linter.unusedVariables false
open Go.RowKit Fl Go.Lib

theorem index_one (a b : List UInt8) (c : UInt8) (h : c ∉ a) : index (a ++ c :: b) [c] = (a.length : Int) := by
  refine index_hit (fun j hj => ?_) (by simp) ?_
  · unfold occAt
    rw [List.drop_append_of_le_length (by omega)]
    rw [List.drop_eq_getElem_cons hj]
    have hc : (c == a[j]) = false := by
      rw [beq_eq_false_iff_ne]
      exact fun e => h (e ▸ List.getElem_mem hj)
    show (c == a[j] && _) = false
    rw [hc]
    rfl
  · unfold occAt
    simp
theorem index_not (a : List UInt8) (c : UInt8) (h : c ∉ a) : index a [c] = -1 := by
  refine index_past (i := a.length) (by simp) (fun j hj => ?_) (by simp)
  unfold occAt
  rw [List.drop_eq_getElem_cons hj]
  have hc : (c == a[j]) = false := by
    rw [beq_eq_false_iff_ne]
    exact fun e => h (e ▸ List.getElem_mem hj)
  show (c == a[j] && _) = false
  rw [hc]
  rfl
theorem cut_one (a b : List UInt8) (c : UInt8) (h : c ∉ a) : cut (a ++ c :: b) [c] = (a, b, true) := by
  unfold cut
  rw [index_one a b c h, if_pos (by omega)]
  simp
theorem count_pos (a b : List UInt8) (c : UInt8) (h : c ∉ a) : 0 < count (a ++ c :: b) [c] := by
  unfold count countFrom
  rw [index_one a b c h]
  split
  · rename_i e; have := beq_iff_eq.1 e; omega
  · omega
theorem count_none (a : List UInt8) (c : UInt8) (h : c ∉ a) : count a [c] = 0 := by
  unfold count countFrom
  rw [index_not a c h]
  rfl
theorem replace_one (a b : List UInt8) (c : UInt8) (h : c ∉ a) : replace (a ++ c :: b) [c] [] 1 = a ++ b := by
  unfold replace
  rw [if_neg (by simp)]
  have h1 : replaceNum (a ++ c :: b) [c] 1 = 1 := by
    unfold replaceNum
    have := count_pos a b c h
    split
    · omega
    · rfl
  rw [h1, replaceK_hit [c] [] 0 _ a.length (index_one a b c h)]
  simp [replaceK]
theorem replace_not (a : List UInt8) (c : UInt8) (h : c ∉ a) : replace a [c] [] 1 = a := by
  unfold replace
  rw [if_neg (by simp)]
  have h1 : replaceNum a [c] 1 = 0 := by
    unfold replaceNum
    rw [count_none a c h]
    split
    · rfl
    · omega
  rw [h1]
  rfl

/-- The digits that are told, and the power of the first one. -/
def shDs (b : Nat) : List Nat := if digL (ffS b).1.toNat = [] then [48] else digL (ffS b).1.toNat
def shX (b : Nat) : Int := if digL (ffS b).1.toNat = [] then 0 else (ndN (ffS b).1.toNat : Int) + (ffS b).2 - 1
def u8s (l : List Nat) : List UInt8 := l.map Nat.toUInt8
def manN : List Nat → List Nat
  | [] => []
  | [d] => [d]
  | d :: r => d :: 46 :: r
theorem shDs_digit (b : Nat) : ∀ c ∈ shDs b, 48 ≤ c ∧ c ≤ 57 := by
  unfold shDs
  split
  · intro c hc; simp at hc; omega
  · exact digL_digit _
theorem shDs_len (b : Nat) (h0 : 0 < b) (h1 : b < 9218868437227405312) : 1 ≤ (shDs b).length ∧ (shDs b).length ≤ 20 := by
  obtain ⟨⟨r1, r2⟩, r3, r4⟩ := ffS_range b h0 h1
  have := ndN_lt (ffS b).1.toNat (by omega)
  have h2 := trimTo_le (ffS b).1.toNat (ndN (ffS b).1.toNat) (ndN (ffS b).1.toNat)
  have h3 := digL_length (ffS b).1.toNat
  unfold shDs
  split
  · simp
  · rename_i h
    have := List.length_pos_iff.2 h
    omega
theorem shX_range (b : Nat) (h0 : 0 < b) (h1 : b < 9218868437227405312) : -402 ≤ shX b ∧ shX b ≤ 420 := by
  obtain ⟨⟨r1, r2⟩, r3, r4⟩ := ffS_range b h0 h1
  have := ndN_lt (ffS b).1.toNat (by omega)
  unfold shX
  split <;> omega
theorem ffT_parts (b : Nat) : ffT b = manN (shDs b) ++ 101 :: expS (shX b) := by
  unfold ffT shDs shX
  cases h : digL (ffS b).1.toNat with
  | nil => rfl
  | cons d r =>
    cases r with
    | nil => simp [fmtN, manN]
    | cons e r => simp [fmtN, manN]
theorem u8s_append (a b : List Nat) : u8s (a ++ b) = u8s a ++ u8s b := by simp [u8s]
theorem u8s_mem {l : List Nat} {c : UInt8} (h : c ∈ u8s l) (hl : ∀ x ∈ l, x < 256) : c.toNat ∈ l := by
  simp only [u8s, List.mem_map] at h
  obtain ⟨x, hx, rfl⟩ := h
  have := hl x hx
  rw [show x.toUInt8.toNat = x by simp; omega]
  exact hx
theorem manN_mem {l : List Nat} {x : Nat} (h : x ∈ manN l) : x = 46 ∨ x ∈ l := by
  cases l with
  | nil => simp [manN] at h
  | cons d r =>
    cases r with
    | nil => simp [manN] at h; simp [h]
    | cons e r =>
      simp [manN] at h
      rcases h with rfl | rfl | rfl | h
      · simp
      · simp
      · simp
      · simp [h]
theorem man_no_e (b : Nat) : (101 : UInt8) ∉ u8s (manN (shDs b)) := fun h => by
  have hd := shDs_digit b
  have := u8s_mem h (fun x hx => by
    rcases manN_mem hx with rfl | hx
    · omega
    · have := hd x hx; omega)
  rcases manN_mem this with e | e
  · exact absurd e (by decide)
  · have := hd _ e
    exact absurd this.2 (by decide)
theorem man_digits (b : Nat) : replace (u8s (manN (shDs b))) [46] [] 1 = u8s (shDs b) := by
  have hd := shDs_digit b
  cases h : shDs b with
  | nil => rfl
  | cons d r =>
    rw [h] at hd
    have n1 : (46 : UInt8) ∉ u8s [d] := fun hh => by
      have h3 := hd d (by simp)
      have := u8s_mem hh (fun x hx => by simp at hx; omega)
      simp at this
      omega
    cases r with
    | nil => exact replace_not _ _ n1
    | cons e r => exact replace_one (u8s [d]) (u8s (e :: r)) 46 n1
theorem atoi_tab : ∀ i : Fin 900, Lib.atoi (u8s (expS ((i.val : Int) - 450))) = some ((i.val : Int) - 450) := by decide +kernel
theorem atoi_exp (X : Int) (h : -450 ≤ X ∧ X < 450) : Lib.atoi (u8s (expS X)) = some X := by
  have := atoi_tab ⟨(X + 450).toNat, by omega⟩
  rw [show (((X + 450).toNat : Nat) : Int) - 450 = X by omega] at this
  exact this
theorem expS_len (X : Int) : (expS X).length ≤ 4 := by
  unfold expS expN
  split <;> (repeat' split) <;> simp

def zs (n : Nat) : List UInt8 := List.replicate n 48
/-- The power behind an e. -/
def powB (p : Int) : List UInt8 := if p < 0 then 45 :: Lib.itoa (-p) else 43 :: Lib.itoa p
def sciB (d : List UInt8) (p : Int) : List UInt8 := d.take 1 ++ (if 1 < d.length then 46 :: d.drop 1 else []) ++ (101 :: powB p)
/-- Digits with n of them ahead of the point. -/
def laidB (d : List UInt8) (n : Int) : List UInt8 :=
  if n < -5 ∨ 21 < n then sciB d (n - 1) else if n ≤ 0 then [48, 46] ++ zs (-n).toNat ++ d else if n < d.length then d.take n.toNat ++ 46 :: d.drop n.toNat else d ++ zs (n - d.length).toNat
/-- The text of a number above 0. -/
def posB (b : Nat) : List UInt8 := laidB (u8s (shDs b)) (shX b + 1)
theorem repeat_zs (n : Nat) : Lib.repeatL [48] n = zs n := by
  induction n with
  | zero => rfl
  | succ n ih => unfold zs at *; simp [Lib.repeatL, List.replicate_succ, ih]
end Go.Proofs.YtbkkkpfoaggejaaGreatDoor

namespace Go.Proofs.YtbkkkpfoaggejaaGreatDoor
set_option linter.unusedVariables false
open Go.RowKit Fl

theorem Sb46 : (⟨#[46]⟩ : ByteArray) = Sb [46] := rfl
theorem Sb101 : (⟨#[101]⟩ : ByteArray) = Sb [101] := rfl
theorem Sb45 : (⟨#[45]⟩ : ByteArray) = Sb [45] := rfl
theorem Sb43 : (⟨#[43]⟩ : ByteArray) = Sb [43] := rfl
theorem Sb48 : (⟨#[48]⟩ : ByteArray) = Sb [48] := rfl
theorem Sb4846 : (⟨#[48, 46]⟩ : ByteArray) = Sb [48, 46] := rfl
theorem strN_Sb (l : List Nat) : strN l = Sb (u8s l) := rfl
set_option maxHeartbeats 1000000 in
set_option maxRecDepth 100000 in
theorem shortest_any (b : Nat) (w : World) (h0 : 0 < b) (h1 : b < 9218868437227405312) (hl : Hid (Laid w)) :
    Calls Tryz.prog 147 #[.float .f64 b] w fun e w' => e = .returned (.tuple #[.string (Sb (u8s (shDs b))), .int .i64 (shX b + 1)]) ∧ Below w.heap.size w w' := by
  have HF := Hid.mk' (fmtFloat_any b w h0 h1 hl.out.f)
  have hx := shX_range b h0 h1
  have hn := shDs_len b h0 h1
  obtain ⟨M, hM⟩ : ∃ M, u8s (manN (shDs b)) = M := ⟨_, rfl⟩
  obtain ⟨X, hX⟩ : ∃ X, u8s (expS (shX b)) = X := ⟨_, rfl⟩
  have hT : u8s (ffT b) = M ++ 101 :: X := by rw [ffT_parts, u8s_append, hM, ← hX]; rfl
  have hcut : Lib.cut (M ++ 101 :: X) [101] = (M, X, true) := cut_one M X 101 (hM ▸ man_no_e b)
  have hrep : Lib.replace M [46] [] 1 = u8s (shDs b) := hM ▸ man_digits b
  have hat : Lib.atoi X = some (shX b) := hX ▸ atoi_exp _ ⟨by omega, by omega⟩
  have hXl : X.length ≤ 4 := by rw [← hX]; simp [u8s, expS_len]
  have hMl : M.length ≤ 21 := by
    rw [← hM]
    simp only [u8s, List.length_map]
    cases h : shDs b with
    | nil => simp [manN]
    | cons d r =>
      rw [h] at hn
      cases r with
      | nil => simp [manN]
      | cons e r => simp [manN] at *; omega
  generalize shX b = x at *
  generalize u8s (shDs b) = D at *
  rw [strN_Sb, hT] at HF
  have HC := Hid.mk' hcut
  have HR := Hid.mk' hrep
  have HA := Hid.mk' hat
  clear hT hcut hrep hat hM hX hn
  go_enter Tryz.func147, Tryz.ntmps147
  go_wp2_with fail
  refine HF.out.mono ?_
  rintro e1 w1 ⟨rfl, b1⟩
  obtain ⟨m1, hm1⟩ := (hl.out.below b1).maxl
  go_wp2_with fail
  refine (Tryz.strings_Cut _ _ m1 _ (by rw [Sb_size]; simp; omega) hm1).mono ?_
  rintro e2 w2 ⟨rfl, n2, hw2⟩
  rw [Sb_list, show (⟨#[101]⟩ : ByteArray).data.toList = [101] from rfl, HC.out]
  have b2 : Below w.heap.size w w2 := by rw [hw2]; exact below_draws b1 n2
  have HB2 := Hid.mk' b2
  clear hw2 hm1 b1 b2
  go_wp2_with fail
  refine (Tryz.strconv_Atoi ⟨X.toArray⟩ x (by simp [ByteArray.size]; omega) (by simpa using HA.out) _).mono ?_
  rintro e3 w3 ⟨rfl, t3, hw3⟩
  have b3 : Below w.heap.size w w3 := by rw [hw3]; exact HB2.out.trans (Lib.bytesWorld_below _ _ _ |>.mono HB2.out.size)
  obtain ⟨m3, hm3⟩ := (hl.out.below b3).maxl
  have HB3 := Hid.mk' b3
  clear hw3 b3
  go_wp2_with fail
  refine (Tryz.strings_Replace ⟨M.toArray⟩ ⟨#[46]⟩ ⟨#[]⟩ 1 m3 _ (by simp [ByteArray.size]; omega) hm3 (by decide) (by simp [ByteArray.size]; omega)).mono ?_
  rintro e4 w4 ⟨rfl, b4⟩
  rw [show (⟨M.toArray⟩ : ByteArray).data.toList = M by simp, show (⟨#[46]⟩ : ByteArray).data.toList = [46] from rfl, show (⟨#[]⟩ : ByteArray).data.toList = [] from rfl, HR.out]
  clear hm3
  go_wp2
  go_ret2
  exact ⟨rfl, HB3.out.trans (b4.mono HB3.out.size)⟩

set_option maxHeartbeats 1000000 in
set_option maxRecDepth 100000 in
theorem scientific_any (d : List UInt8) (p : Int) (w : World) (hd : 1 ≤ d.length ∧ d.length ≤ 100) (hp : -10000 ≤ p ∧ p ≤ 10000) (hl : Hid (Laid w)) :
    Calls Tryz.prog 159 #[.string (Sb d), .int .i64 p] w fun e w' => e = .returned (.string (Sb (sciB d p))) ∧ Below w.heap.size w w' := by
  have hs : (Sb d).size = d.length := Sb_size d
  have hdl : (Sb d).data.toList = d := Sb_list d
  have HD := Hid.mk' hdl
  clear hdl
  obtain ⟨q, hq⟩ : ∃ q, (p < 0 ∧ q = -p) ∨ (0 ≤ p ∧ q = p) := by
    rcases Int.lt_or_le p 0 with c | c
    · exact ⟨_, .inl ⟨c, rfl⟩⟩
    · exact ⟨_, .inr ⟨c, rfl⟩⟩
  have hq0 : 0 ≤ q ∧ q ≤ 10000 := by omega
  have hI := Sb_size (Lib.itoa q)
  have hI2 := Lib.itoa_length_le q (by omega) (by omega)
  have hI3 : ((Sb (Lib.itoa q)).size : Int) ≤ 21 := by omega
  have HP : Hid (powB p = (if p < 0 then 45 else 43) :: Lib.itoa q) := by
    show _ = _
    unfold powB
    rcases hq with ⟨c, rfl⟩ | ⟨c, rfl⟩
    · rw [if_pos c, if_pos c]
    · rw [if_neg (by omega), if_neg (by omega)]
  clear hI hI2
  rcases Nat.lt_or_ge 1 d.length with a | a <;> rcases hq with ⟨c, rfl⟩ | ⟨c, rfl⟩
  all_goals
    go_enter Tryz.func159, Tryz.ntmps159
    go_wp2_with fail
    refine (Tryz.strconv_Itoa _ (by omega) (by omega) _ hl.out.u64p).mono ?_
    rintro e1 w1 ⟨rfl, k1, os1, hw1⟩
    have b1 : Below w.heap.size w w1 := by rw [hw1]; exact Lib.below_grow _ _ (Nat.le_refl _) _ _
    clear hw1
    rw [show ∀ I : List UInt8, (⟨I.toArray⟩ : ByteArray) = Sb I from fun _ => rfl]
    go_wp2
    go_ret
    refine ⟨congrArg (fun s => Ending.returned (.string s)) (Sb_ext ?_), b1⟩
    rw [sciB, HP.out]
    simp only [Sb_extract, Sb46, Sb101, Sb45, Sb43, Sb_append, Sb_list]
    first
      | (rw [if_pos a, if_pos c]; simp; done)
      | (rw [if_pos a, if_neg (by omega)]; simp; done)
      | (rw [if_neg (by omega), if_pos c]; simp; done)
      | (rw [if_neg (by omega), if_neg (by omega)]; simp; done)

set_option maxHeartbeats 1000000 in
set_option maxRecDepth 100000 in
theorem laid_any (d : List UInt8) (n : Int) (w : World) (hd : 1 ≤ d.length ∧ d.length ≤ 100) (hn : -9000 ≤ n ∧ n ≤ 9000) (hl : Hid (Laid w)) :
    Calls Tryz.prog 146 #[.string (Sb d), .int .i64 n] w fun e w' => e = .returned (.string (Sb (laidB d n))) ∧ Below w.heap.size w w' := by
  have hs : (Sb d).size = d.length := Sb_size d
  by_cases a1 : n < -5 ∨ 21 < n
  · have HS := Hid.mk' (scientific_any d (n - 1) w hd ⟨by omega, by omega⟩ hl)
    have HE : Hid (laidB d n = sciB d (n - 1)) := by show _ = _; unfold laidB; rw [if_pos a1]
    rcases a1 with a1 | a1
    all_goals
      go_enter Tryz.func146, Tryz.ntmps146
      go_wp2_with fail
      refine HS.out.mono ?_
      rintro e1 w1 ⟨rfl, b1⟩
      go_wp2
      go_ret
      exact ⟨by rw [HE.out]; rfl, b1⟩
  · by_cases a2 : n ≤ 0
    · obtain ⟨k, hk⟩ : ∃ k : Nat, -n = (k : Int) := ⟨(-n).toNat, by omega⟩
      have HE : Hid (laidB d n = [48, 46] ++ zs k ++ d) := by show _ = _; unfold laidB; rw [if_neg a1, if_pos a2, hk]; rfl
      have HR := Hid.mk' (Tryz.strings_Repeat ⟨#[48]⟩ k w (by omega) (by simp [ByteArray.size]; omega))
      rw [show (⟨#[48]⟩ : ByteArray).data.toList = [48] from rfl, repeat_zs] at HR
      have hz := Sb_size (zs k)
      have hz2 : (zs k).length = k := by simp [zs]
      have hz3 : ((Sb (zs k)).size : Int) ≤ 5 := by omega
      clear hz hz2
      have b1' : -5 ≤ n := by omega
      go_enter Tryz.func146, Tryz.ntmps146
      go_wp2_with fail
      refine HR.out.mono ?_
      rintro e1 w1 ⟨rfl, b1⟩
      rw [show ∀ I : List UInt8, (⟨I.toArray⟩ : ByteArray) = Sb I from fun _ => rfl]
      go_wp2
      go_ret
      refine ⟨congrArg (fun s => Ending.returned (.string s)) (Sb_ext ?_), b1⟩
      rw [HE.out]
      simp only [Sb4846, Sb_append, Sb_list]
    · by_cases a3 : n < d.length
      · obtain ⟨k, rfl⟩ : ∃ k : Nat, n = (k : Int) := ⟨n.toNat, by omega⟩
        have HE : Hid (laidB d k = d.take k ++ 46 :: d.drop k) := by show _ = _; unfold laidB; rw [if_neg a1, if_neg a2, if_pos a3]; rfl
        have hk : k < d.length := by omega
        have hk2 : k ≤ 21 := by omega
        have hk0 : 0 < k := by omega
        clear a1 a2 a3
        go_enter Tryz.func146, Tryz.ntmps146
        go_wp2_with fail
        go_region
        go_wp2
        go_ret
        refine ⟨congrArg (fun s => Ending.returned (.string s)) (Sb_ext ?_), below_draws (Below.refl _ _) 1⟩
        rw [HE.out]
        simp only [Sb_extract, Sb46, Sb_append, Sb_list]
        simp
      · obtain ⟨k, hk⟩ : ∃ k : Nat, n - (d.length : Int) = (k : Int) := ⟨(n - d.length).toNat, by omega⟩
        have HE : Hid (laidB d n = d ++ zs k) := by show _ = _; unfold laidB; rw [if_neg a1, if_neg a2, if_neg a3, hk]; rfl
        have HR := Hid.mk' (Tryz.strings_Repeat ⟨#[48]⟩ k w (by omega) (by simp [ByteArray.size]; omega))
        rw [show (⟨#[48]⟩ : ByteArray).data.toList = [48] from rfl, repeat_zs] at HR
        have hz := Sb_size (zs k)
        have hz2 : (zs k).length = k := by simp [zs]
        have hz3 : ((Sb (zs k)).size : Int) ≤ 21 := by omega
        clear hz hz2
        have c1 : (d.length : Int) ≤ n := by omega
        have c2 : 0 < n := by omega
        have c3 : n ≤ 21 := by omega
        clear a1 a2 a3
        go_enter Tryz.func146, Tryz.ntmps146
        go_wp2_with fail
        refine HR.out.mono ?_
        rintro e1 w1 ⟨rfl, b1⟩
        rw [show ∀ I : List UInt8, (⟨I.toArray⟩ : ByteArray) = Sb I from fun _ => rfl]
        go_wp2
        go_ret
        refine ⟨congrArg (fun s => Ending.returned (.string s)) (Sb_ext ?_), b1⟩
        rw [HE.out]
        simp only [Sb_append, Sb_list]
end Go.Proofs.YtbkkkpfoaggejaaGreatDoor

namespace Go.Proofs.YtbkkkpfoaggejaaGreatDoor
set_option linter.unusedVariables false
open Go.RowKit Fl

theorem gtM (x : Nat) (hx : x < 18446744073709551616) : (FloatKind.f64.format.order x 9218868437227405311 == some Ordering.gt) = decide (x = 9218868437227405312) := by
  rw [f64]
  by_cases hn : nan x
  · rw [order_nan _ _ hx (by omega) (.inl hn)]
    unfold nan at hn
    rw [decide_eq_false (by omega)]
    rfl
  · rw [order_key _ _ hx (by omega) hn (by unfold nan; omega)]
    have k2 : key 9218868437227405311 = 9218868437227405311 := by unfold key; rw [if_neg (by omega)]; rfl
    rw [k2]
    unfold nan at hn
    by_cases e : x = 9218868437227405312
    · have k1 : key x = (x : Int) := by unfold key; rw [if_neg (by omega)]; omega
      rw [decide_eq_true e, k1, Int.compare_eq_gt.2 (by omega)]
      rfl
    · have k1 : key x ≤ 9218868437227405311 := by unfold key; split <;> omega
      have : compare (key x) 9218868437227405311 ≠ .gt := fun h => by have := Int.compare_eq_gt.1 h; omega
      rw [decide_eq_false e]
      generalize compare (key x) 9218868437227405311 = o at this ⊢
      cases o <;> simp at this ⊢
set_option maxHeartbeats 400000 in
theorem isInf1_any (x : Nat) (w : World) (h : x < 18446744073709551616) :
    Calls Tryz.prog 86 #[.float .f64 x, .int .i64 1] w fun e w' => e = .returned (.bool (decide (x = 9218868437227405312))) ∧ w' = w := by
  have hg := gtM x h
  go_enter Tryz.func86, Tryz.ntmps86
  go_wp2
  go_ret
  exact ⟨rfl, rfl⟩
/-- The text of a number that is not below 0, or of none. -/
def unsB (x : Nat) : List UInt8 := if nan x then [78, 97, 78] else if x = 9218868437227405312 then [73, 110, 102, 105, 110, 105, 116, 121] else if x % 9223372036854775808 = 0 then [48] else posB x
set_option maxHeartbeats 1000000 in
set_option maxRecDepth 100000 in
theorem showUns_any (x : Nat) (w : World) (hx : x < 18446744073709551616) (hp : nan x ∨ x ≤ 9218868437227405312 ∨ x % 9223372036854775808 = 0) (hl : Hid (Laid w)) :
    Calls Tryz.prog 130 #[.float .f64 x] w fun e w' => e = .returned (.string (Sb (unsB x))) ∧ Below w.heap.size w w' := by
  have HN := Hid.mk' (fun W => isNaN_any x W hx)
  have HI := Hid.mk' (fun W => isInf1_any x W hx)
  have e0 := eq0 x hx
  by_cases h1 : nan x
  · rw [decide_eq_true h1] at HN
    have HE : Hid (unsB x = [78, 97, 78]) := by show _ = _; unfold unsB; rw [if_pos h1]
    go_enter Tryz.func130, Tryz.ntmps130
    go_wp2_with (go_at_call 84; refine (HN.out _).mono ?_; rintro e w1 ⟨rfl, hw1⟩; rw [hw1]; clear hw1 w1)
    go_ret
    exact ⟨by rw [HE.out]; rfl, Below.refl _ _⟩
  · rw [decide_eq_false h1] at HN
    by_cases h2 : x = 9218868437227405312
    · rw [decide_eq_true h2] at HI
      have HE : Hid (unsB x = [73, 110, 102, 105, 110, 105, 116, 121]) := by show _ = _; unfold unsB; rw [if_neg h1, if_pos h2]
      clear h2
      go_enter Tryz.func130, Tryz.ntmps130
      go_wp2_with (first | (go_at_call 84; refine (HN.out _).mono ?_; rintro e w1 ⟨rfl, hw1⟩; rw [hw1]; clear hw1 w1) | (go_at_call 86; refine (HI.out _).mono ?_; rintro e w1 ⟨rfl, hw1⟩; rw [hw1]; clear hw1 w1))
      go_ret
      exact ⟨by rw [HE.out]; rfl, Below.refl _ _⟩
    · rw [decide_eq_false h2] at HI
      by_cases h3 : x % 9223372036854775808 = 0
      · rw [decide_eq_true h3] at e0
        have HE : Hid (unsB x = [48]) := by show _ = _; unfold unsB; rw [if_neg h1, if_neg h2, if_pos h3]
        clear h3
        go_enter Tryz.func130, Tryz.ntmps130
        go_wp2_with (first | (go_at_call 84; refine (HN.out _).mono ?_; rintro e w1 ⟨rfl, hw1⟩; rw [hw1]; clear hw1 w1) | (go_at_call 86; refine (HI.out _).mono ?_; rintro e w1 ⟨rfl, hw1⟩; rw [hw1]; clear hw1 w1))
        go_ret
        exact ⟨by rw [HE.out]; rfl, Below.refl _ _⟩
      · rw [decide_eq_false h3] at e0
        have hb : 0 < x ∧ x < 9218868437227405312 := by unfold nan at *; omega
        have HE : Hid (unsB x = posB x) := by show _ = _; unfold unsB; rw [if_neg h1, if_neg h2, if_neg h3]
        have HS := Hid.mk' (fun W hW => shortest_any x W hb.1 hb.2 hW)
        have hd := shDs_len x hb.1 hb.2
        have hX := shX_range x hb.1 hb.2
        have HL := Hid.mk' (fun W hW => laid_any (u8s (shDs x)) (shX x + 1) W (by simp [u8s]; omega) ⟨by omega, by omega⟩ hW)
        rw [show laidB (u8s (shDs x)) (shX x + 1) = posB x from rfl] at HL
        generalize u8s (shDs x) = D at HS HL
        generalize shX x = X at *
        go_enter Tryz.func130, Tryz.ntmps130
        go_wp2_with (first | (go_at_call 84; refine (HN.out _).mono ?_; rintro e w1 ⟨rfl, hw1⟩; rw [hw1]; clear hw1 w1) | (go_at_call 86; refine (HI.out _).mono ?_; rintro e w1 ⟨rfl, hw1⟩; rw [hw1]; clear hw1 w1))
        refine (HS.out _ hl).mono ?_
        rintro e w1 ⟨rfl, b1⟩
        have hl1 : Hid (Laid w1) := hl.out.below b1
        go_wp2_with fail
        refine (HL.out _ hl1).mono ?_
        rintro e w2 ⟨rfl, b2⟩
        go_wp2
        go_ret
        exact ⟨by rw [HE.out]; rfl, b1.trans (b2.mono b1.size)⟩

set_option maxHeartbeats 400000 in
theorem text_any (s : ByteArray) (w : World) (hs : (s.size : Int) ≤ 1048576) :
    Calls Tryz.prog 129 #[.string s] w fun e w' => e = .returned (.string (ofFst (ofS s))) ∧ Below w.heap.size w w' := by
  have HO := Hid.mk' (of_any s w hs)
  generalize ofS s = r at HO ⊢
  go_enter Tryz.func129, Tryz.ntmps129
  go_wp2_with fail
  refine HO.out.mono ?_
  rintro e w1 ⟨rfl, b1⟩
  cases r with
  | ok bs =>
    dsimp only [ofEnd, ofFst]
    go_wp2
    go_ret
    exact ⟨rfl, b1⟩
  | error n =>
    dsimp only [ofEnd, ofFst]
    go_wp2
    go_ret
    exact ⟨rfl, b1⟩
theorem laidB_len (d : List UInt8) (n : Int) (hd : d.length ≤ 100) (hn : -9000 ≤ n ∧ n ≤ 9000) : (laidB d n).length ≤ 300 := by
  unfold laidB
  split
  · unfold sciB powB
    have h1 := Lib.itoa_length_le (-(n - 1)) (by omega) (by omega)
    have h2 := Lib.itoa_length_le (n - 1) (by omega) (by omega)
    have h3 : (d.take 1).length ≤ 1 := by simp; omega
    have h4 : (d.drop 1).length ≤ 100 := by simp; omega
    simp only [List.length_append, List.length_cons]
    split <;> split <;> simp only [List.length_cons, List.length_nil] <;> omega
  · split
    · simp [zs]; omega
    · split
      · simp; omega
      · simp [zs]; omega
theorem unsB_len (x : Nat) (hx : x ≤ 9218868437227405312 ∨ nan x ∨ x % 9223372036854775808 = 0) : (unsB x).length ≤ 300 := by
  unfold unsB
  split
  · simp
  · rename_i h1
    split
    · simp
    · split
      · simp
      · rename_i h2 h3
        have hb : 0 < x ∧ x < 9218868437227405312 := by unfold nan at *; omega
        have hd := shDs_len x hb.1 hb.2
        have hX := shX_range x hb.1 hb.2
        exact laidB_len _ _ (by simp [u8s]; omega) ⟨by omega, by omega⟩
/-- The text of any number by its bits. -/
def showB (x : Nat) : List UInt8 := if 9223372036854775808 < x ∧ ¬ nan x then 45 :: unsB (x % 9223372036854775808) else unsB x
theorem showB_neg (x : Nat) (hx : 9223372036854775808 < x) (hn : ¬ nan x) : showB x = 45 :: unsB (x % 9223372036854775808) := by
  unfold showB
  rw [if_pos ⟨hx, hn⟩]
theorem showB_pos (x : Nat) (hx : nan x ∨ ¬ 9223372036854775808 < x) : showB x = unsB x := by
  unfold showB
  rw [if_neg (fun h => hx.elim h.2 (fun q => q h.1))]
theorem showB_len (x : Nat) (hx : x < 18446744073709551616) : (showB x).length ≤ 301 := by
  unfold showB
  split
  · rename_i h
    have := unsB_len (x % 9223372036854775808) (by have := h.2; unfold nan at *; omega)
    simp
    omega
  · rename_i h
    have := unsB_len x (by unfold nan at *; omega)
    omega
set_option maxHeartbeats 1000000 in
set_option maxRecDepth 100000 in
theorem show_any (x : Nat) (w : World) (hx : x < 18446744073709551616) (hl : Hid (Laid w)) :
    Calls Tryz.prog 120 #[.float .f64 x] w fun e w' => e = .returned (.string (ofFst (ofS (Sb (showB x))))) ∧ Below w.heap.size w w' := by
  by_cases h1 : 9223372036854775808 < x ∧ ¬ nan x
  · have hlt := lt0 x hx h1.2
    rw [decide_eq_true h1.1] at hlt
    have hy0 : x % 9223372036854775808 ≤ 9218868437227405312 := by have := h1.2; unfold nan at this; omega
    have hneg : Op.negFloat .f64 x = x % 9223372036854775808 := by
      have := neg_neg' (x % 9223372036854775808) (by omega)
      rw [show 9223372036854775808 + x % 9223372036854775808 = x by omega] at this
      exact this
    have HE := Hid.mk' (showB_neg x h1.1 h1.2)
    have hlen := unsB_len (x % 9223372036854775808) (.inl hy0)
    generalize x % 9223372036854775808 = y at *
    have HU := Hid.mk' (fun W hW => showUns_any y W (by omega) (.inr (.inl hy0)) hW)
    have hsz := Sb_size (unsB y)
    have hs2 : ((Sb (unsB y)).size : Int) ≤ 300 := by omega
    have HT := Hid.mk' (fun W => text_any (Sb (45 :: unsB y)) W (by rw [Sb_size]; simp; omega))
    clear h1 hlen hsz
    go_enter Tryz.func120, Tryz.ntmps120
    go_wp2_with fail
    refine (HU.out _ hl).mono ?_
    rintro e w1 ⟨rfl, b1⟩
    go_wp2_with fail
    rw [show (⟨#[45]⟩ : ByteArray) ++ Sb (unsB y) = Sb (45 :: unsB y) from Sb_append [45] _]
    refine (HT.out _).mono ?_
    rintro e w2 ⟨rfl, b2⟩
    go_wp2
    go_ret
    exact ⟨by rw [HE.out]; rfl, b1.trans (b2.mono b1.size)⟩
  · have h2 : nan x ∨ ¬ 9223372036854775808 < x := by
      by_cases n : nan x
      · exact .inl n
      · exact .inr fun h => h1 ⟨h, n⟩
    have hlt : (FloatKind.f64.format.order x 0 == some Ordering.lt) = false := by
      by_cases n : nan x
      · rw [f64, order_nan x 0 hx (by omega) (.inl n)]; rfl
      · rw [lt0 x hx n, decide_eq_false (h2.resolve_left n)]
    have hp : nan x ∨ x ≤ 9218868437227405312 ∨ x % 9223372036854775808 = 0 := by unfold nan at *; omega
    have HE := Hid.mk' (showB_pos x h2)
    have HU := Hid.mk' (fun W hW => showUns_any x W hx hp hW)
    have hlen := unsB_len x (by unfold nan at *; omega)
    have HT := Hid.mk' (fun W => text_any (Sb (unsB x)) W (by rw [Sb_size]; omega))
    clear h1 hlen h2 hp
    go_enter Tryz.func120, Tryz.ntmps120
    go_wp2_with fail
    refine (HU.out _ hl).mono ?_
    rintro e w1 ⟨rfl, b1⟩
    go_wp2_with fail
    refine (HT.out _).mono ?_
    rintro e w2 ⟨rfl, b2⟩
    go_wp2
    go_ret
    exact ⟨by rw [HE.out]; rfl, b1.trans (b2.mono b1.size)⟩
end Go.Proofs.YtbkkkpfoaggejaaGreatDoor
