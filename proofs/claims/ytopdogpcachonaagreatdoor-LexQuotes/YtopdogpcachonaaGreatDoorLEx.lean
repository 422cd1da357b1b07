/- What next tells at names, signs, numbers, templates and the end. -/
import Derived.Test.YtopdogpcachonaaGreatDoorLNx2
import Derived.Test.YtopdogpcachonaaGreatDoorLTl
namespace Go.Proofs.YtopdogpcachonaaGreatDoor
set_option linter.unusedVariables false
open Go.RowKit Go.Shelf

def blk' (S : ByteArray) (i : Nat) : Bool := decide (by' S i < 128 ∧ by' S i ≠ 47) && (blankZ (by' S i) || endsZ (by' S i))
def stp (S : ByteArray) (i : Nat) : Bool := decide (S.size ≤ i) || (decide (by' S i < 128 ∧ by' S i ≠ 47) && !blankZ (by' S i) && !endsZ (by' S i))
/-- So many blanks, and then something else. -/
structure Gap (S : ByteArray) (a k : Nat) : Prop where
  le : a + k ≤ S.size
  bl : ∀ j, j < k → blk' S (a + j) = true
  st : stp S (a + k) = true
theorem skip_gap {B rb : Nat} {S : ByteArray} {a k : Nat} {f : Int} {ov : Value} {op : List Int} (g : Gap S a k) (hs : (S.size : Int) ≤ 262144) (W : World) (h : Rdr B W rb S (a : Nat) f ov op) :
    Calls Tryz.prog 42 #[.pointer (some ⟨rb, 0, none⟩)] W fun e w' => e = .returned (.bool (lineB S a k)) ∧ Rdr B w' rb S ((a + k : Nat) : Int) ((a + k : Nat) : Int) ov op ∧ TF (RdF rb ov) B W w' :=
  skip_any k a W h hs g.le (fun j hj => by
    have q := g.bl j hj
    unfold blk' at q
    rw [Bool.and_eq_true, decide_eq_true_eq] at q
    exact ⟨q.1.1, q.1.2, q.2⟩) (fun hlt => by
    have q := g.st
    unfold stp at q
    rw [show decide (S.size ≤ a + k) = false from decide_eq_false (by omega), Bool.false_or, Bool.and_eq_true, Bool.and_eq_true, decide_eq_true_eq] at q
    exact ⟨q.1.1.1, q.1.1.2, by simpa using q.1.2, by simpa using q.2⟩)
theorem kp_of {w0 w W : World} {B rb : Nat} {ov : Value} (hB : w0.heap.size ≤ B) (hk : Kp w0 w) (h : Below w.heap.size w W ∨ TF (RdF rb ov) B w W) : Kp w0 W := fun k o ho => by
  rcases h with h | h
  · exact Kp.of_below h k o (hk k o ho)
  · exact h.same k o (.inr (Nat.lt_of_lt_of_le (Array.getElem?_eq_some_iff.1 ho).1 hB)) (hk k o ho)
section
variable {w0 : World} {S : ByteArray} {nv : Bool} {a k0 : Nat} {f : Int} {op : List Int}
theorem nx_name (k : Nat) (g : Gap S a k0) (hs : (S.size : Int) ≤ 262144) (hk : a + k0 + k ≤ S.size) (hk0 : 0 < k) (hn : nmN (S.extract (a + k0) S.size).data.toList 0 = k) (hw : wordB (S.extract (a + k0) (a + k0 + k)) = false) :
    NextIs w0 S nv a f op ⟨1, S.extract (a + k0) (a + k0 + k), ⟨#[]⟩, 0, ((a + k0 : Nat) : Int), ((a + k0 + k : Nat) : Int), lineB S a k0⟩ 0 (a + k0 + k) ((a + k0 : Nat) : Int) op :=
  fun B rb ov w hB hkp hnv h => next_ok (t := ⟨1, S.extract (a + k0) (a + k0 + k), ⟨#[]⟩, 0, 0, 0, false⟩) w h (fun W hW => skip_gap g hs W hW)
    (fun W _ hW => token_name (a + k0) W hW hs (Hid.mk' rfl) (by omega) rfl hk0 hn (fun W' hb => (name_c k (a + k0) W' (hW.below hb) hs hk hn hw).mono (fun e w' q => q.gv)))
theorem nx_sign (k m : Nat) (T : ByteArray) (z : Int) (g : Gap S a k0) (hs : (S.size : Int) ≤ 262144) (hk : a + k0 + k ≤ S.size) (hk1 : 1 ≤ k ∧ k ≤ m) (hz : PlainAid.bt (S.extract (a + k0) S.size) 0 = z) (hn : nmN (S.extract (a + k0) S.size).data.toList 0 = 0)
    (hm : min (4 : Int) ((S.extract (a + k0) S.size).size : Int) = m) (hy : signB ((S.extract (a + k0) S.size).extract 0 k) = true) (hno : ∀ j, k < j → j ≤ m → signB ((S.extract (a + k0) S.size).extract 0 j) = false)
    (h46 : (z == 46) = false) (hd : digZ z = false) (h34 : (z == 34) = false) (h39 : (z == 39) = false) (h96 : (z == 96) = false) (h125 : (z == 125) = false) (hT : S.extract (a + k0) (a + k0 + k) = T) (e1 : (T.toList == [123]) = false) (e2 : (T.toList == [125]) = false) :
    NextIs w0 S nv a f op ⟨3, T, ⟨#[]⟩, 0, ((a + k0 : Nat) : Int), ((a + k0 + k : Nat) : Int), lineB S a k0⟩ 0 (a + k0 + k) ((a + k0 : Nat) : Int) op :=
  fun B rb ov w hB hkp hnv h => next_ok (t := ⟨3, T, ⟨#[]⟩, 0, 0, 0, false⟩) w h (fun W hW => skip_gap g hs W hW)
    (fun W _ hW => token_sign (a + k0) W hW hs (Hid.mk' rfl) (by omega) hz hn h46 hd h34 h39 h96 h125 (fun W' hb => (sign_c k (a + k0) m W' (hW.below hb) hs hk (Hid.mk' rfl) hm hk1 hy hno hT e1 e2).mono (fun e w' q => q.gv)))
theorem nx_open (k m : Nat) (n : Int) (g : Gap S a k0) (hs : (S.size : Int) ≤ 262144) (hk : a + k0 + k ≤ S.size) (hk1 : 1 ≤ k ∧ k ≤ m) (hz : PlainAid.bt (S.extract (a + k0) S.size) 0 = 123) (hn : nmN (S.extract (a + k0) S.size).data.toList 0 = 0)
    (hm : min (4 : Int) ((S.extract (a + k0) S.size).size : Int) = m) (hy : signB ((S.extract (a + k0) S.size).extract 0 k) = true) (hno : ∀ j, k < j → j ≤ m → signB ((S.extract (a + k0) S.size).extract 0 j) = false) (hT : S.extract (a + k0) (a + k0 + k) = ⟨#[123]⟩) (hn0 : -90 ≤ n ∧ n ≤ 90000) :
    NextIs w0 S nv a f [n] ⟨3, ⟨#[123]⟩, ⟨#[]⟩, 0, ((a + k0 : Nat) : Int), ((a + k0 + k : Nat) : Int), lineB S a k0⟩ 0 (a + k0 + k) ((a + k0 : Nat) : Int) [n + 1] :=
  fun B rb ov w hB hkp hnv h => by
    obtain ⟨gg, c, rfl, _⟩ := h.one
    exact next_ok (t := ⟨3, ⟨#[123]⟩, ⟨#[]⟩, 0, 0, 0, false⟩) w h (fun W hW => skip_gap g hs W hW)
      (fun W _ hW => token_sign (a + k0) W hW hs (Hid.mk' rfl) (by omega) hz hn rfl rfl rfl rfl rfl rfl (fun W' hb => (sign_open k (a + k0) m W' (hW.below hb) hs hk (Hid.mk' rfl) hm hk1 hy hno hT hn0).mono (fun e w' q => q.gv)))
theorem nx_shut (k m : Nat) (n : Int) (g : Gap S a k0) (hs : (S.size : Int) ≤ 262144) (hk : a + k0 + k ≤ S.size) (hk1 : 1 ≤ k ∧ k ≤ m) (hz : PlainAid.bt (S.extract (a + k0) S.size) 0 = 125) (hn : nmN (S.extract (a + k0) S.size).data.toList 0 = 0)
    (hm : min (4 : Int) ((S.extract (a + k0) S.size).size : Int) = m) (hy : signB ((S.extract (a + k0) S.size).extract 0 k) = true) (hno : ∀ j, k < j → j ≤ m → signB ((S.extract (a + k0) S.size).extract 0 j) = false) (hT : S.extract (a + k0) (a + k0 + k) = ⟨#[125]⟩) (hn0 : -90 ≤ n ∧ n ≤ 90000) (hnz : (n == 0) = false) :
    NextIs w0 S nv a f [n] ⟨3, ⟨#[125]⟩, ⟨#[]⟩, 0, ((a + k0 : Nat) : Int), ((a + k0 + k : Nat) : Int), lineB S a k0⟩ 0 (a + k0 + k) ((a + k0 : Nat) : Int) [n + (-1)] :=
  fun B rb ov w hB hkp hnv h => by
    obtain ⟨gg, c, rfl, _⟩ := h.one
    exact next_ok (t := ⟨3, ⟨#[125]⟩, ⟨#[]⟩, 0, 0, 0, false⟩) w h (fun W hW => skip_gap g hs W hW)
      (fun W _ hW => token_shut (a + k0) W hW hs (Hid.mk' rfl) (by omega) hz hn rfl (fun W2 h2 => by have q := closes_one W2 h2; rw [hnz] at q; exact q) (fun W' hb => (sign_shut k (a + k0) m W' (hW.below hb) hs hk (Hid.mk' rfl) hm hk1 hy hno hT hn0).mono (fun e w' q => q.gv)))
theorem nx_num (g : Gap S a k0) (hs : (S.size : Int) ≤ 262144) (hl : LaidN w0) (hk : a + k0 + 3 ≤ S.size) (hR : S.extract (a + k0) S.size = Sb [49, 46, 53]) :
    NextIs w0 S nv a f op ⟨4, ⟨#[]⟩, ⟨#[]⟩, 4609434218613702656, ((a + k0 : Nat) : Int), ((a + k0 + 3 : Nat) : Int), lineB S a k0⟩ 0 (a + k0 + 3) ((a + k0 : Nat) : Int) op :=
  fun B rb ov w hB hkp hnv h => next_ok (t := ⟨4, ⟨#[]⟩, ⟨#[]⟩, 4609434218613702656, 0, 0, false⟩) w h (fun W hW => skip_gap g hs W hW)
    (fun W hor hW => token_number (a + k0) W hW hs (Hid.mk' hR) (by omega) (z := 49) (by decide) (by decide) rfl rfl (fun W' hb => (number_c (a + k0) W' (hW.below hb) (by omega) hs (Hid.mk' ((hl.kp (kp_of hB hkp hor)).below hb)) (Hid.mk' hR)).mono (fun e w' q => q.gv)))
theorem nx_end (g : Gap S a k0) (hs : (S.size : Int) ≤ 262144) (hk : ((a + k0 : Nat) : Int) = (S.size : Int)) :
    NextIs w0 S nv a f op ⟨0, ⟨#[]⟩, ⟨#[]⟩, 0, ((a + k0 : Nat) : Int), ((a + k0 : Nat) : Int), lineB S a k0⟩ 0 (a + k0) ((a + k0 : Nat) : Int) op :=
  fun B rb ov w hB hkp hnv h => next_ok (t := ⟨0, ⟨#[]⟩, ⟨#[]⟩, 0, 0, 0, false⟩) w h (fun W hW => skip_gap g hs W hW) (fun W _ hW => token_end (a + k0) W hW hk)
theorem nx_none (m : Nat) (z : Int) (g : Gap S a k0) (hs : (S.size : Int) ≤ 262144) (hlt : a + k0 < S.size) (hz : PlainAid.bt (S.extract (a + k0) S.size) 0 = z) (hn : nmN (S.extract (a + k0) S.size).data.toList 0 = 0)
    (hm : min (4 : Int) ((S.extract (a + k0) S.size).size : Int) = m) (hno : ∀ j, 0 < j → j ≤ m → signB ((S.extract (a + k0) S.size).extract 0 j) = false)
    (h46 : (z == 46) = false) (hd : digZ z = false) (h34 : (z == 34) = false) (h39 : (z == 39) = false) (h96 : (z == 96) = false) (h125 : (z == 125) = false) :
    NextIs w0 S nv a f op ⟨0, ⟨#[]⟩, ⟨#[]⟩, 0, ((a + k0 : Nat) : Int), 0, false⟩ 50 (a + k0) ((a + k0 : Nat) : Int) op :=
  fun B rb ov w hB hkp hnv h => next_no w h (fun W hW => skip_gap g hs W hW)
    (fun W hW => token_throws (t := ⟨0, ⟨#[]⟩, ⟨#[]⟩, 0, 0, 0, false⟩) (at' := 0) (op' := []) (a + k0) W hW hs (Hid.mk' rfl) (by omega) hz hn h46 hd h34 h39 h96 h125 (fun W' hb => sign_throws (a + k0) m W' (hW.below hb) (by omega) (Hid.mk' rfl) hm hno))
/-- What a template's piece is: one letter, and an end. -/
structure Pc (S : ByteArray) (p c en : Nat) (x : UInt8) (E : ByteArray) (b0 b1 : Bool) : Prop where
  hR : 2 ≤ (S.extract p S.size).size
  hy : ∀ h : 1 < (S.extract p S.size).size, (S.extract p S.size)[1].toNat < 128
  hpn : p + 1 + en ≤ S.size
  hen : (E.size : Int) = en
  hne : E.toList.isEmpty = false
  hx0 : (S.extract p S.size).data.toList[0]? = some x
  hx : x.toNat = c
  hc : c < 128
  q1 : ((c : Int) == 92) = false
  q2 : ((c : Int) == 10) = false
  q3 : ((c : Int) == 13) = false
  q4 : x ≠ 96
  q5 : x ≠ 36
  h0 : Lib.hasPrefix ((S.extract p S.size).extract 1 (S.extract p S.size).size).data.toList [96] = b0
  h1 : Lib.hasPrefix ((S.extract p S.size).extract 1 (S.extract p S.size).size).data.toList [36, 123] = b1
  hE : (if b0 then (⟨#[96]⟩ : ByteArray) else if b1 then ⟨#[36, 123]⟩ else ⟨#[]⟩) = E
theorem piece_pc {B rb : Nat} {ov : Value} {p c en : Nat} {x : UInt8} {E : ByteArray} {b0 b1 bl : Bool} (P : Pc S (p + 1) c en x E b0 b1) (hs : (S.size : Int) ≤ 262144) (hb : (E.toList == [96]) = bl) (w : World) (h : Rdr B w rb S (p : Nat) f ov op) :
    Calls Tryz.prog 88 #[.pointer (some ⟨rb, 0, none⟩)] w fun e w' => e = .returned (.tuple #[.string ⟨(pb c).toArray⟩, .bool bl]) ∧ Rdr B w' rb S ((p + 1 + 1 + en : Nat) : Int) f ov op ∧ TF (RdF rb ov) B w w' :=
  piece_c p (p + 1 + 1 + en) w h (by have := P.hpn; omega) hb (fun W eb hW ce0 ce1 => value_c (p + 1) c en eb E b0 b1 x W hW hs ce0 ce1 (Hid.mk' rfl) P.hR P.hpn P.hen P.hne (by have := P.hR; omega) (P.hy _) P.hx0 P.hx P.hc P.q1 P.q2 P.q3 P.q4 P.q5 P.h0 P.h1 P.hE)
theorem nx_head {c en : Nat} {x : UInt8} {E : ByteArray} {b0 b1 : Bool} (g : Gap S a k0) (P : Pc S (a + k0 + 1) c en x E b0 b1) (hs : (S.size : Int) ≤ 262144) (hb : (E.toList == [96]) = false) (hz : PlainAid.bt (S.extract (a + k0) S.size) 0 = 96) (hn : nmN (S.extract (a + k0) S.size).data.toList 0 = 0) :
    NextIs w0 S true a f [] ⟨7, ⟨#[]⟩, ⟨(pb c).toArray⟩, 0, ((a + k0 : Nat) : Int), ((a + k0 + 1 + 1 + en : Nat) : Int), lineB S a k0⟩ 0 (a + k0 + 1 + 1 + en) ((a + k0 : Nat) : Int) [0] :=
  fun B rb ov w hB hkp hnv h => by
    obtain rfl := hnv rfl
    exact next_ok (t := ⟨7, ⟨#[]⟩, ⟨(pb c).toArray⟩, 0, 0, 0, false⟩) w h (fun W hW => skip_gap g hs W hW)
      (fun W _ hW => token_template (a + k0) W hW hs (Hid.mk' rfl) (by have := P.hpn; omega) hz hn rfl (fun W' hb' => template_c (a + k0) (a + k0 + 1 + 1 + en) W' (hW.below hb') (fun W2 h2 => piece_pc P hs hb W2 h2)))
theorem nx_tail {c en : Nat} {x : UInt8} {E : ByteArray} {b0 b1 : Bool} (g : Gap S a k0) (P : Pc S (a + k0 + 1) c en x E b0 b1) (hs : (S.size : Int) ≤ 262144) (hb : (E.toList == [96]) = true) (hz : PlainAid.bt (S.extract (a + k0) S.size) 0 = 125) (hn : nmN (S.extract (a + k0) S.size).data.toList 0 = 0) :
    NextIs w0 S nv a f [0] ⟨9, ⟨#[]⟩, ⟨(pb c).toArray⟩, 0, ((a + k0 : Nat) : Int), ((a + k0 + 1 + 1 + en : Nat) : Int), lineB S a k0⟩ 0 (a + k0 + 1 + 1 + en) ((a + k0 : Nat) : Int) [] :=
  fun B rb ov w hB hkp hnv h => by
    obtain ⟨gg, cc, rfl, _⟩ := h.one
    exact next_ok (t := ⟨9, ⟨#[]⟩, ⟨(pb c).toArray⟩, 0, 0, 0, false⟩) w h (fun W hW => skip_gap g hs W hW)
      (fun W _ hW => token_goOn (a + k0) W hW hs (Hid.mk' rfl) (by have := P.hpn; omega) hz hn rfl (fun W2 h2 => closes_one W2 h2) (fun W' hb' => goOn_c (a + k0) (a + k0 + 1 + 1 + en) W' (hW.below hb') (fun W2 h2 => piece_pc P hs hb W2 h2)))
end
end Go.Proofs.YtopdogpcachonaaGreatDoor
