/- lex.skip over blanks and ends of lines that are ASCII. -/
import Derived.Test.YtopdogpcachonaaGreatDoorLRd
namespace Go.Proofs.YtopdogpcachonaaGreatDoor
set_option linter.unusedVariables false
open Go.RowKit Go.Shelf

def lineB (S : ByteArray) (an k : Nat) : Bool := (List.range k).any (fun j => endsZ (by' S (an + j)))
theorem lineB_succ (S : ByteArray) (an k : Nat) : lineB S an (k + 1) = (lineB S an k || endsZ (by' S (an + k))) := by
  unfold lineB; rw [List.range_succ, List.any_append]; simp
theorem rest_list (S : ByteArray) (p : Nat) : (S.extract p S.size).data.toList = S.data.toList.drop p := by
  rw [ByteArray.data_extract, Array.toList_extract, List.extract_eq_take_drop]
  rw [List.take_of_length_le (by rw [List.length_drop]; exact Nat.le_refl _)]
theorem rest_first (S : ByteArray) (p : Nat) (h : p < S.size) : (S.extract p S.size).data.toList[0]? = some S[p] := by
  rw [rest_list, List.getElem?_drop, Nat.add_zero, List.getElem?_eq_getElem (by simpa using h)]
  rfl
theorem pre_no (R : ByteArray) (x : UInt8) (h : R.data.toList[0]? = some x) (y : UInt8) (l : List UInt8) (hx : x ≠ y) : Lib.hasPrefix R.data.toList (y :: l) = false := by
  unfold Lib.hasPrefix
  cases hR : R.data.toList with
  | nil => rfl
  | cons a t =>
    rw [hR] at h
    simp at h
    subst h
    simp [List.isPrefixOf, Ne.symm hx]
theorem ext_one (R : ByteArray) (x : UInt8) (h : R.data.toList[0]? = some x) : R.extract 0 1 = ⟨#[x]⟩ := by
  apply ByteArray.ext
  apply Array.toList_inj.1
  rw [ByteArray.data_extract, Array.toList_extract, List.extract_eq_take_drop]
  cases hR : R.data.toList with
  | nil => rw [hR] at h; simp at h
  | cons a t =>
    rw [hR] at h
    simp at h
    subst h
    rfl
theorem idx_one (p : Nat → Bool) (x : UInt8) (hx : x.toNat < 128) : decide (0 ≤ Lib.idxFunc p true ⟨#[x]⟩) = p x.toNat := by
  have hd : Utf8.decode ⟨#[x]⟩ 0 = (x.toNat, 1) := decode_ascii ⟨#[x]⟩ 0 (Nat.lt_succ_self 0) hx
  have hs : 0 < (⟨#[x]⟩ : ByteArray).size := Nat.lt_succ_self 0
  unfold Lib.idxFunc
  rw [show (⟨#[x]⟩ : ByteArray).size = 0 + 1 from rfl, Lib.idxFuncFrom, if_pos hs, hd]
  cases p x.toNat
  · simp [Lib.idxFuncFrom]
  · simp
/-- Where the reader stands. -/
def posN (W : World) (rb : Nat) : Nat := (intOf ((W.cell? ⟨rb, 1, none⟩).getD (.int .i64 0))).toNat
theorem posN_of {B : Nat} {W : World} {rb : Nat} {S : ByteArray} {p : Nat} {g : Int} {ov : Value} {op : List Int} (h : Rdr B W rb S (p : Nat) g ov op) : posN W rb = p := by
  unfold posN; rw [h.cells.2.1]; rfl
theorem endsAt (w : World) : PredAt Tryz.prog 61 #[] encR (fun n => endsZ n) w := fun W x _ => (endsLine_any (x : Int) W).mono fun e w' ⟨h1, h2⟩ => ⟨h1, 0, h2⟩

set_option maxHeartbeats 4000000 in
set_option maxRecDepth 100000 in
theorem skip_any {B : Nat} {rb : Nat} {S : ByteArray} {f : Int} {ov : Value} {op : List Int} (k an : Nat) (w : World) (h : Rdr B w rb S (an : Nat) f ov op) (hs : (S.size : Int) ≤ 262144) (hk : an + k ≤ S.size)
    (hb : ∀ j, j < k → by' S (an + j) < 128 ∧ by' S (an + j) ≠ 47 ∧ (blankZ (by' S (an + j)) || endsZ (by' S (an + j))) = true)
    (hst : an + k < S.size → by' S (an + k) < 128 ∧ by' S (an + k) ≠ 47 ∧ blankZ (by' S (an + k)) = false ∧ endsZ (by' S (an + k)) = false) :
    Calls Tryz.prog 42 #[.pointer (some ⟨rb, 0, none⟩)] w fun e w' => e = .returned (.bool (lineB S an k)) ∧ Rdr B w' rb S ((an + k : Nat) : Int) ((an + k : Nat) : Int) ov op ∧ TF (RdF rb ov) B w w' := by
  have H := Hid.mk' h
  have HG := Hid.mk' h.ge
  have HB := Hid.mk' hb
  have HS := Hid.mk' hst
  clear h hb hst
  go_enter Tryz.func42, Tryz.ntmps42
  go_wp2
  go_loopw [3] (fun v wr => ∃ (j : Nat) (g : Int), v = .bool (lineB S an j) ∧ j ≤ k ∧ Hid (Rdr B wr rb S ((an + j : Nat) : Int) g ov op) ∧ Hid (TF (RdF rb ov) B w wr)) (fun v wr => an + k - posN wr rb)
  case atStart => exact ⟨0, f, rfl, Nat.zero_le _, H, Hid.mk' (TF.refl _ _ _)⟩
  case round =>
    obtain ⟨j, g, rfl, hj, HR, HT⟩ := hrel
    have hR := HR.out.setFrom ((an + j : Nat) : Int)
    have HR2 := Hid.mk' hR
    obtain ⟨c0, c1, c2, c3, cf⟩ := HR.out.cells
    obtain ⟨d0, d1, d2, d3, df⟩ := hR.cells
    clear hR
    have HP := Hid.mk' (posN_of HR.out)
    by_cases hlt : an + j < S.size
    · have hf := rest_first S (an + j) hlt
      obtain ⟨x, hx⟩ : ∃ x, S[an + j] = x := ⟨_, rfl⟩
      rw [hx] at hf
      have hbx : by' S (an + j) = x.toNat := by rw [by_get S _ hlt, hx]
      have hall : x.toNat < 128 ∧ x ≠ 47 := by
        have : by' S (an + j) < 128 ∧ by' S (an + j) ≠ 47 := by
          by_cases q : j < k
          · exact ⟨(HB.out j q).1, (HB.out j q).2.1⟩
          · obtain rfl : j = k := by omega
            exact ⟨(HS.out hlt).1, (HS.out hlt).2.1⟩
        rw [hbx] at this
        exact ⟨this.1, fun e => this.2 (by rw [e]; rfl)⟩
      have hbe : (j < k → (blankZ (x.toNat : Int) || endsZ (x.toNat : Int)) = true) ∧ (¬ j < k → blankZ (x.toNat : Int) = false ∧ endsZ (x.toNat : Int) = false) := by
        rw [← hbx]
        refine ⟨fun q => (HB.out j q).2.2, fun q => ?_⟩
        obtain rfl : j = k := by omega
        exact (HS.out hlt).2.2
      have hln : lineB S an (j + 1) = (lineB S an j || endsZ (x.toNat : Int)) := by rw [lineB_succ, hbx]
      obtain ⟨R, hRR⟩ : ∃ R, S.extract (an + j) S.size = R := ⟨_, rfl⟩
      rw [hRR] at hf
      have HD := Hid.mk' (fun W => Tryz.utf8_DecodeRuneInString_ascii R x W hf hall.1)
      have HP1 := Hid.mk' (fun W => Tryz.strings_HasPrefix R ⟨#[47, 47]⟩ W)
      rw [show (⟨#[47, 47]⟩ : ByteArray).data.toList = 47 :: [47] from rfl, pre_no R x hf 47 [47] hall.2] at HP1
      have HP2 := Hid.mk' (fun W => Tryz.strings_HasPrefix R ⟨#[47, 42]⟩ W)
      rw [show (⟨#[47, 42]⟩ : ByteArray).data.toList = 47 :: [42] from rfl, pre_no R x hf 47 [42] hall.2] at HP2
      have hrs : (1 : Int) ≤ (R.size : Int) := by rw [← hRR]; simp; omega
      have hex := ext_one R x hf
      have HCF := Hid.mk' (fun W => Tryz.strings_ContainsFunc 61 #[] (enters_of Tryz.func61 (by kernel_rfl) rfl) (fun n => endsZ n) ⟨#[x]⟩ W (endsAt W))
      rw [idx_one _ x hall.1, ← hex] at HCF
      have HBL := Hid.mk' (fun W => isBlank_any (x.toNat : Int) W)
      have HEL := Hid.mk' (fun W => endsLine_any (x.toNat : Int) W)
      have i1 : ((an + j : Nat) : Int) ≤ (S.size : Int) := by omega
      have HX := Hid.mk' hRR
      have HBE := Hid.mk' hbe
      have HLN := Hid.mk' hln
      obtain ⟨z, hz⟩ : ∃ z : Int, (x.toNat : Int) = z := ⟨_, rfl⟩
      rw [hz] at HD HCF HBL HEL HBE HLN
      obtain ⟨bb, hbb⟩ : ∃ bb, blankZ z = bb := ⟨_, rfl⟩
      obtain ⟨eb, heb⟩ : ∃ eb, endsZ z = eb := ⟨_, rfl⟩
      rw [hbb] at HBL HBE
      rw [heb] at HEL HBE HCF HLN
      obtain ⟨lv, hlv⟩ : ∃ lv, lineB S an j = lv := ⟨_, rfl⟩
      rw [hlv] at HLN ⊢
      obtain ⟨pj, hpj⟩ : ∃ pj, an + j = pj := ⟨_, rfl⟩
      rw [hpj] at c1 d0 d1 d2 d3 HR HR2 HP HX i1
      simp only [hpj] at df
      clear hf hall hbe hln hRR hex hbx hx hz hbb heb hlt
      have HLV := Hid.mk' hlv
      have HPJ := Hid.mk' hpj
      clear hlv hpj
      go_wp2_with fail
      go_quiet (fail)
      rw [HX.out]
      go_wp2_with fail
      refine (HD.out _).mono ?_; rintro e w1 ⟨rfl, hw1⟩; rw [hw1]; clear hw1 w1
      go_wp2_with fail
      refine (HP1.out _).mono ?_; rintro e w1 ⟨rfl, hw1⟩; rw [hw1]; clear hw1 w1
      go_wp2_with fail
      refine (HP2.out _).mono ?_; rintro e w1 ⟨rfl, hw1⟩; rw [hw1]; clear hw1 w1
      go_wp2_with fail
      refine (HBL.out _).mono ?_; rintro e w1 ⟨rfl, hw1⟩; rw [hw1]; clear hw1 w1
      have HW := Hid.mk' (HR2.out.below (Below.refl _ _))
      have HTT : Hid (TF (RdF rb ov) B w ((wr.setCell ⟨rb, 2, none⟩ (.int .i64 (pj : Nat))).drewN nq)) := Hid.mk' (HT.out.trans ((RdF.set _ HG.out).trans (TF.of_below (below_draws (Below.refl _ _) nq))))
      have HRQ : Hid (Rdr B ((wr.setCell ⟨rb, 2, none⟩ (.int .i64 (pj : Nat))).drewN nq) rb S (pj : Nat) (pj : Nat) ov op) := Hid.mk' (HR2.out.below (below_draws (Below.refl _ _) nq))
      obtain ⟨X, hX⟩ : ∃ X, (wr.setCell ⟨rb, 2, none⟩ (.int .i64 (pj : Nat))).drewN nq = X := ⟨_, rfl⟩
      rw [hX] at HTT HRQ
      simp only [hX]
      obtain ⟨x0, x1, x2, x3, xf⟩ := HRQ.out.cells
      clear hX c0 c1 c2 c3 cf d0 d1 d2 d3 df HW HR2 HR HT
      by_cases hjk : j < k
      · have h1 := HBE.out.1 hjk
        clear HBE
        have hfin : Hid (∀ Y, Below X.heap.size X Y → ∃ g', Hid (Rdr B (Y.setCell ⟨rb, 1, none⟩ (.int .i64 ((pj : Int) + 1))) rb S ((an + (j + 1) : Nat) : Int) g' ov op) ∧ Hid (TF (RdF rb ov) B w (Y.setCell ⟨rb, 1, none⟩ (.int .i64 ((pj : Int) + 1))))) := Hid.mk' (fun Y hY => by
          have q : ((an + (j + 1) : Nat) : Int) = (pj : Int) + 1 := by have := HPJ.out; omega
          rw [q]
          exact ⟨_, Hid.mk' ((HRQ.out.below hY).setAt _), Hid.mk' (HTT.out.trans ((TF.of_below hY).trans (RdF.set _ HG.out)))⟩)
        cases bb
        · simp only [Bool.false_or] at h1
          subst h1
          go_wp2_with fail
          refine (HEL.out _).mono ?_; rintro e w1 ⟨rfl, hw1⟩; rw [hw1]; clear hw1 w1
          cases lv
          · go_wp2_with fail
            refine (HCF.out _).mono ?_; rintro e w1 ⟨rfl, b1⟩
            obtain ⟨y0, y1, y2, y3, yf⟩ := (HRQ.out.below b1).cells
            have HF := Hid.mk' (hfin.out _ b1)
            clear b1 x0 x1 x2 x3 xf
            go_wp2
            go_roundw
            case rel => exact HF.out.elim fun g' hg' => ⟨j + 1, g', by rw [HLN.out]; first | rfl | simp, hjk, hg'.1, hg'.2⟩
            case measure => obtain ⟨g', hg', _⟩ := HF.out; have := posN_of hg'.out; have := HP.out; have := HPJ.out; omega
          · have HF := Hid.mk' (hfin.out _ (Below.refl _ _))
            go_wp2
            go_roundw
            case rel => exact HF.out.elim fun g' hg' => ⟨j + 1, g', by rw [HLN.out]; first | rfl | simp, hjk, hg'.1, hg'.2⟩
            case measure => obtain ⟨g', hg', _⟩ := HF.out; have := posN_of hg'.out; have := HP.out; have := HPJ.out; omega
        · cases lv
          · go_wp2_with fail
            refine (HCF.out _).mono ?_; rintro e w1 ⟨rfl, b1⟩
            obtain ⟨y0, y1, y2, y3, yf⟩ := (HRQ.out.below b1).cells
            have HF := Hid.mk' (hfin.out _ b1)
            clear b1 x0 x1 x2 x3 xf
            go_wp2
            go_roundw
            case rel => exact HF.out.elim fun g' hg' => ⟨j + 1, g', by rw [HLN.out]; first | rfl | simp, hjk, hg'.1, hg'.2⟩
            case measure => obtain ⟨g', hg', _⟩ := HF.out; have := posN_of hg'.out; have := HP.out; have := HPJ.out; omega
          · have HF := Hid.mk' (hfin.out _ (Below.refl _ _))
            go_wp2
            go_roundw
            case rel => exact HF.out.elim fun g' hg' => ⟨j + 1, g', by rw [HLN.out]; first | rfl | simp, hjk, hg'.1, hg'.2⟩
            case measure => obtain ⟨g', hg', _⟩ := HF.out; have := posN_of hg'.out; have := HP.out; have := HPJ.out; omega
      · obtain ⟨rfl, rfl⟩ := HBE.out.2 hjk
        obtain rfl : j = k := by omega
        go_wp2_with fail
        refine (HEL.out _).mono ?_; rintro e w1 ⟨rfl, hw1⟩; rw [hw1]; clear hw1 w1
        go_wp2
        go_ret
        exact ⟨by rw [HLV.out]; rfl, by rw [HPJ.out]; exact HRQ.out, HTT.out⟩
    · obtain rfl : j = k := by omega
      have hRR : S.extract (an + j) S.size = ⟨#[]⟩ := by
        apply ByteArray.ext
        apply Array.toList_inj.1
        rw [rest_list, List.drop_of_length_le (by show S.size ≤ an + j; omega)]
      have HD := Hid.mk' (fun W => decode_nil W)
      have HP1 := Hid.mk' (fun W => Tryz.strings_HasPrefix ⟨#[]⟩ ⟨#[47, 47]⟩ W)
      have HP2 := Hid.mk' (fun W => Tryz.strings_HasPrefix ⟨#[]⟩ ⟨#[47, 42]⟩ W)
      rw [show Lib.hasPrefix (⟨#[]⟩ : ByteArray).data.toList (⟨#[47, 47]⟩ : ByteArray).data.toList = false from rfl] at HP1
      rw [show Lib.hasPrefix (⟨#[]⟩ : ByteArray).data.toList (⟨#[47, 42]⟩ : ByteArray).data.toList = false from rfl] at HP2
      have HBL := Hid.mk' (fun W => isBlank_any 65533 W)
      have HEL := Hid.mk' (fun W => endsLine_any 65533 W)
      rw [show blankZ 65533 = false by decide] at HBL
      rw [show endsZ 65533 = false by decide] at HEL
      have i1 : ((an + j : Nat) : Int) ≤ (S.size : Int) := by omega
      have HX := Hid.mk' hRR
      obtain ⟨lv, hlv⟩ : ∃ lv, lineB S an j = lv := ⟨_, rfl⟩
      obtain ⟨pj, hpj⟩ : ∃ pj, an + j = pj := ⟨_, rfl⟩
      rw [hlv]
      rw [hpj] at c1 d0 d1 d2 d3 HR HR2 HP HX i1
      simp only [hpj] at df
      have HLV := Hid.mk' hlv
      have HPJ := Hid.mk' hpj
      clear hRR hlt hlv hpj
      go_wp2_with fail
      go_quiet (fail)
      rw [HX.out]
      go_wp2_with fail
      refine (HD.out _).mono ?_; rintro e w1 ⟨rfl, hw1⟩; rw [hw1]; clear hw1 w1
      go_wp2_with fail
      refine (HP1.out _).mono ?_; rintro e w1 ⟨rfl, hw1⟩; rw [hw1]; clear hw1 w1
      go_wp2_with fail
      refine (HP2.out _).mono ?_; rintro e w1 ⟨rfl, hw1⟩; rw [hw1]; clear hw1 w1
      go_wp2_with fail
      refine (HBL.out _).mono ?_; rintro e w1 ⟨rfl, hw1⟩; rw [hw1]; clear hw1 w1
      go_wp2_with fail
      refine (HEL.out _).mono ?_; rintro e w1 ⟨rfl, hw1⟩; rw [hw1]; clear hw1 w1
      go_wp2
      go_ret
      exact ⟨by first | rfl | (rw [HLV.out]; rfl), by rw [HPJ.out]; exact HR2.out.below (below_draws (Below.refl _ _) nq), HT.out.trans ((RdF.set _ HG.out).trans (TF.of_below (below_draws (Below.refl _ _) nq)))⟩
end Go.Proofs.YtopdogpcachonaaGreatDoor
