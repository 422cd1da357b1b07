/- lex's tokens: names, numbers, signs, braces. -/
import Derived.Test.YtopdogpcachonaaGreatDoorLSk
import Derived.Test.YtopdogpcachonaaGreatDoorLLit
namespace Go.Proofs.YtopdogpcachonaaGreatDoor
set_option linter.unusedVariables false
open Go.RowKit Go.Shelf

/-- A token's cells. -/
structure Tk where
  kind : Int
  text : ByteArray
  str : ByteArray
  num : Nat
  fr : Int
  to : Int
  line : Bool
def Tk.cells (t : Tk) : List Value := [.int .i64 t.kind, .string t.text, .string t.str, .float .f64 t.num, .int .i64 t.fr, .int .i64 t.to, .bool t.line]
def Tk.agg (t : Tk) : Value := .agg #[.int .i64 t.kind, .string t.text, .string t.str, .float .f64 t.num, .int .i64 t.fr, .int .i64 t.to, .bool t.line]
/-- What the reader answers, and how it is left. -/
def Gives (B rb : Nat) (S : ByteArray) (f : Int) (ov : Value) (op : List Int) (t : Tk) (at' : Int) (w : World) (e : Ending) (w' : World) : Prop :=
  e = .returned t.agg ∧ Rdr B w' rb S at' f ov op ∧ TF (RdF rb ov) B w w'
def signsN : List (List UInt8) := [[123], [125], [40], [41], [91], [93], [46], [46, 46, 46], [59], [44], [60], [62], [60, 61], [62, 61], [61, 61], [33, 61], [61, 61, 61], [33, 61, 61], [43], [45], [42], [47], [37], [42, 42], [43, 43], [45, 45], [60, 60], [62, 62], [62, 62, 62], [38], [124], [94], [33], [126], [38, 38], [124, 124], [63], [58], [61], [43, 61], [45, 61], [42, 61], [47, 61], [37, 61], [42, 42, 61], [60, 60, 61], [62, 62, 61], [62, 62, 62, 61], [38, 61], [124, 61], [94, 61], [61, 62]]
def signB (s : ByteArray) : Bool := signsN.any (fun t => s.toList == t)
theorem signB_yes {s : ByteArray} {t : List UInt8} (ht : t ∈ signsN) (h : (s.toList == t) = true) : signB s = true := List.any_eq_true.2 ⟨t, ht, h⟩
set_option maxHeartbeats 4000000 in
set_option maxRecDepth 100000 in
theorem isSign_any (s : ByteArray) (w : World) : Calls Tryz.prog 105 #[.string s] w fun e w' => e = .returned (.bool (signB s)) ∧ w' = w := by
  obtain ⟨r, hr⟩ : ∃ r, signB s = r := ⟨_, rfl⟩
  rw [hr]
  have HR := Hid.mk' hr
  clear hr
  go_enter Tryz.func105, Tryz.ntmps105
  go_wp2
  all_goals first
    | (rename_i h1 h2; exact absurd (h1.symm.trans h2) (by decide))
    | (go_ret; rename_i h1 h2; refine ⟨?_, rfl⟩; rw [← HR.out, signB_yes (by decide +kernel) h2]; rfl)
    | (go_ret; refine ⟨?_, rfl⟩; have e : signB s = false := by (simp only [signB, signsN, List.any_cons, List.any_nil, *]; rfl)
       rw [← HR.out, e]; rfl)
theorem thrown_eq {a b : List PanicEntry} (h : a = b) : Ending.panicked a = .panicked b := by rw [h]
set_option maxHeartbeats 1000000 in
set_option maxRecDepth 100000 in
theorem signAhead_yes (s : ByteArray) (k m : Nat) (w : World) (hm : min (4 : Int) (s.size : Int) = m) (hk : 1 ≤ k ∧ k ≤ m) (hy : signB (s.extract 0 k) = true) (hn : ∀ j, k < j → j ≤ m → signB (s.extract 0 j) = false) :
    Calls Tryz.prog 89 #[.string s] w fun e w' => e = .returned (.int .i64 k) ∧ w' = w := by
  have HY := Hid.mk' hy
  have HN := Hid.mk' hn
  have hs : (m : Int) ≤ s.size := by omega
  have hm4 : m ≤ 4 := by omega
  clear hy hn
  go_enter Tryz.func89, Tryz.ntmps89
  go_wp2
  go_loop [3] (fun v => ∃ j : Nat, v = .int .i64 j ∧ k ≤ j ∧ j ≤ m) (fun v => (intOf v).toNat)
  case atStart => exact ⟨m, rfl, hk.2, Nat.le_refl _⟩
  case round =>
    obtain ⟨j, rfl, h1, h2⟩ := hrel
    have j0 : (0 : Int) < (j : Int) := by omega
    have j1 : (j : Int) ≤ (s.size : Int) := by omega
    have HS := Hid.mk' (fun W => isSign_any (s.extract 0 j) W)
    by_cases hjk : j = k
    · obtain rfl := hjk
      rw [HY.out] at HS
      go_wp2_with (go_at_call 105; refine (HS.out _).mono ?_; rintro e w1 ⟨rfl, hw1⟩; rw [hw1]; clear hw1 w1)
      go_ret
      exact ⟨rfl, rfl⟩
    · rw [HN.out j (by omega) h2] at HS
      go_wp2_with (go_at_call 105; refine (HS.out _).mono ?_; rintro e w1 ⟨rfl, hw1⟩; rw [hw1]; clear hw1 w1)
      go_round
      case rel => exact ⟨j - 1, by rw [show ((j - 1 : Nat) : Int) = (j : Int) - 1 by omega], by omega, by omega⟩
      case measure => simp [intOf]; omega
set_option maxHeartbeats 1000000 in
set_option maxRecDepth 100000 in
theorem signAhead_no (s : ByteArray) (m : Nat) (w : World) (hm : min (4 : Int) (s.size : Int) = m) (hn : ∀ j, 0 < j → j ≤ m → signB (s.extract 0 j) = false) :
    Calls Tryz.prog 89 #[.string s] w fun e w' => e = .panicked [{ v := .iface 26 (.int .i64 50), recovered := false }] ∧ w' = w := by
  have HN := Hid.mk' hn
  have hs : (m : Int) ≤ s.size := by omega
  have hm4 : m ≤ 4 := by omega
  clear hn
  go_enter Tryz.func89, Tryz.ntmps89
  go_wp2
  go_loop [3] (fun v => ∃ j : Nat, v = .int .i64 j ∧ j ≤ m) (fun v => (intOf v).toNat)
  case atStart => exact ⟨m, rfl, Nat.le_refl _⟩
  case round =>
    obtain ⟨j, rfl, h2⟩ := hrel
    have j1 : (j : Int) ≤ (s.size : Int) := by omega
    by_cases hjk : 0 < j
    · have j0 : (0 : Int) < (j : Int) := by omega
      have HS := Hid.mk' (fun W => isSign_any (s.extract 0 j) W)
      rw [HN.out j hjk h2] at HS
      go_wp2_with (go_at_call 105; refine (HS.out _).mono ?_; rintro e w1 ⟨rfl, hw1⟩; rw [hw1]; clear hw1 w1)
      go_round
      case rel => exact ⟨j - 1, by rw [show ((j - 1 : Nat) : Int) = (j : Int) - 1 by omega], by omega⟩
      case measure => simp [intOf]; omega
    · obtain rfl : j = 0 := by omega
      go_wp2
      exact ⟨rfl, rfl, rfl⟩
abbrev tok0 : Array Value := #[.int .i64 0, .string ⟨#[]⟩, .string ⟨#[]⟩, .float .f64 0, .int .i64 0, .int .i64 0, .bool false]
theorem results_cell {fn : Func} {p : Tmp} {ty : TypeId} (h : fn.results = #[.cell p ty]) (tmps : Array Value) (P : Program) (w : World) :
    (results fn tmps).run P w = ((asAddr (tmps.getD p undef)).run P w).andThen fun a w₁ => (loadVar ty a).run P w₁ := by
  simp only [results, h]
  simp [Sem.run_bind, Result.andThen]
set_option maxHeartbeats 2000000 in
set_option maxRecDepth 100000 in
theorem name_c {B rb : Nat} {S : ByteArray} {f : Int} {ov : Value} {op : List Int} (k an : Nat) (w : World) (h : Rdr B w rb S (an : Nat) f ov op) (hs : (S.size : Int) ≤ 262144) (hk : an + k ≤ S.size)
    (hn : nmN (S.extract an S.size).data.toList 0 = k) (hw : wordB (S.extract an (an + k)) = false) :
    Calls Tryz.prog 64 #[.pointer (some ⟨rb, 0, none⟩)] w fun e w' => Gives B rb S f ov op ⟨1, S.extract an (an + k), ⟨#[]⟩, 0, 0, 0, false⟩ ((an + k : Nat) : Int) w e w' := by
  have HN := Hid.mk' (fun W => nameAhead_any (S.extract an S.size) W (by simp; omega))
  rw [hn] at HN
  have HWd := Hid.mk' (fun W => lexWord_any (S.extract an (an + k)) W)
  rw [hw] at HWd
  have hst : ∀ (p : Addr) (x : Nat) (md : Mode) (W : World), (store p (.float .f64 x) md).run Tryz.prog W = stored Tryz.prog W p (.float .f64 x) md := fun p x md W => run_store Tryz.prog W p _ md rfl
  obtain ⟨W1, hW1⟩ : ∃ W1, w.alloc (.cells tok0 31) = W1 := ⟨_, rfl⟩
  have b1 : Below w.heap.size w W1 := by rw [← hW1]; exact below_new
  have hbx : W1.heap[w.heap.size]? = some (.cells tok0 31 (0, 0)) := by rw [← hW1]; exact World.alloc_heap_new w _
  obtain ⟨aw1, aw2⟩ := h.away (Nat.le_refl _)
  have hR := h.below b1
  have HT := Hid.mk' (fun (n : Nat) => take_any k an (W1.drewN n) rfl (hR.below (below_draws (Below.refl _ _) n)) hs hk)
  obtain ⟨c0, c1, c2, c3, cf⟩ := hR.cells
  have i1 : (an : Int) ≤ (S.size : Int) := by omega
  have HA := Hid.mk' (And.intro aw1 aw2)
  have HB1 := Hid.mk' b1
  have HX := Hid.mk' hbx
  obtain ⟨bx, hbxn⟩ : ∃ bx, w.heap.size = bx := ⟨_, rfl⟩
  clear h hR b1 hbx aw1 aw2 hn hw
  go_enter Tryz.func64, Tryz.ntmps64
  go_wp2_with fail
  go_region_with (first | (go_at_call 63; refine (HN.out _).mono ?_; rintro e w1 ⟨rfl, hw1⟩; rw [hw1]; clear hw1 w1) | (go_at_call 84; refine (HT.out 1).mono ?_; rintro e w1 ⟨rfl, hR1, hT1⟩))
  all_goals
    obtain ⟨y1, y2⟩ := hT1.box (k := bx) (by rw [← hbxn]; exact HA.out) (by rw [← hbxn]; exact HX.out)
    have z0 := y1 0 _ rfl
    have z1 := y1 1 _ rfl
    have z2 := y1 2 _ rfl
    have z3 := y1 3 _ rfl
    have z4 := y1 4 _ rfl
    have z5 := y1 5 _ rfl
    have z6 := y1 6 _ rfl
    have HR1 := Hid.mk' hR1
    have HT1 := Hid.mk' hT1
    have HBN := Hid.mk' hbxn
    clear y1 hR1 hT1 c0 c1 c2 c3 cf hbxn hW1
    go_wp2_with (go_at_call 85; refine (HWd.out _).mono ?_; rintro e w2 ⟨rfl, hw2⟩; rw [hw2]; clear hw2 w2)
    refine bodyPost_ret (v := .agg #[.int .i64 1, .string (S.extract an (an + k)), .string ⟨#[]⟩, .float .f64 0, .int .i64 0, .int .i64 0, .bool false]) ?_ rfl ⟨rfl, ?_, ?_⟩
    · rw [results_cell rfl]
      go_simp
    · repeat (refine Rdr.setOther ?_ _ (by rw [← HBN.out]; exact HA.out.1) (by rw [← HBN.out]; exact HA.out.2))
      exact HR1.out
    · repeat (refine TF.setNew ?_ (by rw [HBN.out]; exact Nat.le_refl _) _)
      exact ((TF.of_below HB1.out).trans (TF.of_below (below_draws (Below.refl _ _) 1))).trans HT1.out
end Go.Proofs.YtopdogpcachonaaGreatDoor
