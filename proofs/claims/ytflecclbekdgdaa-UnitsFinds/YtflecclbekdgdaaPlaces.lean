/- units.places: where a text stands in another one, told one by one. -/
import Derived.RangeFuncNested
import Derived.RangeFuncBound
import Derived.RangeFuncCalls
import Derived.RangeFuncLeaves
import Derived.RangeFuncBox
import Derived.Shelf.Abstract
import Derived.Shelf.RegionOpen
import Derived.OwnWalkIn
import Derived.TacticsInMore
import Derived.LoopNIn
import Derived.LoopIn
import Derived.Test.YtflecclbekdgdaaGoOn
import Derived.Test.YtflecclbekdgdaaText
namespace Go.Proofs.Ytflecclbekdgdaa
set_option linter.unusedVariables false
open Go.RowKit Go.Shelf
attribute [local go_sem] Oper.semAt_some

/-- All cells but those of one block stand. -/
def CKB (Bl : Nat) (W W' : World) : Prop := ∀ (k : Nat) (c : Array Value) (t : TypeId) (fz : Nat × Nat), k ≠ Bl → W.heap[k]? = some (Obj.cells c t fz) → W'.heap[k]? = some (Obj.cells c t fz)
theorem CKB.trans {Bl : Nat} {a b c : World} (h : CKB Bl a b) (k : CKB Bl b c) : CKB Bl a c := fun i x t fz hi hx => k i x t fz hi (h i x t fz hi hx)
theorem CKB.put {Bl n : Nat} (W : World) (l : Nat) (o o' : Obj) (_ : n ≤ l) (ho : W.heap[l]? = some o) (hc : o.isCells = false) (_ : o.isWalk = false) : CKB Bl W (W.putObj l o') := fun k c t fz _ hk => by
  have : k ≠ l := by
    rintro rfl
    rw [hk] at ho; cases ho; cases hc
  rw [World.putObj_heap_other this]; exact hk
theorem CKB.boxed {Bl : Nat} {W W' : World} (h : CKB Bl W W') {B : Nat} {t : TypeId} {v : Value} (hb : Boxed W B t v) (hne : B ≠ Bl) : Boxed W' B t v := h _ _ _ _ hne hb
theorem CKB.own {Bl : Nat} {W W' : World} (h : CKB Bl W W') {B g c : Nat} {e : TypeId} {n : Nat} {xs : List Value} (ho : W.ownsRow B e 1 (.slice (some ⟨g, 0, none⟩) n c) n xs) (hne : g ≠ Bl) : W'.ownsRow B e 1 (.slice (some ⟨g, 0, none⟩) n c) n xs := by
  refine ⟨ho.1, ?_⟩
  rcases ho.2 with ⟨hn, _⟩ | ⟨g', cap, cur, e1, hB, hg, rest⟩
  · cases hn
  · have hgg : g = g' := by simp at e1; exact e1.1
    subst hgg
    exact .inr ⟨g, cap, cur, e1, hB, h _ _ _ _ hne hg, rest⟩

theorem occ_prefix (T S : Nat → Nat) (m a : Nat) : ∀ (n i : Nat), i ≤ n → occ T S m a i <+: occ T S m a n := by
  intro n
  induction n with
  | zero => intro i h; obtain rfl : i = 0 := by omega
            exact List.prefix_refl _
  | succ n ih =>
    intro i h
    by_cases e : i = n + 1
    · subst e; exact List.prefix_refl _
    · refine (ih i (by omega)).trans ?_
      rw [occ]
      exact List.prefix_append _ _
theorem occ_far (T S : Nat → Nat) (m a : Nat) : ∀ n, n < a + m → occ T S m a n = []
  | 0, _ => rfl
  | n + 1, h => by rw [occ, occ_far T S m a n (by omega), if_neg (by omega)]; rfl

def encN (p : Nat) : Array Value := #[.int .i64 (p : Nat)]

set_option maxRecDepth 100000 in
set_option maxHeartbeats 4000000 in
theorem places1_in (n : Nat) (hn : 1 ≤ n) (l Bt Bs Bf Bl q : Nat) (s t : ByteArray) (a : Nat) (hs : (s.size : Int) ≤ 1048576) (ht : (t.size : Int) ≤ 1048576) (hm : 1 ≤ t.size / 2) (ha : (a : Int) ≤ 9223372036854775807)
    (J Jx : List Nat → World → Prop) (hJ : AbidesFrom q J)
    (hY : ∀ pre x W, J pre W → pre.length < (occ (un t) (un s) (t.size / 2) a (s.size / 2)).length → YieldAt Fence.wide (n - 1) Try.prog l (encN x) W fun e W' =>
      (e = .returned (.bool true) ∧ J (pre ++ [x]) W' ∧ CKB Bl W W') ∨ (e = .returned (.bool false) ∧ Jx (pre ++ [x]) W'))
    (W : World) (hBt : Boxed W Bt 22 (.string t)) (hBs : Boxed W Bs 22 (.string s)) (hBf : Boxed W Bf 3 (.int .i64 a)) (n1 : Bt ≠ Bl) (n2 : Bs ≠ Bl) (n3 : Bf ≠ Bl) (n4 : Bl < W.heap.size) (h0 : J [] W) :
    CallsIn Fence.wide n Try.prog 23 #[.func (.yield l) #[] #[], .pointer (some ⟨Bt, 0, none⟩), .pointer (some ⟨Bs, 0, none⟩), .pointer (some ⟨Bf, 0, none⟩)] W fun e W' => (∃ v, e = .returned v) ∧
      ((∃ ys, ys = occ (un t) (un s) (t.size / 2) a (s.size / 2) ∧ J ys W') ∨ (∃ pre, pre <+: occ (un t) (un s) (t.size / 2) a (s.size / 2) ∧ Jx pre W')) := by
  have hmt : t.size ≤ maxLen := by unfold maxLen; omega
  have hms : s.size ≤ maxLen := by unfold maxLen; omega
  have HLen : Hid (∀ x W, x = t ∨ x = s → Calls Try.prog 12 #[.string x] W fun e w' => e = .returned (.int .i64 (x.size / 2 : Nat)) ∧ w' = W) := by
    rintro x W (rfl | rfl)
    · exact len_any _ _ hmt
    · exact len_any _ _ hms
  have hct := hBt.cell
  have hcs := hBs.cell
  have hcf := hBf.cell
  have hmx : Try.prog.follows .mixedOrders = true := by kernel_rfl
  refine callsIn_of_wp Try.func23 rfl trivial ?_ rfl
  simp only [Try.ntmps23, List.size_toArray, List.length_cons, List.length_nil, Nat.reduceAdd, Nat.reduceSub, Array.replicate_succ, Array.replicate_zero, List.push_toArray, List.append_toArray, List.nil_append, List.cons_append]
  have hw1 : IntKind.i64.wrap ((s.size : Int) / 2 - (a : Int)) = (s.size : Int) / 2 - (a : Int) := by rw [IntKind.wrap_i64]; omega
  gi_wp2
  refine region_cut (fun a' W' => ∃ x8 x9 x10 x11 x12 x13, a' = { tmps := #[.func (.yield l) #[] #[], .pointer (some ⟨Bt, 0, none⟩), .pointer (some ⟨Bs, 0, none⟩), .pointer (some ⟨Bf, 0, none⟩), undef, undef, undef, undef, x8, x9, x10, x11, x12, x13, .bool (decide ((s.size : Int) / 2 - (a : Int) < (t.size : Int) / 2)), undef, undef, undef, undef, undef, undef, undef, undef, undef, undef, undef, undef, undef, undef, undef, undef, undef, undef, undef, undef, undef, undef, undef, undef, undef, undef, undef, undef, undef, undef, undef], defers := [] } ∧ W' = W.drew) ?reg0 ?rest0
  case reg0 =>
   gi_region_with_o (refine ⟨trivial, ?_⟩; gi_at_call 12; refine (callsIn_wide.2 (HLen.out _ _ (by simp))).mono ?_; rintro e w1 ⟨rfl, hw1⟩; rw [hw1]; clear hw1 w1)
   all_goals exact ⟨_, _, _, _, _, _, rfl, rfl⟩
  case rest0 =>
   rintro a' W' ⟨x8, x9, x10, x11, x12, x13, rfl, rfl⟩
   clear hw1
   dsimp only
   by_cases hfar : (s.size : Int) / 2 - (a : Int) < (t.size : Int) / 2
   · have HE : Hid (occ (un t) (un s) (t.size / 2) a (s.size / 2) = []) := occ_far _ _ _ _ _ (by omega)
     gi_wp2
     refine bodyPost_ret (results_none rfl _ _ _) rfl ?_
     exact ⟨⟨_, rfl⟩, .inl ⟨[], HE.out.symm, hJ [] W _ none h0 ⟨rfl, rfl, rfl, Nat.le_refl _, fun _ _ _ => rfl⟩ (by simp)⟩⟩
   · have hct0 : W.drew.cell? ⟨Bt, 0, none⟩ = some (.string t) := hct
     gi_wp2_with (refine ⟨trivial, ?_⟩; gi_at_call 24; refine (callsIn_wide.2 (borders_any t _ ht hm)).mono ?_; rintro e w1 ⟨A, rfl, hA, hown, b1⟩; have HA := Hid.mk' hA; clear hA; have hBt1 : Boxed w1 Bt 22 (.string t) := (b1.block Bt hBt.lt).trans hBt; have hBs1 : Boxed w1 Bs 22 (.string s) := (b1.block Bs hBs.lt).trans hBs; have hBf1 : Boxed w1 Bf 3 (.int .i64 a) := (b1.block Bf hBf.lt).trans hBf; have hcf1 := hBf1.cell)
     have hJ1 : J [] w1 := hJ [] W w1 none h0 ⟨b1.os, b1.tape, b1.output, b1.size, fun k hk _ => b1.block k hk⟩ (by simp)
     have hgne : W.heap.size ≠ Bl := by omega
     obtain ⟨G, hG⟩ : ∃ G, W.heap.size = G := ⟨_, rfl⟩
     have hown' : w1.ownsRow W.heap.size 3 1 (.slice (some ⟨W.heap.size, 0, none⟩) (t.size / 2 + 1) (t.size / 2 + 1)) (t.size / 2 + 1) (ic A (t.size / 2 + 1)) := hown
     clear hown
     rw [hG] at hown' hgne ⊢
     clear hG b1 hBt hBs hBf hct hcs hcf hct0 h0 hcf1 hBf1
     gi_loopw [6, 7] (fun v c wr => ∃ (i met : Nat), c = .int .i64 i ∧ v = .int .i64 met ∧ a ≤ i ∧ i ≤ s.size / 2 ∧ Hid (St (un t) (un s) (t.size / 2) a i met) ∧ Boxed wr Bt 22 (.string t) ∧ Boxed wr Bs 22 (.string s) ∧ wr.ownsRow G 3 1 (.slice (some ⟨G, 0, none⟩) (t.size / 2 + 1) (t.size / 2 + 1)) (t.size / 2 + 1) (ic A (t.size / 2 + 1)) ∧ J (occ (un t) (un s) (t.size / 2) a i) wr) (fun _ c _ => s.size / 2 - (intOf c).toNat)
     case atStart => exact ⟨a, 0, rfl, rfl, Nat.le_refl _, by omega, ⟨by omega, Mt.zero _ _ _ _ (Nat.le_refl _), fun j hj hmj => by have := hmj.1; omega⟩, hBt1, hBs1, hown', by rw [occ_early _ _ _ _ hm a (Nat.le_refl _)]; exact hJ1⟩
     case round =>
       obtain ⟨i, met, rfl, rfl, hai, hin, HS, bt, bs, ow, hJi⟩ := hrel
       have hct := bt.cell
       have hcs := bs.cell
       clear hBt1 hBs1 hown' hJ1
       by_cases hlt : i < s.size / 2
       · have hlt' : (i : Int) < ((s.size / 2 : Nat) : Int) := by omega
         have HL2 := Hid.mk' (fun W => len_any s W hms)
         gi_wp2_with (refine ⟨trivial, ?_⟩; gi_at_call 12; refine (callsIn_wide.2 (HL2.out _)).mono ?_; rintro e w2 ⟨rfl, hw2⟩; rw [hw2]; clear hw2 w2)
         have HU := Hid.mk' (fun W => unit_any s i W hms hlt)
         have hmet : met < t.size / 2 := HS.out.1
         have HG := Hid.mk' (fun k : Nat => goOn_any t A G (t.size / 2 + 1) (t.size / 2 + 1) G met (un s i) (wr.drewN k) ht ow hmet (by omega) (fun k h1 h2 => HA.out k h1 (by omega)))
         refine region_cut (fun a' W' => ∃ (r nq : Nat) (x21 x24 x25 x26 x27 x28 x29 x30 : Value), a' = { tmps := #[.func (.yield l) #[] #[], .pointer (some ⟨Bt, 0, none⟩), .pointer (some ⟨Bs, 0, none⟩), .pointer (some ⟨Bf, 0, none⟩), undef, .slice (some ⟨G, 0, none⟩) (t.size / 2 + 1) (t.size / 2 + 1), .int .i64 (r : Nat), .int .i64 (i : Nat), x8, x9, x10, x11, x12, x13, .bool (decide ((s.size : Int) / 2 - (a : Int) < (t.size : Int) / 2)), .string t, .slice (some ⟨G, 0, none⟩) (t.size / 2 + 1) (t.size / 2 + 1), .int .i64 (a : Nat), .int .i64 (i : Nat), .string s, .int .i64 ((s.size : Int) / 2), x21, u22, u23, x24, x25, x26, x27, x28, x29, x30, u31, u32, u33, u34, u35, u36, u37, u38, u39, u40, u41, u42, u43, u44, u45], defers := [] } ∧ Hid (Goes (un t) met (un s i) r) ∧ W' = wr.drewN nq) ?reg6 ?rest6
         case reg6 =>
          clear HL2
          obtain ⟨ui, hui⟩ : ∃ x, un s i = x := ⟨_, rfl⟩
          rw [hui] at HU HG ⊢
          clear hui
          gi_region_with_o (refine ⟨trivial, ?_⟩; first | (gi_at_call 20; refine (callsIn_wide.2 (HU.out _)).mono ?_; rintro e w1 ⟨rfl, nq, hw1⟩; rw [hw1]; clear hw1 w1) | (gi_at_call 25; refine (callsIn_wide.2 (HG.out _)).mono ?_; rintro e w1 ⟨r, nr, rfl, hr, hw1⟩; rw [hw1]; clear hw1 w1; have HR := Hid.mk' hr; clear hr))
          all_goals exact ⟨_, _, _, _, _, _, _, _, _, _, rfl, HR, rfl⟩
         case rest6 =>
          rintro a' W' ⟨r, nq, x21, x24, x25, x26, x27, x28, x29, x30, rfl, HR, rfl⟩
          dsimp only
          clear HU HG HL2
          have hst := HS.out.step hai HR.out
          have hrm : r ≤ t.size / 2 := hst.1
          have hJr : J (occ (un t) (un s) (t.size / 2) a i) (wr.drewN nq) := hJ _ _ _ none hJi ⟨rfl, rfl, rfl, Nat.le_refl _, fun _ _ _ => rfl⟩ (by simp)
          have HLt := Hid.mk' (fun W => len_any t W hmt)
          have hct2 : (wr.drewN nq).cell? ⟨Bt, 0, none⟩ = some (.string t) := hct
          clear hst
          by_cases hlr : r < t.size / 2
          · have hlr' : (r : Int) < ((t.size / 2 : Nat) : Int) := by omega
            have hne : ((r : Int) == (t.size : Int) / 2) = false := by simp; omega
            have HS' := Hid.mk' (HS.out.on hai HR.out hlr)
            have HO' := Hid.mk' (occ_none HS.out hai HR.out hlr)
            gi_wp2_with (refine ⟨trivial, ?_⟩; gi_at_call 12; refine (callsIn_wide.2 (HLt.out _)).mono ?_; rintro e w2 ⟨rfl, hw2⟩; rw [hw2]; clear hw2 w2)
            refine ⟨⟨i + 1, r, by go_num, rfl, by omega, by omega, HS', bt, bs, own_drewN ow nq, by rw [HO'.out]; exact hJr⟩, ?_⟩
            simp [intOf]; omega
          · have hre : r = t.size / 2 := by omega
            have hge : ¬ ((r : Int) < ((t.size / 2 : Nat) : Int)) := by omega
            have HO1 := Hid.mk' (occ_one HS.out hai HR.out hre)
            have HS' := Hid.mk' (HS.out.full hai HR.out hm HA.out hre)
            have hAm : A (t.size / 2) < t.size / 2 := (HA.out _ hm (Nat.le_refl _)).2.1
            have hir : r ≤ i + 1 := by have := (HS.out.step hai HR.out).2.1.1; omega
            have hcast : ((i + 1 - t.size / 2 : Nat) : Int) = (i : Int) + 1 - (r : Int) := by omega
            have HP : Hid (occ (un t) (un s) (t.size / 2) a (i + 1) <+: occ (un t) (un s) (t.size / 2) a (s.size / 2)) := occ_prefix _ _ _ _ _ _ (by omega)
            have hlen : (occ (un t) (un s) (t.size / 2) a i).length < (occ (un t) (un s) (t.size / 2) a (s.size / 2)).length := by
              have h1 := HP.out.length_le
              rw [HO1.out] at h1
              simp at h1
              omega
            obtain ⟨fn, tmps, assign, body, hy, hR⟩ := hY (occ (un t) (un s) (t.size / 2) a i) (i + 1 - t.size / 2) (wr.drewN nq) hJr hlen
            simp only [encN, hcast] at hy
            have HRE := Hid.mk' hre
            have hrs : (r : Int) < ((t.size / 2 + 1 : Nat) : Int) := by omega
            clear hre hcast hlr hrm hlen
            gi_wp2_with (refine ⟨trivial, ?_⟩; gi_at_call 12; refine (callsIn_wide.2 (HLt.out _)).mono ?_; rintro e w2 ⟨rfl, hw2⟩; rw [hw2]; clear hw2 w2)
            refine hR.mono ?_
            rintro e W3 (⟨rfl, hJ3, hk3⟩ | ⟨rfl, hJx3⟩)
            · have hown3 := hk3.own (own_drewN ow nq) hgne
              have hcl : W3.cell? ⟨G, r, none⟩ = some (.int .i64 (A (t.size / 2) : Nat)) := by rw [HRE.out]; exact own_cell hown3 (ic_get A _ (t.size / 2) (by omega))
              gi_wp2
              go_roundw
              case rel => exact ⟨i + 1, A (t.size / 2), by go_num, rfl, by omega, by omega, HS', hk3.boxed (W := wr.drewN nq) bt n1, hk3.boxed (W := wr.drewN nq) bs n2, hown3, by rw [HO1.out]; exact hJ3⟩
              case measure => simp [intOf]; omega
            · gi_wp2
              refine bodyPost_ret (results_none rfl _ _ _) rfl ?_
              exact ⟨⟨_, rfl⟩, .inr ⟨_, by rw [← HO1.out]; exact HP.out, hJx3⟩⟩
       · obtain rfl : i = s.size / 2 := by omega
         have HL2 := Hid.mk' (fun W => len_any s W hms)
         gi_wp2_with (refine ⟨trivial, ?_⟩; gi_at_call 12; refine (callsIn_wide.2 (HL2.out _)).mono ?_; rintro e w2 ⟨rfl, hw2⟩; rw [hw2]; clear hw2 w2)
         go_end0
         exact ⟨⟨_, rfl⟩, .inl ⟨_, rfl, hJi⟩⟩

end Go.Proofs.Ytflecclbekdgdaa
