/- (*checker).fits where no text may be and nothing more is asked. -/
import Derived.Test.YtkiofkppdpkboaaDoorTNum
namespace Go.Proofs.YtkiofkppdpkboaaDoor
set_option linter.unusedVariables false
open Go.RowKit

/-- A box laid above w0. -/
structure NB (w0 : World) (C : Array Value) (W : World) : Prop where
  hn : ∀ j v, C[j]? = some v → W.cell? ⟨w0.heap.size, j, none⟩ = some v
  sz : w0.heap.size < W.heap.size
  b : Below w0.heap.size w0 W
theorem NB.grow {w0 W W' : World} {C : Array Value} (h : NB w0 C W) (hb : Below W.heap.size W W') : NB w0 C W' :=
  ⟨fun j v hv => (hb.cell (p := ⟨w0.heap.size, j, none⟩) h.sz).trans (h.hn j v hv), Nat.lt_of_lt_of_le h.sz hb.size, h.b.trans (hb.mono (Nat.le_of_lt h.sz))⟩
theorem NB.drew {w0 W : World} {C : Array Value} (h : NB w0 C W) : NB w0 C W.drew := h.grow ((Below.refl _ _).drew)
theorem NB.start (w : World) (C : Array Value) (t : TypeId) : NB w C (w.alloc (.cells C t)) :=
  ⟨fun j v hv => (World.cell?_alloc_new w C t j).trans hv, by simp, (Below.refl _ _).alloc (Nat.le_refl _) _⟩

/-- What kidsFit asks. -/
structure KFit (w : World) (q : Nat) (n : Nd) (k : Nat) (t : Int) (mx : Option Addr) (mc : Nat) (ms : List Nat) (pe mo : Nat) (nb no N cap : Nat) (kinds : List Nat) : Prop where
  hk : n.kind = (k : Int)
  hk57 : k < 57
  hq : q < w.heap.size
  hnb : nb < w.heap.size
  h0 : w.cell? ⟨q, 0, none⟩ = some (.slice (some ⟨nb, no, none⟩) N cap)
  r0 : w.cell? ⟨q, 1 + k * 4, none⟩ = some (.int .i64 t)
  r1 : w.cell? ⟨q, 1 + k * 4 + 1, none⟩ = some (.slice mx ms.length mc)
  r2 : w.cell? ⟨q, 1 + k * 4 + 2, none⟩ = some (.int .u64 pe)
  r3 : w.cell? ⟨q, 1 + k * 4 + 3, none⟩ = some (.int .u64 mo)
  hms : ∀ j (h : j < ms.length), ∃ g o, mx = some ⟨g, o, none⟩ ∧ g < w.heap.size ∧ w.cell? ⟨g, o + j, none⟩ = some (.int .u64 (ms[j] : Nat))
  hsz : (∀ m ∈ ms, m < 18446744073709551616) ∧ pe < 18446744073709551616 ∧ mo < 18446744073709551616
  hml : ms.length ≤ 1000
  hkl : kinds.length = n.kids.length
  hkb : (n.kids.length : Int) * 8 ≤ 140737488351232
  hkd : KidsAt w n
  hkid : ∀ j (h : j < n.kids.length), ∃ (u : Nat) (m : Nd), n.kids[j] = (u : Int) ∧ u < N ∧ w.rangeAt nb (no + u * 6) m.cells ∧ m.kind = ((kinds.getD j 0 : Nat) : Int) ∧ kinds.getD j 0 < 64
theorem KFit.grow {w w' : World} {q : Nat} {n : Nd} {k : Nat} {t : Int} {mx : Option Addr} {mc : Nat} {ms : List Nat} {pe mo nb no N cap : Nat} {kinds : List Nat} (h : KFit w q n k t mx mc ms pe mo nb no N cap kinds) (hb : Below w.heap.size w w') : KFit w' q n k t mx mc ms pe mo nb no N cap kinds :=
  ⟨h.hk, h.hk57, Nat.lt_of_lt_of_le h.hq hb.size, Nat.lt_of_lt_of_le h.hnb hb.size, (hb.cell (p := ⟨q, 0, none⟩) h.hq).trans h.h0, (hb.cell (p := ⟨q, 1 + k * 4, none⟩) h.hq).trans h.r0, (hb.cell (p := ⟨q, 1 + k * 4 + 1, none⟩) h.hq).trans h.r1, (hb.cell (p := ⟨q, 1 + k * 4 + 2, none⟩) h.hq).trans h.r2, (hb.cell (p := ⟨q, 1 + k * 4 + 3, none⟩) h.hq).trans h.r3,
   fun j hj => by obtain ⟨g, o, e, hg, hc⟩ := h.hms j hj; exact ⟨g, o, e, Nat.lt_of_lt_of_le hg hb.size, (hb.cell (p := ⟨g, o + j, none⟩) hg).trans hc⟩,
   h.hsz, h.hml, h.hkl, h.hkb, h.hkd.below hb,
   fun j hj => by obtain ⟨u, m, e, hu, hr, hk⟩ := h.hkid j hj; exact ⟨u, m, e, hu, fun i v hv => (hb.cell (p := ⟨nb, no + u * 6 + i, none⟩) h.hnb).trans (hr i v hv), hk⟩⟩
theorem KFit.fit {w : World} {q : Nat} {n : Nd} {k : Nat} {t : Int} {mx : Option Addr} {mc : Nat} {ms : List Nat} {pe mo nb no N cap : Nat} {kinds : List Nat} (h : KFit w q n k t mx mc ms pe mo nb no N cap kinds) :
    Calls Tryd.prog 45 #[.pointer (some ⟨q, 0, none⟩), n.val] w fun e w' => e = .returned (.bool (kidsN ms pe mo kinds)) ∧ Below w.heap.size w w' :=
  kidsFit_any q n k t mx mc ms pe mo nb no N cap kinds w h.hk h.hk57 h.hq h.hnb h.h0 h.r0 h.r1 h.r2 h.r3 h.hms h.hsz h.hml h.hkl h.hkb h.hkd h.hkid

set_option maxHeartbeats 4000000 in
set_option maxRecDepth 100000 in
theorem fits_plain (q : Nat) (n : Nd) (k : Nat) (mx : Option Addr) (mc : Nat) (ms : List Nat) (pe mo : Nat) (nb no N cap : Nat) (kinds : List Nat) (w : World)
    (h : KFit w q n k 0 mx mc ms pe mo nb no N cap kinds) (hk1 : 1 ≤ k) (hpl : 0 ≤ n.pl) (ht : n.text = ⟨#[]⟩) (hs : n.str = ⟨#[]⟩)
    (hfine : n.kind ≠ 11 ∧ n.kind ≠ 12 ∧ n.kind ≠ 28 ∧ n.kind ≠ 30 ∧ n.kind ≠ 40 ∧ n.kind ≠ 41 ∧ n.kind ≠ 48 ∧ n.kind ≠ 49)
    (hnum : (n.kind = 1 ∧ n.num = 4607182418800017408) ∨ (n.kind ≠ 1 ∧ n.num = 0)) :
    Calls Tryd.prog 26 #[.pointer (some ⟨q, 0, none⟩), n.val] w fun e w' => e = .returned (.bool (kidsN ms pe mo kinds)) ∧ Below w.heap.size w w' := by
  obtain ⟨C, hC⟩ : ∃ C : Array Value, C = #[.int .i64 n.kind, .string n.text, .string n.str, .float .f64 n.num, .slice n.kp n.kids.length n.kc, .int .i64 n.pl] := ⟨_, rfl⟩
  obtain ⟨r, hr⟩ : ∃ r, kidsN ms pe mo kinds = r := ⟨_, rfl⟩
  rw [hr]
  have HNum : Hid (∀ W, NB w C W → Calls Tryd.prog 42 #[n.val] W fun e w' => e = .returned (.bool true) ∧ NB w C w') := Hid.mk' (fun W hW => by
    rcases hnum with ⟨a, b⟩ | ⟨a, b⟩
    · exact (numFits_one n W a b).mono (fun e w' h => ⟨h.1, hW.grow h.2⟩)
    · exact (numFits_zero n W a b).mono (fun e w' h => ⟨h.1, hW.grow h.2⟩))
  have HStr : Hid (∀ W, NB w C W → Calls Tryd.prog 43 #[n.val] W fun e w' => e = .returned (.bool true) ∧ NB w C w') := Hid.mk' (fun W hW =>
    (strFits_any n W (by rw [hs]; decide)).mono (fun e w' h => ⟨by rw [h.1, hs, show ((⟨#[]⟩ : ByteArray).size / 2 = 0) from rfl]; simp, hW.grow h.2⟩))
  have HTxt : Hid (∀ W, NB w C W → Calls Tryd.prog 44 #[.pointer (some ⟨q, 0, none⟩), n.val] W fun e w' => e = .returned (.bool true) ∧ NB w C w') := Hid.mk' (fun W hW =>
    (textFits_none q n k W h.hk h.hk57 (h.grow hW.b).hq (h.grow hW.b).r0 ht).mono (fun e w' h => ⟨h.1, hW.grow h.2⟩))
  have HKid : Hid (∀ W, NB w C W → Calls Tryd.prog 45 #[.pointer (some ⟨q, 0, none⟩), n.val] W fun e w' => e = .returned (.bool r) ∧ NB w C w') := Hid.mk' (fun W hW =>
    (h.grow hW.b).fit.mono (fun e w' h => ⟨by rw [h.1, hr], hW.grow h.2⟩))
  have HFin : Hid (∀ W, NB w C W → Calls Tryd.prog 46 #[.pointer (some ⟨q, 0, none⟩), n.val] W fun e w' => e = .returned (.bool true) ∧ NB w C w') := Hid.mk' (fun W hW =>
    (fine_plain q n W hfine).mono (fun e w' h => ⟨h.1, hW.grow h.2⟩))
  have N0 : NB w C (w.alloc (.cells C 39)) := NB.start w C _
  obtain ⟨nk, nt, ns, nn, kp, ks, kc, pl⟩ := n
  have hk := h.hk
  have hk57 := h.hk57
  dsimp only [Nd.val] at hC HNum HStr HTxt HKid HFin hk hpl ⊢
  obtain ⟨kl, hkl⟩ : ∃ kl, ks.length = kl := ⟨_, rfl⟩
  rw [hkl] at hC HNum HStr HTxt HKid HFin ⊢
  subst hC hk
  have z1 : ¬ (k : Int) < 1 := by omega
  have z2 : ¬ (56 : Int) < (k : Int) := by omega
  have z3 : ¬ pl < 0 := by omega
  clear h hnum hfine ht hs hr hk1 hk57 hpl hkl
  go_enter Tryd.func26, Tryd.ntmps26
  cases r
  · go_wp2_with (first | (go_at_call 42; refine (HNum.out _ (by first | assumption | exact NB.drew (by assumption))).mono ?_; rintro e w1 ⟨rfl, N1⟩; have n10 := N1.hn 0 _ rfl; have n11 := N1.hn 1 _ rfl; have n12 := N1.hn 2 _ rfl; have n13 := N1.hn 3 _ rfl; have n14 := N1.hn 4 _ rfl; have n15 := N1.hn 5 _ rfl) | (go_at_call 43; refine (HStr.out _ (by first | assumption | exact NB.drew (by assumption))).mono ?_; rintro e w2 ⟨rfl, N2⟩; have n20 := N2.hn 0 _ rfl; have n21 := N2.hn 1 _ rfl; have n22 := N2.hn 2 _ rfl; have n23 := N2.hn 3 _ rfl; have n24 := N2.hn 4 _ rfl; have n25 := N2.hn 5 _ rfl) | (go_at_call 44; refine (HTxt.out _ (by first | assumption | exact NB.drew (by assumption))).mono ?_; rintro e w3 ⟨rfl, N3⟩; have n30 := N3.hn 0 _ rfl; have n31 := N3.hn 1 _ rfl; have n32 := N3.hn 2 _ rfl; have n33 := N3.hn 3 _ rfl; have n34 := N3.hn 4 _ rfl; have n35 := N3.hn 5 _ rfl) | (go_at_call 45; refine (HKid.out _ (by first | assumption | exact NB.drew (by assumption))).mono ?_; rintro e w4 ⟨rfl, N4⟩; have n40 := N4.hn 0 _ rfl; have n41 := N4.hn 1 _ rfl; have n42 := N4.hn 2 _ rfl; have n43 := N4.hn 3 _ rfl; have n44 := N4.hn 4 _ rfl; have n45 := N4.hn 5 _ rfl) | (go_at_call 46; refine (HFin.out _ (by first | assumption | exact NB.drew (by assumption))).mono ?_; rintro e w5 ⟨rfl, N5⟩; have n50 := N5.hn 0 _ rfl; have n51 := N5.hn 1 _ rfl; have n52 := N5.hn 2 _ rfl; have n53 := N5.hn 3 _ rfl; have n54 := N5.hn 4 _ rfl; have n55 := N5.hn 5 _ rfl))
    go_ret
    exact ⟨rfl, N4.b⟩
  · go_wp2_with (first | (go_at_call 42; refine (HNum.out _ (by first | assumption | exact NB.drew (by assumption))).mono ?_; rintro e w1 ⟨rfl, N1⟩; have n10 := N1.hn 0 _ rfl; have n11 := N1.hn 1 _ rfl; have n12 := N1.hn 2 _ rfl; have n13 := N1.hn 3 _ rfl; have n14 := N1.hn 4 _ rfl; have n15 := N1.hn 5 _ rfl) | (go_at_call 43; refine (HStr.out _ (by first | assumption | exact NB.drew (by assumption))).mono ?_; rintro e w2 ⟨rfl, N2⟩; have n20 := N2.hn 0 _ rfl; have n21 := N2.hn 1 _ rfl; have n22 := N2.hn 2 _ rfl; have n23 := N2.hn 3 _ rfl; have n24 := N2.hn 4 _ rfl; have n25 := N2.hn 5 _ rfl) | (go_at_call 44; refine (HTxt.out _ (by first | assumption | exact NB.drew (by assumption))).mono ?_; rintro e w3 ⟨rfl, N3⟩; have n30 := N3.hn 0 _ rfl; have n31 := N3.hn 1 _ rfl; have n32 := N3.hn 2 _ rfl; have n33 := N3.hn 3 _ rfl; have n34 := N3.hn 4 _ rfl; have n35 := N3.hn 5 _ rfl) | (go_at_call 45; refine (HKid.out _ (by first | assumption | exact NB.drew (by assumption))).mono ?_; rintro e w4 ⟨rfl, N4⟩; have n40 := N4.hn 0 _ rfl; have n41 := N4.hn 1 _ rfl; have n42 := N4.hn 2 _ rfl; have n43 := N4.hn 3 _ rfl; have n44 := N4.hn 4 _ rfl; have n45 := N4.hn 5 _ rfl) | (go_at_call 46; refine (HFin.out _ (by first | assumption | exact NB.drew (by assumption))).mono ?_; rintro e w5 ⟨rfl, N5⟩; have n50 := N5.hn 0 _ rfl; have n51 := N5.hn 1 _ rfl; have n52 := N5.hn 2 _ rfl; have n53 := N5.hn 3 _ rfl; have n54 := N5.hn 4 _ rfl; have n55 := N5.hn 5 _ rfl))
    go_ret
    exact ⟨rfl, N5.b⟩
end Go.Proofs.YtkiofkppdpkboaaDoor
