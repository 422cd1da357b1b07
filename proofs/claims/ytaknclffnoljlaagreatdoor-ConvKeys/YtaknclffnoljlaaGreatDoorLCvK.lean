/- ConvKeys: any value's key, any key's value; keys come back. Written by tools/mkcvk.py. -/
import Derived.Test.YtaknclffnoljlaaGreatDoorCvK
import Derived.Test.YtaknclffnoljlaaGreatDoorCvW
import Derived.Deep.RegionHeld3
namespace Go.Proofs.YtaknclffnoljlaaGreatDoor
set_option linter.unusedVariables false
open Go.RowKit Go.Sort Fl

theorem pb_len (r : Nat) : (pb r).length ≤ 4 := (pb_length r).2
theorem ofFrom_len (s : ByteArray) : ∀ (f : Nat) (acc : List UInt8) (i : Nat), (ofFst (ofFrom s f acc i)).size ≤ acc.length + 4 * f
  | 0, acc, i => by simp [ofFrom, ofFst, ByteArray.size]
  | f + 1, acc, i => by
    unfold ofFrom
    split
    · split
      · simp [ofFst, ByteArray.size]
      · have h := ofFrom_len s f (acc ++ pb (Utf8.decode s i).1) (i + (Utf8.decode s i).2)
        have := pb_len (Utf8.decode s i).1
        rw [List.length_append] at h
        omega
    · simp [ofFst, ByteArray.size]
theorem ofS_len (s : ByteArray) : (ofFst (ofS s)).size ≤ 4 * s.size := by
  have := ofFrom_len s s.size [] 0
  simpa [ofS] using this
theorem evenS_len (s : ByteArray) : (evenS s).size ≤ s.size := by rw [cv_even_eq]; simp; omega
theorem textV_len (k : Int) (x : Nat) (s : ByteArray) (hx : x < 18446744073709551616) (hs : (s.size : Int) ≤ 140737488351232) : ((textV k x s).size : Int) ≤ 140737488351232 := by
  have h3 := ofS_len (Sb (showB x))
  have h4 := showB_len x hx
  rw [Sb_size] at h3
  have h5 := evenS_len s
  have w1 := ofS_len ⟨#[117, 110, 100, 101, 102, 105, 110, 101, 100]⟩
  have w2 := ofS_len ⟨#[110, 117, 108, 108]⟩
  have w3 := ofS_len ⟨#[116, 114, 117, 101]⟩
  have w4 := ofS_len ⟨#[102, 97, 108, 115, 101]⟩
  simp only [ByteArray.size, List.size_toArray, List.length_cons, List.length_nil] at w1 w2 w3 w4
  have e0 : ((⟨#[]⟩ : ByteArray).size : Int) = 0 := by decide
  unfold textV
  repeat' split
  all_goals (simp only [ByteArray.size] at *; omega)
theorem keyS_len (k : Int) (x : Nat) (s : ByteArray) (r : Int) (hx : x < 18446744073709551616) (hs : (s.size : Int) ≤ 140737488351232) : ((keyS k x s r).size : Int) ≤ 140737488351232 := by
  unfold keyS
  split
  · decide
  · exact textV_len k x s hx hs
theorem sameKK_self (a : ByteArray) (x : Int) : sameKK a x a x = true := by
  unfold sameKK
  split
  · simp
  · rw [beq_iff_eq]; exact (sh_cmp_zero a a).2 rfl
theorem evenS_evenS (s : ByteArray) : evenS (evenS s) = evenS s := by
  have h : (evenS s).size = 2 * (s.size / 2) := by rw [cv_even_eq]; simp; omega
  rw [cv_even_eq (evenS s), h, show 2 * (2 * (s.size / 2) / 2) = 2 * (s.size / 2) by omega]
  rw [show (2 * (s.size / 2)) = (evenS s).size from h.symm]
  exact ByteArray.extract_zero_size
set_option maxHeartbeats 4000000 in
set_option maxRecDepth 100000 in
theorem keys_in (k : Int) (x : Nat) (s : ByteArray) (r : Int) (s1 : ByteArray) (z : Int) (k2 : Int) (s2 : ByteArray) (r2 : Int) (w : World) (hx : x < 18446744073709551616) (hs : (s.size : Int) ≤ 140737488351232) (hs1 : (s1.size : Int) ≤ 140737488351232) (hl : Hid (Laid w))
    (HV : .agg #[.int .i64 k2, .float .f64 0, .string s2, .int .i64 r2] = (if 0 < z then (.agg #[.int .i64 5, .float .f64 0, .string ⟨#[]⟩, .int .i64 z] : Value) else .agg #[.int .i64 4, .float .f64 0, .string (evenS s1), .int .i64 0])) (hs2 : (s2.size : Int) ≤ 140737488351232) (hkb : keyB k2 r2 = true) (hsm : sameKK (keyS k2 0 s2 r2) (keyZ k2 r2) s1 z = true) :
    Calls Tryz.prog 3 #[.agg #[.int .i64 k, .float .f64 x, .string s, .int .i64 r], .agg #[.string s1, .int .i64 z]] w fun e w' => e = .returned (.bool true) ∧ Below w.heap.size w w' := by
  have HW := Hid.mk' (fun W (hW : Hid (LaidN W)) => awake18 W hW)
  have HF := Hid.mk' (fun W => few18 k x s r W)
  have H1 := Hid.mk' (fun W hW => vkey k x s r W hx hs hW)
  have H2 := Hid.mk' (fun W hW => rvkey k x s r W hx hs hW)
  have H3 := Hid.mk' (fun W => rksame_any (keyS k x s r) (keyS k x s r) (keyZ k r) (keyZ k r) W (keyS_len k x s r hx hs) (keyS_len k x s r hx hs))
  rw [sameKK_self] at H3
  have H4 := Hid.mk' (fun W => vof s1 z W hs1)
  have H5 := Hid.mk' (fun W => rvof s1 z W hs1)
  rw [← HV] at H4 H5
  have H6 := Hid.mk' (fun W hW => vkey k2 0 s2 r2 W (by omega) hs2 hW)
  rw [hkb] at H6
  have H7 := Hid.mk' (fun W => ralike_self k2 0 s2 r2 W (by omega))
  have H8 := Hid.mk' (fun W => rksame_any (keyS k2 0 s2 r2) s1 (keyZ k2 r2) z W (keyS_len k2 0 s2 r2 (by omega) hs2) hs1)
  rw [hsm] at H8
  obtain ⟨F, hF⟩ : ∃ F, decide ((s.size : Int) ≤ 2000) = F := ⟨_, rfl⟩
  rw [hF] at HF
  obtain ⟨a1, ha1⟩ : ∃ a, keyS k x s r = a := ⟨_, rfl⟩
  obtain ⟨a2, ha2⟩ : ∃ a, keyZ k r = a := ⟨_, rfl⟩
  obtain ⟨a3, ha3⟩ : ∃ a, keyB k r = a := ⟨_, rfl⟩
  rw [ha1, ha2, ha3] at H1 H2
  rw [ha1, ha2] at H3
  obtain ⟨a4, ha4⟩ : ∃ a, keyS k2 0 s2 r2 = a := ⟨_, rfl⟩
  obtain ⟨a5, ha5⟩ : ∃ a, keyZ k2 r2 = a := ⟨_, rfl⟩
  rw [ha4, ha5] at H6 H8
  have hn3 : (a3 != a3) = false := by simp
  clear hF ha1 ha2 ha3 ha4 ha5 hkb hsm HV hx hs hs1 hs2
  go_enter Tryz.func3, Tryz.ntmps3
  go_wp2_with fail
  refine (HW.out _ (Hid.mk' (hl.out.below (by (repeat' (first | (with_reducible exact Below.refl _ _) | (with_reducible assumption) | (with_reducible refine Below.drew ?_) | (with_reducible refine below_drewN ?_ _) | (with_reducible refine Below.alloc ?_ ?_ _) | (with_reducible refine Below.setCell ?_ ?_ _) | (simp; done) | (simp; omega))))).n)).mono ?_
  rintro e w1 ⟨rfl, b1⟩
  have c1 : Below w.heap.size w w1 := bl_chain (by (repeat' (first | (with_reducible exact Below.refl _ _) | (with_reducible assumption) | (with_reducible refine Below.drew ?_) | (with_reducible refine below_drewN ?_ _) | (with_reducible refine Below.alloc ?_ ?_ _) | (with_reducible refine Below.setCell ?_ ?_ _) | (simp; done) | (simp; omega)))) b1
  have V1 : CellV w1 w.heap.size k x s r := CellV.below (by first | (with_reducible assumption) | (with_reducible refine CellV.drew ?_; assumption) | (with_reducible refine CellV.alloc ?_ _; assumption) | (constructor <;> first | (simp; done) | (simp; omega))) b1
  obtain ⟨-, p10, p11, p12, p13⟩ := id V1
  have K1 : KeyC w1 (w.heap.size + 1) s1 z := KeyC.below (by first | (with_reducible assumption) | (with_reducible refine KeyC.drew ?_; assumption) | (with_reducible refine KeyC.alloc ?_ _; assumption) | (constructor <;> first | (simp; done) | (simp; omega))) b1
  obtain ⟨-, y10, y11, -, -⟩ := id K1
  have lV10 : ∀ o, (w1.alloc o).cell? ⟨w.heap.size, 0, none⟩ = some (.int .i64 k) := fun o => (V1.alloc o).c0
  have lV11 : ∀ o, (w1.alloc o).cell? ⟨w.heap.size, 1, none⟩ = some (.float .f64 x) := fun o => (V1.alloc o).c1
  have lV12 : ∀ o, (w1.alloc o).cell? ⟨w.heap.size, 2, none⟩ = some (.string s) := fun o => (V1.alloc o).c2
  have lV13 : ∀ o, (w1.alloc o).cell? ⟨w.heap.size, 3, none⟩ = some (.int .i64 r) := fun o => (V1.alloc o).c3
  have lK10 : ∀ o, (w1.alloc o).cell? ⟨w.heap.size + 1, 0, none⟩ = some (.string s1) := fun o => (K1.alloc o).c0
  have lK11 : ∀ o, (w1.alloc o).cell? ⟨w.heap.size + 1, 1, none⟩ = some (.int .i64 z) := fun o => (K1.alloc o).c1
  have hl1 : Hid (Laid w1) := hl.out.below c1
  clear b1
  go_wp2_with fail
  refine (HF.out _).mono ?_
  rintro e w2 ⟨rfl, b2⟩
  have d2 : Below w1.heap.size w1 w2 := bl_chain (by (repeat' (first | (with_reducible exact Below.refl _ _) | (with_reducible assumption) | (with_reducible refine Below.drew ?_) | (with_reducible refine below_drewN ?_ _) | (with_reducible refine Below.alloc ?_ ?_ _) | (with_reducible refine Below.setCell ?_ ?_ _) | (simp; done) | (simp; omega)))) b2
  have c2 : Below w.heap.size w w2 := c1.trans (d2.mono c1.size)
  have V2 : CellV w2 w.heap.size k x s r := CellV.below (by first | (with_reducible assumption) | (with_reducible refine CellV.drew ?_; assumption) | (with_reducible refine CellV.alloc ?_ _; assumption) | (constructor <;> first | (simp; done) | (simp; omega))) b2
  obtain ⟨-, p20, p21, p22, p23⟩ := id V2
  have K2 : KeyC w2 (w.heap.size + 1) s1 z := KeyC.below (by first | (with_reducible assumption) | (with_reducible refine KeyC.drew ?_; assumption) | (with_reducible refine KeyC.alloc ?_ _; assumption) | (constructor <;> first | (simp; done) | (simp; omega))) b2
  obtain ⟨-, y20, y21, -, -⟩ := id K2
  have lV20 : ∀ o, (w2.alloc o).cell? ⟨w.heap.size, 0, none⟩ = some (.int .i64 k) := fun o => (V2.alloc o).c0
  have lV21 : ∀ o, (w2.alloc o).cell? ⟨w.heap.size, 1, none⟩ = some (.float .f64 x) := fun o => (V2.alloc o).c1
  have lV22 : ∀ o, (w2.alloc o).cell? ⟨w.heap.size, 2, none⟩ = some (.string s) := fun o => (V2.alloc o).c2
  have lV23 : ∀ o, (w2.alloc o).cell? ⟨w.heap.size, 3, none⟩ = some (.int .i64 r) := fun o => (V2.alloc o).c3
  have lK20 : ∀ o, (w2.alloc o).cell? ⟨w.heap.size + 1, 0, none⟩ = some (.string s1) := fun o => (K2.alloc o).c0
  have lK21 : ∀ o, (w2.alloc o).cell? ⟨w.heap.size + 1, 1, none⟩ = some (.int .i64 z) := fun o => (K2.alloc o).c1
  have hl2 : Hid (Laid w2) := hl.out.below c2
  clear b2 d2
  cases F
  · go_wp2
    go_ret
    exact ⟨by first | rfl | simp, by (repeat' (first | (with_reducible exact Below.refl _ _) | (with_reducible assumption) | (with_reducible refine Below.drew ?_) | (with_reducible refine below_drewN ?_ _) | (with_reducible refine Below.alloc ?_ ?_ _) | (with_reducible refine Below.setCell ?_ ?_ _) | (simp; done) | (simp; omega)))⟩
  · by_cases hlen : (2000 : Int) < (s1.size : Int)
    · go_wp2
      go_ret
      exact ⟨by first | rfl | simp, by (repeat' (first | (with_reducible exact Below.refl _ _) | (with_reducible assumption) | (with_reducible refine Below.drew ?_) | (with_reducible refine below_drewN ?_ _) | (with_reducible refine Below.alloc ?_ ?_ _) | (with_reducible refine Below.setCell ?_ ?_ _) | (simp; done) | (simp; omega)))⟩
    · go_wp2_with fail
      refine (H1.out _ (Hid.mk' (hl2.out.below (by (repeat' (first | (with_reducible exact Below.refl _ _) | (with_reducible assumption) | (with_reducible refine Below.drew ?_) | (with_reducible refine below_drewN ?_ _) | (with_reducible refine Below.alloc ?_ ?_ _) | (with_reducible refine Below.setCell ?_ ?_ _) | (simp; done) | (simp; omega))))))).mono ?_
      rintro e w3 ⟨rfl, b3⟩
      have d3 : Below w2.heap.size w2 w3 := bl_chain (by (repeat' (first | (with_reducible exact Below.refl _ _) | (with_reducible assumption) | (with_reducible refine Below.drew ?_) | (with_reducible refine below_drewN ?_ _) | (with_reducible refine Below.alloc ?_ ?_ _) | (with_reducible refine Below.setCell ?_ ?_ _) | (simp; done) | (simp; omega)))) b3
      have c3 : Below w.heap.size w w3 := c2.trans (d3.mono c2.size)
      have V3 : CellV w3 w.heap.size k x s r := CellV.below (by first | (with_reducible assumption) | (with_reducible refine CellV.drew ?_; assumption) | (with_reducible refine CellV.alloc ?_ _; assumption) | (constructor <;> first | (simp; done) | (simp; omega))) b3
      obtain ⟨-, p30, p31, p32, p33⟩ := id V3
      have K3 : KeyC w3 (w.heap.size + 1) s1 z := KeyC.below (by first | (with_reducible assumption) | (with_reducible refine KeyC.drew ?_; assumption) | (with_reducible refine KeyC.alloc ?_ _; assumption) | (constructor <;> first | (simp; done) | (simp; omega))) b3
      obtain ⟨-, y30, y31, -, -⟩ := id K3
      have lV30 : ∀ o, (w3.alloc o).cell? ⟨w.heap.size, 0, none⟩ = some (.int .i64 k) := fun o => (V3.alloc o).c0
      have lV31 : ∀ o, (w3.alloc o).cell? ⟨w.heap.size, 1, none⟩ = some (.float .f64 x) := fun o => (V3.alloc o).c1
      have lV32 : ∀ o, (w3.alloc o).cell? ⟨w.heap.size, 2, none⟩ = some (.string s) := fun o => (V3.alloc o).c2
      have lV33 : ∀ o, (w3.alloc o).cell? ⟨w.heap.size, 3, none⟩ = some (.int .i64 r) := fun o => (V3.alloc o).c3
      have lK30 : ∀ o, (w3.alloc o).cell? ⟨w.heap.size + 1, 0, none⟩ = some (.string s1) := fun o => (K3.alloc o).c0
      have lK31 : ∀ o, (w3.alloc o).cell? ⟨w.heap.size + 1, 1, none⟩ = some (.int .i64 z) := fun o => (K3.alloc o).c1
      have hl3 : Hid (Laid w3) := hl.out.below c3
      clear b3 d3
      go_wp2_with fail
      refine (H2.out _ (Hid.mk' (hl3.out.below (by (repeat' (first | (with_reducible exact Below.refl _ _) | (with_reducible assumption) | (with_reducible refine Below.drew ?_) | (with_reducible refine below_drewN ?_ _) | (with_reducible refine Below.alloc ?_ ?_ _) | (with_reducible refine Below.setCell ?_ ?_ _) | (simp; done) | (simp; omega))))))).mono ?_
      rintro e w4 ⟨rfl, b4⟩
      have d4 : Below w3.heap.size w3 w4 := bl_chain (by (repeat' (first | (with_reducible exact Below.refl _ _) | (with_reducible assumption) | (with_reducible refine Below.drew ?_) | (with_reducible refine below_drewN ?_ _) | (with_reducible refine Below.alloc ?_ ?_ _) | (with_reducible refine Below.setCell ?_ ?_ _) | (simp; done) | (simp; omega)))) b4
      have c4 : Below w.heap.size w w4 := c3.trans (d4.mono c3.size)
      have V4 : CellV w4 w.heap.size k x s r := CellV.below (by first | (with_reducible assumption) | (with_reducible refine CellV.drew ?_; assumption) | (with_reducible refine CellV.alloc ?_ _; assumption) | (constructor <;> first | (simp; done) | (simp; omega))) b4
      obtain ⟨-, p40, p41, p42, p43⟩ := id V4
      have K4 : KeyC w4 (w.heap.size + 1) s1 z := KeyC.below (by first | (with_reducible assumption) | (with_reducible refine KeyC.drew ?_; assumption) | (with_reducible refine KeyC.alloc ?_ _; assumption) | (constructor <;> first | (simp; done) | (simp; omega))) b4
      obtain ⟨-, y40, y41, -, -⟩ := id K4
      have lV40 : ∀ o, (w4.alloc o).cell? ⟨w.heap.size, 0, none⟩ = some (.int .i64 k) := fun o => (V4.alloc o).c0
      have lV41 : ∀ o, (w4.alloc o).cell? ⟨w.heap.size, 1, none⟩ = some (.float .f64 x) := fun o => (V4.alloc o).c1
      have lV42 : ∀ o, (w4.alloc o).cell? ⟨w.heap.size, 2, none⟩ = some (.string s) := fun o => (V4.alloc o).c2
      have lV43 : ∀ o, (w4.alloc o).cell? ⟨w.heap.size, 3, none⟩ = some (.int .i64 r) := fun o => (V4.alloc o).c3
      have lK40 : ∀ o, (w4.alloc o).cell? ⟨w.heap.size + 1, 0, none⟩ = some (.string s1) := fun o => (K4.alloc o).c0
      have lK41 : ∀ o, (w4.alloc o).cell? ⟨w.heap.size + 1, 1, none⟩ = some (.int .i64 z) := fun o => (K4.alloc o).c1
      have M04 : KeyC w4 (w3.heap.size) a1 a2 := KeyC.below (by first | (with_reducible assumption) | (with_reducible refine KeyC.drew ?_; assumption) | (with_reducible refine KeyC.alloc ?_ _; assumption) | (constructor <;> first | (simp; done) | (simp; omega))) b4
      obtain ⟨-, m040, m041, -, -⟩ := id M04
      have lM040 : ∀ o, (w4.alloc o).cell? ⟨w3.heap.size, 0, none⟩ = some (.string a1) := fun o => (M04.alloc o).c0
      have lM041 : ∀ o, (w4.alloc o).cell? ⟨w3.heap.size, 1, none⟩ = some (.int .i64 a2) := fun o => (M04.alloc o).c1
      have hl4 : Hid (Laid w4) := hl.out.below c4
      clear b4 d4
      go_wp2_with fail
      refine (H3.out _).mono ?_
      rintro e w5 ⟨rfl, b5⟩
      have d5 : Below w4.heap.size w4 w5 := bl_chain (by (repeat' (first | (with_reducible exact Below.refl _ _) | (with_reducible assumption) | (with_reducible refine Below.drew ?_) | (with_reducible refine below_drewN ?_ _) | (with_reducible refine Below.alloc ?_ ?_ _) | (with_reducible refine Below.setCell ?_ ?_ _) | (simp; done) | (simp; omega)))) b5
      have c5 : Below w.heap.size w w5 := c4.trans (d5.mono c4.size)
      have V5 : CellV w5 w.heap.size k x s r := CellV.below (by first | (with_reducible assumption) | (with_reducible refine CellV.drew ?_; assumption) | (with_reducible refine CellV.alloc ?_ _; assumption) | (constructor <;> first | (simp; done) | (simp; omega))) b5
      obtain ⟨-, p50, p51, p52, p53⟩ := id V5
      have K5 : KeyC w5 (w.heap.size + 1) s1 z := KeyC.below (by first | (with_reducible assumption) | (with_reducible refine KeyC.drew ?_; assumption) | (with_reducible refine KeyC.alloc ?_ _; assumption) | (constructor <;> first | (simp; done) | (simp; omega))) b5
      obtain ⟨-, y50, y51, -, -⟩ := id K5
      have lV50 : ∀ o, (w5.alloc o).cell? ⟨w.heap.size, 0, none⟩ = some (.int .i64 k) := fun o => (V5.alloc o).c0
      have lV51 : ∀ o, (w5.alloc o).cell? ⟨w.heap.size, 1, none⟩ = some (.float .f64 x) := fun o => (V5.alloc o).c1
      have lV52 : ∀ o, (w5.alloc o).cell? ⟨w.heap.size, 2, none⟩ = some (.string s) := fun o => (V5.alloc o).c2
      have lV53 : ∀ o, (w5.alloc o).cell? ⟨w.heap.size, 3, none⟩ = some (.int .i64 r) := fun o => (V5.alloc o).c3
      have lK50 : ∀ o, (w5.alloc o).cell? ⟨w.heap.size + 1, 0, none⟩ = some (.string s1) := fun o => (K5.alloc o).c0
      have lK51 : ∀ o, (w5.alloc o).cell? ⟨w.heap.size + 1, 1, none⟩ = some (.int .i64 z) := fun o => (K5.alloc o).c1
      have M05 : KeyC w5 (w3.heap.size) a1 a2 := KeyC.below (by first | (with_reducible assumption) | (with_reducible refine KeyC.drew ?_; assumption) | (with_reducible refine KeyC.alloc ?_ _; assumption) | (constructor <;> first | (simp; done) | (simp; omega))) b5
      obtain ⟨-, m050, m051, -, -⟩ := id M05
      have lM050 : ∀ o, (w5.alloc o).cell? ⟨w3.heap.size, 0, none⟩ = some (.string a1) := fun o => (M05.alloc o).c0
      have lM051 : ∀ o, (w5.alloc o).cell? ⟨w3.heap.size, 1, none⟩ = some (.int .i64 a2) := fun o => (M05.alloc o).c1
      have M15 : KeyC w5 (w4.heap.size) a1 a2 := KeyC.below (by first | (with_reducible assumption) | (with_reducible refine KeyC.drew ?_; assumption) | (with_reducible refine KeyC.alloc ?_ _; assumption) | (constructor <;> first | (simp; done) | (simp; omega))) b5
      obtain ⟨-, m150, m151, -, -⟩ := id M15
      have lM150 : ∀ o, (w5.alloc o).cell? ⟨w4.heap.size, 0, none⟩ = some (.string a1) := fun o => (M15.alloc o).c0
      have lM151 : ∀ o, (w5.alloc o).cell? ⟨w4.heap.size, 1, none⟩ = some (.int .i64 a2) := fun o => (M15.alloc o).c1
      have hl5 : Hid (Laid w5) := hl.out.below c5
      clear b5 d5
      go_wp2_with fail
      refine (H4.out _).mono ?_
      rintro e w6 ⟨rfl, b6⟩
      have d6 : Below w5.heap.size w5 w6 := bl_chain (by (repeat' (first | (with_reducible exact Below.refl _ _) | (with_reducible assumption) | (with_reducible refine Below.drew ?_) | (with_reducible refine below_drewN ?_ _) | (with_reducible refine Below.alloc ?_ ?_ _) | (with_reducible refine Below.setCell ?_ ?_ _) | (simp; done) | (simp; omega)))) b6
      have c6 : Below w.heap.size w w6 := c5.trans (d6.mono c5.size)
      have V6 : CellV w6 w.heap.size k x s r := CellV.below (by first | (with_reducible assumption) | (with_reducible refine CellV.drew ?_; assumption) | (with_reducible refine CellV.alloc ?_ _; assumption) | (constructor <;> first | (simp; done) | (simp; omega))) b6
      obtain ⟨-, p60, p61, p62, p63⟩ := id V6
      have K6 : KeyC w6 (w.heap.size + 1) s1 z := KeyC.below (by first | (with_reducible assumption) | (with_reducible refine KeyC.drew ?_; assumption) | (with_reducible refine KeyC.alloc ?_ _; assumption) | (constructor <;> first | (simp; done) | (simp; omega))) b6
      obtain ⟨-, y60, y61, -, -⟩ := id K6
      have lV60 : ∀ o, (w6.alloc o).cell? ⟨w.heap.size, 0, none⟩ = some (.int .i64 k) := fun o => (V6.alloc o).c0
      have lV61 : ∀ o, (w6.alloc o).cell? ⟨w.heap.size, 1, none⟩ = some (.float .f64 x) := fun o => (V6.alloc o).c1
      have lV62 : ∀ o, (w6.alloc o).cell? ⟨w.heap.size, 2, none⟩ = some (.string s) := fun o => (V6.alloc o).c2
      have lV63 : ∀ o, (w6.alloc o).cell? ⟨w.heap.size, 3, none⟩ = some (.int .i64 r) := fun o => (V6.alloc o).c3
      have lK60 : ∀ o, (w6.alloc o).cell? ⟨w.heap.size + 1, 0, none⟩ = some (.string s1) := fun o => (K6.alloc o).c0
      have lK61 : ∀ o, (w6.alloc o).cell? ⟨w.heap.size + 1, 1, none⟩ = some (.int .i64 z) := fun o => (K6.alloc o).c1
      have hl6 : Hid (Laid w6) := hl.out.below c6
      clear b6 d6
      go_wp2_with fail
      refine (H6.out _ (Hid.mk' (hl6.out.below (by (repeat' (first | (with_reducible exact Below.refl _ _) | (with_reducible assumption) | (with_reducible refine Below.drew ?_) | (with_reducible refine below_drewN ?_ _) | (with_reducible refine Below.alloc ?_ ?_ _) | (with_reducible refine Below.setCell ?_ ?_ _) | (simp; done) | (simp; omega))))))).mono ?_
      rintro e w7 ⟨rfl, b7⟩
      have d7 : Below w6.heap.size w6 w7 := bl_chain (by (repeat' (first | (with_reducible exact Below.refl _ _) | (with_reducible assumption) | (with_reducible refine Below.drew ?_) | (with_reducible refine below_drewN ?_ _) | (with_reducible refine Below.alloc ?_ ?_ _) | (with_reducible refine Below.setCell ?_ ?_ _) | (simp; done) | (simp; omega)))) b7
      have c7 : Below w.heap.size w w7 := c6.trans (d7.mono c6.size)
      have V7 : CellV w7 w.heap.size k x s r := CellV.below (by first | (with_reducible assumption) | (with_reducible refine CellV.drew ?_; assumption) | (with_reducible refine CellV.alloc ?_ _; assumption) | (constructor <;> first | (simp; done) | (simp; omega))) b7
      obtain ⟨-, p70, p71, p72, p73⟩ := id V7
      have K7 : KeyC w7 (w.heap.size + 1) s1 z := KeyC.below (by first | (with_reducible assumption) | (with_reducible refine KeyC.drew ?_; assumption) | (with_reducible refine KeyC.alloc ?_ _; assumption) | (constructor <;> first | (simp; done) | (simp; omega))) b7
      obtain ⟨-, y70, y71, -, -⟩ := id K7
      have lV70 : ∀ o, (w7.alloc o).cell? ⟨w.heap.size, 0, none⟩ = some (.int .i64 k) := fun o => (V7.alloc o).c0
      have lV71 : ∀ o, (w7.alloc o).cell? ⟨w.heap.size, 1, none⟩ = some (.float .f64 x) := fun o => (V7.alloc o).c1
      have lV72 : ∀ o, (w7.alloc o).cell? ⟨w.heap.size, 2, none⟩ = some (.string s) := fun o => (V7.alloc o).c2
      have lV73 : ∀ o, (w7.alloc o).cell? ⟨w.heap.size, 3, none⟩ = some (.int .i64 r) := fun o => (V7.alloc o).c3
      have lK70 : ∀ o, (w7.alloc o).cell? ⟨w.heap.size + 1, 0, none⟩ = some (.string s1) := fun o => (K7.alloc o).c0
      have lK71 : ∀ o, (w7.alloc o).cell? ⟨w.heap.size + 1, 1, none⟩ = some (.int .i64 z) := fun o => (K7.alloc o).c1
      have M07 : CellV w7 (w6.heap.size) k2 0 s2 r2 := CellV.below (by first | (with_reducible assumption) | (with_reducible refine CellV.drew ?_; assumption) | (with_reducible refine CellV.alloc ?_ _; assumption) | (constructor <;> first | (simp; done) | (simp; omega))) b7
      obtain ⟨-, m070, m071, m072, m073⟩ := id M07
      have lM070 : ∀ o, (w7.alloc o).cell? ⟨w6.heap.size, 0, none⟩ = some (.int .i64 k2) := fun o => (M07.alloc o).c0
      have lM071 : ∀ o, (w7.alloc o).cell? ⟨w6.heap.size, 1, none⟩ = some (.float .f64 0) := fun o => (M07.alloc o).c1
      have lM072 : ∀ o, (w7.alloc o).cell? ⟨w6.heap.size, 2, none⟩ = some (.string s2) := fun o => (M07.alloc o).c2
      have lM073 : ∀ o, (w7.alloc o).cell? ⟨w6.heap.size, 3, none⟩ = some (.int .i64 r2) := fun o => (M07.alloc o).c3
      have hl7 : Hid (Laid w7) := hl.out.below c7
      clear b7 d7
      go_wp2_with fail
      have E8 : CellV (w7.alloc (.cells #[.string a4, .int .i64 a5] 27)) w6.heap.size k2 0 s2 r2 := M07.alloc _
      have L8 : KeyC (w7.alloc (.cells #[.string a4, .int .i64 a5] 27)) (w.heap.size + 1) s1 z := K7.alloc _
      have R8 : KeyC (w7.alloc (.cells #[.string a4, .int .i64 a5] 27)) w7.heap.size a4 a5 := by constructor <;> first | (simp; done) | (simp; omega)
      have c8 : Below w.heap.size w (w7.alloc (.cells #[.string a4, .int .i64 a5] 27)) := c7.trans (((Below.refl _ _).alloc (Nat.le_refl _) _ : Below w7.heap.size w7 (w7.alloc (.cells #[.string a4, .int .i64 a5] 27))).mono c7.size)
      generalize (w7.alloc (.cells #[.string a4, .int .i64 a5] 27)) = w8 at E8 L8 R8 c8 ⊢
      obtain ⟨-, e80, e81, e82, e83⟩ := id E8
      obtain ⟨-, l80, l81, -, -⟩ := id L8
      obtain ⟨-, r80, r81, -, -⟩ := id R8
      clear HW HF H1 H2 H3 H4 H6
      go_region_held3 (fun w' => w'.cell? ⟨w6.heap.size, 0, none⟩ = some (.int .i64 k2) ∧ w'.cell? ⟨w6.heap.size, 1, none⟩ = some (.float .f64 0) ∧ w'.cell? ⟨w6.heap.size, 2, none⟩ = some (.string s2) ∧ w'.cell? ⟨w6.heap.size, 3, none⟩ = some (.int .i64 r2) ∧ w'.cell? ⟨w.heap.size + 1, 0, none⟩ = some (.string s1) ∧ w'.cell? ⟨w.heap.size + 1, 1, none⟩ = some (.int .i64 z) ∧ w'.cell? ⟨w7.heap.size, 0, none⟩ = some (.string a4) ∧ w'.cell? ⟨w7.heap.size, 1, none⟩ = some (.int .i64 a5)) (go_keep) (first | (go_at_call 14; with_reducible refine (H5.out _).mono ?_; rintro e w9 ⟨rfl, b9⟩; have c9 : Below w.heap.size w w9 := bl_chain (by (repeat' (first | (with_reducible exact Below.refl _ _) | (with_reducible assumption) | (with_reducible refine Below.drew ?_) | (with_reducible refine below_drewN ?_ _) | (with_reducible refine Below.alloc ?_ ?_ _) | (with_reducible refine Below.setCell ?_ ?_ _) | (simp; done) | (simp; omega)))) b9; have E9 : CellV w9 w6.heap.size k2 0 s2 r2 := CellV.below (by first | (with_reducible assumption) | (with_reducible refine CellV.drew ?_; assumption)) b9; obtain ⟨-, e90, e91, e92, e93⟩ := id E9; have L9 : KeyC w9 (w.heap.size + 1) s1 z := KeyC.below (by first | (with_reducible assumption) | (with_reducible refine KeyC.drew ?_; assumption)) b9; obtain ⟨-, l90, l91, -, -⟩ := id L9; have R9 : KeyC w9 w7.heap.size a4 a5 := KeyC.below (by first | (with_reducible assumption) | (with_reducible refine KeyC.drew ?_; assumption)) b9; obtain ⟨-, r90, r91, -, -⟩ := id R9; clear b9) | (go_at_call 13; with_reducible refine (H7.out _).mono ?_; rintro e w10 ⟨rfl, b10⟩; have c10 : Below w.heap.size w w10 := bl_chain (by (repeat' (first | (with_reducible exact Below.refl _ _) | (with_reducible assumption) | (with_reducible refine Below.drew ?_) | (with_reducible refine below_drewN ?_ _) | (with_reducible refine Below.alloc ?_ ?_ _) | (with_reducible refine Below.setCell ?_ ?_ _) | (simp; done) | (simp; omega)))) b10; have E10 : CellV w10 w6.heap.size k2 0 s2 r2 := CellV.below (by first | (with_reducible assumption) | (with_reducible refine CellV.drew ?_; assumption)) b10; obtain ⟨-, e100, e101, e102, e103⟩ := id E10; have L10 : KeyC w10 (w.heap.size + 1) s1 z := KeyC.below (by first | (with_reducible assumption) | (with_reducible refine KeyC.drew ?_; assumption)) b10; obtain ⟨-, l100, l101, -, -⟩ := id L10; have R10 : KeyC w10 w7.heap.size a4 a5 := KeyC.below (by first | (with_reducible assumption) | (with_reducible refine KeyC.drew ?_; assumption)) b10; obtain ⟨-, r100, r101, -, -⟩ := id R10; clear b10) | (go_at_call 11; with_reducible refine (H8.out _).mono ?_; rintro e w11 ⟨rfl, b11⟩; have c11 : Below w.heap.size w w11 := bl_chain (by (repeat' (first | (with_reducible exact Below.refl _ _) | (with_reducible assumption) | (with_reducible refine Below.drew ?_) | (with_reducible refine below_drewN ?_ _) | (with_reducible refine Below.alloc ?_ ?_ _) | (with_reducible refine Below.setCell ?_ ?_ _) | (simp; done) | (simp; omega)))) b11; have E11 : CellV w11 w6.heap.size k2 0 s2 r2 := CellV.below (by first | (with_reducible assumption) | (with_reducible refine CellV.drew ?_; assumption)) b11; obtain ⟨-, e110, e111, e112, e113⟩ := id E11; have L11 : KeyC w11 (w.heap.size + 1) s1 z := KeyC.below (by first | (with_reducible assumption) | (with_reducible refine KeyC.drew ?_; assumption)) b11; obtain ⟨-, l110, l111, -, -⟩ := id L11; have R11 : KeyC w11 w7.heap.size a4 a5 := KeyC.below (by first | (with_reducible assumption) | (with_reducible refine KeyC.drew ?_; assumption)) b11; obtain ⟨-, r110, r111, -, -⟩ := id R11; clear b11))
      all_goals go_wp2
      all_goals go_ret
      all_goals exact ⟨by first | rfl | simp, by (repeat' (first | (with_reducible exact Below.refl _ _) | (with_reducible assumption) | (with_reducible refine Below.drew ?_) | (with_reducible refine below_drewN ?_ _) | (with_reducible refine Below.alloc ?_ ?_ _) | (with_reducible refine Below.setCell ?_ ?_ _) | (simp; done) | (simp; omega)))⟩
theorem keys_all (k : Int) (x : Nat) (s : ByteArray) (r : Int) (s1 : ByteArray) (z : Int) (w : World) (hx : x < 18446744073709551616) (hs : (s.size : Int) ≤ 140737488351232) (hs1 : (s1.size : Int) ≤ 140737488351232) (hwf : Lit.wf (.int .i64 z) = true) (hl : Hid (Laid w)) :
    Calls Tryz.prog 3 #[.agg #[.int .i64 k, .float .f64 x, .string s, .int .i64 r], .agg #[.string s1, .int .i64 z]] w fun e w' => e = .returned (.bool true) ∧ Below w.heap.size w w' := by
  by_cases hz : 0 < z
  · refine keys_in k x s r s1 z 5 ⟨#[]⟩ z w hx hs hs1 hl (by rw [if_pos hz]) (by decide) (by unfold keyB; rw [if_pos ⟨rfl, hz⟩]) ?_
    rw [show keyZ 5 z = z from if_pos ⟨rfl, hz⟩]
    unfold sameKK
    rw [if_pos (.inl hz)]
    simp
  · have he := evenS_len s1
    refine keys_in k x s r s1 z 4 (evenS s1) 0 w hx hs hs1 hl (by rw [if_neg hz]) (by omega) (by unfold keyB; rw [if_neg (by omega)]; decide) ?_
    rw [show keyZ 4 0 = 0 from if_neg (by omega), show keyS 4 0 (evenS s1) 0 = evenS (evenS s1) from (if_neg (by omega)).trans (by unfold textV; rfl), evenS_evenS]
    unfold sameKK
    rw [if_neg (by omega), beq_iff_eq]
    exact (sh_cmp_zero _ _).2 (evenS_evenS s1)
end Go.Proofs.YtaknclffnoljlaaGreatDoor
