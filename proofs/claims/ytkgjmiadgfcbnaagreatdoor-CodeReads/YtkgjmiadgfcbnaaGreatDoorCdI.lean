/- Package code's reader: the list of functions, a module. -/
import Derived.Test.YtkgjmiadgfcbnaaGreatDoorCdH
namespace Go.Proofs.YtkgjmiadgfcbnaaGreatDoor
set_option linter.unusedVariables false
set_option linter.unusedSimpArgs false
open Go.RowKit

/-- A function with its lists. -/
structure FV where
  f : Fun
  x : Value
  y : Value
  z : Value
  u : Value
def FV.cs (q : FV) : List Value := fcs q.f q.x q.y q.z q.u
abbrev FV.rows (W : World) (B : Nat) (q : FV) : Prop := Rows W B q.f q.x q.y q.z q.u
def isFuns (B : Nat) (W : World) (fs : List Fun) (v : Value) : Prop := ∃ els : List FV, els.map FV.f = fs ∧ W.ownsRow B 42 9 v els.length (els.flatMap FV.cs) ∧ ∀ q ∈ els, q.rows W B
/-- A row of another kind stands. -/
theorem own_apart {B B' : Nat} {X Y : World} {e e' : TypeId} {sz sz' : Nat} {v v' : Value} {n n' : Nat} {xs xs' : List Value} (h : X.ownsRow B e sz v n xs) (h' : X.ownsRow B' e' sz' v' n' xs') (hg : X.grownBy Y v'.ownBlock) (hne : e ≠ e') : Y.ownsRow B e sz v n xs := by
  refine ⟨h.1, ?_⟩
  rcases h.2 with hn | ⟨g, cap, cur, rfl, hB, hb, rest⟩
  · exact .inl hn
  · refine .inr ⟨g, cap, cur, rfl, hB, (hg.block g (Array.getElem?_eq_some_iff.1 hb).1 (fun q => ?_)).trans hb, rest⟩
    obtain ⟨c, fz, h1⟩ := kind_own h' g q.symm
    rw [hb] at h1
    cases h1
    exact hne rfl
theorem Rows.apart {B B' : Nat} {X Y : World} {f : Fun} {x y z u v' : Value} {n' sz' : Nat} {xs' : List Value} (h : Rows X B f x y z u) (h' : X.ownsRow B' 42 sz' v' n' xs') (hg : X.grownBy Y v'.ownBlock) : Rows Y B f x y z u :=
  ⟨own_apart h.c h' hg (by decide), own_apart h.i h' hg (by decide), own_apart h.t h' hg (by decide), own_apart h.p h' hg (by decide)⟩
theorem Rows.mono {B B' : Nat} {X : World} {f : Fun} {x y z u : Value} (h : Rows X B f x y z u) (hB : B' ≤ B) : Rows X B' f x y z u := ⟨own_mono h.c hB, own_mono h.i hB, own_mono h.t hB, own_mono h.p hB⟩
theorem Rows.below {B : Nat} {X Y : World} {f : Fun} {x y z u : Value} (h : Rows X B f x y z u) (hb : Below X.heap.size X Y) : Rows Y B f x y z u := ⟨own_below h.c hb, own_below h.i hb, own_below h.t hb, own_below h.p hb⟩
theorem isFuns.below {B : Nat} {X Y : World} {fs : List Fun} {v : Value} (h : isFuns B X fs v) (hb : Below X.heap.size X Y) : isFuns B Y fs v := by
  obtain ⟨els, h1, h2, h3⟩ := h
  exact ⟨els, h1, own_below h2 hb, fun q hq => (h3 q hq).below hb⟩
theorem isFuns.setNew {B k o : Nat} {X : World} {fs : List Fun} {v : Value} (h : isFuns B X fs v) (hk : k < B) (u : Value) : isFuns B (X.setCell ⟨k, o, none⟩ u) fs v := by
  obtain ⟨els, h1, h2, h3⟩ := h
  exact ⟨els, h1, own_setNew h2 hk u, fun q hq => (h3 q hq).setNew hk u⟩
theorem isFuns.mono {B B' : Nat} {X : World} {fs : List Fun} {v : Value} (h : isFuns B X fs v) (hB : B' ≤ B) : isFuns B' X fs v := by
  obtain ⟨els, h1, h2, h3⟩ := h
  exact ⟨els, h1, own_mono h2 hB, fun q hq => (h3 q hq).mono hB⟩
structure LgF (N rb g : Nat) (L1 : List UInt8) (w wr : World) (v : Value) (els : List FV) (R : List UInt8) : Prop where
  own : wr.ownsRow w.heap.size 42 9 v els.length (els.flatMap FV.cs)
  rows : ∀ q ∈ els, q.rows wr w.heap.size
  say : lst funP N L1 = (lst funP (N - els.length) R).map fun y => (els.map FV.f ++ y.1, y.2)
  rc : Rc wr rb g R
  fr : Fr rb w wr
  few : els.length + R.length ≤ L1.length
theorem infoF : (Tryz.prog.info? 42).map (fun i => (i.zero, i.size, i.bytes)) = some (some (.agg #[.string ⟨#[]⟩, .int .i64 0, .bool false, .bool false, .int .i64 0, .slice none 0 0, .slice none 0 0, .slice none 0 0, .slice none 0 0]), 9, 136) := by kernel_rfl
set_option maxHeartbeats 2000000 in
set_option maxRecDepth 100000 in
theorem listF_any {rb g : Nat} {L : List UInt8} (w : World) (h : Rc w rb g L) (hL : L.length ≤ 5000) (hl : LaidL w) (hr : 1 ≠ rb) :
    Calls Tryz.prog 30 #[.pointer (some ⟨rb, 0, none⟩), .func (.func 31) #[.pointer (some ⟨rb, 0, none⟩)] #[]] w fun e w' => Rds (lstP funP) rb g (isFuns w.heap.size) L w e w' := by
  obtain ⟨i0, hi, hz0, hz1, hz2⟩ := info_parts infoF
  have HRL := Hid.mk' hr
  have HL0 := Hid.mk' hl
  have HN := Hid.mk' (number_any w h)
  have HM := Hid.mk' (fun L' W (hR : Rc W rb g L') (hL : L'.length ≤ 5000) (hl : LaidL W) => function_any W hR hL hl HRL.out)
  have HLT := Hid.mk' (And.intro h.lt h.glt)
  clear h hl hr
  go_enter Tryz.func30, Tryz.ntmps30
  go_wp2_with fail
  refine HN.out.mono ?_
  rintro e w1 (⟨N, L1, v1, p1, rfl, rfl, hR, hF⟩ | ⟨p1, rfl, hF⟩)
  · have HP : Hid (lstP funP L = lst funP N L1) := Hid.mk' (by unfold lstP; rw [p1]; rfl)
    have hlt := numP_lt p1
    have hlen := numP_len p1
    have HS : Hid (LgF N rb g L1 w w1 (.slice none 0 0) [] L1) := Hid.mk' ⟨World.ownsRow_nil _ _ _ _, (fun q hq => by cases hq), by simp, hR, hF, by simp⟩
    clear hR hF p1
    go_wp2
    go_loopw [5, 8] (fun v iv wr => ∃ (els : List FV) (R : List UInt8), iv = .int .i64 (els.length : Int) ∧ els.length ≤ N ∧ Hid (LgF N rb g L1 w wr v els R)) (fun v iv wr => N - (intOf iv).toNat)
    case atStart => exact ⟨[], L1, rfl, by simp, HS⟩
    case round =>
      obtain ⟨els, R, rfl, hle, HG⟩ := hrel
      have hfew := HG.out.few
      by_cases hlt2 : els.length < N
      · have i1 : (els.length : Int) < (N : Int) := by omega
        have HM1 := Hid.mk' (HM.out R wr HG.out.rc (by omega) (HL0.out.fr HG.out.fr HRL.out))
        obtain ⟨nn, hnn⟩ : ∃ nn, els.length = nn := ⟨_, rfl⟩
        simp only [hnn] at i1 hfew ⊢
        have HNN := Hid.mk' hnn
        clear hnn
        go_wp2_with fail
        refine HM1.out.mono ?_
        rintro e w2 (⟨x, L2, v2, p2, rfl, ⟨rx, ry, rz, ru, rfl, hrows⟩, hR, hF⟩ | ⟨p2, rfl, hF⟩)
        · have hO := own_fr HG.out.own hF HLT.out.1
          have HF2 := Hid.mk' (HG.out.fr.trans hF)
          have HR2 := Hid.mk' hR
          have HP2 := Hid.mk' p2
          have HO := Hid.mk' hO
          have HE := Hid.mk' (eats_fun _ _ _ p2)
          have HRO : Hid (∀ q ∈ els ++ [⟨x, rx, ry, rz, ru⟩], q.rows w2 w.heap.size) := Hid.mk' (fun q hq => by
            rcases List.mem_append.1 hq with h1 | h1
            · exact (HG.out.rows q h1).fr hF HLT.out.1
            · rw [List.mem_singleton.1 h1]
              exact hrows.mono (by have := HG.out.fr.size; omega))
          obtain ⟨ax, cx, rfl, _⟩ := own_slice' hrows.c
          obtain ⟨ay, cy, rfl, _⟩ := own_slice' hrows.i
          obtain ⟨az, cz, rfl, _⟩ := own_slice' hrows.t
          obtain ⟨au, cu, rfl, _⟩ := own_slice' hrows.p
          obtain ⟨f1, f2, f3, f4, f5, f6, f7, f8, f9⟩ := x
          simp only [fcs]
          obtain ⟨n6, hn6⟩ : ∃ n6, f6.length = n6 := ⟨_, rfl⟩
          obtain ⟨n7, hn7⟩ : ∃ n7, f7.length = n7 := ⟨_, rfl⟩
          obtain ⟨n8, hn8⟩ : ∃ n8, f8.length = n8 := ⟨_, rfl⟩
          obtain ⟨n9, hn9⟩ : ∃ n9, f9.length = n9 := ⟨_, rfl⟩
          simp only [hn6, hn7, hn8, hn9] at HRO ⊢
          obtain ⟨w3, hw3⟩ : ∃ w3, w2.alloc (.cells #[.string f1, .int .i64 f2, .bool f3, .bool f4, .int .i64 f5, .slice ax n6 cx, .slice ay n7 cy, .slice az n8 cz, .slice au n9 cu] 42) = w3 := ⟨_, rfl⟩
          have hb3 : Below w2.heap.size w2 w3 := by rw [← hw3]; exact lay_below
          have hC3 : ∀ (j : Nat) (u : Value), ([.string f1, .int .i64 f2, .bool f3, .bool f4, .int .i64 f5, .slice ax n6 cx, .slice ay n7 cy, .slice az n8 cz, .slice au n9 cu] : List Value)[j]? = some u → w3.cell? (Addr.add ⟨w2.heap.size, 0, none⟩ j) = some u := by rw [← hw3]; exact row_cells
          have HC3 := Hid.mk' hC3
          have HB3 := Hid.mk' hb3
          have HO3 := Hid.mk' (own_below hO hb3)
          have HZ : Hid (w.heap.size ≤ w3.heap.size) := Hid.mk' (Nat.le_trans HF2.out.size hb3.size)
          obtain ⟨b2, hb2⟩ : ∃ b2, w2.heap.size = b2 := ⟨_, rfl⟩
          rw [hb2] at HC3
          simp only [HNN.out] at HO3
          clear hO hF hR p2 hC3 hb3 hrows hn6 hn7 hn8 hn9
          go_wp2_with (at_builtin; refine wpList_append_own_at _ rfl _ _ 24 rfl w.heap.size 42 i0 (.agg #[.string ⟨#[]⟩, .int .i64 0, .bool false, .bool false, .int .i64 0, .slice none 0 0, .slice none 0 0, .slice none 0 0, .slice none 0 0]) 9 136 Tryz.underlying24 hi hz0 hz1 hz2 rfl (by decide) _ _ _ rfl HO3.out ⟨b2, 0, none⟩ 1 1 [.string f1, .int .i64 f2, .bool f3, .bool f4, .int .i64 f5, .slice ax n6 cx, .slice ay n7 cy, .slice az n8 cz, .slice au n9 cu] rfl rfl HC3.out ?c2 (by unfold maxLen; omega) (by omega) HZ.out ?_)
          case c2 =>
            exact ⟨rfl, rfl, rfl, rfl, rfl, rfl, rfl, rfl, rfl⟩
          intro v' w4 ho4 hg4 _ hblk
          have hk := own_ge HO3.out
          have HG4 : Hid (LgF N rb g L1 w w4 v' (els ++ [⟨⟨f1, f2, f3, f4, f5, f6, f7, f8, f9⟩, .slice ax n6 cx, .slice ay n7 cy, .slice az n8 cz, .slice au n9 cu⟩]) L2) := Hid.mk' ⟨by
              rw [List.length_append, List.flatMap_append, HNN.out]
              simpa [FV.cs, fcs] using ho4, fun q hq => ((HRO.out q hq).below HB3.out).apart HO3.out hg4, by
              rw [HG.out.say, show N - els.length = (N - (els ++ [(⟨⟨f1, f2, f3, f4, f5, f6, f7, f8, f9⟩, .slice ax n6 cx, .slice ay n7 cy, .slice az n8 cz, .slice au n9 cu⟩ : FV)]).length) + 1 by have := HNN.out; simp; omega, lst_snoc, HP2.out]
              simp only [Option.bind_some, Option.map_map]
              congr 1
              funext y
              simp, (HR2.out.below HB3.out).grown hg4 (fun q => by have := hk _ q; have := HLT.out; omega) (fun q => by have := hk _ q; have := HLT.out; omega), (HF2.out.trans (Fr.of_below HB3.out)).grown hg4 hk, by
              have := HE.out
              have := HNN.out
              simp
              omega⟩
          clear ho4 hg4 hblk hk HO3 HC3 HZ HO
          go_wp2
          go_roundw
          case rel => exact ⟨els ++ [⟨⟨f1, f2, f3, f4, f5, f6, f7, f8, f9⟩, .slice ax n6 cx, .slice ay n7 cy, .slice az n8 cz, .slice au n9 cu⟩], L2, by rw [List.length_append, HNN.out]; go_num, by have := HNN.out; simp; omega, HG4⟩
          case measure => simp [intOf]; omega
        · go_wp2
          refine ⟨rfl, .inr ⟨?_, rfl, HG.out.fr.trans hF⟩⟩
          rw [HP.out, HG.out.say, HNN.out, show N - nn = (N - nn - 1) + 1 by omega, lst_snoc, p2]
          rfl
      · have i1 : ¬ (els.length : Int) < (N : Int) := by omega
        obtain ⟨nn, hnn⟩ : ∃ nn, els.length = nn := ⟨_, rfl⟩
        simp only [hnn] at i1 hfew ⊢
        have HNN := Hid.mk' hnn
        clear hnn
        go_wp2
        go_ret
        refine .inl ⟨els.map FV.f, R, _, ?_, rfl, ⟨els, rfl, HG.out.own, HG.out.rows⟩, HG.out.rc, HG.out.fr⟩
        rw [HP.out, HG.out.say, show N - els.length = 0 by have := HNN.out; omega]
        simp [lst]
  · go_wp2
    refine ⟨rfl, .inr ⟨?_, rfl, hF⟩⟩
    unfold lstP
    rw [p1]
    rfl
end Go.Proofs.YtkgjmiadgfcbnaaGreatDoor
