/- lex.told: the iterator over a source's tokens, by what next tells. -/
import Derived.Test.YtopdogpcachonaaGreatDoorLNx
import Derived.Test.YtopdogpcachonaaGreatDoorLRng2
import Derived.Test.YtopdogpcachonaaGreatDoorOf
namespace Go.Proofs.YtopdogpcachonaaGreatDoor
set_option linter.unusedVariables false
open Go.RowKit Go.Shelf
attribute [local go_sem] Oper.semAt_some

/-- What lay in a world lies there. -/
def Kp (w0 w : World) : Prop := ∀ (k : Nat) (o : Obj), w0.heap[k]? = some o → w.heap[k]? = some o
theorem Kp.of_below {w0 w : World} (h : Below w0.heap.size w0 w) : Kp w0 w := fun k o ho => (h.block k (Array.getElem?_eq_some_iff.1 ho).1).trans ho
theorem LaidN.kp {w0 w : World} (h : LaidN w0) (hk : Kp w0 w) : LaidN w := by
  have hc : ∀ b o v, w0.cell? ⟨b, o, none⟩ = some v → w.cell? ⟨b, o, none⟩ = some v := fun b o v hv => by
    have hlt : b < w0.heap.size := World.block_lt_of_cell? w0 _ hv
    have h1 : w0.heap[b]? = some w0.heap[b] := Array.getElem?_eq_getElem hlt
    have h2 := hk b _ h1
    have e : w.cell? ⟨b, o, none⟩ = w0.cell? ⟨b, o, none⟩ := by simp only [World.cell?, h1, h2]
    rw [e, hv]
  refine ⟨?_, fun j hj => hc _ _ _ (h.lets j hj), hc _ _ _ h.opt, ⟨hc _ _ _ h.info.1, hc _ _ _ h.info.2.1, hc _ _ _ h.info.2.2⟩, ?_⟩
  · obtain ⟨m, hm⟩ := h.maxl
    exact ⟨m, hc _ _ _ hm⟩
  · obtain ⟨b, o, c, h1, h2⟩ := h.f64p
    exact ⟨b, o, c, hc _ _ _ h1, fun j hj => hc _ _ _ (h2 j hj)⟩
/-- What next tells where the reader stands so. -/
def NextIs (w0 : World) (S : ByteArray) (nv : Bool) (a : Nat) (f : Int) (op : List Int) (t : Tk) (z : Int) (a' : Nat) (f' : Int) (op' : List Int) : Prop :=
  ∀ (B rb : Nat) (ov : Value) (w : World), w0.heap.size ≤ B → Kp w0 w → (nv = true → ov = .slice none 0 0) → Rdr B w rb S (a : Nat) f ov op →
    Calls Tryz.prog 24 #[.pointer (some ⟨rb, 0, none⟩)] w fun e w' => e = .returned (.tuple #[t.agg, .int .i64 z]) ∧ Nxt B rb S f' ov (a' : Nat) op' w w'
def RunL (w0 : World) (S : ByteArray) : List (Tk × Int) → Bool → Nat → Int → List Int → Prop
  | [], _, _, _, _ => False
  | x :: ts, nv, a, f, op => ∃ a' f' op', NextIs w0 S nv a f op x.1 x.2 a' f' op' ∧ ((ts = [] ∧ (x.2 ≠ 0 ∨ x.1.kind = 0)) ∨ (x.2 = 0 ∧ x.1.kind ≠ 0 ∧ a < a' ∧ a' ≤ S.size ∧ RunL w0 S ts false a' f' op'))
/-- From there on next tells these, and no more. -/
def Run (w0 : World) (S : ByteArray) (nv : Bool) (a : Nat) (f : Int) (op : List Int) (ts : List (Tk × Int)) : Prop := RunL w0 S ts nv a f op
theorem Run.last {w0 : World} {S : ByteArray} {nv : Bool} {a : Nat} {f : Int} {op : List Int} {t : Tk} {z : Int} {a' : Nat} {f' : Int} {op' : List Int} (h1 : NextIs w0 S nv a f op t z a' f' op') (h2 : z ≠ 0 ∨ t.kind = 0) : Run w0 S nv a f op [(t, z)] := ⟨a', f', op', h1, .inl ⟨rfl, h2⟩⟩
theorem Run.more {w0 : World} {S : ByteArray} {nv : Bool} {a : Nat} {f : Int} {op : List Int} {t : Tk} {a' : Nat} {f' : Int} {op' : List Int} {ts : List (Tk × Int)} (h1 : NextIs w0 S nv a f op t 0 a' f' op') (h2 : t.kind ≠ 0) (h3 : a < a') (h4 : a' ≤ S.size) (h5 : Run w0 S false a' f' op' ts) : Run w0 S nv a f op ((t, 0) :: ts) := ⟨a', f', op', h1, .inr ⟨rfl, h2, h3, h4, h5⟩⟩
theorem Run.first {w0 : World} {S : ByteArray} {nv : Bool} {a : Nat} {f : Int} {op : List Int} {rest : List (Tk × Int)} (h : Run w0 S nv a f op rest) : ∃ t z a' f' op' rest', rest = (t, z) :: rest' ∧ NextIs w0 S nv a f op t z a' f' op' ∧ ((rest' = [] ∧ (z ≠ 0 ∨ t.kind = 0)) ∨ (z = 0 ∧ t.kind ≠ 0 ∧ a < a' ∧ a' ≤ S.size ∧ Run w0 S false a' f' op' rest')) := by
  cases rest with
  | nil => exact h.elim
  | cons x ts =>
    obtain ⟨a', f', op', h1, h2⟩ := h
    exact ⟨x.1, x.2, a', f', op', ts, rfl, h1, h2⟩
def encK (x : Tk × Int) : Array Value := #[x.1.agg, .int .i64 x.2]
theorem TF.weak {F G : Nat → Prop} {B : Nat} {W W' : World} (h : TF G B W W') (hF : ∀ k, F k → G k) : TF F B W W' := ⟨h.os, h.tape, h.output, h.size, fun k o hk ho => h.same k o (hk.imp (hF k) id) ho⟩
set_option maxHeartbeats 1000000 in
set_option maxRecDepth 100000 in
theorem readable_ok (S : ByteArray) (bs : List UInt8) (w : World) (hs : (S.size : Int) ≤ 262144) (ho : ofS S = .ok bs) : Calls Tryz.prog 23 #[.string S] w fun e w' => e = .returned (.tuple #[.int .i64 0, .int .i64 0]) ∧ Below w.heap.size w w' := by
  have HO := Hid.mk' (of_any S w (by omega))
  rw [ho] at HO
  clear ho
  go_enter Tryz.func23, Tryz.ntmps23
  go_wp2_with fail
  refine HO.out.mono ?_
  rintro e w1 ⟨rfl, b1⟩
  simp only [ofEnd]
  go_wp2
  go_ret2
  exact ⟨rfl, b1⟩
set_option maxHeartbeats 400000 in
theorem told_any (S : ByteArray) (w : World) : Calls Tryz.prog 15 #[.string S] w fun e w' => e = .returned (.func (.func 22) #[] #[.pointer (some ⟨w.heap.size, 0, none⟩)]) ∧ w' = w.alloc (.cells #[.string S] 9) := by
  have hmf : ∀ (fn : Fn) (first cap : Array Value) (w : World), (Instr.makeFunc fn first cap).run Tryz.prog w = .ok (.func fn first cap) w := fun _ _ _ _ => rfl
  go_enter Tryz.func15, Tryz.ntmps15
  go_wp2
  go_ret
  exact ⟨rfl, rfl⟩
set_option maxHeartbeats 4000000 in
set_option maxRecDepth 100000 in
theorem told1_in (n l sb N : Nat) (w0 W : World) (S : ByteArray) (bs : List UInt8) (ts : List (Tk × Int)) (hw : Below w0.heap.size w0 W) (hs : (S.size : Int) ≤ 262144) (ho : ofS S = .ok bs) (hrun : Run w0 S true 0 0 [] ts) (hN : ts.length ≤ N)
    (J Jx : List (Tk × Int) → (Nat → Prop) → World → Prop) (F0 : Nat → Prop) (hJ : Abd W.heap.size J) (hJx : Abd W.heap.size Jx) (hJF : ∀ s F X, J s F X → ∀ k, F k → w0.heap.size ≤ k ∧ k < X.heap.size)
    (hY : ∀ pre x F W1, J pre F W1 → pre.length < N → YieldAt Fence.wide (n - 1) Tryz.prog l (encK x) W1 fun e W' =>
      ∃ F', (e = .returned (.bool true) ∧ J (pre ++ [x]) F' W' ∧ RF F F' W1 W') ∨ (e = .returned (.bool false) ∧ Jx (pre ++ [x]) F' W' ∧ RX F F' W.heap.size W1 W'))
    (h0 : J [] F0 W) (cs : W.cell? ⟨sb, 0, none⟩ = some (.string S)) :
    CallsIn Fence.wide n Tryz.prog 22 #[.func (.yield l) #[] #[], .pointer (some ⟨sb, 0, none⟩)] W fun e W' => (∃ v, e = .returned v) ∧ ((∃ xs F, xs = ts ∧ J xs F W') ∨ (∃ pre F, pre <+: ts ∧ Jx pre F W')) := by
  have hst : ∀ (p : Addr) (x : Nat) (md : Mode) (W : World), (store p (.float .f64 x) md).run Tryz.prog W = stored Tryz.prog W p (.float .f64 x) md := fun p x md W => run_store Tryz.prog W p _ md rfl
  have HRD := Hid.mk' (readable_ok S bs W hs ho)
  have hsb : sb < W.heap.size := World.block_lt_of_cell? W _ cs
  clear ho
  refine callsIn_of_wp Tryz.func22 rfl trivial ?_ rfl
  simp only [Tryz.ntmps22, List.size_toArray, List.length_cons, List.length_nil, Nat.reduceAdd, Nat.reduceSub, Array.replicate_succ, Array.replicate_zero, List.push_toArray, List.append_toArray, List.nil_append, List.cons_append]
  gi_wp2_with fail
  refine ⟨trivial, fun h => (by cases h), (callsIn_wide.2 HRD.out).mono ?_⟩
  rintro e w1 ⟨rfl, b1⟩
  have cs1 : w1.cell? ⟨sb, 0, none⟩ = some (.string S) := (b1.cell (p := ⟨sb, 0, none⟩) hsb).trans cs
  obtain ⟨X0, hX0⟩ : ∃ X0, w1.alloc (.cells #[.string S, .int .i64 0, .int .i64 0, .slice none 0 0] 68) = X0 := ⟨_, rfl⟩
  obtain ⟨rb, hrb⟩ : ∃ rb, w1.heap.size = rb := ⟨_, rfl⟩
  have bX : Below w1.heap.size w1 X0 := by rw [← hX0]; exact below_new
  have hRd : Rdr W.heap.size X0 rb S ((0 : Nat) : Int) 0 (.slice none 0 0) [] := ⟨by rw [← hX0, ← hrb]; exact World.alloc_heap_new w1 _, World.ownsRow_nil _ _ _ _, by rw [← hrb]; exact b1.size⟩
  have bWX : Below W.heap.size W X0 := b1.trans (bX.mono b1.size)
  have hJ0 : J [] F0 X0 := hJ _ _ _ _ h0 (TF.of_below bWX)
  have hF0 : ∀ k, F0 k → k < W.heap.size := fun k hk => (hJF _ _ _ h0 k hk).2
  have hrbW : W.heap.size ≤ rb := by rw [← hrb]; exact b1.size
  have HRL : Hid (∃ pre rest a f op ov nv F, ts = pre ++ rest ∧ Run w0 S nv a f op rest ∧ a ≤ S.size ∧ (nv = true → ov = .slice none 0 0) ∧ Rdr W.heap.size X0 rb S ((a : Nat) : Int) f ov op ∧ J pre F X0 ∧ ¬ F rb ∧ (∀ k, ov.ownBlock = some k → ¬ F k) ∧ Kp w0 X0) :=
    Hid.mk' ⟨[], ts, 0, 0, [], _, true, F0, rfl, hrun, Nat.zero_le _, fun _ => rfl, hRd, hJ0, fun h => by have := hF0 _ h; omega, fun k hk => by simp [Value.ownBlock] at hk, Kp.of_below (hw.trans (bWX.mono hw.size))⟩
  clear hRd bWX hJ0 hF0 bX h0
  gi_wp2_with fail
  gi_loopw [7] (fun v wr => Hid (∃ pre rest a f op ov nv F, ts = pre ++ rest ∧ Run w0 S nv a f op rest ∧ a ≤ S.size ∧ (nv = true → ov = .slice none 0 0) ∧ Rdr W.heap.size wr rb S ((a : Nat) : Int) f ov op ∧ J pre F wr ∧ ¬ F rb ∧ (∀ k, ov.ownBlock = some k → ¬ F k) ∧ Kp w0 wr)) (fun v wr => S.size - posN wr rb)
  case atStart => exact HRL
  case round =>
    clear HRL
    obtain ⟨pre, rest, a, f, op, ov, nv, F, hts, hrn, ha, hnv, hR, hJp, hFr, hFo, hbw⟩ := hrel.out
    have HPO := Hid.mk' (posN_of hR)
    clear hrel
    obtain ⟨t, z, a', f', op', rest', rfl, hnx, hcase⟩ : ∃ t z a' f' op' rest', rest = (t, z) :: rest' ∧ NextIs w0 S nv a f op t z a' f' op' ∧ ((rest' = [] ∧ (z ≠ 0 ∨ t.kind = 0)) ∨ (z = 0 ∧ t.kind ≠ 0 ∧ a < a' ∧ a' ≤ S.size ∧ Run w0 S false a' f' op' rest')) := hrn.first
    have HNX := Hid.mk' (hnx W.heap.size rb ov wr hw.size hbw hnv hR)
    have HC := Hid.mk' hcase
    have HFF := Hid.mk' (And.intro hFr hFo)
    have HJP := Hid.mk' hJp
    have HTS := Hid.mk' hts
    have HBW := Hid.mk' hbw
    have HLT := Hid.mk' hR.lt
    have hlen : pre.length < N := by
      have := congrArg List.length hts
      simp at this
      omega
    clear hnx hrn hcase hR hFr hFo hJp hbw hnv hts
    gi_wp2_with fail
    refine ⟨trivial, fun h => (by cases h), (callsIn_wide.2 HNX.out).mono ?_⟩
    rintro e w2 ⟨rfl, ov', hR2, hT2, hN2⟩
    obtain ⟨kd, tx, sr, nu, fr, to, li⟩ := t
    simp only [Tk.agg]
    have HR2 := Hid.mk' hR2
    have HT2 := Hid.mk' hT2
    have HN2 := Hid.mk' hN2
    obtain ⟨Y, hYe⟩ : ∃ Y, w2.alloc (.cells #[.int .i64 kd, .string tx, .string sr, .float .f64 nu, .int .i64 fr, .int .i64 to, .bool li] 31) = Y := ⟨_, rfl⟩
    obtain ⟨tb, htb⟩ : ∃ tb, w2.heap.size = tb := ⟨_, rfl⟩
    have bY : Below w2.heap.size w2 Y := by rw [← hYe]; exact below_new
    have hFlt : ∀ k, F k → k < wr.heap.size := fun k hk => (hJF _ _ _ HJP.out k hk).2
    have HFG := Hid.mk' (show ∀ k, F k → w0.heap.size ≤ k from fun k hk => (hJF _ _ _ HJP.out k hk).1)
    have hFG : ∀ k, F k → RdF rb ov k := fun k hk => ⟨fun e => HFF.out.1 (by rw [← e]; exact hk), fun e => HFF.out.2 k e hk⟩
    have hTY : TF F W.heap.size wr Y := (hT2.weak hFG).trans (TF.of_below bY)
    have hJY : J pre F Y := hJ _ _ _ _ HJP.out hTY
    have hRY := hR2.below bY
    have hbY : Y.heap[tb]? = some (.cells #[.int .i64 kd, .string tx, .string sr, .float .f64 nu, .int .i64 fr, .int .i64 to, .bool li] 31 (0, 0)) := by rw [← hYe, ← htb]; exact World.alloc_heap_new w2 _
    have htY : TokAt Y tb ⟨kd, tx, sr, nu, fr, to, li⟩ := hbY
    obtain ⟨ctb, y1, y2, y3, y4, y5, y6, yf⟩ := htY.cells
    dsimp only at ctb y1 y2 y3 y4 y5 y6
    have nFt : ¬ F tb := fun h => by have := hFlt _ h; have := hT2.size; omega
    have nFr : ¬ F rb := HFF.out.1
    have nFo : ∀ k, ov'.ownBlock = some k → ¬ F k := fun k hk => by
      rcases hN2 k hk with h1 | h1
      · exact HFF.out.2 k h1
      · exact fun h => by have := hFlt _ h; omega
    have hbwY : Kp w0 Y := fun k o ho => hTY.same k o (.inr (Nat.lt_of_lt_of_le (Array.getElem?_eq_some_iff.1 ho).1 hw.size)) (HBW.out k o ho)
    obtain ⟨fn, tmps, assign, body, hy, hRy⟩ := hY pre (⟨kd, tx, sr, nu, fr, to, li⟩, z) F Y hJY hlen
    simp only [encK, Tk.agg] at hy
    have HRy := Hid.mk' hRy
    have HRY := Hid.mk' hRY
    have HNF := Hid.mk' (And.intro nFt (And.intro nFr nFo))
    have HCT := Hid.mk' ctb
    have HBY := Hid.mk' hbwY
    clear hR2 hT2 hN2 hRy bY hFlt hFG hTY hJY hRY hbY htY nFt nFr nFo hbwY HR2 HT2 HN2
    gi_wp2_with fail
    refine ⟨fun h => (by cases h), HRy.out.mono ?_⟩
    rintro e W3 ⟨F', (⟨rfl, hJ3, hR3⟩ | ⟨rfl, hJx3, _⟩)⟩
    · have c3 := hR3.cell HNF.out.1 HCT.out
      have HJ3 := Hid.mk' hJ3
      have hR4 := HRY.out.rf hR3 HNF.out.2.1 HNF.out.2.2
      have nr : ¬ F' rb := hR3.not HRY.out.lt HNF.out.2.1
      have no : ∀ k, ov'.ownBlock = some k → ¬ F' k := fun k hk => hR3.not (HRY.out.own.lt k hk).2 (HNF.out.2.2 k hk)
      rcases HC.out with ⟨rfl, hzk⟩ | ⟨rfl, hk, hlt, hle, hrn⟩
      · have HFIN : Hid (pre ++ [(⟨kd, tx, sr, nu, fr, to, li⟩, z)] = ts) := Hid.mk' HTS.out.symm
        by_cases hz : z = 0
        · subst hz
          have hk0 : kd = 0 := hzk.resolve_left (fun h => h rfl)
          subst hk0
          clear hzk HC
          gi_wp2
          refine bodyPost_ret (results_none rfl _ _ _) rfl ?_
          exact ⟨⟨_, rfl⟩, .inl ⟨_, F', HFIN.out, HJ3.out⟩⟩
        · have hzb : (z == 0) = false := by simpa using hz
          have hzn : (z != 0) = true := by simpa using hz
          clear hzk HC hz
          gi_wp2
          refine bodyPost_ret (results_none rfl _ _ _) rfl ?_
          exact ⟨⟨_, rfl⟩, .inl ⟨_, F', HFIN.out, HJ3.out⟩⟩
      · have hkb : (kd == 0) = false := by simpa using hk
        have HREL : Hid (∃ pre rest a f op ov nv F, ts = pre ++ rest ∧ Run w0 S nv a f op rest ∧ a ≤ S.size ∧ (nv = true → ov = .slice none 0 0) ∧ Rdr W.heap.size W3 rb S ((a : Nat) : Int) f ov op ∧ J pre F W3 ∧ ¬ F rb ∧ (∀ k, ov.ownBlock = some k → ¬ F k) ∧ Kp w0 W3) := Hid.mk'
          ⟨pre ++ [(⟨kd, tx, sr, nu, fr, to, li⟩, 0)], rest', a', f', op', ov', false, F', by rw [HTS.out, List.append_assoc]; rfl, hrn, hle, (fun h => (by cases h)), hR4, hJ3, nr, no, fun k o ho => hR3.same k o (fun h => by have := HFG.out k h; have := (Array.getElem?_eq_some_iff.1 ho).1; omega) (HBY.out k o ho)⟩
        have HPN := Hid.mk' (posN_of hR4)
        clear hR4 nr no hrn HC hk hJ3 hR3
        gi_wp2
        go_roundw
        case rel => exact HREL
        case measure => rw [HPN.out, HPO.out]; omega
    · gi_wp2
      refine bodyPost_ret (results_none rfl _ _ _) rfl ?_
      exact ⟨⟨_, rfl⟩, .inr ⟨_, F', ⟨rest', by rw [HTS.out, List.append_assoc]; rfl⟩, hJx3⟩⟩
end Go.Proofs.YtopdogpcachonaaGreatDoor
