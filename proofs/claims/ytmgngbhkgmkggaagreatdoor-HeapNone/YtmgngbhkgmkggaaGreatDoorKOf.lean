/- strconv.FormatUint at base 10; keys.Of: the key of an index. -/
import Derived.Test.YtmgngbhkgmkggaaGreatDoorKSm
import Derived.Test.YtmgngbhkgmkggaaGreatDoorOf
import Derived.Test.YtmgngbhkgmkggaaGreatDoorShelf
import Derived.Lib.ItoaMem
import Derived.Laws.RangeString
import Derived.Lib.AppendIntMem
namespace Go.Proofs.YtmgngbhkgmkggaaGreatDoor
set_option linter.unusedVariables false
open Go.RowKit Go.Sort Go.Lib

/-- The table of powers of ten lies where the program's text has laid it. -/
def P10 (w : World) : Prop := Lib.TabIs Tryz.prog w "internal/strconv.uint64pow10" .u64 Lib.pow10Tab
theorem P10.below {w w' : World} (h : P10 w) (hb : Below w.heap.size w w') : P10 w' := Lib.tabBelow_of_tabIs h _ hb

/-- An ASCII text's units are its bytes. -/
theorem ofFrom_ascii (l : List UInt8) (h : ∀ c ∈ l, c.toNat < 128) : ∀ (f i : Nat) (acc : List UInt8), l.length ≤ i + f → i ≤ l.length → ofFrom (Sb l) f acc i = .ok (acc ++ mkB ((l.drop i).map (·.toNat)))
  | 0, i, acc, hf, hi => by
    obtain rfl : i = l.length := by omega
    rw [ofFrom, List.drop_length]
    simp [mkB]
  | f + 1, i, acc, hf, hi => by
    by_cases hlt : i < l.length
    · have hs : i < (Sb l).size := by rw [Sb_size]; exact hlt
      obtain ⟨c, hg, hd, hm⟩ : ∃ c, ((Sb l)[i]'hs) = c ∧ l.drop i = c :: l.drop (i + 1) ∧ c ∈ l := ⟨_, rfl, List.drop_eq_getElem_cons hlt, List.getElem_mem hlt⟩
      have hc := h c hm
      have hde : Utf8.decode (Sb l) i = (c.toNat, 1) := by rw [decode_ascii (Sb l) i hs (by rw [hg]; exact hc), hg]
      have hb : bad (Sb l) i = false := by unfold bad; rw [hde]; simp; omega
      rw [ofFrom, if_pos hs, hb, hde, if_neg (by simp), ofFrom_ascii l h f (i + 1) _ (by omega) (by omega), pb_low (by show c.toNat < 65536; omega), hd, List.map_cons]
      have : mkB (c.toNat :: (l.drop (i + 1)).map (·.toNat)) = ub c.toNat ++ mkB ((l.drop (i + 1)).map (·.toNat)) := rfl
      rw [this, List.append_assoc]
    · obtain rfl : i = l.length := by omega
      rw [ofFrom_end _ _ _ _ (by rw [Sb_size]; omega), List.drop_length]
      simp [mkB]
theorem ofS_ascii (l : List UInt8) (h : ∀ c ∈ l, c.toNat < 128) : ofS (Sb l) = .ok (mkB (l.map (·.toNat))) := by
  unfold ofS
  rw [ofFrom_ascii l h _ 0 [] (by rw [Sb_size]; omega) (by omega)]
  simp

theorem dec_digit : ∀ (u : Nat), ∀ c ∈ Lib.decDigits u, 48 ≤ c.toNat ∧ c.toNat ≤ 57 := by
  intro u
  induction u using Nat.strongRecOn with
  | ind u ih =>
    intro c hc
    rw [Lib.decDigits] at hc
    split at hc
    · simp at hc; subst hc
      simp; omega
    · rw [List.mem_append] at hc
      rcases hc with hc | hc
      · exact ih _ (by omega) c hc
      · simp at hc; subst hc
        simp; omega

/-- The text of an index. -/
def keyT (i : Nat) : ByteArray := ⟨(mkB ((Lib.decDigits i).map (·.toNat))).toArray⟩
theorem of_dec (i : Nat) : ofEnd (ofS (Sb (Lib.decDigits i))) = .returned (.tuple #[.string (keyT i), .int .i64 0, .int .i64 0]) := by
  rw [ofS_ascii _ (fun c hc => by have := dec_digit i c hc; omega)]; rfl

theorem holds_zero0 (w : World) (T : TypeId) (nd : Nat) (hs : nd ≤ 24) : Holds (fun (b : UInt8) => Value.int .u8 (b.toNat : Int)) (w.alloc (.cells zeros24 T)) w.heap.size 0 (Array.replicate nd (0 : UInt8)) := fun j hj => by
  have hj' : j < nd := by simpa using hj
  refine ⟨?_, World.frozen?_alloc_new _ _ _ _⟩
  rw [World.cell?_alloc_new, zeros24_at _ (by omega), getElem!_pos _ j hj]
  simp

theorem below_put (w : World) (o : Obj) (d : Array UInt8) (k : Nat) : Below w.heap.size w ((putRow (fun (b : UInt8) => Value.int .u8 (b.toNat : Int)) (w.alloc o) w.heap.size 0 d).drewN k) := by
  refine below_drewN ?_ _
  refine ⟨rfl, rfl, rfl, ?_, fun j hj => ?_⟩
  · show w.heap.size ≤ ((w.heap.push o).modify w.heap.size _).size
    simp
  · show (((w.heap.push o).modify w.heap.size _))[j]? = _
    rw [Array.getElem?_modify, if_neg (by omega), Array.getElem?_push, if_neg (by omega)]

set_option maxHeartbeats 1000000 in
set_option maxRecDepth 100000 in
theorem fmtUint_in (u : Nat) (hu : u < 4294967296) (w : World) (htab : P10 w) :
    Calls Tryz.prog 106 #[.int .u64 u, .int .i64 10] w fun e w' => e = .returned (.string (Sb (Lib.decDigits u))) ∧ Below w.heap.size w w' := by
  by_cases hs : u < 100
  · have h1 : (u : Int) < 100 := by omega
    have x1 : IntKind.i64.wrap (u : Int) = u := by rw [IntKind.wrap_i64]; omega
    go_enter Tryz.func106, Tryz.ntmps106
    go_wp2_with (go_at_call 115; refine (Tryz.internal_strconv_small u hs _).mono ?_; rintro e w1 ⟨rfl, hw1⟩; rw [hw1]; clear hw1 w1)
    go_ret
    exact ⟨rfl, Below.refl _ _⟩
  · have h1 : ¬ (u : Int) < 100 := by omega
    have hu1 : 1 ≤ u := by omega
    have hu64 : u < 18446744073709551616 := by omega
    have hnd20 : Lib.nDigits u ≤ 20 := by have := Lib.numDigits_eq u hu1 hu64; split at this <;> omega
    have hal : Tryz.prog.arrayLen 208 = 24 := by kernel_rfl
    have hsl : ∀ W, (Instr.sliceAt 208 (.pointer (some ⟨w.heap.size, 0, none⟩)) none (some (.int .i64 (Lib.nDigits u : Int))) none).run Tryz.prog W = .ok (.slice (some ⟨w.heap.size, 0, none⟩) (Lib.nDigits u) 24) W := fun W => by
      rw [run_sliceAt_array_h W 208 ⟨w.heap.size, 0, none⟩ (by kernel_rfl) .i64 (Lib.nDigits u : Int) (by omega) (by rw [hal]; omega), hal, show Tryz.prog.elem 208 = 5 by kernel_rfl]
      go_simp
    have hH0 := holds_zero0 w 208 (Lib.nDigits u) (by omega)
    have hfmt := Tryz.internal_strconv_formatBase10 w.heap.size 0 24 u (Array.replicate (Lib.nDigits u) 0) (w.alloc (.cells Lib.zeros24 208)) hH0 (by rw [Array.size_replicate]; exact Lib.lt_pow_nDigits u) hu64 (by rw [Array.size_replicate]; omega)
    rw [Array.size_replicate] at hfmt
    have HF := Hid.mk' hfmt
    have HH0 := Hid.mk' hH0
    have HT := Hid.mk' (Tryz.internal_strconv_numDigits u hu1 hu64 (w.alloc (.cells Lib.zeros24 208)) (Lib.tabIs_alloc htab _))
    clear hH0 hal hfmt
    go_enter Tryz.func106, Tryz.ntmps106
    go_wp2_with (first | (go_at_call 116; refine (HT.out).mono ?_; rintro e w1 ⟨rfl, hw1⟩; rw [hw1]; clear hw1 w1))
    refine HF.out.mono ?_
    rintro e w1 ⟨rfl, k, v', dk, hw1, hF⟩
    have hcv : (convert 134 9 (.slice (some ⟨w.heap.size, 0, none⟩) (Lib.nDigits u) 24)).run Tryz.prog w1 = .ok (.string (Sb (Lib.decDigits u))) w1 := by
      have h := run_convert_bytes_back (P := Tryz.prog) w1 134 9 5 ⟨w.heap.size, 0, none⟩ 24 (Lib.decDigits u) Tryz.underlying134 Tryz.underlying5 Tryz.underlying9 (fun j hj => by
        rw [Lib.add_plain, hw1, Lib.row_is_numeral hF j hj, World.cell?_drewN]
        exact cell?_putRow (fun (b : UInt8) => Value.int .u8 (b.toNat : Int)) _ w.heap.size 0 _ dk HH0.out (by rw [hF.size, Array.size_replicate]) j (by rw [hF.size]; rw [Lib.decDigits_length] at hj; exact hj))
      rw [Lib.decDigits_length] at h
      exact h
    have hb : Below w.heap.size w w1 := by rw [hw1]; exact below_put _ _ _ _
    clear hw1 hF
    go_wp2
    go_ret
    exact ⟨rfl, hb⟩

set_option maxHeartbeats 400000 in
theorem fmtUint_any (u : Nat) (hu : u < 4294967296) (w : World) (htab : P10 w) :
    Calls Tryz.prog 84 #[.int .u64 u, .int .i64 10] w fun e w' => e = .returned (.string (Sb (Lib.decDigits u))) ∧ Below w.heap.size w w' := by
  go_enter Tryz.func84, Tryz.ntmps84
  go_wp2_with (go_at_call 106; refine (fmtUint_in u hu _ htab).mono ?_; rintro e w1 ⟨rfl, b1⟩)
  go_ret
  exact ⟨rfl, b1⟩

theorem nDigits_le : ∀ (u k : Nat), u < 10 ^ k → Lib.nDigits u ≤ max k 1
  | u, 0, h => by rw [Lib.nDigits_small (by omega)]; omega
  | u, k + 1, h => by
    by_cases hu : u < 10
    · rw [Lib.nDigits_small hu]; omega
    · have hk : u / 10 < 10 ^ k := by rw [Nat.pow_succ] at h; omega
      have := nDigits_le (u / 10) k hk
      have : k ≠ 0 := by rintro rfl; omega
      rw [Lib.nDigits_big hu]; omega

set_option maxHeartbeats 1000000 in
set_option maxRecDepth 100000 in
theorem of_key (u : Nat) (hu : u < 4294967296) (w : World) (htab : P10 w) :
    Calls Tryz.prog 71 #[.int .u32 u] w fun e w' => e = .returned (.agg #[.string (keyT u), .int .i64 0]) ∧ Below w.heap.size w w' := by
  have x1 : IntKind.u64.wrap (u : Int) = u := by rw [IntKind.wrap_u64]; omega
  have hnd20 : Lib.nDigits u ≤ 10 := by have := nDigits_le u 10 (by omega); omega
  have HF := Hid.mk' (fun W h => fmtUint_any u hu W h)
  have HO := Hid.mk' (fun W => of_any (Sb (Lib.decDigits u)) W (by rw [Sb_size, Lib.decDigits_length]; omega))
  rw [of_dec] at HO
  have hp : P10 (w.alloc (.cells #[.string ⟨#[]⟩, .int .i64 0] 31)) := Lib.tabIs_alloc htab _
  have HP := Hid.mk' hp
  clear hp
  go_enter Tryz.func71, Tryz.ntmps71
  go_wp2_with fail
  refine (HF.out _ HP.out).mono ?_
  rintro e w1 ⟨rfl, b1⟩
  go_wp2_with fail
  refine (HO.out _).mono ?_
  rintro e w2 ⟨rfl, b2⟩
  have b12 := b1.trans (b2.mono b1.size)
  have c0 := (b12.cell (p := ⟨w.heap.size, 0, none⟩) (by simp)).trans (World.cell?_alloc_new _ _ _ _)
  have c1 := (b12.cell (p := ⟨w.heap.size, 1, none⟩) (by simp)).trans (World.cell?_alloc_new _ _ _ _)
  have f0 := (b12.frozen (p := ⟨w.heap.size, 0, none⟩) (by simp)).trans (World.frozen?_alloc_new _ _ _ _)
  have f1 := (b12.frozen (p := ⟨w.heap.size, 1, none⟩) (by simp)).trans (World.frozen?_alloc_new _ _ _ _)
  simp only [List.getElem?_toArray, List.getElem?_cons_zero, List.getElem?_cons_succ] at c0 c1
  go_wp2
  (try simp only [Exit.inBlock, Exit.then])
  refine bodyPost_ret (v := .agg #[.string (keyT u), .int .i64 0]) ?_ rfl ⟨rfl, ?_⟩
  · rw [results_cell rfl]
    go_simp
  · have b0 : RowKit.Below w.heap.size w (w.alloc (.cells #[.string ⟨#[]⟩, .int .i64 0] 31)) := (Below.refl _ _).alloc (Nat.le_refl _) _
    have b3 := b0.trans (b12.mono b0.size)
    repeat' (first | exact b3 | refine RowKit.Below.setCell ?_ (by simp) _)

end Go.Proofs.YtmgngbhkgmkggaaGreatDoor
