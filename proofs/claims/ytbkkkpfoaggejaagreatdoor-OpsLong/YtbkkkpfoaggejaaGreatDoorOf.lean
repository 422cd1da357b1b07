/- units.Of: any bytes are units, or it is told where they are no UTF-8. -/
import Derived.Test.YtbkkkpfoaggejaaGreatDoorPt
import Derived.Lib.RuneCount
namespace Go.Proofs.YtbkkkpfoaggejaaGreatDoor
set_option linter.unusedVariables false
open Go.RowKit

theorem decode_fit (s : ByteArray) (i : Nat) (h : i < s.size) : i + (Utf8.decode s i).2 ≤ s.size := by
  unfold Utf8.decode
  dsimp only
  repeat' split
  all_goals (try simp only [Bool.and_eq_true, decide_eq_true_eq] at *)
  all_goals omega

theorem decode_max (s : ByteArray) (i : Nat) : (Utf8.decode s i).1 ≤ 1114111 := by
  have hb : ∀ k, (s.get! k).toNat < 256 := fun k => UInt8.toNat_lt _
  have h0 := hb (i + 0); have h1 := hb (i + 1); have h2 := hb (i + 2); have h3 := hb (i + 3)
  unfold Utf8.decode
  dsimp only
  repeat' split
  all_goals simp only [Utf8.runeError, Utf8.valid, Bool.and_eq_true, Bool.or_eq_true, decide_eq_true_eq, beq_iff_eq] at *
  all_goals omega

set_option maxHeartbeats 400000 in
set_option maxRecDepth 100000 in
theorem hasPre_any (s p : ByteArray) (w : World) (hs : (s.size : Int) ≤ 1048576) (hp : (p.size : Int) ≤ 1048576) :
    Calls Tryz.prog 100 #[.string s, .string p] w fun e w' => e = .returned (.bool (decide (p.size ≤ s.size) && (s.extract 0 p.size).toList == p.toList)) ∧ w' = w := by
  by_cases h : p.size ≤ s.size
  · rw [show (decide (p.size ≤ s.size) && (s.extract 0 p.size).toList == p.toList) = ((s.extract 0 p.size).toList == p.toList) from by simp [h]]
    go_enter Tryz.func100, Tryz.ntmps100
    go_wp2
    go_ret
    exact ⟨rfl, rfl⟩
  · rw [show (decide (p.size ≤ s.size) && (s.extract 0 p.size).toList == p.toList) = false from by simp [h]]
    go_enter Tryz.func100, Tryz.ntmps100
    go_wp2
    go_ret
    exact ⟨rfl, rfl⟩

theorem three_list (l : List UInt8) (i : Nat) : (decide (3 ≤ l.length - i) && (l.drop i).take 3 == [239, 191, 189]) = (decide (i + 3 ≤ l.length) && ((l.getD i 0).toNat == 239 && (l.getD (i + 1) 0).toNat == 191 && (l.getD (i + 2) 0).toNat == 189)) := by
  by_cases h : i + 3 ≤ l.length
  · have h1 : 3 ≤ l.length - i := by omega
    simp only [h, h1, decide_true, Bool.true_and]
    have e1 : (l.drop i).take 3 = [l[i], l[i + 1], l[i + 2]] := by
      rw [List.drop_eq_getElem_cons (show i < l.length by omega), List.drop_eq_getElem_cons (show i + 1 < l.length by omega), List.drop_eq_getElem_cons (show i + 1 + 1 < l.length by omega)]
      rfl
    rw [e1, List.getD_eq_getElem?_getD, List.getD_eq_getElem?_getD, List.getD_eq_getElem?_getD, List.getElem?_eq_getElem (by omega), List.getElem?_eq_getElem (by omega), List.getElem?_eq_getElem (by omega)]
    simp only [Option.getD_some]
    rw [Bool.eq_iff_iff]
    simp only [beq_iff_eq, List.cons.injEq, and_true, Bool.and_eq_true, ← UInt8.toNat_inj]
    constructor
    · rintro ⟨a, b, c⟩; exact ⟨⟨a, b⟩, c⟩
    · rintro ⟨⟨a, b⟩, c⟩; exact ⟨a, b, c⟩
  · have h1 : ¬ 3 ≤ l.length - i := by omega
    simp only [h, h1, decide_false, Bool.false_and]

theorem repl_eq (s : ByteArray) (i : Nat) : (decide (3 ≤ (s.extract i s.size).size) && ((s.extract i s.size).extract 0 3).toList == [239, 191, 189]) = repl s i := by
  have h1 : (s.extract i s.size).size = s.data.toList.length - i := by simp
  have h2 : ((s.extract i s.size).extract 0 3).toList = (s.data.toList.drop i).take 3 := by
    rw [ByteArray.toList_eq, ByteArray.data_extract, ByteArray.data_extract]
    simp
    omega
  rw [h1, h2, three_list s.data.toList i]
  unfold repl by'
  simp


/-- U+FFFD's bytes at a place: what strings.HasPrefix answers there. -/
theorem hasRepl (s : ByteArray) (i : Nat) (w : World) (hs : (s.size : Int) ≤ 1048576) :
    Calls Tryz.prog 100 #[.string (s.extract i s.size), .string ⟨#[239, 191, 189]⟩] w fun e w' => e = .returned (.bool (repl s i)) ∧ w' = w := by
  refine (hasPre_any _ _ w (by have : (s.extract i s.size).size = s.size - i := by simp
                               omega) (by decide)).mono ?_
  rintro e w' ⟨rfl, rfl⟩
  refine ⟨?_, rfl⟩
  rw [← repl_eq, show (⟨#[239, 191, 189]⟩ : ByteArray).toList = [239, 191, 189] from by rw [ByteArray.toList_eq]]
  rfl

/-- A row that the call owns stands while an iterator is moved on. -/
theorem own_iterAt {w : World} {base : Nat} {e : TypeId} {size : Nat} {v : Value} {n : Nat} {xs : List Value} (h : w.ownsRow base e size v n xs) {k : Nat} {s : ByteArray} {p : Nat} (hk : w.heap[k]? = some (.stringIter s p)) (q : Nat) : (w.iterAt k s q).ownsRow base e size v n xs := by
  obtain ⟨h1, h2⟩ := h
  refine ⟨h1, ?_⟩
  rcases h2 with h2 | ⟨g, cap, cur, a, b, c, d⟩
  · exact .inl h2
  · refine .inr ⟨g, cap, cur, a, b, ?_, d⟩
    rw [Lib.iterAt_other _ _ _ _ _ (fun e => by rw [e, hk] at c; cases c)]
    exact c

def ofEnd : Except Nat (List UInt8) → Ending
  | .ok bs => .returned (.tuple #[.string ⟨bs.toArray⟩, .int .i64 0, .int .i64 0])
  | .error p => .returned (.tuple #[.string ⟨#[]⟩, .int .i64 p, .int .i64 10])

/-- A row of bytes that the call owns, as a text. -/
theorem conv_row {w : World} {B : Nat} {v : Value} {bs : List UInt8} (hown : w.ownsRow B 5 1 v bs.length (Lib.byteCells bs)) (d : TypeId) (hd : Tryz.prog.underlying d = some .string) :
    (convert 54 d v).run Tryz.prog w = .ok (.string ⟨bs.toArray⟩) w := by
  rcases hown.2 with ⟨rfl, h0⟩ | ⟨g, cap, cur, rfl, hb, hg, hrest⟩
  · obtain rfl : bs = [] := by simpa using h0
    rw [run_convert_bytes_string w 54 d 5 none 0 0 Tryz.underlying54 Tryz.underlying5 hd]
    simp [Conv.bytesToString]
    rfl
  · exact run_convert_bytes_back w 54 d 5 ⟨g, 0, none⟩ cap bs Tryz.underlying54 Tryz.underlying5 hd (fun j hj => hown.cells (g := g) rfl j _ (by simp [Lib.byteCells, hj]))

set_option maxHeartbeats 400000 in
set_option maxRecDepth 100000 in
theorem of_any (s : ByteArray) (w : World) (hs : (s.size : Int) ≤ 1048576) :
    Calls Tryz.prog 72 #[.string s] w fun e w' => e = ofEnd (ofS s) ∧ Below w.heap.size w w' := by
  obtain ⟨i0, hi, hz0, hz1, hz2⟩ := info_parts info8
  go_enter Tryz.func72, Tryz.ntmps72
  go_wp2_with (at_make; refine wpList_make_own _ rfl _ _ 54 rfl w.heap.size 5 i0 (.int .u8 0) 1 Tryz.underlying54 hi hz0 hz1 .i64 .i64 _ (2 * s.size) rfl rfl (by omega) (by rw [hz2]; omega) (by unfold maxLen; omega) (Nat.le_refl _) ?_; intro w0 hown0 hgrow0)
  have hle : w.heap.size ≤ w0.heap.size := hgrow0.size
  have hb0 : Below w.heap.size w w0 := (Below.refl _ _).grown hgrow0 (Nat.le_refl _) (by simp)
  go_loopw [5] (fun v wr => ∃ (pos fuel : Nat) (acc : List UInt8), wr.ownsRow w.heap.size 5 1 v acc.length (Lib.byteCells acc) ∧ wr.heap[w0.heap.size]? = some (.stringIter s pos) ∧ Below w.heap.size w wr ∧ ofFrom s fuel acc pos = ofS s ∧ s.size ≤ pos + fuel ∧ acc.length ≤ 4 * pos ∧ pos ≤ s.size) (fun _ wr => s.size - wr.iterPos w0.heap.size)
  case atStart =>
    refine ⟨0, s.size, [], hown0.alloc _, World.iter_heap w0 s 0, hb0.alloc hle _, rfl, by omega, by simp, by omega⟩
  case round =>
    obtain ⟨pos, fuel, acc, hown, hit, hbw, hacc, hfu, hal, hps⟩ := hrel
    have hsz : w0.heap.size < wr.heap.size := (Array.getElem?_eq_some_iff.1 hit).1
    by_cases hp : pos < s.size
    · have hnx : ∀ ty, (Instr.next (.pointer (some ⟨w0.heap.size, 0, none⟩)) true ty).run Tryz.prog wr = _ := fun ty => Lib.run_next_any_at wr w0.heap.size s pos ty hit hp
      have hwd := Lib.decode_width_pos s pos hp
      have hd1 := decode_max s pos
      have hfit := decode_fit s pos hp
      obtain ⟨f, rfl⟩ : ∃ f, fuel = f + 1 := ⟨fuel - 1, by omega⟩
      have HR : Hid (ofFrom s (f + 1) acc pos = ofS s) := hacc
      clear hacc
      have HA : Hid (bad s pos = (decide ((Utf8.decode s pos).1 = 65533) && !repl s pos)) := rfl
      obtain ⟨r, hr⟩ : ∃ r, (Utf8.decode s pos).1 = r := ⟨_, rfl⟩
      obtain ⟨d, hd⟩ : ∃ d, (Utf8.decode s pos).2 = d := ⟨_, rfl⟩
      rw [hr, hd] at hnx
      rw [hr] at hd1 HA
      rw [hd] at hwd hfit
      have HR2 : Hid (ofFrom s (f + 1) acc pos = if bad s pos then .error pos else ofFrom s f (acc ++ pb r) (pos + d)) := by
        show _ = _
        rw [← hr, ← hd]; simp only [ofFrom, if_pos hp]
      clear hr hd
      have hown2 := own_iterAt hown hit (pos + d)
      have hit2 := Lib.iterAt_heap wr w0.heap.size s pos (pos + d) hit
      have hbw2 := Lib.below_iterAt hbw (k := w0.heap.size) hle s (pos + d)
      have hsz2 : w.heap.size ≤ (wr.iterAt w0.heap.size s (pos + d)).heap.size := by rw [Lib.iterAt_size]; omega
      have HC := Hid.mk' (appendPoint_any w.heap.size _ acc.length (Lib.byteCells acc) r hd1 _ hown2 (by omega) hsz2)
      have HD := Hid.mk' (hasRepl s pos (wr.iterAt w0.heap.size s (pos + d)) hs)
      by_cases h1 : r = 65533
      · subst h1
        cases h2 : repl s pos
        · rw [h2] at HD HA
          go_wp2_with (go_at_call 100; refine (HD.out).mono ?_; rintro e w' ⟨rfl, rfl⟩)
          go_ret3
          rw [← HR.out, HR2.out, HA.out]
          exact ⟨rfl, hbw2⟩
        · rw [h2] at HD HA
          go_wp2_with (first | (go_at_call 100; refine (HD.out).mono ?_; rintro e w' ⟨rfl, rfl⟩) | (go_at_call 101; refine (HC.out).mono ?_; rintro e w1 ⟨v1, rfl, o1, k1⟩))
          have hit3 : w1.heap[w0.heap.size]? = some (.stringIter s (pos + d)) := k1.2 _ _ hit2 (by simp) (by intro c fz; simp)
          go_roundw
          case rel =>
            refine ⟨pos + d, f, acc ++ pb 65533, ?_, hit3, hbw2.trans k1.1, ?_, by omega, ?_, hfit⟩
            · rw [byteCells_append', List.length_append]; exact o1
            · rw [← HR.out, HR2.out, HA.out]; rfl
            · have := pb_length 65533; rw [List.length_append]; omega
          case measure =>
            simp only [World.iterPos, hit3, hit]
            omega
      · have h1' : ((r : Int) == 65533) = false := by simp; omega
        rw [show decide (r = 65533) = false from by simp [h1]] at HA
        clear h1
        go_wp2_with (first | (go_at_call 100; refine (HD.out).mono ?_; rintro e w' ⟨rfl, rfl⟩) | (go_at_call 101; refine (HC.out).mono ?_; rintro e w1 ⟨v1, rfl, o1, k1⟩))
        have hit3 : w1.heap[w0.heap.size]? = some (.stringIter s (pos + d)) := k1.2 _ _ hit2 (by simp) (by intro c fz; simp)
        go_roundw
        case rel =>
          refine ⟨pos + d, f, acc ++ pb r, ?_, hit3, hbw2.trans k1.1, ?_, by omega, ?_, hfit⟩
          · rw [byteCells_append', List.length_append]; exact o1
          · rw [← HR.out, HR2.out, HA.out]; rfl
          · have := pb_length r; rw [List.length_append]; omega
        case measure =>
          simp only [World.iterPos, hit3, hit]
          omega
    · have hnx : ∀ ty, (Instr.next (.pointer (some ⟨w0.heap.size, 0, none⟩)) true ty).run Tryz.prog wr = _ := fun ty => Lib.run_next_end_at wr w0.heap.size s pos ty hit hp
      have hcv := conv_row hown 22 Tryz.underlying22
      rw [ofFrom_end s fuel pos acc hp] at hacc
      have HR : Hid (Except.ok acc = ofS s) := hacc
      clear hacc
      go_wp2
      go_ret3
      rw [← HR.out]
      exact ⟨rfl, hbw⟩

end Go.Proofs.YtbkkkpfoaggejaaGreatDoor
