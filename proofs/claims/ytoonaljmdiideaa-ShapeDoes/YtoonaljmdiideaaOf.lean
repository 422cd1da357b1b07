/- units.Of: any bytes are units, or it is told where they are no UTF-8. -/
import Derived.Test.YtoonaljmdiideaaPt
import Derived.Lib.RuneCount
namespace Go.Proofs.Ytoonaljmdiideaa
set_option linter.unusedVariables false
open Go.RowKit

theorem decode_fit (s : ByteArray) (i : Nat) (h : i < s.size) : i + (Utf8.decode s i).2 ≤ s.size := by
  unfold Utf8.decode
  dsimp only
  repeat' split
  all_goals (try simp only [Bool.and_eq_true, decide_eq_true_eq] at *)
  all_goals omega

theorem decode_max (s : ByteArray) (i : Nat) : (Utf8.decode s i).1 ≤ 1114111 := by
  have hb : ∀ k, (s.get! k).toNat < 256 := fun k => UInt8.toNat_lt _
  have h0 := hb (i + 0); have h1 := hb (i + 1); have h2 := hb (i + 2); have h3 := hb (i + 3)
  unfold Utf8.decode
  dsimp only
  repeat' split
  all_goals simp only [Utf8.runeError, Utf8.valid, Bool.and_eq_true, Bool.or_eq_true, decide_eq_true_eq, beq_iff_eq] at *
  all_goals omega

theorem three_list (l : List UInt8) (i : Nat) : (decide (3 ≤ l.length - i) && (l.drop i).take 3 == [239, 191, 189]) = (decide (i + 3 ≤ l.length) && ((l.getD i 0).toNat == 239 && (l.getD (i + 1) 0).toNat == 191 && (l.getD (i + 2) 0).toNat == 189)) := by
  by_cases h : i + 3 ≤ l.length
  · have h1 : 3 ≤ l.length - i := by omega
    simp only [h, h1, decide_true, Bool.true_and]
    have e1 : (l.drop i).take 3 = [l[i], l[i + 1], l[i + 2]] := by
      rw [List.drop_eq_getElem_cons (show i < l.length by omega), List.drop_eq_getElem_cons (show i + 1 < l.length by omega), List.drop_eq_getElem_cons (show i + 1 + 1 < l.length by omega)]
      rfl
    rw [e1, List.getD_eq_getElem?_getD, List.getD_eq_getElem?_getD, List.getD_eq_getElem?_getD, List.getElem?_eq_getElem (by omega), List.getElem?_eq_getElem (by omega), List.getElem?_eq_getElem (by omega)]
    simp only [Option.getD_some]
    rw [Bool.eq_iff_iff]
    simp only [beq_iff_eq, List.cons.injEq, and_true, Bool.and_eq_true, ← UInt8.toNat_inj]
    constructor
    · rintro ⟨a, b, c⟩; exact ⟨⟨a, b⟩, c⟩
    · rintro ⟨⟨a, b⟩, c⟩; exact ⟨a, b, c⟩
  · have h1 : ¬ 3 ≤ l.length - i := by omega
    simp only [h, h1, decide_false, Bool.false_and]

theorem repl_eq (s : ByteArray) (i : Nat) : (decide (3 ≤ (s.extract i s.size).size) && ((s.extract i s.size).extract 0 3).toList == [239, 191, 189]) = repl s i := by
  have h1 : (s.extract i s.size).size = s.data.toList.length - i := by simp
  have h2 : ((s.extract i s.size).extract 0 3).toList = (s.data.toList.drop i).take 3 := by
    rw [ByteArray.toList_eq, ByteArray.data_extract, ByteArray.data_extract]
    simp
    omega
  rw [h1, h2, three_list s.data.toList i]
  unfold repl by'
  simp


/-- A row that the call owns stands while an iterator is moved on. -/
theorem own_iterAt {w : World} {base : Nat} {e : TypeId} {size : Nat} {v : Value} {n : Nat} {xs : List Value} (h : w.ownsRow base e size v n xs) {k : Nat} {s : ByteArray} {p : Nat} (hk : w.heap[k]? = some (.stringIter s p)) (q : Nat) : (w.iterAt k s q).ownsRow base e size v n xs := by
  obtain ⟨h1, h2⟩ := h
  refine ⟨h1, ?_⟩
  rcases h2 with h2 | ⟨g, cap, cur, a, b, c, d⟩
  · exact .inl h2
  · refine .inr ⟨g, cap, cur, a, b, ?_, d⟩
    rw [Lib.iterAt_other _ _ _ _ _ (fun e => by rw [e, hk] at c; cases c)]
    exact c

def ofEnd : Except Nat (List UInt8) → Ending
  | .ok bs => .returned (.tuple #[.string ⟨bs.toArray⟩, .int .i64 0, .int .i64 0])
  | .error p => .returned (.tuple #[.string ⟨#[]⟩, .int .i64 p, .int .i64 10])

/-- A row of bytes that the call owns, as a text. -/
theorem conv_row {w : World} {B : Nat} {v : Value} {bs : List UInt8} (hown : w.ownsRow B 5 1 v bs.length (Lib.byteCells bs)) (d : TypeId) (hd : Try.prog.underlying d = some .string) :
    (convert 61 d v).run Try.prog w = .ok (.string ⟨bs.toArray⟩) w := by
  rcases hown.2 with ⟨rfl, h0⟩ | ⟨g, cap, cur, rfl, hb, hg, hrest⟩
  · obtain rfl : bs = [] := by simpa using h0
    rw [run_convert_bytes_string w 61 d 5 none 0 0 Try.underlying61 Try.underlying5 hd]
    simp [Conv.bytesToString]
    rfl
  · exact run_convert_bytes_back w 61 d 5 ⟨g, 0, none⟩ cap bs Try.underlying61 Try.underlying5 hd (fun j hj => hown.cells (g := g) rfl j _ (by simp [Lib.byteCells, hj]))

end Go.Proofs.Ytoonaljmdiideaa
