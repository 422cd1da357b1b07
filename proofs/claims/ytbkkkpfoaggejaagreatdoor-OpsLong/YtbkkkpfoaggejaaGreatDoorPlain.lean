/- Plain mathematics of units, code points and UTF-8: no program in it. -/
import Derived.Lib.RuneBytes
import Derived.Lib.EndianBits
namespace Go.Proofs.YtbkkkpfoaggejaaGreatDoor
set_option linter.unusedVariables false

/-- A byte of a text, 0 beyond its end. -/
def by' (s : ByteArray) (i : Nat) : Nat := (s.data.toList.getD i 0).toNat
/-- The unit at a place. -/
def un (s : ByteArray) (i : Nat) : Nat := by' s (2 * i) * 256 + by' s (2 * i + 1)

theorem by_lt (s : ByteArray) (i : Nat) : by' s i < 256 := by
  unfold by'; exact UInt8.toNat_lt _
theorem un_lt (s : ByteArray) (i : Nat) : un s i < 65536 := by
  have := by_lt s (2 * i); have := by_lt s (2 * i + 1); unfold un; omega
theorem by_get (s : ByteArray) (i : Nat) (h : i < s.size) : by' s i = s[i].toNat := by
  unfold by'
  have h2 : i < s.data.toList.length := by simpa using h
  rw [List.getD_eq_getElem?_getD, List.getElem?_eq_getElem h2]
  rfl

theorem or_unit (a b : Nat) (ha : a < 256) (hb : b < 256) : bits BinOp.or IntKind.u16 (IntKind.u16.wrap (IntKind.u16.wrap (a : Int) * 256)) (IntKind.u16.wrap (b : Int)) = ((a * 256 + b : Nat) : Int) := by
  rw [wraps_u16 (a : Int) (by omega) (by omega), wraps_u16 ((a : Int) * 256) (by omega) (by omega), wraps_u16 (b : Int) (by omega) (by omega)]
  rw [bits_join .u16 16 (by decide) wraps_u16 8 ((a : Int) * 256) (b : Int) (by omega) (by omega) (by omega) (by omega) (by omega) (by omega)]
  omega

def isHi (u : Nat) : Bool := decide (55296 ≤ u ∧ u < 56320)
def isLo (u : Nat) : Bool := decide (56320 ≤ u ∧ u < 57344)
/-- Whether a pair of surrogates stands at a place. -/
def pairAt (s : ByteArray) (i : Nat) : Bool := isHi (un s i) && decide (i + 1 < s.size / 2) && isLo (un s (i + 1))
/-- The code point at a place. -/
def ptAt (s : ByteArray) (i : Nat) : Nat := if pairAt s i then 65536 + (un s i - 55296) * 1024 + (un s (i + 1) - 56320) else un s i
/-- How many units it has. -/
def szAt (s : ByteArray) (i : Nat) : Nat := if pairAt s i then 2 else 1

theorem ptAt_le (s : ByteArray) (i : Nat) : ptAt s i ≤ 1114111 := by
  unfold ptAt
  split
  · rename_i h
    simp only [pairAt, isHi, isLo, Bool.and_eq_true, decide_eq_true_eq] at h
    omega
  · have := un_lt s i; omega
theorem szAt_pos (s : ByteArray) (i : Nat) : 1 ≤ szAt s i ∧ szAt s i ≤ 2 := by unfold szAt; split <;> omega
theorem szAt_fit (s : ByteArray) (i : Nat) (h : i < s.size / 2) : i + szAt s i ≤ s.size / 2 := by
  unfold szAt; split
  · rename_i h; simp only [pairAt, Bool.and_eq_true, decide_eq_true_eq] at h; omega
  · omega

/-- The code points from a place on, with their places. -/
def ptsFrom (s : ByteArray) : Nat → Nat → List (Nat × Nat)
  | 0, _ => []
  | f + 1, i => if i < s.size / 2 then (i, ptAt s i) :: ptsFrom s f (i + szAt s i) else []
def pts (s : ByteArray) : List (Nat × Nat) := ptsFrom s (s.size / 2) 0

theorem ptsFrom_end (s : ByteArray) (f i : Nat) (h : ¬ i < s.size / 2) : ptsFrom s f i = [] := by
  cases f with
  | zero => rfl
  | succ f => simp [ptsFrom, h]
theorem ptsFrom_more (s : ByteArray) : ∀ (f g i : Nat), s.size / 2 ≤ i + f → s.size / 2 ≤ i + g → ptsFrom s f i = ptsFrom s g i := by
  intro f
  induction f with
  | zero => intro g i h1 h2; rw [ptsFrom_end s 0 i (by omega), ptsFrom_end s g i (by omega)]
  | succ f ih =>
    intro g i h1 h2
    cases g with
    | zero => rw [ptsFrom_end s _ i (by omega), ptsFrom_end s 0 i (by omega)]
    | succ g =>
      simp only [ptsFrom]
      have := szAt_pos s i
      rw [ih g (i + szAt s i) (by omega) (by omega)]
theorem ptsFrom_step (s : ByteArray) (i : Nat) (h : i < s.size / 2) : ptsFrom s (s.size / 2) i = (i, ptAt s i) :: ptsFrom s (s.size / 2) (i + szAt s i) := by
  have hp := szAt_pos s i
  rw [ptsFrom_more s (s.size / 2) (s.size / 2 + 1) i (by omega) (by omega)]
  simp only [ptsFrom, if_pos h]
theorem ptsFrom_length (s : ByteArray) : ∀ (f i : Nat), (ptsFrom s f i).length ≤ s.size / 2 - i := by
  intro f
  induction f with
  | zero => intro i; simp [ptsFrom]
  | succ f ih =>
    intro i
    simp only [ptsFrom]
    split
    · have := ih (i + szAt s i); have := szAt_pos s i; simp only [List.length_cons]; omega
    · simp

/-- The two bytes of a unit. -/
def ub (u : Nat) : List UInt8 := [(u / 256).toUInt8, (u % 256).toUInt8]
/-- The bytes of a code point's units. -/
def pb (r : Nat) : List UInt8 := if r < 65536 then ub r else ub (55296 + (r - 65536) / 1024) ++ ub (56320 + (r - 65536) % 1024)
theorem ub_length (u : Nat) : (ub u).length = 2 := rfl
theorem pb_length (r : Nat) : 2 ≤ (pb r).length ∧ (pb r).length ≤ 4 := by unfold pb; split <;> simp [ub]
theorem byteCells_ub (u : Nat) (h : u < 65536) : Lib.byteCells (ub u) = [.int .u8 ((u : Int) / 256), .int .u8 ((u : Int) % 256)] := by
  have h1 : u / 256 < 256 := by omega
  simp [Lib.byteCells, ub, Nat.mod_eq_of_lt h1]

/-- Whether U+FFFD's own bytes stand at a place. -/
def repl (s : ByteArray) (i : Nat) : Bool := decide (i + 3 ≤ s.size) && (by' s i == 239 && by' s (i + 1) == 191 && by' s (i + 2) == 189)
/-- Whether what stands at a place is no UTF-8, as a range over a text tells it. -/
def bad (s : ByteArray) (i : Nat) : Bool := decide ((Utf8.decode s i).1 = 65533) && !repl s i

def ofFrom (s : ByteArray) : Nat → List UInt8 → Nat → Except Nat (List UInt8)
  | 0, acc, _ => .ok acc
  | f + 1, acc, i => if i < s.size then (if bad s i then .error i else ofFrom s f (acc ++ pb (Utf8.decode s i).1) (i + (Utf8.decode s i).2)) else .ok acc
def ofS (s : ByteArray) : Except Nat (List UInt8) := ofFrom s s.size [] 0
theorem ofFrom_end (s : ByteArray) (f i : Nat) (acc : List UInt8) (h : ¬ i < s.size) : ofFrom s f acc i = .ok acc := by
  cases f with
  | zero => rfl
  | succ f => simp [ofFrom, h]

end Go.Proofs.YtbkkkpfoaggejaaGreatDoor
