/- Contracts of the small functions of package units: lengths, single units, code points at a place, units and code points put behind a row of bytes. -/
import Derived.Test.YtoonaljmdiideaaProg
import Derived.Test.YtoonaljmdiideaaPlain
import Derived.WalkKit
import Derived.WalkSpells
import Derived.WalkLawsBesides
import Derived.Deep.QuietTactic
import Derived.BigQuiet
import Derived.Maps.AppendAt
import Derived.Lib.OthersKept
namespace Go.Proofs.Ytoonaljmdiideaa
set_option linter.unusedVariables false
open Go.RowKit

theorem info8 : (Try.prog.info? 5).map (fun i => (i.zero, i.size, i.bytes)) = some (some (.int .u8 0), 1, 1) := by kernel_rfl

set_option maxHeartbeats 400000 in
set_option maxRecDepth 100000 in
theorem len_any (s : ByteArray) (w : World) (hs : s.size ≤ maxLen) :
    Calls Try.prog 47 #[.string s] w fun e w' => e = .returned (.int .i64 (s.size / 2 : Nat)) ∧ w' = w := by
  unfold maxLen at hs
  go_enter Try.func47, Try.ntmps47
  go_wp2
  go_ret
  exact ⟨rfl, rfl⟩

theorem Hid.mk' {p : Prop} (h : p) : Hid p := h

theorem ret_int {k : IntKind} {a b : Int} (h : a = b) : Ending.returned (.int k a) = .returned (.int k b) := by rw [h]
theorem ret_bool {a b : Bool} (h : a = b) : Ending.returned (.bool a) = .returned (.bool b) := by rw [h]

theorem cells_new (w : World) (l : List Value) (t : TypeId) : ∀ j u, l[j]? = some u → (w.alloc (.cells l.toArray t)).cell? ((⟨w.heap.size, 0, none⟩ : Addr).add j) = some u := by
  intro j u h
  have hadd : (⟨w.heap.size, 0, none⟩ : Addr).add j = ⟨w.heap.size, j, none⟩ := by unfold Addr.add; split <;> simp_all
  rw [hadd, cell_of_row _ w.heap.size j l.toArray t (0, 0) (heap_alloc_new w _)]
  simpa using h

theorem grown_of_alloc {w w' : World} {o : Obj} {row : Option Nat} (h : (w.alloc o).grownBy w' row) : w.grownBy w' row := (World.grownBy_alloc w o row).trans h

/-- What lay below B stands, and so does every block that is no row of e's. -/
def Kept (B : Nat) (e : TypeId) (w w' : World) : Prop := Below B w w' ∧ Lib.OthersKept e none w w'
theorem Kept.refl (B : Nat) (e : TypeId) (w : World) : Kept B e w w := ⟨Below.refl _ _, Lib.OthersKept.refl _ _ _⟩
theorem Kept.trans {B : Nat} {e : TypeId} {a b c : World} (h : Kept B e a b) (k : Kept B e b c) : Kept B e a c := ⟨h.1.trans k.1, h.2.trans k.2⟩
theorem Kept.le {B : Nat} {e : TypeId} {a b : World} (h : Kept B e a b) : a.heap.size ≤ b.heap.size := h.1.size
theorem kind_own {w : World} {B : Nat} {e : TypeId} {v : Value} {n sz : Nat} {xs : List Value} (h : w.ownsRow B e sz v n xs) : ∀ g, v.ownBlock = some g → ∃ c fz, w.heap[g]? = some (.cells c e fz) := by
  intro g hg
  rcases h.2 with ⟨rfl, _⟩ | ⟨g', cap, cur, rfl, _, hgg, _⟩
  · simp [Value.ownBlock] at hg
  · simp [Value.ownBlock] at hg
    subst hg
    exact ⟨cur, _, hgg⟩
theorem kept_append {w w' : World} {B : Nat} {e : TypeId} {v : Value} {n sz : Nat} {xs : List Value} (hown : w.ownsRow B e sz v n xs) (hg : w.grownBy w' v.ownBlock) (hBw : B ≤ w.heap.size) : Kept B e w w' :=
  ⟨(Below.refl _ _).grown hg hBw (fun k hk => (hown.lt k hk).1), (Lib.OthersKept.refl _ _ _).grown hg (kind_own hown)⟩
theorem kept_alloc (B : Nat) (e : TypeId) (w : World) (o : Obj) (h : B ≤ w.heap.size) : Kept B e w (w.alloc o) := ⟨(Below.refl _ _).alloc h _, (Lib.OthersKept.refl _ _ _).alloc _⟩
theorem kept_drewN (B : Nat) (e : TypeId) (w : World) (n : Nat) : Kept B e w (w.drewN n) := by
  refine ⟨below_drewN (Below.refl _ _) n, fun k o hk _ _ => ?_⟩
  rw [← hk]; rfl

theorem oneCell_bytes (l : List UInt8) : ∀ u ∈ Lib.byteCells l, u.oneCell' = true := by
  intro u hu
  simp only [Lib.byteCells, List.mem_map] at hu
  obtain ⟨b, _, rfl⟩ := hu
  rfl

theorem pb_low {r : Nat} (h : r < 65536) : pb r = ub r := by simp [pb, h]
theorem pb_high {r : Nat} (h : ¬ r < 65536) : pb r = ub (55296 + (r - 65536) / 1024) ++ ub (56320 + (r - 65536) % 1024) := by simp [pb, h]
theorem byteCells_append' (a b : List UInt8) : Lib.byteCells (a ++ b) = Lib.byteCells a ++ Lib.byteCells b := by simp [Lib.byteCells]

end Go.Proofs.Ytoonaljmdiideaa
