/- What the program's text has laid, of that which reading numbers wants. -/
import Derived.Test.YtbkkkpfoaggejaaGreatDoorBase
namespace Go.Proofs.YtbkkkpfoaggejaaGreatDoor
set_option linter.unusedVariables false
open Go.RowKit

theorem below_new {w : World} {o : Obj} : Below w.heap.size w (w.alloc o) := (Below.refl _ _).alloc (Nat.le_refl _) _
theorem below_draws {B : Nat} {w w' : World} (h : Below B w w') (n : Nat) : Below B w (w'.drewN n) := h.trans (kept_drewN B 0 w' n).1
def p10L : List Nat := [4607182418800017408, 4621819117588971520, 4636737291354636288, 4652007308841189376, 4666723172467343360, 4681608360884174848, 4696837146684686336, 4711630319722168320, 4726483295884279808, 4741671816366391296, 4756540486875873280, 4771362005757984768, 4786511204640096256, 4801453603149578240, 4816244402031689728, 4831355200913801216, 4846369599423283200, 4861130398305394688, 4876203697187506176, 4891288408196988160, 4906019910204099648, 4921056587992461136, 4936209963552724370]
structure LaidN (w : World) : Prop where
  maxl : ∃ m, w.cell? ⟨1, 0, none⟩ = some (.int .i64 m)
  lets : ∀ j, j < 6 → w.cell? ⟨2, j, none⟩ = some ([.int .u8 120, .int .i64 16, .int .u8 111, .int .i64 8, .int .u8 98, .int .i64 2].getD j (.int .u8 0))
  opt : w.cell? ⟨3, 0, none⟩ = some (.bool true)
  info : w.cell? ⟨10, 0, none⟩ = some (.int .u64 52) ∧ w.cell? ⟨10, 1, none⟩ = some (.int .u64 11) ∧ w.cell? ⟨10, 2, none⟩ = some (.int .i64 (-1023))
  f64p : ∃ b o c : Nat, w.cell? ⟨15, 0, none⟩ = some (.slice (some ⟨b, o, none⟩) 23 c) ∧ ∀ j, j < 23 → w.cell? ⟨b, o + j, none⟩ = some (.float .f64 (p10L.getD j 0))
theorem LaidN.below {w w' : World} (h : LaidN w) (hb : Below w.heap.size w w') : LaidN w' := by
  have hc : ∀ b o v, w.cell? ⟨b, o, none⟩ = some v → w'.cell? ⟨b, o, none⟩ = some v := fun b o v hv => (hb.cell (p := ⟨b, o, none⟩) (World.block_lt_of_cell? w _ hv)).trans hv
  refine ⟨?_, fun j hj => hc _ _ _ (h.lets j hj), hc _ _ _ h.opt, ⟨hc _ _ _ h.info.1, hc _ _ _ h.info.2.1, hc _ _ _ h.info.2.2⟩, ?_⟩
  · obtain ⟨m, hm⟩ := h.maxl
    exact ⟨m, hc _ _ _ hm⟩
  · obtain ⟨b, o, c, h1, h2⟩ := h.f64p
    exact ⟨b, o, c, hc _ _ _ h1, fun j hj => hc _ _ _ (h2 j hj)⟩
end Go.Proofs.YtbkkkpfoaggejaaGreatDoor
