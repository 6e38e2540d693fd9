/-
  The walks that count how often letters occur: the model's l3Uses, the program's countLetters. The walk of the program's countLetters: an array, by value.
-/
import Derived.Test.YtamgimdjnmcpaabDoorBase
import Derived.Test.YtamgimdjnmcpaabDoorSlice
import Derived.Test.YtamgimdjnmcpaabDoorInts
import Derived.Test.YtamgimdjnmcpaabDoorWord
import Derived.Test.YtamgimdjnmcpaabDoorGrid
import Derived.Test.YtamgimdjnmcpaabDoorGlue
import Derived.StillTailTactics
import Derived.BigQuiet
import Derived.Deep.WholeRow
import Derived.Deep.Cut
namespace Go.Proofs.YtamgimdjnmcpaabDoor
open Go.RowKit




theorem nine_made : madeCells (Value.int .i64 0).cells 9 = (intCells (Glue.count [])).toArray := by
  show madeCells #[Value.int .i64 0] 9 = _
  rw [made_one]; rfl
theorem nine_make (w : World) : (Instr.makeSlice 22 (.int .i64 9) (.int .i64 9)).run Tryd.prog w = .ok (.slice (some ⟨w.heap.size, 0, none⟩) 9 9) (w.alloc (.cells (intCells (Glue.count [])).toArray 3)) := by
  obtain ⟨i0, hi, hz0, hz1, hz2⟩ := info_parts info_int
  have h := run_make_rowN (P := Tryd.prog) 22 3 i0 _ Tryd.underlying22 hi hz0 .i64 .i64 9 9 (Nat.le_refl _) (by rw [hz2]; omega) (by omega) w
  rw [hz1, Nat.mul_one, nine_made] at h
  exact h
theorem count_cells (s : List Int) (x : Int) : (intCells s).toArray.setIfInBounds x.natAbs (.int .i64 (s.getD x.natAbs 0 + 1)) = (intCells (Glue.put s x)).toArray := by
  unfold Glue.put
  simp [intCells, List.map_set]
theorem ints_cell {w : World} {g : Nat} {t : TypeId} {s : List Int} {j : Nat} (h : Blk w g t (intCells s).toArray) (hj : j < s.length) : w.cell? ⟨g, j, none⟩ = some (.int .i64 (s.getD j 0)) := by
  rw [h.cell j]; simp [intCells, List.getD_eq_getElem?_getD, hj]

end Go.Proofs.YtamgimdjnmcpaabDoor
namespace Go.Proofs.YtamgimdjnmcpaabDoor
open Go.RowKit

end Go.Proofs.YtamgimdjnmcpaabDoor
