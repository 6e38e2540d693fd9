/-
  The walks that count how often letters occur: the model's l3Uses, the program's countLetters.
-/
import Derived.Test.YtamgimdjnmcpaaaDoorBase
import Derived.Test.YtamgimdjnmcpaaaDoorSlice
import Derived.Test.YtamgimdjnmcpaaaDoorInts
import Derived.Test.YtamgimdjnmcpaaaDoorWord
import Derived.Test.YtamgimdjnmcpaaaDoorGrid
import Derived.Test.YtamgimdjnmcpaaaDoorGlue
import Derived.StillTailTactics
import Derived.BigQuiet
namespace Go.Proofs.YtamgimdjnmcpaaaDoor
open Go.RowKit

set_option maxRecDepth 10000 in
set_option maxHeartbeats 400000 in
theorem spec_l1Max (x y : Int) (w : World) : Calls Tryd.prog 86 #[.int .i64 x, .int .i64 y] w fun e w' => e = .returned (.int .i64 (max x y)) ∧ w' = w := by
  by_cases h : x > y
  · have hd : max x y = x := by omega
    rw [hd]; clear hd
    go_enter Tryd.func86, Tryd.ntmps86
    go_wp2
    go_ret
    exact ⟨rfl, rfl⟩
  · have hd : max x y = y := by omega
    rw [hd]; clear hd
    go_enter Tryd.func86, Tryd.ntmps86
    go_wp2
    go_ret
    exact ⟨rfl, rfl⟩

set_option maxRecDepth 10000 in
set_option maxHeartbeats 400000 in
theorem spec_l3Abs (x : Int) (w : World) (h0 : -1000000 ≤ x) (h1 : x ≤ 1000000) : Calls Tryd.prog 78 #[.int .i64 x] w fun e w' => e = .returned (.int .i64 x.natAbs) ∧ w' = w := by
  have hc := spec_l1Max x (-x) w
  rw [show max x (-x) = (x.natAbs : Int) from by omega] at hc
  have Hc := Lib.hid hc
  clear hc
  go_enter Tryd.func78, Tryd.ntmps78
  go_wp2_with fail
  refine Hc.out.mono ?_
  rintro e w1 ⟨rfl, rfl⟩
  go_wp2
  go_ret
  exact ⟨rfl, rfl⟩


theorem nine_made : madeCells (Value.int .i64 0).cells 9 = (intCells (Glue.count [])).toArray := by
  show madeCells #[Value.int .i64 0] 9 = _
  rw [made_one]; rfl
theorem nine_make (w : World) : (Instr.makeSlice 24 (.int .i64 9) (.int .i64 9)).run Tryd.prog w = .ok (.slice (some ⟨w.heap.size, 0, none⟩) 9 9) (w.alloc (.cells (intCells (Glue.count [])).toArray 3)) := by
  obtain ⟨i0, hi, hz0, hz1, hz2⟩ := info_parts info_int
  have h := run_make_rowN (P := Tryd.prog) 24 3 i0 _ Tryd.underlying24 hi hz0 .i64 .i64 9 9 (Nat.le_refl _) (by rw [hz2]; omega) (by omega) w
  rw [hz1, Nat.mul_one, nine_made] at h
  exact h
theorem count_cells (s : List Int) (x : Int) : (intCells s).toArray.setIfInBounds x.natAbs (.int .i64 (s.getD x.natAbs 0 + 1)) = (intCells (Glue.put s x)).toArray := by
  unfold Glue.put
  simp [intCells, List.map_set]
theorem ints_cell {w : World} {g : Nat} {t : TypeId} {s : List Int} {j : Nat} (h : Blk w g t (intCells s).toArray) (hj : j < s.length) : w.cell? ⟨g, j, none⟩ = some (.int .i64 (s.getD j 0)) := by
  rw [h.cell j]; simp [intCells, List.getD_eq_getElem?_getD, hj]

end Go.Proofs.YtamgimdjnmcpaaaDoor
