/-
  The walks that count how often letters occur: the model's l3Uses, the program's countLetters. The walk of the program's countLetters: an array, by value.
-/
import Derived.Test.YtamgimdjnmcpaaaGreatBase
import Derived.Test.YtamgimdjnmcpaaaGreatSlice
import Derived.Test.YtamgimdjnmcpaaaGreatInts
import Derived.Test.YtamgimdjnmcpaaaGreatWord
import Derived.Test.YtamgimdjnmcpaaaGreatGrid
import Derived.Test.YtamgimdjnmcpaaaGreatGlue
import Derived.StillTailTactics
import Derived.BigQuiet
import Derived.Deep.WholeRow
import Derived.Deep.Cut
namespace Go.Proofs.YtamgimdjnmcpaaaGreat
open Go.RowKit

set_option maxRecDepth 10000 in
set_option maxHeartbeats 400000 in
theorem spec_l1Max (x y : Int) (w : World) : Calls Tryz.prog 70 #[.int .i64 x, .int .i64 y] w fun e w' => e = .returned (.int .i64 (max x y)) ∧ w' = w := by
  by_cases h : x > y
  · have hd : max x y = x := by omega
    rw [hd]; clear hd
    go_enter Tryz.func70, Tryz.ntmps70
    go_wp2
    go_ret
    exact ⟨rfl, rfl⟩
  · have hd : max x y = y := by omega
    rw [hd]; clear hd
    go_enter Tryz.func70, Tryz.ntmps70
    go_wp2
    go_ret
    exact ⟨rfl, rfl⟩

set_option maxRecDepth 10000 in
set_option maxHeartbeats 400000 in
theorem spec_l3Abs (x : Int) (w : World) (h0 : -1000000 ≤ x) (h1 : x ≤ 1000000) : Calls Tryz.prog 56 #[.int .i64 x] w fun e w' => e = .returned (.int .i64 x.natAbs) ∧ w' = w := by
  have hc := spec_l1Max x (-x) w
  rw [show max x (-x) = (x.natAbs : Int) from by omega] at hc
  have Hc := Lib.hid hc
  clear hc
  go_enter Tryz.func56, Tryz.ntmps56
  go_wp2_with fail
  refine Hc.out.mono ?_
  rintro e w1 ⟨rfl, rfl⟩
  go_wp2
  go_ret
  exact ⟨rfl, rfl⟩

set_option maxRecDepth 10000 in
set_option maxHeartbeats 400000 in
theorem impl_edgeOf (x : Int) (w : World) (h0 : -1000000 ≤ x) (h1 : x ≤ 1000000) : Calls Tryz.prog 85 #[.int .i64 x] w fun e w' => e = .returned (.int .i64 x.natAbs) ∧ w' = w := by
  generalize hd : (x.natAbs : Int) = y
  have Hd := Lib.hid hd; clear hd
  by_cases hx : x < -x
  · go_enter Tryz.func85, Tryz.ntmps85
    go_wp2
    go_ret
    exact ⟨by rw [← Hd.out]; first | (rw [show (x.natAbs : Int) = -x from by omega]; rfl) | (rw [show (x.natAbs : Int) = max x (-x) from by omega]; rfl) | (rw [show (x.natAbs : Int) = max (-x) x from by omega]; rfl), rfl⟩
  · go_enter Tryz.func85, Tryz.ntmps85
    go_wp2
    go_ret
    exact ⟨by rw [← Hd.out]; first | (rw [show (x.natAbs : Int) = x from by omega]; rfl) | (rw [show (x.natAbs : Int) = max x (-x) from by omega]; rfl) | (rw [show (x.natAbs : Int) = max (-x) x from by omega]; rfl), rfl⟩

theorem nine_made : madeCells (Value.int .i64 0).cells 9 = (intCells (Glue.count [])).toArray := by
  show madeCells #[Value.int .i64 0] 9 = _
  rw [made_one]; rfl
theorem nine_make (w : World) : (Instr.makeSlice 30 (.int .i64 9) (.int .i64 9)).run Tryz.prog w = .ok (.slice (some ⟨w.heap.size, 0, none⟩) 9 9) (w.alloc (.cells (intCells (Glue.count [])).toArray 3)) := by
  obtain ⟨i0, hi, hz0, hz1, hz2⟩ := info_parts info_int
  have h := run_make_rowN (P := Tryz.prog) 30 3 i0 _ Tryz.underlying30 hi hz0 .i64 .i64 9 9 (Nat.le_refl _) (by rw [hz2]; omega) (by omega) w
  rw [hz1, Nat.mul_one, nine_made] at h
  exact h
theorem count_cells (s : List Int) (x : Int) : (intCells s).toArray.setIfInBounds x.natAbs (.int .i64 (s.getD x.natAbs 0 + 1)) = (intCells (Glue.put s x)).toArray := by
  unfold Glue.put
  simp [intCells, List.map_set]
theorem ints_cell {w : World} {g : Nat} {t : TypeId} {s : List Int} {j : Nat} (h : Blk w g t (intCells s).toArray) (hj : j < s.length) : w.cell? ⟨g, j, none⟩ = some (.int .i64 (s.getD j 0)) := by
  rw [h.cell j]; simp [intCells, List.getD_eq_getElem?_getD, hj]

end Go.Proofs.YtamgimdjnmcpaaaGreat
namespace Go.Proofs.YtamgimdjnmcpaaaGreat
open Go.RowKit

end Go.Proofs.YtamgimdjnmcpaaaGreat
