/-
  The walks of the program's and the model's LetterSums.
-/
import Derived.Test.YtehibigjdbpikaaGreatDoorBase
import Derived.Test.YtehibigjdbpikaaGreatDoorSlice
import Derived.Test.YtehibigjdbpikaaGreatDoorInts
import Derived.Test.YtehibigjdbpikaaGreatDoorWord
import Derived.Test.YtehibigjdbpikaaGreatDoorIsWord
import Derived.Test.YtehibigjdbpikaaGreatDoorReduce
import Derived.Test.YtehibigjdbpikaaGreatDoorReduceSpec
import Derived.StillTailTactics
import Derived.BigQuiet
namespace Go.Proofs.YtehibigjdbpikaaGreatDoor
open Go.RowKit

theorem sums_cells_pos (s : List Int) (j : Nat) : (intCells s).toArray.setIfInBounds j (.int .i64 (s.getD j 0 + 1)) = (intCells (Word.sumPut s ((j : Int) + 1))).toArray := by
  unfold Word.sumPut
  rw [if_pos (by omega), show ((j : Int) + 1 - 1).toNat = j from by omega]
  simp [intCells, List.map_set]
theorem sums_cells_neg (s : List Int) (j : Nat) : (intCells s).toArray.setIfInBounds j (.int .i64 (s.getD j 0 - 1)) = (intCells (Word.sumPut s (-((j : Int) + 1)))).toArray := by
  unfold Word.sumPut
  rw [if_neg (by omega), show (-(-((j : Int) + 1)) - 1).toNat = j from by omega]
  simp [intCells, List.map_set]
theorem sums_cell {w : World} {g : Nat} {s : List Int} {j : Nat} (h : Blk w g 3 (intCells s).toArray) (hj : j < s.length) : w.cell? ⟨g, j, none⟩ = some (.int .i64 (s.getD j 0)) := by
  rw [h.cell j]; simp [intCells, List.getD_eq_getElem?_getD, hj]
theorem sums_made : madeCells (Value.int .i64 0).cells 8 = (intCells (Word.sums [])).toArray := by
  show madeCells #[Value.int .i64 0] 8 = _
  rw [made_one]; rfl
theorem sums_make (w : World) : (Instr.makeSlice 26 (.int .i64 8) (.int .i64 8)).run Tryz.prog w = .ok (.slice (some ⟨w.heap.size, 0, none⟩) 8 8) (w.alloc (.cells (intCells (Word.sums [])).toArray 3)) := by
  obtain ⟨i0, hi, hz0, hz1, hz2⟩ := info_int_parts
  have h := run_make_rowN (P := Tryz.prog) 26 3 i0 _ Tryz.underlying26 hi hz0 .i64 .i64 8 8 (Nat.le_refl _) (by rw [hz2]; omega) (by omega) w
  rw [hz1, Nat.mul_one, sums_made] at h
  exact h
theorem sums_of_not {l : List Int} (h : ¬ Word.IsW l) : Word.sumsOf l = [] := if_neg h
theorem sums_of {l : List Int} (h : Word.IsW l) : Word.sumsOf l = Word.sums l := if_pos h
theorem sumsOf_len (l : List Int) : (Word.sumsOf l).length ≤ 8 := by
  unfold Word.sumsOf; split
  · rw [Word.sums_len]; exact Nat.le_refl _
  · simp
theorem sums_gives {w w0 w' : World} {l : List Int} (hb : Below w.heap.size w w') (h0 : w.heap.size ≤ w0.heap.size) (hk : Blk w' w0.heap.size 3 (intCells (Word.sums l)).toArray) : Gives w (Word.sums l) (.returned (.slice (some ⟨w0.heap.size, 0, none⟩) 8 8)) w' :=
  ⟨_, 8, by rw [Word.sums_len], by rw [Word.sums_len]; exact Nat.le_refl _, by unfold maxLen; omega, Fresh.of_blk hk h0, hb⟩


set_option maxRecDepth 10000 in
set_option maxHeartbeats 400000 in
theorem spec_LetterSums (a : Option Addr) (c : Nat) (l : List Int) (w : World) (ha : RowAt w a (intCells l)) (hl : l.length ≤ 1048576) :
    Calls Tryz.prog 60 #[.slice a l.length c] w fun e w' => Gives w (Word.sumsOf l) e w' := by
  have hcW := spec_IsWord a c l w ha hl
  by_cases hW : Word.IsW l
  · rw [decide_eq_true hW] at hcW
    have Hcw := Lib.hid hcW; clear hcW
    have HW := Lib.hid hW; clear hW
    go_enter Tryz.func60, Tryz.ntmps60
    go_wp2_with fail
    refine Hcw.out.mono ?_
    rintro e w1 ⟨rfl, hb1⟩
    have hmk := sums_make w1
    generalize hN : w1.heap.size = N at *
    have HN := Lib.hid hN; clear hN
    have Hb1 := Lib.hid hb1
    go_wp2
    go_loopw [4] (fun iv wr => ∃ i : Nat, i ≤ l.length ∧ iv = .int .i64 i ∧ Below w.heap.size w wr ∧ Hid (Blk wr N 3 (intCells (Word.sums (l.take i))).toArray)) (fun iv _ => l.length - (intOf iv).toNat)
    case atStart => exact ⟨0, by omega, rfl, Hb1.out.alloc Hb1.out.size _, Lib.hid (by have h := Blk.new w1 3 (intCells (Word.sums [])).toArray; rw [HN.out] at h; exact h)⟩
    case round =>
      obtain ⟨i, hi, rfl, hb, hk⟩ := hrel
      by_cases hlt : i < l.length
      · have ha' : RowAt wr a (intCells l) := ha.below hb
        obtain ⟨b, o, rfl, hbw0, hcell⟩ := intCells_at ha' hlt
        obtain ⟨hx0, hx1, hx2⟩ := HW.out.at hlt
        have hst := Word.sums_take hlt
        have hlen := Word.sums_len (l.take i)
        have hbd := Word.sums_bound (l.take i)
        rw [List.length_take] at hbd
        have hl24 := HW.out.2
        have hNle : w.heap.size ≤ N := by rw [← HN.out]; exact Hb1.out.size
        have h0i : (0 : Int) ≤ (i : Int) := by omega
        have hil : (i : Int) < (l.length : Int) := by omega
        generalize hx : l[i] = x at *
        generalize hX : Word.sums (l.take i) = X at *
        have HX := Lib.hid hX; have Hx := Lib.hid hx; have Hst := Lib.hid hst
        clear hx hX hst
        by_cases hpos : 0 < x
        · obtain ⟨j, rfl⟩ : ∃ j : Nat, x = (j : Int) + 1 := ⟨(x - 1).toNat, by omega⟩
          have hj : j < 8 := by omega
          have hjX : j < X.length := by omega
          have hcj := sums_cell hk.out hjX
          have hbj := hbd j hj
          have hfz := hk.out.frozen j
          have h0j : (0 : Int) ≤ (j : Int) := by omega
          have hwj := wrap_small (x := (j : Int)) (by omega) (by omega)
          have hws := wrap_small (x := X.getD j 0 + 1) (by omega) (by omega)
          have hwt := wrap_small (x := X.getD j 0 - 1) (by omega) (by omega)
          have hwn := wrap_small (x := (j : Int) + 1) (by omega) (by omega)
          have hj8 : (j : Int) < 8 := by omega
          have Hput := Lib.hid (sums_cells_pos X j)
          generalize hs : X.getD j 0 = s at *
          have Hs := Lib.hid hs
          clear hs hbd
          go_wp2
          go_still_tail 16, (by kernel_rfl)
          change wpList _ _ _ _ _ wr.drew
          go_wp2
          go_roundw
          case rel =>
            refine ⟨i + 1, by omega, by go_num, Below.setCell (below_drewN hb 1) hNle _, Lib.hid ?_⟩
            have h := (hk.out.drewN 1).put j (.int .i64 (s + 1))
            rw [Hput.out] at h
            rw [Hst.out]; exact h
          case measure => simp [intOf]; omega
        · obtain ⟨j, rfl⟩ : ∃ j : Nat, x = -((j : Int) + 1) := ⟨(-x - 1).toNat, by omega⟩
          have hj : j < 8 := by omega
          have hjX : j < X.length := by omega
          have hcj := sums_cell hk.out hjX
          have hbj := hbd j hj
          have hfz := hk.out.frozen j
          have h0j : (0 : Int) ≤ (j : Int) := by omega
          have hwj := wrap_small (x := (j : Int)) (by omega) (by omega)
          have hws := wrap_small (x := X.getD j 0 + 1) (by omega) (by omega)
          have hwt := wrap_small (x := X.getD j 0 - 1) (by omega) (by omega)
          have hwn := wrap_small (x := (j : Int) + 1) (by omega) (by omega)
          have hj8 : (j : Int) < 8 := by omega
          have Hput := Lib.hid (sums_cells_neg X j)
          generalize hs : X.getD j 0 = s at *
          have Hs := Lib.hid hs
          clear hs hbd
          go_wp2
          go_still_tail 18, (by kernel_rfl)
          change wpList _ _ _ _ _ wr.drew
          go_wp2
          go_roundw
          case rel =>
            refine ⟨i + 1, by omega, by go_num, Below.setCell (below_drewN hb 1) hNle _, Lib.hid ?_⟩
            have h := (hk.out.drewN 1).put j (.int .i64 (s - 1))
            rw [Hput.out] at h
            rw [Hst.out]; exact h
          case measure => simp [intOf]; omega
      · obtain rfl : i = l.length := by omega
        rw [List.take_of_length_le (Nat.le_refl _)] at hk
        go_wp2
        go_ret
        rw [sums_of HW.out, ← HN.out]
        exact sums_gives hb Hb1.out.size (by rw [HN.out]; exact hk.out)
  · rw [decide_eq_false hW] at hcW
    have Hcw := Lib.hid hcW; clear hcW
    have HW := Lib.hid hW; clear hW
    go_enter Tryz.func60, Tryz.ntmps60
    go_wp2_with fail
    refine Hcw.out.mono ?_
    rintro e w1 ⟨rfl, hb1⟩
    go_wp2
    go_ret
    rw [sums_of_not HW.out]
    exact own_gives (by exact own_mono (own_made (w := w1) rfl) hb1.size) rfl (hb1.alloc hb1.size _)
end Go.Proofs.YtehibigjdbpikaaGreatDoor
