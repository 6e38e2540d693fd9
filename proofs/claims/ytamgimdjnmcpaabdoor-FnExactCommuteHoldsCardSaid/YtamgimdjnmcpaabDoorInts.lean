/-
  The walks of the laws' helpers over slices of integers.
-/
import Derived.Test.YtamgimdjnmcpaabDoorBase
import Derived.Test.YtamgimdjnmcpaabDoorSlice
import Derived.Test.YtamgimdjnmcpaabDoorIntRow
import Derived.Deep.QuietTactic
import Derived.BigQuiet
namespace Go.Proofs.YtamgimdjnmcpaabDoor
open Go.RowKit

theorem info_int : (Tryd.prog.info? 3).map (fun i => (i.zero, i.size, i.bytes)) = some (some (.int .i64 0), 1, 8) := by kernel_rfl

set_option maxRecDepth 10000 in
set_option maxHeartbeats 400000 in
theorem toIntS (a : Option Addr) (c : Nat) (l : List Int) (w : World) (ha : RowAt w a (intCells l)) (hl : l.length ≤ 1048576) :
    Calls Tryd.prog 6 #[.slice a l.length c] w fun e w' => e = .returned (.slice (some ⟨w.heap.size, 0, none⟩) l.length l.length) ∧ Blk w' w.heap.size 3 (intCells l).toArray ∧ Below w.heap.size w w' := by
  obtain ⟨i0, hi, hz0, hz1, hz2⟩ := info_parts info_int
  have hmk := fun W => run_make_rowN (P := Tryd.prog) 22 3 i0 _ Tryd.underlying22 hi hz0 .i64 .i64 l.length l.length (Nat.le_refl _) (by rw [hz2]; omega) (by omega) W
  have hn := intCells_len l
  have hmc : madeCells (Value.int .i64 0).cells (l.length * i0.size) = filled (intCells l) (.int .i64 0) 0 := by
    rw [hz1, Nat.mul_one, filled_zero, hn]; exact made_one _ _
  rw [hmc] at hmk
  generalize hN : w.heap.size = N
  have HN := Lib.hid hN
  have Hi := Lib.hid hi
  have Hc := Lib.hid hn
  clear hi hz0 hz1 hz2 hmc hn
  go_enter Tryd.func6, Tryd.ntmps6
  go_wp2
  go_loopw [4] (fun iv wr => ∃ i : Nat, i ≤ l.length ∧ iv = .int .i64 i ∧ Blk wr N 3 (filled (intCells l) (.int .i64 0) i) ∧ Below N w wr) (fun iv _ => l.length - (intOf iv).toNat)
  case atStart => exact ⟨0, by omega, rfl, by have h := Blk.new w 3 (filled (intCells l) (.int .i64 0) 0); rw [HN.out] at h; exact h, by have h := (Below.refl w.heap.size w).alloc (Nat.le_refl _) (.cells (filled (intCells l) (.int .i64 0) 0) 3); rw [HN.out] at h; exact h⟩
  case round =>
    obtain ⟨i, hi, rfl, hblk, hb⟩ := hrel
    have Hblk := Lib.hid hblk
    by_cases hlt : i < l.length
    · have ha' : RowAt wr a (intCells l) := ha.below (by rw [HN.out]; exact hb)
      obtain ⟨b, o, rfl, hbw, hcell⟩ := intCells_at ha' hlt
      have hdst : wr.cell? ⟨N, i, none⟩ = some (.int .i64 0) := by rw [hblk.cell i]; exact filled_at (by rw [Hc.out]; exact hlt)
      have hfz := hblk.frozen i
      have Hb := Lib.hid hb; clear hblk hb
      have Hs := Lib.hid (filled_step (z := .int .i64 0) (intCells_get hlt))
      go_wp2
      go_roundw
      case rel => exact ⟨i + 1, by omega, by go_num, by have h := Hblk.out.put i (.int .i64 l[i]); rw [Hs.out] at h; exact h, Hb.out.setCell (Nat.le_refl _) _⟩
      case measure => simp [intOf]; omega
    · obtain rfl : i = l.length := by omega
      go_wp2
      go_ret
      refine ⟨rfl, ?_, hb⟩
      have h := Hblk.out
      rw [← Hc.out, filled_all] at h
      exact h

set_option maxRecDepth 10000 in
set_option maxHeartbeats 400000 in
theorem eqIntS (a a' : Option Addr) (c c' : Nat) (l : List Int) (w : World) (ha : RowAt w a (intCells l)) (ha' : RowAt w a' (intCells l)) (hl : l.length ≤ 9223372036854775807) :
    Calls Tryd.prog 8 #[.slice a l.length c, .slice a' l.length c'] w fun e w' => e = .returned (.bool true) ∧ Below w.heap.size w w' := by
  go_enter Tryd.func8, Tryd.ntmps8
  go_wp2
  go_loopw [4, 5] (fun rv iv wr => rv = .bool false ∧ ∃ i : Nat, i ≤ l.length ∧ iv = .int .i64 i ∧ Below w.heap.size w wr) (fun _ iv _ => l.length - (intOf iv).toNat)
  case atStart => exact ⟨rfl, 0, by omega, rfl, Below.refl _ _⟩
  case round =>
    obtain ⟨rfl, i, hi, rfl, hb⟩ := hrel
    by_cases hlt : i < l.length
    · obtain ⟨b, o, rfl, hbw, hcell⟩ := intCells_at (ha.below hb) hlt
      obtain ⟨b', o', rfl, hbw', hcell'⟩ := intCells_at (ha'.below hb) hlt
      generalize l[i] = x at hcell hcell'
      have h0 : (0 : Int) ≤ (i : Int) := by omega
      have h1 : (i : Int) < (l.length : Int) := by omega
      go_wp2
      go_quiet (fail)
      all_goals go_wp2
      all_goals
        go_roundw
        case rel => exact ⟨rfl, i + 1, by omega, by go_num, below_drewN hb _⟩
        case measure => simp [intOf]; omega
    · obtain rfl : i = l.length := by omega
      go_wp2
      go_ret
      exact ⟨rfl, hb⟩

def marksI (k n : Nat) : List Int := (List.range n).map fun j => ((k + j : Nat) : Int)
theorem marksI_len (k n : Nat) : (marksI k n).length = n := by simp [marksI]
theorem marksI_at {k n i : Nat} (h : i < (marksI k n).length) : (marksI k n)[i] = ((k + i : Nat) : Int) := by simp [marksI]
theorem put_step {all all' : Array Value} {o i n : Nat} {f : Nat → Value} (hs : all'.size = all.size) (hn : o + n ≤ all.size) (hi : i < n) (h : ∀ j, j < i → all'[o + j]? = some (f j)) :
    (all'.setIfInBounds (o + i) (f i)).size = all.size ∧ ∀ j, j < i + 1 → (all'.setIfInBounds (o + i) (f i))[o + j]? = some (f j) := by
  refine ⟨by simpa using hs, fun j hj => ?_⟩
  rw [Array.getElem?_setIfInBounds]
  by_cases e : j = i
  · subst e; simp; omega
  · rw [if_neg (by omega)]; exact h j (by omega)






end Go.Proofs.YtamgimdjnmcpaabDoor
