/-
  The walks of the laws' helpers over slices of texts.
-/
import Derived.Test.YtdjkckingelhjaaBase
import Derived.Test.YtdjkckingelhjaaSlice
import Derived.Deep.QuietTactic
import Derived.BigQuiet
namespace Go.Proofs.Ytdjkckingelhjaa
open Go.RowKit

def strCells (l : List ByteArray) : List Value := l.map Value.string
theorem strCells_at {w : World} {a : Option Addr} {l : List ByteArray} (h : RowAt w a (strCells l)) {i : Nat} (hi : i < l.length) : ∃ b o, a = some ⟨b, o, none⟩ ∧ b < w.heap.size ∧ w.cell? ⟨b, o + i, none⟩ = some (.string l[i]) := by
  obtain ⟨b, o, rfl, hb, hc⟩ := h.at (i := i) (by simpa [strCells] using hi)
  exact ⟨b, o, rfl, hb, hc i _ (by simp [strCells, hi])⟩
def total (l : List ByteArray) : Nat := (l.map ByteArray.size).sum
theorem total_take {l : List ByteArray} {i : Nat} (h : i < l.length) : total (l.take (i + 1)) = total (l.take i) + l[i].size := by
  unfold total
  rw [List.take_succ_eq_append_getElem h, List.map_append, List.sum_append]; simp
/-- What szStringS comes to: -1, or what is left. -/
def Sz (l : List ByteArray) (left : Nat) (r : Int) : Prop := r = -1 ∨ (0 ≤ r ∧ l.length + total l ≤ left)

set_option maxRecDepth 10000 in
set_option maxHeartbeats 400000 in
theorem szStringS (a : Option Addr) (c : Nat) (l : List ByteArray) (left : Nat) (w : World) (ha : RowAt w a (strCells l)) (hl : l.length ≤ 9223372036854775807) (hleft : left ≤ 1048576) (hs : ∀ s ∈ l, s.size ≤ 9223372036854775807) :
    Calls Try.prog 4 #[.slice a l.length c, .int .i64 left] w fun e w' => (∃ r, e = .returned (.int .i64 r) ∧ Sz l left r) ∧ w = w' := by
  by_cases h0 : l.length ≤ left
  · have hd0 : decide ((left : Int) - (l.length : Int) < 0) = false := by simp; omega
    go_enter Try.func4, Try.ntmps4
    go_wp2
    go_loop [1, 4, 5] (fun tv rv iv => rv = .int .i64 0 ∧ ∃ i t : Nat, i ≤ l.length ∧ iv = .int .i64 i ∧ tv = .int .i64 t ∧ Hid (t + l.length + total (l.take i) = left) ∧ t ≤ left) (fun _ _ iv => l.length - (intOf iv).toNat)
    case atStart => exact ⟨rfl, 0, left - l.length, by omega, rfl, by rw [show ((left - l.length : Nat) : Int) = (left : Int) - (l.length : Int) from by omega], Lib.hid (by simp [total]; omega), by omega⟩
    case round =>
      obtain ⟨rfl, i, t, hi, rfl, rfl, ht, htl⟩ := hrel
      by_cases hlt : i < l.length
      · obtain ⟨b, o, rfl, hbw, hcell⟩ := strCells_at ha hlt
        have hsz := hs l[i] (List.getElem_mem hlt)
        have htt := total_take hlt
        generalize hx : l[i] = x at *
        have Hx := Lib.hid hx; have Htt := Lib.hid htt; clear hx htt
        by_cases hlo : x.size ≤ t
        · go_wp2
          go_round
          case rel => exact ⟨rfl, i + 1, t - x.size, by omega, by go_num, by rw [show ((t - x.size : Nat) : Int) = (t : Int) - (x.size : Int) from by omega], Lib.hid (by have h1 := ht.out; have h2 := Htt.out; omega), by omega⟩
          case measure => simp [intOf]; omega
        · go_wp2
          go_ret
          exact ⟨⟨-1, rfl, Or.inl rfl⟩, rfl⟩
      · obtain rfl : i = l.length := by omega
        have h1 := ht.out
        rw [List.take_of_length_le (Nat.le_refl _)] at h1
        have H1 := Lib.hid h1; clear h1
        go_wp2
        go_ret
        exact ⟨⟨t, rfl, Or.inr ⟨by omega, by have h2 := H1.out; omega⟩⟩, rfl⟩
  · go_enter Try.func4, Try.ntmps4
    go_wp2
    go_ret
    exact ⟨⟨-1, rfl, Or.inl rfl⟩, rfl⟩

theorem info_str : (Try.prog.info? 9).map (fun i => (i.zero, i.size, i.bytes)) = some (some (.string ByteArray.empty), 1, 16) := by kernel_rfl

set_option maxRecDepth 10000 in
set_option maxHeartbeats 400000 in
theorem toStringS (a : Option Addr) (c : Nat) (l : List ByteArray) (w : World) (ha : RowAt w a (strCells l)) (hl : l.length ≤ 1048576) :
    Calls Try.prog 6 #[.slice a l.length c] w fun e w' => e = .returned (.slice (some ⟨w.heap.size, 0, none⟩) l.length l.length) ∧ Blk w' w.heap.size 9 (strCells l).toArray ∧ Below w.heap.size w w' := by
  obtain ⟨i0, hi, hz0, hz1, hz2⟩ := info_parts info_str
  have hmk := fun W => run_make_rowN (P := Try.prog) 22 9 i0 _ Try.underlying22 hi hz0 .i64 .i64 l.length l.length (Nat.le_refl _) (by rw [hz2]; omega) (by omega) W
  have hn : (strCells l).length = l.length := by simp [strCells]
  have hmc : madeCells (Value.string ByteArray.empty).cells (l.length * i0.size) = filled (strCells l) (.string ByteArray.empty) 0 := by
    rw [hz1, Nat.mul_one, filled_zero, hn]; exact made_one _ _
  rw [hmc] at hmk
  generalize hN : w.heap.size = N
  have HN := Lib.hid hN
  have Hi := Lib.hid hi
  have Hc := Lib.hid hn
  clear hi hz0 hz1 hz2 hmc hn
  go_enter Try.func6, Try.ntmps6
  go_wp2
  go_loopw [4] (fun iv wr => ∃ i : Nat, i ≤ l.length ∧ iv = .int .i64 i ∧ Blk wr N 9 (filled (strCells l) (.string ByteArray.empty) i) ∧ Below N w wr) (fun iv _ => l.length - (intOf iv).toNat)
  case atStart => exact ⟨0, by omega, rfl, by have h := Blk.new w 9 (filled (strCells l) (.string ByteArray.empty) 0); rw [HN.out] at h; exact h, by have h := (Below.refl w.heap.size w).alloc (Nat.le_refl _) (.cells (filled (strCells l) (.string ByteArray.empty) 0) 9); rw [HN.out] at h; exact h⟩
  case round =>
    obtain ⟨i, hi, rfl, hblk, hb⟩ := hrel
    have Hblk := Lib.hid hblk
    by_cases hlt : i < l.length
    · have ha' : RowAt wr a (strCells l) := ha.below (by rw [HN.out]; exact hb)
      obtain ⟨b, o, rfl, hbw, hcell⟩ := strCells_at ha' hlt
      have hdst : wr.cell? ⟨N, i, none⟩ = some (.string ByteArray.empty) := by rw [hblk.cell i]; exact filled_at (by rw [Hc.out]; exact hlt)
      have hfz := hblk.frozen i
      have Hb := Lib.hid hb; clear hblk hb
      have Hs := Lib.hid (filled_step (z := .string ByteArray.empty) (show (strCells l)[i]? = some (.string l[i]) by simp [strCells, hlt]))
      go_wp2
      go_roundw
      case rel => exact ⟨i + 1, by omega, by go_num, by have h := Hblk.out.put i (.string l[i]); rw [Hs.out] at h; exact h, Hb.out.setCell (Nat.le_refl _) _⟩
      case measure => simp [intOf]; omega
    · obtain rfl : i = l.length := by omega
      go_wp2
      go_ret
      refine ⟨rfl, ?_, hb⟩
      have h := Hblk.out
      rw [← Hc.out, filled_all] at h
      exact h

set_option maxRecDepth 10000 in
set_option maxHeartbeats 400000 in
theorem eqStringS (a a' : Option Addr) (c c' : Nat) (l : List ByteArray) (w : World) (ha : RowAt w a (strCells l)) (ha' : RowAt w a' (strCells l)) (hl : l.length ≤ 9223372036854775807) :
    Calls Try.prog 8 #[.slice a l.length c, .slice a' l.length c'] w fun e w' => e = .returned (.bool true) ∧ Below w.heap.size w w' := by
  go_enter Try.func8, Try.ntmps8
  go_wp2
  go_loopw [4, 5] (fun rv iv wr => rv = .bool false ∧ ∃ i : Nat, i ≤ l.length ∧ iv = .int .i64 i ∧ Below w.heap.size w wr) (fun _ iv _ => l.length - (intOf iv).toNat)
  case atStart => exact ⟨rfl, 0, by omega, rfl, Below.refl _ _⟩
  case round =>
    obtain ⟨rfl, i, hi, rfl, hb⟩ := hrel
    by_cases hlt : i < l.length
    · obtain ⟨b, o, rfl, hbw, hcell⟩ := strCells_at (ha.below hb) hlt
      obtain ⟨b', o', rfl, hbw', hcell'⟩ := strCells_at (ha'.below hb) hlt
      generalize l[i] = x at hcell hcell'
      have h0 : (0 : Int) ≤ (i : Int) := by omega
      have h1 : (i : Int) < (l.length : Int) := by omega
      go_wp2
      go_quiet (fail)
      all_goals go_wp2
      all_goals
        go_roundw
        case rel => exact ⟨rfl, i + 1, by omega, by go_num, below_drewN hb _⟩
        case measure => simp [intOf]; omega
    · obtain rfl : i = l.length := by omega
      go_wp2
      go_ret
      exact ⟨rfl, hb⟩
end Go.Proofs.Ytdjkckingelhjaa
