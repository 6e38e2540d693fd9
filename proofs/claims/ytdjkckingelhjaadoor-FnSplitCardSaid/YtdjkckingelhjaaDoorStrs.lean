/-
  The walks of the laws' helpers over slices of texts.
-/
import Derived.Test.YtdjkckingelhjaaDoorBase
import Derived.Test.YtdjkckingelhjaaDoorSlice
import Derived.Deep.QuietTactic
import Derived.BigQuiet
namespace Go.Proofs.YtdjkckingelhjaaDoor
open Go.RowKit

def strCells (l : List ByteArray) : List Value := l.map Value.string
theorem strCells_at {w : World} {a : Option Addr} {l : List ByteArray} (h : RowAt w a (strCells l)) {i : Nat} (hi : i < l.length) : ∃ b o, a = some ⟨b, o, none⟩ ∧ b < w.heap.size ∧ w.cell? ⟨b, o + i, none⟩ = some (.string l[i]) := by
  obtain ⟨b, o, rfl, hb, hc⟩ := h.at (i := i) (by simpa [strCells] using hi)
  exact ⟨b, o, rfl, hb, hc i _ (by simp [strCells, hi])⟩
def total (l : List ByteArray) : Nat := (l.map ByteArray.size).sum
theorem total_take {l : List ByteArray} {i : Nat} (h : i < l.length) : total (l.take (i + 1)) = total (l.take i) + l[i].size := by
  unfold total
  rw [List.take_succ_eq_append_getElem h, List.map_append, List.sum_append]; simp
/-- What szStringS comes to: -1, or what is left. -/
def Sz (l : List ByteArray) (left : Nat) (r : Int) : Prop := r = -1 ∨ (0 ≤ r ∧ l.length + total l ≤ left)


theorem info_str : (Tryd.prog.info? 9).map (fun i => (i.zero, i.size, i.bytes)) = some (some (.string ByteArray.empty), 1, 16) := by kernel_rfl


set_option maxRecDepth 10000 in
set_option maxHeartbeats 400000 in
theorem eqStringS (a a' : Option Addr) (c c' : Nat) (l : List ByteArray) (w : World) (ha : RowAt w a (strCells l)) (ha' : RowAt w a' (strCells l)) (hl : l.length ≤ 9223372036854775807) :
    Calls Tryd.prog 22 #[.slice a l.length c, .slice a' l.length c'] w fun e w' => e = .returned (.bool true) ∧ Below w.heap.size w w' := by
  go_enter Tryd.func22, Tryd.ntmps22
  go_wp2
  go_loopw [4, 5] (fun rv iv wr => rv = .bool false ∧ ∃ i : Nat, i ≤ l.length ∧ iv = .int .i64 i ∧ Below w.heap.size w wr) (fun _ iv _ => l.length - (intOf iv).toNat)
  case atStart => exact ⟨rfl, 0, by omega, rfl, Below.refl _ _⟩
  case round =>
    obtain ⟨rfl, i, hi, rfl, hb⟩ := hrel
    by_cases hlt : i < l.length
    · obtain ⟨b, o, rfl, hbw, hcell⟩ := strCells_at (ha.below hb) hlt
      obtain ⟨b', o', rfl, hbw', hcell'⟩ := strCells_at (ha'.below hb) hlt
      generalize l[i] = x at hcell hcell'
      have h0 : (0 : Int) ≤ (i : Int) := by omega
      have h1 : (i : Int) < (l.length : Int) := by omega
      go_wp2
      go_quiet (fail)
      all_goals go_wp2
      all_goals
        go_roundw
        case rel => exact ⟨rfl, i + 1, by omega, by go_num, below_drewN hb _⟩
        case measure => simp [intOf]; omega
    · obtain rfl : i = l.length := by omega
      go_wp2
      go_ret
      exact ⟨rfl, hb⟩

end Go.Proofs.YtdjkckingelhjaaDoor
