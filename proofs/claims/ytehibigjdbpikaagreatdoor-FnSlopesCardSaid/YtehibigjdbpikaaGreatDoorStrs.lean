/-
  The walks of the laws' helpers over slices of texts.
-/
import Derived.Test.YtehibigjdbpikaaGreatDoorBase
import Derived.Test.YtehibigjdbpikaaGreatDoorSlice
import Derived.Deep.QuietTactic
import Derived.BigQuiet
namespace Go.Proofs.YtehibigjdbpikaaGreatDoor
open Go.RowKit

def strCells (l : List ByteArray) : List Value := l.map Value.string
theorem strCells_at {w : World} {a : Option Addr} {l : List ByteArray} (h : RowAt w a (strCells l)) {i : Nat} (hi : i < l.length) : ∃ b o, a = some ⟨b, o, none⟩ ∧ b < w.heap.size ∧ w.cell? ⟨b, o + i, none⟩ = some (.string l[i]) := by
  obtain ⟨b, o, rfl, hb, hc⟩ := h.at (i := i) (by simpa [strCells] using hi)
  exact ⟨b, o, rfl, hb, hc i _ (by simp [strCells, hi])⟩
def total (l : List ByteArray) : Nat := (l.map ByteArray.size).sum
theorem total_take {l : List ByteArray} {i : Nat} (h : i < l.length) : total (l.take (i + 1)) = total (l.take i) + l[i].size := by
  unfold total
  rw [List.take_succ_eq_append_getElem h, List.map_append, List.sum_append]; simp
/-- What szStringS comes to: -1, or what is left. -/
def Sz (l : List ByteArray) (left : Nat) (r : Int) : Prop := r = -1 ∨ (0 ≤ r ∧ l.length + total l ≤ left)


theorem info_str : (Tryz.prog.info? 9).map (fun i => (i.zero, i.size, i.bytes)) = some (some (.string ByteArray.empty), 1, 16) := by kernel_rfl



end Go.Proofs.YtehibigjdbpikaaGreatDoor
