/-
  The walks of the laws' helpers over slices of integers.
-/
import Derived.Test.YtehibigjdbpikaaGreatDoorBase
import Derived.Test.YtehibigjdbpikaaGreatDoorSlice
import Derived.Test.YtehibigjdbpikaaGreatDoorIntRow
import Derived.Deep.QuietTactic
import Derived.BigQuiet
namespace Go.Proofs.YtehibigjdbpikaaGreatDoor
open Go.RowKit

theorem info_int : (Tryz.prog.info? 3).map (fun i => (i.zero, i.size, i.bytes)) = some (some (.int .i64 0), 1, 8) := by kernel_rfl



def marksI (k n : Nat) : List Int := (List.range n).map fun j => ((k + j : Nat) : Int)
theorem marksI_len (k n : Nat) : (marksI k n).length = n := by simp [marksI]
theorem marksI_at {k n i : Nat} (h : i < (marksI k n).length) : (marksI k n)[i] = ((k + i : Nat) : Int) := by simp [marksI]
theorem put_step {all all' : Array Value} {o i n : Nat} {f : Nat → Value} (hs : all'.size = all.size) (hn : o + n ≤ all.size) (hi : i < n) (h : ∀ j, j < i → all'[o + j]? = some (f j)) :
    (all'.setIfInBounds (o + i) (f i)).size = all.size ∧ ∀ j, j < i + 1 → (all'.setIfInBounds (o + i) (f i))[o + j]? = some (f j) := by
  refine ⟨by simpa using hs, fun j hj => ?_⟩
  rw [Array.getElem?_setIfInBounds]
  by_cases e : j = i
  · subst e; simp; omega
  · rw [if_neg (by omega)]; exact h j (by omega)






end Go.Proofs.YtehibigjdbpikaaGreatDoor
