/-
  The walks of the program's and the model's CoreWord.
-/
import Derived.Test.YtamgimdjnmcpaaaDoorBase
import Derived.Test.YtamgimdjnmcpaaaDoorSlice
import Derived.Test.YtamgimdjnmcpaaaDoorInts
import Derived.Test.YtamgimdjnmcpaaaDoorWord
import Derived.Test.YtamgimdjnmcpaaaDoorIsWord
import Derived.Test.YtamgimdjnmcpaaaDoorReduce
import Derived.Test.YtamgimdjnmcpaaaDoorReduceSpec
import Derived.Test.YtamgimdjnmcpaaaDoorAppend
import Derived.Deep.QuietTactic
import Derived.BigQuiet
namespace Go.Proofs.YtamgimdjnmcpaaaDoor
open Go.RowKit

def sliceLen : Value → Nat
  | .slice _ n _ => n
  | _ => 0
/-- What a loop of CoreWord has in hand. -/
def CoreAt (w : World) (N : Nat) (X : List Int) (v : Value) : Prop :=
  ∃ (cur : List Int) (a : Option Addr) (c : Nat), v = .slice a cur.length c ∧ cur.length ≤ c ∧ c ≤ maxLen ∧ Fresh w N 3 a (intCells cur) ∧ Word.core cur = Word.core X ∧ (∀ x ∈ cur, -8 ≤ x ∧ x ≤ 8) ∧ cur.length ≤ X.length
theorem Fresh.cellAt {w : World} {base : Nat} {t : TypeId} {a : Option Addr} {l : List Int} (h : Fresh w base t a (intCells l)) {i : Nat} (hi : i < l.length) : ∃ b o, a = some ⟨b, o, none⟩ ∧ base ≤ b ∧ ∀ j, (hj : j < l.length) → w.cell? ⟨b, o + j, none⟩ = some (.int .i64 l[j]) := by
  rcases h with h | ⟨g, o, all, rfl, hg, hk, hc⟩
  · have := intCells_len l; rw [h] at this; simp at this; omega
  · exact ⟨g, o, rfl, hg, fun j hj => by rw [hk.cell]; exact hc j _ (intCells_get hj)⟩
theorem core_nil : Word.core [] = [] := Word.core_short (by simp)
theorem red_small {l : List Int} (h : Word.IsW l) : ∀ x ∈ Word.red l, -8 ≤ x ∧ x ≤ 8 := fun x hx => ⟨((Word.red_w h).1 x hx).2.1, ((Word.red_w h).1 x hx).2.2⟩
theorem reduce_small (l : List Int) : ∀ x ∈ Word.reduce l, -8 ≤ x ∧ x ≤ 8 := by
  unfold Word.reduce
  split
  · exact red_small ‹_›
  · intro x hx; cases hx
theorem reduce_len (l : List Int) : (Word.reduce l).length ≤ 24 := by
  unfold Word.reduce
  split
  · rename_i h; exact (Word.red_w h).2
  · simp
theorem coreOf_eq (l : List Int) : Word.core (Word.reduce l) = Word.coreOf l := by
  unfold Word.reduce Word.coreOf
  split
  · rfl
  · exact core_nil

theorem own_madeN {N : Nat} {w : World} (h : N ≤ w.heap.size) (q : Nat) : ((w.drewN q).alloc (.cells #[] 3)).ownsRow N 3 1 (.slice (some ⟨w.heap.size, 0, none⟩) 0 0) 0 (intCells []) :=
  World.ownsRow_made (base := N) (e := 3) (size := 1) (w.drewN q) #[] 0 h (by unfold maxLen; omega) (by rfl)
theorem row_made {w : World} {a : Option Addr} {cs : List Value} (h : RowAt w a cs) (q : Nat) {o : Obj} : RowAt ((w.drewN q).alloc o) a cs :=
  h.below ((below_drewN (Below.refl _ w) q).alloc (Nat.le_refl _) _)

theorem coreOf_len (l : List Int) : (Word.coreOf l).length ≤ 24 := by
  rw [← coreOf_eq]
  exact Nat.le_trans (Word.core_len _) (reduce_len l)
end Go.Proofs.YtamgimdjnmcpaaaDoor
