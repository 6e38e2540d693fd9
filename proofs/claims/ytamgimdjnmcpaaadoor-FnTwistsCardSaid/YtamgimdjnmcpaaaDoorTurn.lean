/-
  The walks of the program's and the model's TurnWord.
-/
import Derived.Test.YtamgimdjnmcpaaaDoorBase
import Derived.Test.YtamgimdjnmcpaaaDoorSlice
import Derived.Test.YtamgimdjnmcpaaaDoorInts
import Derived.Test.YtamgimdjnmcpaaaDoorWord
import Derived.Test.YtamgimdjnmcpaaaDoorIsWord
import Derived.Test.YtamgimdjnmcpaaaDoorReduce
import Derived.Test.YtamgimdjnmcpaaaDoorReduceSpec
import Derived.Test.YtamgimdjnmcpaaaDoorAppend
import Derived.Test.YtamgimdjnmcpaaaDoorStepRow
import Derived.Test.YtamgimdjnmcpaaaDoorConcat
import Derived.Deep.RegionLaw
import Derived.StillTailTactics
import Derived.BigQuiet
namespace Go.Proofs.YtamgimdjnmcpaaaDoor
open Go.RowKit

theorem row_drop {w : World} {b o m : Nat} {l : List Int} (h : RowAt w (some ⟨b, o, none⟩) (intCells l)) : RowAt w (some ⟨b, o + m, none⟩) (intCells (l.drop m)) := by
  rcases h with h | ⟨b', o', e, hlt, hc⟩
  · left
    have : l = [] := by simpa [intCells] using h
    rw [this]; simp [intCells]
  · cases e
    refine Or.inr ⟨b, o + m, rfl, hlt, fun i v hv => ?_⟩
    rw [Nat.add_assoc]
    refine hc (m + i) v ?_
    simpa [intCells, List.getElem?_drop] using hv
theorem row_take {w : World} {a : Option Addr} {m : Nat} {l : List Int} (h : RowAt w a (intCells l)) : RowAt w a (intCells (l.take m)) := by
  rcases h with h | ⟨b', o', e, hlt, hc⟩
  · left
    have : l = [] := by simpa [intCells] using h
    rw [this]; simp [intCells]
  · refine Or.inr ⟨b', o', e, hlt, fun i v hv => hc i v ?_⟩
    simp only [intCells, List.getElem?_map, List.getElem?_take] at hv ⊢
    split at hv
    · exact hv
    · cases hv
theorem row_some {w : World} {a : Option Addr} {l : List Int} (h : RowAt w a (intCells l)) (hn : 0 < l.length) : ∃ b o, a = some ⟨b, o, none⟩ := by
  obtain ⟨b, o, h, _⟩ := h.at (i := 0) (by rw [intCells_len]; exact hn)
  exact ⟨b, o, h⟩
/-- Where a turn begins. -/
theorem turn_mod {n : Nat} (hn : 0 < n) (k : Int) : ∃ m : Nat, m < n ∧ k % (n : Int) = (m : Int) ∧ ((0 ≤ k.tmod (n : Int) ∧ k.tmod (n : Int) = m) ∨ (k.tmod (n : Int) < 0 ∧ k.tmod (n : Int) = (m : Int) - n)) := by
  have h0 := Int.emod_nonneg k (show (n : Int) ≠ 0 by omega)
  have h1 := Int.emod_lt_of_pos k (show (0 : Int) < n by omega)
  refine ⟨(k % (n : Int)).toNat, by omega, by omega, ?_⟩
  rcases (show k.tmod (n : Int) < 0 ∨ 0 ≤ k.tmod (n : Int) by omega) with h | h
  · right
    refine ⟨h, ?_⟩
    have h2 : k.tmod (n : Int) % (n : Int) = k % (n : Int) := by
      have := Int.tmod_add_mul_tdiv k (n : Int)
      conv => rhs; rw [← this]
      rw [Int.add_mul_emod_self_left]
    have h3 := Int.tmod_lt_of_pos k (show (0 : Int) < n by omega)
    have h4 : -(n : Int) < k.tmod n := by
      have := Int.lt_tmod_of_pos k (show (0 : Int) < n by omega); exact this
    have h5 : (k.tmod (n : Int) + n) % (n : Int) = k.tmod (n : Int) + n := Int.emod_eq_of_lt (by omega) (by omega)
    rw [Int.add_emod_right] at h5
    omega
  · left
    refine ⟨h, ?_⟩
    have h2 : k.tmod (n : Int) % (n : Int) = k % (n : Int) := by
      have := Int.tmod_add_mul_tdiv k (n : Int)
      conv => rhs; rw [← this]
      rw [Int.add_mul_emod_self_left]
    have h3 := Int.tmod_lt_of_pos k (show (0 : Int) < n by omega)
    have h5 : k.tmod (n : Int) % (n : Int) = k.tmod (n : Int) := Int.emod_eq_of_lt h h3
    omega
theorem turn_nil (k : Int) : Word.turn [] k = [] := by simp [Word.turn]
theorem own_made1 (w : World) : ((w.drewN 1).alloc (.cells #[] 3)).ownsRow w.heap.size 3 1 (.slice (some ⟨w.heap.size, 0, none⟩) 0 0) 0 (intCells []) :=
  World.ownsRow_made (base := w.heap.size) (e := 3) (size := 1) (w.drewN 1) #[] 0 (Nat.le_refl _) (by unfold maxLen; omega) (by rfl)
theorem below_made1 (w : World) : Below w.heap.size w ((w.drewN 1).alloc (.cells #[] 3)) := Below.alloc (below_drewN (Below.refl _ w) 1) (Nat.le_refl _) _
theorem turn_at {l : List Int} {k : Int} {m : Nat} (h : k % (l.length : Int) = (m : Int)) : Word.turn l k = l.drop m ++ l.take m := by
  unfold Word.turn; rw [h]; rfl

theorem turned_not {l : List Int} {k : Int} (h : ¬ Word.IsW l) : Word.turned l k = [] := if_neg h
theorem turned_of {l : List Int} {k : Int} (h : Word.IsW l) : Word.turned l k = Word.turn l k := if_pos h
theorem turned_len (l : List Int) (k : Int) : (Word.turned l k).length ≤ 24 := by
  unfold Word.turned; split
  · rw [Word.turn_len]; rename_i h; exact h.2
  · simp


end Go.Proofs.YtamgimdjnmcpaaaDoor
