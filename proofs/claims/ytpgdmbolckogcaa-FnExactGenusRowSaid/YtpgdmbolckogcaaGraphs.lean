/-
  Complete graphs, bipartite graphs, rings, as functions of numbers.
-/
import Derived.Test.YtpgdmbolckogcaaBase
import Derived.Test.YtpgdmbolckogcaaSlice
import Derived.Test.YtpgdmbolckogcaaInts
import Derived.Test.YtpgdmbolckogcaaGrid
import Derived.Test.YtpgdmbolckogcaaClass
import Derived.Test.YtpgdmbolckogcaaLab
import Derived.Test.YtpgdmbolckogcaaMap
import Derived.Test.YtpgdmbolckogcaaGraph
namespace Go.Proofs.Ytpgdmbolckogcaa
open Go.RowKit

namespace Gr
def right (L : List (List Int)) : List (List Int) := if IsG L then L else []
theorem right_tot (L : List (List Int)) : tot (right L) ≤ 1000000 := by
  unfold right; split
  · rename_i h; exact isG_tot h
  · decide
/-- What two loops in one another meet: i rounds of the outer one, the a-th of n a inner rounds, and j rounds more. -/
def two (f : Nat → Nat → List Int) (n : Nat → Nat) (i j : Nat) : List (List Int) := ((List.range i).flatMap fun a => (List.range (n a)).map (f a)) ++ (List.range j).map (f i)
theorem two_zero (f : Nat → Nat → List Int) (n : Nat → Nat) : two f n 0 0 = [] := rfl
theorem two_step (f : Nat → Nat → List Int) (n : Nat → Nat) (i j : Nat) : two f n i (j + 1) = two f n i j ++ [f i j] := by
  unfold two; rw [List.range_succ, List.map_append, ← List.append_assoc]; rfl
theorem two_next (f : Nat → Nat → List Int) (n : Nat → Nat) (i : Nat) : two f n i (n i) = two f n (i + 1) 0 := by
  unfold two; rw [List.range_succ, List.flatMap_append]; simp
theorem two_len {f : Nat → Nat → List Int} {n : Nat → Nat} {B : Nat} (h : ∀ a, n a ≤ B) : ∀ i j, (two f n i j).length ≤ i * B + j
  | 0, j => by simp [two]
  | i + 1, j => by
    have h1 : (two f n (i + 1) j).length = (two f n i (n i)).length + j := by
      rw [two_next]; unfold two; simp
    have h2 := two_len (f := f) h i (n i)
    have h3 := h i
    rw [h1, Nat.add_mul]; omega
def complete (k : Nat) : List (List Int) := two (fun i j => [((i : Nat) : Int), ((i + 1 + j : Nat) : Int)]) (fun i => k - (i + 1)) k 0
def completeOf (n : Int) : List (List Int) := right (complete (min n 9).toNat)
theorem complete_far {n : Int} (h : 7 < n) : completeOf n = [] := by
  unfold completeOf
  rcases (by omega : min n 9 = 8 ∨ min n 9 = 9) with e | e
  · rw [e]; decide +kernel
  · rw [e]; decide +kernel
theorem complete_near {n : Int} (h : ¬ 7 < n) : completeOf n = right (complete n.toNat) := by
  unfold completeOf; rw [show min n 9 = n by omega]
def bip (a b : Nat) : List (List Int) := two (fun i j => [((i : Nat) : Int), ((a + j : Nat) : Int)]) (fun _ => b) a 0
def bipOf (a b : Int) : List (List Int) := if 1 ≤ a ∧ a ≤ 7 then right (bip a.toNat (min b 9).toNat) else []
theorem bip_far {a b : Int} (h : 7 < a ∨ 7 < b) : bipOf a b = [] := by
  unfold bipOf
  split
  · rename_i ha
    obtain ⟨x, rfl⟩ : ∃ x : Nat, a = ((x : Nat) : Int) := ⟨a.toNat, by omega⟩
    have hx : x = 1 ∨ x = 2 ∨ x = 3 ∨ x = 4 ∨ x = 5 ∨ x = 6 ∨ x = 7 := by omega
    rcases (by omega : min b 9 = 8 ∨ min b 9 = 9) with e | e
    · rw [e]; rcases hx with rfl | rfl | rfl | rfl | rfl | rfl | rfl <;> decide +kernel
    · rw [e]; rcases hx with rfl | rfl | rfl | rfl | rfl | rfl | rfl <;> decide +kernel
  · rfl
theorem bip_near {a b : Int} (h : ¬ (7 < a ∨ 7 < b)) : bipOf a b = right (bip a.toNat b.toNat) := by
  unfold bipOf
  split
  · rw [show min b 9 = b by omega]
  · rw [show a.toNat = 0 by omega]
    show _ = right (bip 0 b.toNat)
    have : bip 0 b.toNat = [] := rfl
    rw [this]; decide +kernel
def ringTo_ (n i : Nat) : List (List Int) := (List.range i).map fun k => [((k : Nat) : Int), (((k + 1) % n : Nat) : Int)]
theorem ringTo_len (n i : Nat) : (ringTo_ n i).length = i := by simp [ringTo_]
theorem ringTo_step (n i : Nat) : ringTo_ n (i + 1) = ringTo_ n i ++ [[((i : Nat) : Int), (((i + 1) % n : Nat) : Int)]] := by
  unfold ringTo_; rw [List.range_succ, List.map_append]; rfl
def ringOf (n : Int) : List (List Int) := if 3 ≤ n ∧ n ≤ 7 then right (ringTo_ n.toNat n.toNat) else []
theorem completeOf_tot (n : Int) : tot (completeOf n) ≤ 1000000 := right_tot _
theorem bipOf_tot (a b : Int) : tot (bipOf a b) ≤ 1000000 := by
  unfold bipOf; split
  · exact right_tot _
  · decide
theorem ringOf_tot (n : Int) : tot (ringOf n) ≤ 1000000 := by
  unfold ringOf; split
  · exact right_tot _
  · decide
end Gr
end Go.Proofs.Ytpgdmbolckogcaa
