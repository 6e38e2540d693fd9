/-
  Two-sided gluings: what the document says, and the walks of the program's and the model's IsTwoSided.
-/
import Derived.Test.YtodgongemoabiaaDoorBase
import Derived.Test.YtodgongemoabiaaDoorSlice
import Derived.Test.YtodgongemoabiaaDoorInts
import Derived.Test.YtodgongemoabiaaDoorWord
import Derived.Test.YtodgongemoabiaaDoorGrid
import Derived.Test.YtodgongemoabiaaDoorGlue
import Derived.Test.YtodgongemoabiaaDoorClass
import Derived.Test.YtodgongemoabiaaDoorTri
import Derived.Test.YtodgongemoabiaaDoorIsWord
import Derived.Test.YtodgongemoabiaaDoorUses
import Derived.Test.YtodgongemoabiaaDoorUses2
import Derived.Test.YtodgongemoabiaaDoorIsGluing
import Derived.Deep.QuietTactic
import Derived.BigQuiet
namespace Go.Proofs.YtodgongemoabiaaDoor
open Go.RowKit

namespace Glue
def bitOf (set p : Nat) : Bool := set / 2 ^ p % 2 == 1
def turRow (set p : Nat) (r : List Int) : List Int := if bitOf set p then r.map (fun x => -x) else r
/-- The polygons at the bits of a set, their letters inverse. -/
def tur (set : Nat) (L : List (List Int)) : List (List Int) := (List.range L.length).map fun p => turRow set p (L.getD p [])
def flip (set p : Nat) (x : Int) : Int := if bitOf set p then -x else x
theorem tur_len (set : Nat) (L : List (List Int)) : (tur set L).length = L.length := by simp [tur]
theorem turRow_len (set p : Nat) (r : List Int) : (turRow set p r).length = r.length := by unfold turRow; split <;> simp
theorem tur_get {set p : Nat} {L : List (List Int)} {r : List Int} (h : L[p]? = some r) : (tur set L)[p]? = some (turRow set p r) := by
  obtain ⟨h1, rfl⟩ := List.getElem?_eq_some_iff.1 h
  unfold tur
  rw [List.getElem?_map, List.getElem?_range h1]
  simp [List.getD_eq_getElem?_getD, h1]
theorem turRow_get {set p j : Nat} {r : List Int} {x : Int} (h : r[j]? = some x) : (turRow set p r)[j]? = some (flip set p x) := by
  unfold turRow flip
  split
  · rw [List.getElem?_map, h]; rfl
  · exact h
theorem flip_abs (set p : Nat) (x : Int) : (flip set p x).natAbs = x.natAbs := by unfold flip; split <;> omega
def sgn (x : Int) : Int := if 0 < x then 1 else -1
/-- The signs of a letter together. -/
def sg (l : List Int) (x : Nat) : Int := ((l.filter fun y => y.natAbs == x).map sgn).sum
theorem sg_nil (x : Nat) : sg [] x = 0 := rfl
theorem sg_snoc (l : List Int) (y : Int) (x : Nat) : sg (l ++ [y]) x = sg l x + if y.natAbs = x then sgn y else 0 := by
  unfold sg
  rw [List.filter_append, List.map_append, List.sum_append]
  by_cases h : y.natAbs = x
  · simp [h]
  · simp [h]
theorem sgn_one (x : Int) : sgn x = 1 ∨ sgn x = -1 := by unfold sgn; split <;> simp
theorem sg_bound (l : List Int) (x : Nat) : -(l.length : Int) ≤ sg l x ∧ sg l x ≤ l.length := by
  induction l using Cls.snoc_ind with
  | h0 => simp [sg]
  | h1 l y ih =>
    rw [sg_snoc, List.length_append, List.length_singleton]
    have := sgn_one y
    split <;> omega
/-- The program's way: the signs of all letters in a row. -/
def signPut (s : List Int) (y : Int) : List Int := s.set y.natAbs (s.getD y.natAbs 0 + sgn y)
def signRow (l : List Int) : List Int := l.foldl signPut (List.replicate 9 0)
theorem signRow_snoc (l : List Int) (y : Int) : signRow (l ++ [y]) = signPut (signRow l) y := by simp [signRow]
theorem signPut_len (s : List Int) (y : Int) : (signPut s y).length = s.length := by simp [signPut]
theorem signRow_len (l : List Int) : (signRow l).length = 9 := by
  induction l using Cls.snoc_ind with
  | h0 => rfl
  | h1 l y ih => rw [signRow_snoc, signPut_len, ih]
theorem signRow_get (l : List Int) (x : Nat) (hx : x < 9) : (signRow l).getD x 0 = sg l x := by
  induction l using Cls.snoc_ind with
  | h0 => rw [signRow, List.foldl_nil, List.getD_eq_getElem?_getD, List.getElem?_replicate]; simp [hx, sg]
  | h1 l y ih =>
    rw [signRow_snoc, sg_snoc, signPut, List.getD_eq_getElem?_getD, List.getElem?_set]
    by_cases h : y.natAbs = x
    · subst h
      rw [if_pos rfl, if_pos (by rw [signRow_len]; exact hx), if_pos rfl, Option.getD_some, ih]
    · rw [if_neg h, if_neg h, Int.add_zero, ← ih, List.getD_eq_getElem?_getD]
/-- The sum of the signs of a letter that occurs twice, polygons of a set turned; 0 for other letters. -/
def signs (L : List (List Int)) (set x : Nat) : Int := if (L.flatten.filter fun y => y.natAbs == x).length < 2 then 0 else sg (tur set L).flatten x
def Cancels (L : List (List Int)) (set : Nat) : Prop := ∀ x, 1 ≤ x → x ≤ 8 → signs L set x = 0
def Two (L : List (List Int)) : Prop := IsG L ∧ ∃ set, set < 2 ^ L.length ∧ Cancels L set
def twoB (L : List (List Int)) : Bool := decide (IsG L) && (List.range (2 ^ L.length)).any fun s => (List.range 9).all fun x => x == 0 || signs L s x == 0
theorem twoB_iff (L : List (List Int)) : twoB L = true ↔ Two L := by
  unfold twoB Two Cancels
  simp only [Bool.and_eq_true, decide_eq_true_eq, List.any_eq_true, List.all_eq_true, List.mem_range, Bool.or_eq_true, beq_iff_eq]
  constructor
  · rintro ⟨h, s, hs, hc⟩
    exact ⟨h, s, hs, fun x h1 h8 => (hc x (by omega)).resolve_left (by omega)⟩
  · rintro ⟨h, s, hs, hc⟩
    exact ⟨h, s, hs, fun x hx => by
      rcases Nat.eq_zero_or_pos x with h0 | h0
      · exact Or.inl h0
      · exact Or.inr (hc x h0 (by omega))⟩
def cancelB (L : List (List Int)) (s : Nat) : Bool := (List.range 9).all fun x => x == 0 || signs L s x == 0
theorem cancelB_iff (L : List (List Int)) (s : Nat) : cancelB L s = true ↔ Cancels L s := by
  unfold cancelB Cancels
  simp only [List.all_eq_true, List.mem_range, Bool.or_eq_true, beq_iff_eq]
  constructor
  · intro hc x h1 h8; exact (hc x (by omega)).resolve_left (by omega)
  · intro hc x hx
    rcases Nat.eq_zero_or_pos x with h0 | h0
    · exact Or.inl h0
    · exact Or.inr (hc x h0 (by omega))
/-- The program's test. -/
def Fails (L : List (List Int)) (set x : Nat) : Prop := (uses L).getD x 0 = 2 ∧ (signRow (tur set L).flatten).getD x 0 ≠ 0
theorem cancels_iff {L : List (List Int)} (h : IsG L) (set : Nat) : Cancels L set ↔ ∀ x, x < 9 → ¬ Fails L set x := by
  have key : ∀ x, x < 9 → (signs L set x = 0 ↔ ¬ Fails L set x) := by
    intro x hx
    have hc := count_get L.flatten x hx
    have h2 : (uses L).getD x 0 ≤ 2 := by
      have hk : x < (uses L).length := by rw [uses_len]; exact hx
      rw [← uses_at _ hk]; exact h.2.2.2.2 _ (List.getElem_mem hk)
    unfold Fails signs
    rw [signRow_get _ x hx]
    unfold uses at h2 ⊢
    rw [hc] at h2 ⊢
    by_cases hl : (L.flatten.filter fun y => y.natAbs == x).length < 2
    · rw [if_pos hl]
      constructor
      · intro _ hh; omega
      · intro _; rfl
    · rw [if_neg hl]
      constructor
      · rintro e ⟨_, hh⟩; exact hh e
      · intro hh
        rcases Classical.em (sg (tur set L).flatten x = 0) with e | e
        · exact e
        · exact absurd ⟨by omega, e⟩ hh
  constructor
  · intro hc x hx
    rcases Nat.eq_zero_or_pos x with rfl | h0
    · rintro ⟨hu, _⟩
      have hz : (uses L).getD 0 0 = 0 := count_zero (letters_of h.w)
      omega
    · exact (key x hx).1 (hc x h0 (by omega))
  · intro hf x h1 h8
    exact (key x (by omega)).2 (hf x (by omega))
end Glue
end Go.Proofs.YtodgongemoabiaaDoor
