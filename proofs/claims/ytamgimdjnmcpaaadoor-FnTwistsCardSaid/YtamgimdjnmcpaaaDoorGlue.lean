/-
  Gluings, as lists of words: what the document's chapter on gluings says of them.
-/
import Derived.Test.YtamgimdjnmcpaaaDoorBase
import Derived.Test.YtamgimdjnmcpaaaDoorSlice
import Derived.Test.YtamgimdjnmcpaaaDoorInts
import Derived.Test.YtamgimdjnmcpaaaDoorGrid
import Derived.Test.YtamgimdjnmcpaaaDoorWord
namespace Go.Proofs.YtamgimdjnmcpaaaDoor
open Go.RowKit

namespace Glue
/-- One side more is counted. -/
def put (s : List Int) (x : Int) : List Int := s.set x.natAbs (s.getD x.natAbs 0 + 1)
def count (l : List Int) : List Int := l.foldl put (List.replicate 9 0)
def uses (L : List (List Int)) : List Int := count L.flatten
theorem put_len (s : List Int) (x : Int) : (put s x).length = s.length := by simp [put]
theorem foldl_len (l s : List Int) : (l.foldl put s).length = s.length := by
  induction l generalizing s with
  | nil => rfl
  | cons x l ih => rw [List.foldl_cons, ih, put_len]
theorem count_len (l : List Int) : (count l).length = 9 := by rw [count, foldl_len]; rfl
theorem count_snoc (l : List Int) (x : Int) : count (l ++ [x]) = put (count l) x := by simp [count]
theorem uses_len (L : List (List Int)) : (uses L).length = 9 := count_len _
/-- How often a letter occurs, counting inverses. -/
theorem count_get (l : List Int) : ∀ k, k < 9 → (count l).getD k 0 = ((l.filter fun x => x.natAbs == k).length : Int) := by
  have key : ∀ (m s : List Int) (k : Nat), s.length = 9 → k < 9 → (m.foldl put s).getD k 0 = s.getD k 0 + ((m.filter fun x => x.natAbs == k).length : Int) := by
    intro m
    induction m with
    | nil => intro s k _ _; simp
    | cons x m ih =>
      intro s k hs hk
      rw [List.foldl_cons, ih _ k (by rw [put_len]; exact hs) hk, List.filter_cons]
      by_cases e : x.natAbs = k
      · subst e
        have : (put s x).getD x.natAbs 0 = s.getD x.natAbs 0 + 1 := by
          rw [put, List.getD_eq_getElem?_getD, List.getElem?_set]; simp [hs, hk]
        rw [this]; simp; omega
      · have : (put s x).getD k 0 = s.getD k 0 := by
          rw [put, List.getD_eq_getElem?_getD, List.getElem?_set, if_neg e, List.getD_eq_getElem?_getD]
        rw [this]; simp [e]
  intro k hk
  have h := key l (List.replicate 9 0) k rfl hk
  rw [count, h, List.getD_eq_getElem?_getD, List.getElem?_replicate]; simp [hk]
theorem count_bound (l : List Int) (k : Nat) (hk : k < 9) : 0 ≤ (count l).getD k 0 ∧ (count l).getD k 0 ≤ l.length := by
  rw [count_get l k hk]
  have := List.length_filter_le (fun x : Int => x.natAbs == k) l
  omega
theorem count_zero {l : List Int} (h : ∀ x ∈ l, Word.Letter x) : (count l).getD 0 0 = 0 := by
  rw [count_get l 0 (by omega)]
  have : l.filter (fun x => x.natAbs == 0) = [] := by
    rw [List.filter_eq_nil_iff]
    intro x hx
    have := (h x hx).1
    simp; exact this
  rw [this]; rfl

/-- The sides up to the letter j of the polygon i. -/
def upTo (L : List (List Int)) (i j : Nat) : List Int := (L.take i).flatten ++ (L.getD i []).take j
theorem upTo_zero (L : List (List Int)) : upTo L 0 0 = [] := by simp [upTo]
theorem upTo_start (L : List (List Int)) (i : Nat) : upTo L i 0 = (L.take i).flatten := by simp [upTo]
theorem upTo_step {L : List (List Int)} {i j : Nat} {r : List Int} {x : Int} (hi : L[i]? = some r) (hj : r[j]? = some x) : upTo L i (j + 1) = upTo L i j ++ [x] := by
  unfold upTo
  obtain ⟨h1, rfl⟩ := List.getElem?_eq_some_iff.1 hj
  rw [List.getD_eq_getElem?_getD, hi, Option.getD_some, List.take_succ_eq_append_getElem h1, List.append_assoc]
theorem upTo_next {L : List (List Int)} {i : Nat} {r : List Int} (hi : L[i]? = some r) : upTo L i r.length = upTo L (i + 1) 0 := by
  obtain ⟨h1, rfl⟩ := List.getElem?_eq_some_iff.1 hi
  unfold upTo
  rw [List.getD_eq_getElem?_getD, List.getElem?_eq_getElem h1, Option.getD_some, List.take_of_length_le (Nat.le_refl _), List.take_succ_eq_append_getElem h1, List.flatten_append]
  simp
theorem upTo_all (L : List (List Int)) : upTo L L.length 0 = L.flatten := by rw [upTo_start, List.take_of_length_le (Nat.le_refl _)]
theorem upTo_len {L : List (List Int)} {i : Nat} {r : List Int} (j : Nat) (hi : L[i]? = some r) : (upTo L i j).length ≤ L.flatten.length := by
  have h : (upTo L i j).length ≤ (upTo L (i + 1) 0).length := by
    rw [← upTo_next hi]
    unfold upTo
    simp only [List.length_append, List.length_take]
    rw [List.getD_eq_getElem?_getD, hi, Option.getD_some]
    omega
  rw [upTo_start] at h
  have h2 := sumLen_le L (i + 1)
  rw [sumLen_flat, sumLen_flat] at h2
  omega

def RowOk (p : List Int) : Prop := p ≠ [] ∧ Word.IsW p
instance (p : List Int) : Decidable (RowOk p) := by unfold RowOk; exact inferInstance
def IsG (L : List (List Int)) : Prop := 1 ≤ L.length ∧ L.length ≤ 4 ∧ (∀ p ∈ L, RowOk p) ∧ sumLen L ≤ 20 ∧ ∀ n ∈ uses L, n ≤ 2
instance (L : List (List Int)) : Decidable (IsG L) := by unfold IsG; exact inferInstance
theorem rows_of {L : List (List Int)} (h : ∀ i (hi : i < L.length), i < L.length → RowOk L[i]) : ∀ p ∈ L, RowOk p := by
  intro p hp
  obtain ⟨i, hi, rfl⟩ := List.mem_iff_getElem.1 hp
  exact h i hi hi
theorem not_row {L : List (List Int)} {i : Nat} (hi : i < L.length) (h : ¬ RowOk L[i]) : decide (IsG L) = false :=
  decide_eq_false fun hg => h (hg.2.2.1 _ (List.getElem_mem hi))
theorem letters_of {L : List (List Int)} (h : ∀ p ∈ L, Word.IsW p) : ∀ x ∈ L.flatten, Word.Letter x := by
  intro x hx
  obtain ⟨p, hp, hx⟩ := List.mem_flatten.1 hx
  exact (h p hp).1 x hx
theorem IsG.w {L : List (List Int)} (h : IsG L) : ∀ p ∈ L, Word.IsW p := fun p hp => (h.2.2.1 p hp).2
theorem IsG.flat {L : List (List Int)} (h : IsG L) : L.flatten.length ≤ 20 := by rw [← sumLen_flat]; exact h.2.2.2.1
theorem uses_at {L : List (List Int)} (k : Nat) (hk : k < (uses L).length) : (uses L)[k] = (uses L).getD k 0 := by
  rw [List.getD_eq_getElem?_getD, List.getElem?_eq_getElem hk]; rfl
theorem all_small {L : List (List Int)} (h : ∀ k (hk : k < (uses L).length), k < 9 → (uses L)[k] ≤ 2) : ∀ n ∈ uses L, n ≤ 2 := by
  intro n hn
  obtain ⟨k, hk, rfl⟩ := List.mem_iff_getElem.1 hn
  exact h k hk (by rwa [uses_len] at hk)

/-- The letters below m that occur at least, and at most, some times. -/
def lettersTo (L : List (List Int)) (lo hi : Int) (m : Nat) : List Int := ((List.range m).filter fun k => decide (lo ≤ (uses L).getD k 0 ∧ (uses L).getD k 0 ≤ hi)).map Int.ofNat
def letters (L : List (List Int)) (lo hi : Int) : List Int := lettersTo L lo hi 9
theorem lettersTo_zero (L : List (List Int)) (lo hi : Int) : lettersTo L lo hi 0 = [] := rfl
theorem lettersTo_one {L : List (List Int)} (h : ∀ p ∈ L, Word.IsW p) {lo hi : Int} (hl : 1 ≤ lo) : lettersTo L lo hi 1 = [] := by
  have h0 : (uses L).getD 0 0 = 0 := count_zero (letters_of h)
  unfold lettersTo
  rw [show List.range 1 = [0] from rfl, List.filter_cons, h0, if_neg (by simp; omega)]
  rfl
theorem lettersTo_in {L : List (List Int)} {lo hi : Int} {m : Nat} (h : lo ≤ (uses L).getD m 0 ∧ (uses L).getD m 0 ≤ hi) : lettersTo L lo hi (m + 1) = lettersTo L lo hi m ++ [(m : Int)] := by
  unfold lettersTo
  rw [List.range_succ, List.filter_append, List.map_append, List.filter_cons, if_pos (by simpa using h)]
  rfl
theorem lettersTo_out {L : List (List Int)} {lo hi : Int} {m : Nat} (h : ¬ (lo ≤ (uses L).getD m 0 ∧ (uses L).getD m 0 ≤ hi)) : lettersTo L lo hi (m + 1) = lettersTo L lo hi m := by
  unfold lettersTo
  rw [List.range_succ, List.filter_append, List.map_append, List.filter_cons, if_neg (by simpa using h)]
  simp
theorem lettersTo_len (L : List (List Int)) (lo hi : Int) (m : Nat) : (lettersTo L lo hi m).length ≤ m := by
  unfold lettersTo
  rw [List.length_map]
  have := List.length_filter_le (fun k => decide (lo ≤ (uses L).getD k 0 ∧ (uses L).getD k 0 ≤ hi)) (List.range m)
  rwa [List.length_range] at this
theorem letters_mem {L : List (List Int)} {lo hi x : Int} (h : x ∈ letters L lo hi) : ∃ k : Nat, x = k ∧ k < 9 ∧ lo ≤ (uses L).getD k 0 ∧ (uses L).getD k 0 ≤ hi := by
  unfold letters lettersTo at h
  simp only [List.mem_map, List.mem_filter, List.mem_range, decide_eq_true_eq] at h
  obtain ⟨k, ⟨h1, h2⟩, rfl⟩ := h
  exact ⟨k, rfl, h1, h2⟩
def edgeLetters (L : List (List Int)) : List Int := if IsG L then letters L 1 2 else []
def freeLetters (L : List (List Int)) : List Int := if IsG L then letters L 1 1 else []
theorem edgeLetters_len (L : List (List Int)) : (edgeLetters L).length ≤ 9 := by
  unfold edgeLetters; split
  · exact lettersTo_len _ _ _ _
  · simp
theorem freeLetters_len (L : List (List Int)) : (freeLetters L).length ≤ 9 := by
  unfold freeLetters; split
  · exact lettersTo_len _ _ _ _
  · simp
end Glue
end Go.Proofs.YtamgimdjnmcpaaaDoor
