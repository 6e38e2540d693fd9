/-
  Actions on sheets, pure: all orders, lists that continue a list, classes in the order of their least members.
-/
import Derived.Test.YtodgongemoabiaaBase
import Derived.Test.YtodgongemoabiaaSlice
import Derived.Test.YtodgongemoabiaaInts
import Derived.Test.YtodgongemoabiaaGrid
import Derived.Test.YtodgongemoabiaaClass
import Derived.Test.YtodgongemoabiaaTri
import Derived.Test.YtodgongemoabiaaGraph
import Derived.Test.YtodgongemoabiaaGraphEn
namespace Go.Proofs.Ytodgongemoabiaa
open Go.RowKit

namespace Cv
/-- All orders of the numbers below n, as both make them: each new number is put at every place of the orders before. -/
def allStep (O : List (List Nat)) (x : Nat) : List (List Nat) := O.flatMap fun o => (List.range (x + 1)).map fun p => Gr.put o x p
def all : Nat → List (List Nat)
  | 0 => [[]]
  | x + 1 => allStep (all x) x
theorem all_perm : ∀ (n : Nat), ∀ o ∈ all n, o.Perm (List.range n)
  | 0, o, h => by rw [show o = [] by simpa [all] using h]; exact List.Perm.refl _
  | x + 1, o, h => by
    obtain ⟨o', ho', h2⟩ := List.mem_flatMap.1 (show o ∈ allStep (all x) x from h)
    obtain ⟨p, _, rfl⟩ := List.mem_map.1 h2
    refine (Gr.put_perm o' x p).trans ?_
    rw [List.range_succ]
    exact ((all_perm x o' ho').cons x).trans (List.perm_append_singleton x (List.range x)).symm
theorem all_row {n : Nat} {o : List Nat} (h : o ∈ all n) : o.length = n := by
  have := (all_perm n o h).length_eq; simpa using this
theorem sum_const {α : Type} {f : α → Nat} {m : Nat} : ∀ {l : List α}, (∀ x ∈ l, f x = m) → (l.map f).sum = l.length * m
  | [], _ => by simp
  | x :: l, h => by
    rw [List.map_cons, List.sum_cons, h x (List.mem_cons_self ..), sum_const (l := l) fun y hy => h y (List.mem_cons_of_mem _ hy), List.length_cons, Nat.add_mul]; omega
theorem all_len : ∀ n, (all n).length = Gr.fac n
  | 0 => rfl
  | x + 1 => by
    show (allStep (all x) x).length = Gr.fac x * (x + 1)
    unfold allStep
    rw [List.length_flatMap, ← all_len x]
    exact sum_const fun o _ => by simp
/-- What the loops have made: i of the orders are done, and j places of the next one. -/
def allTo (O : List (List Nat)) (x i j : Nat) : List (List Nat) := ((O.take i).flatMap fun o => (List.range (x + 1)).map fun p => Gr.put o x p) ++ (List.range j).map fun p => Gr.put (O.getD i []) x p
theorem allTo_zero (O : List (List Nat)) (x : Nat) : allTo O x 0 0 = [] := by simp [allTo]
theorem allTo_more (O : List (List Nat)) (x i j : Nat) : allTo O x i (j + 1) = allTo O x i j ++ [Gr.put (O.getD i []) x j] := by
  unfold allTo; rw [List.range_succ (n := j), List.map_append, ← List.append_assoc]; rfl
theorem allTo_next {O : List (List Nat)} {x i : Nat} {o : List Nat} (h : O[i]? = some o) : allTo O x i (x + 1) = allTo O x (i + 1) 0 := by
  obtain ⟨hi, rfl⟩ := List.getElem?_eq_some_iff.1 h
  unfold allTo
  rw [List.take_succ_eq_append_getElem hi, List.flatMap_append, List.range_zero, List.map_nil, List.append_nil]
  congr 1
  have e : O.getD i [] = O[i] := by rw [List.getD_eq_getElem?_getD, List.getElem?_eq_getElem hi]; rfl
  rw [e, List.flatMap_singleton]
theorem allTo_end (O : List (List Nat)) (x : Nat) : allTo O x O.length 0 = allStep O x := by
  unfold allTo allStep
  rw [List.take_of_length_le (Nat.le_refl _)]; simp
theorem allTo_len {O : List (List Nat)} {x i j : Nat} (hj : j ≤ x + 1) : (allTo O x i j).length ≤ (O.length + 1) * (x + 1) := by
  unfold allTo
  rw [List.length_append, List.length_map, List.length_range, List.length_flatMap, sum_const (m := x + 1) fun o _ => by simp]
  have h2 : (O.take i).length * (x + 1) ≤ O.length * (x + 1) := Nat.mul_le_mul (by rw [List.length_take]; omega) (Nat.le_refl _)
  rw [Nat.add_mul]; omega

/-- All lists that continue a list by m elements. -/
def ext {α : Type} (A : List α) : Nat → List α → List (List α)
  | 0, pre => [pre]
  | m + 1, pre => A.flatMap fun x => ext A m (pre ++ [x])
theorem ext_len {α : Type} (A : List α) : ∀ (m : Nat) (pre : List α), (ext A m pre).length = A.length ^ m
  | 0, _ => by simp [ext]
  | m + 1, pre => by
    unfold ext
    rw [List.length_flatMap, sum_const (m := A.length ^ m) fun x _ => ext_len A m _, Nat.pow_succ, Nat.mul_comm]
theorem ext_mem {α : Type} {A : List α} : ∀ {m : Nat} {pre L : List α}, L ∈ ext A m pre → L.length = pre.length + m ∧ ∀ x ∈ L, x ∈ pre ∨ x ∈ A
  | 0, pre, L, h => by rw [List.mem_singleton.1 h]; exact ⟨rfl, fun x hx => Or.inl hx⟩
  | m + 1, pre, L, h => by
    obtain ⟨x, hx, h2⟩ := List.mem_flatMap.1 h
    obtain ⟨h3, h4⟩ := ext_mem h2
    refine ⟨by rw [h3]; simp; omega, fun y hy => ?_⟩
    rcases h4 y hy with h5 | h5
    · rcases List.mem_append.1 h5 with h6 | h6
      · exact Or.inl h6
      · rw [List.mem_singleton.1 h6]; exact Or.inr hx
    · exact Or.inr h5
/-- i of the elements are done. -/
def extTo {α : Type} (A : List α) (m i : Nat) (pre : List α) : List (List α) := (A.take i).flatMap fun x => ext A m (pre ++ [x])
theorem extTo_zero {α : Type} (A : List α) (m : Nat) (pre : List α) : extTo A m 0 pre = [] := by simp [extTo]
theorem extTo_step {α : Type} {A : List α} {m i : Nat} {pre : List α} {x : α} (h : A[i]? = some x) : extTo A m (i + 1) pre = extTo A m i pre ++ ext A m (pre ++ [x]) := by
  obtain ⟨hi, rfl⟩ := List.getElem?_eq_some_iff.1 h
  unfold extTo
  rw [List.take_succ_eq_append_getElem hi, List.flatMap_append, List.flatMap_singleton]
theorem extTo_end {α : Type} (A : List α) (m : Nat) (pre : List α) : extTo A m A.length pre = ext A (m + 1) pre := by
  unfold extTo; rw [List.take_of_length_le (Nat.le_refl _)]; rfl
theorem extTo_len {α : Type} (A : List α) (m i : Nat) (pre : List α) : (extTo A m i pre).length ≤ A.length ^ (m + 1) := by
  unfold extTo
  rw [List.length_flatMap, sum_const (m := A.length ^ m) fun x _ => ext_len A m _, Nat.pow_succ, Nat.mul_comm]
  exact Nat.mul_le_mul (Nat.le_refl _) (by rw [List.length_take]; omega)

/-- Labels of which the greater one is always replaced by the lesser. -/
def minMerge (c : Nat → Nat) (p : Nat × Nat) : Nat → Nat := Cls.merge c (if c p.1 ≤ c p.2 then (p.2, p.1) else p)
def minAll (l : List (Nat × Nat)) : Nat → Nat := l.foldl minMerge id
theorem minAll_snoc (l : List (Nat × Nat)) (p : Nat × Nat) : minAll (l ++ [p]) = minMerge (minAll l) p := by simp [minAll]
theorem merge_ker (c : Nat → Nat) (p : Nat × Nat) (i j : Nat) : Cls.merge c p i = Cls.merge c p j ↔ (c i = c j ∨ ((c i = c p.1 ∨ c i = c p.2) ∧ (c j = c p.1 ∨ c j = c p.2))) := by
  unfold Cls.merge
  split <;> split <;> omega
def SameKer (c c' : Nat → Nat) : Prop := ∀ i j, c i = c j ↔ c' i = c' j
theorem SameKer.merge {c c' : Nat → Nat} (h : SameKer c c') (p : Nat × Nat) : SameKer (Cls.merge c p) (Cls.merge c' p) := fun i j => by
  rw [merge_ker, merge_ker, h i j, h i p.1, h i p.2, h j p.1, h j p.2]
theorem SameKer.swap (c : Nat → Nat) (a b : Nat) : SameKer (Cls.merge c (a, b)) (Cls.merge c (b, a)) := fun i j => by
  rw [merge_ker, merge_ker]; constructor <;> (intro h; rcases h with h | h; exact Or.inl h; exact Or.inr ⟨h.1.symm, h.2.symm⟩)
theorem SameKer.trans {a b c : Nat → Nat} (h : SameKer a b) (h' : SameKer b c) : SameKer a c := fun i j => (h i j).trans (h' i j)
theorem minMerge_ker {c c' : Nat → Nat} (h : SameKer c c') (p : Nat × Nat) : SameKer (minMerge c p) (Cls.merge c' p) := by
  unfold minMerge
  split
  · exact (SameKer.swap c p.2 p.1).trans (h.merge p)
  · exact h.merge p
theorem min_fold : ∀ (l : List (Nat × Nat)) (c c' : Nat → Nat), SameKer c c' → SameKer (l.foldl minMerge c) (l.foldl Cls.merge c')
  | [], _, _, h => h
  | p :: l, _, _, h => min_fold l _ _ (minMerge_ker h p)
theorem minAll_ker (l : List (Nat × Nat)) : SameKer (minAll l) (Cls.mergeAll l) := min_fold l _ _ fun _ _ => Iff.rfl
theorem min_le : ∀ (l : List (Nat × Nat)) (c : Nat → Nat), (∀ k, c k ≤ k) → ∀ k, (l.foldl minMerge c) k ≤ k
  | [], _, h, k => h k
  | p :: l, c, h, k => min_le l _ (fun k => by
      have := h k
      unfold minMerge Cls.merge
      split
      · show (if c k = c p.2 then c p.1 else c k) ≤ k
        split <;> omega
      · show (if c k = c p.1 then c p.2 else c k) ≤ k
        split <;> omega) k
theorem minAll_le (l : List (Nat × Nat)) (k : Nat) : minAll l k ≤ k := min_le l id (fun _ => Nat.le_refl _) k

/-- The classes of labels, each from its least member on, in the order of these. -/
def firsts (c : Nat → Nat) (n : Nat) : List Nat := (List.range n).filter fun s => decide (∀ k, k < s → c k ≠ c s)
def member (c : Nat → Nat) (n s : Nat) : List Nat := (List.range n).filter fun t => c t == c s
def classes (c : Nat → Nat) (n : Nat) : List (List Nat) := (firsts c n).map (member c n)
theorem firsts_ker {c c' : Nat → Nat} (h : SameKer c c') (n : Nat) : firsts c n = firsts c' n := by
  unfold firsts
  refine List.filter_congr fun s _ => ?_
  refine decide_eq_decide.2 ⟨fun hh k hk e => hh k hk ((h k s).2 e), fun hh k hk e => hh k hk ((h k s).1 e)⟩
theorem member_ker {c c' : Nat → Nat} (h : SameKer c c') (n s : Nat) : member c n s = member c' n s := by
  unfold member
  refine List.filter_congr fun t _ => ?_
  have := h t s
  rw [Bool.eq_iff_iff, beq_iff_eq, beq_iff_eq]; exact this
theorem classes_ker {c c' : Nat → Nat} (h : SameKer c c') (n : Nat) : classes c n = classes c' n := by
  unfold classes
  rw [firsts_ker h]
  exact List.map_congr_left fun s _ => member_ker h n s
/-- Where labels are the least members. -/
theorem firsts_min {c : Nat → Nat} {n : Nat} (hle : ∀ k, k < n → c k ≤ k) (hid : ∀ k, k < n → c (c k) = c k) {s : Nat} (hs : s < n) : (∀ k, k < s → c k ≠ c s) ↔ c s = s := by
  constructor
  · intro h
    rcases Nat.lt_or_ge (c s) s with h1 | h1
    · exact absurd (hid s hs) (h _ h1)
    · have := hle s hs; omega
  · intro h k hk e
    have := hle k (by omega); omega
/-- Rows that hold at the least member's place the class, and elsewhere nothing. -/
def leastOf (c : Nat → Nat) (s : Nat) : Nat := ((List.range (s + 1)).find? fun k => c k == c s).getD s
theorem leastOf_spec (c : Nat → Nat) (s : Nat) : c (leastOf c s) = c s ∧ leastOf c s ≤ s ∧ ∀ k, k < leastOf c s → c k ≠ c s := by
  unfold leastOf
  cases h : (List.range (s + 1)).find? (fun k => c k == c s) with
  | none =>
    have := List.find?_eq_none.1 h s (by simp)
    simp at this
  | some k =>
    simp only [Option.getD_some]
    rw [List.find?_range_eq_some] at h
    obtain ⟨h1, h2, h3⟩ := h
    refine ⟨by simpa using h1, by have := List.mem_range.1 h2; omega, fun j hj => by simpa using h3 j hj⟩
theorem leastOf_eq {c : Nat → Nat} {s t : Nat} (h : c s = c t) : leastOf c s = leastOf c t := by
  obtain ⟨a1, _, a3⟩ := leastOf_spec c s
  obtain ⟨b1, _, b3⟩ := leastOf_spec c t
  rcases Nat.lt_trichotomy (leastOf c s) (leastOf c t) with h1 | h1 | h1
  · exact absurd (a1.trans h) (b3 _ h1)
  · exact h1
  · exact absurd (b1.trans h.symm) (a3 _ h1)
theorem leastOf_iff {c : Nat → Nat} {s k : Nat} : leastOf c s = k ↔ (c k = c s ∧ k ≤ s ∧ ∀ j, j < k → c j ≠ c s) := by
  obtain ⟨a1, a2, a3⟩ := leastOf_spec c s
  constructor
  · rintro rfl; exact ⟨a1, a2, a3⟩
  · rintro ⟨b1, b2, b3⟩
    rcases Nat.lt_trichotomy (leastOf c s) k with h1 | h1 | h1
    · exact absurd a1 (b3 _ h1)
    · exact h1
    · exact absurd b1 (a3 _ h1)
def rowAt (c : Nat → Nat) (t k : Nat) : List Nat := (List.range t).filter fun s => leastOf c s == k
def rowsTo (c : Nat → Nat) (n t : Nat) : List (List Nat) := (List.range n).map (rowAt c t)
theorem rowAt_succ (c : Nat → Nat) (t k : Nat) : rowAt c (t + 1) k = if leastOf c t = k then rowAt c t k ++ [t] else rowAt c t k := by
  unfold rowAt
  rw [List.range_succ, List.filter_append]
  by_cases h : leastOf c t = k
  · rw [if_pos h]; simp [h]
  · rw [if_neg h]; simp [h]
theorem rowsTo_zero (c : Nat → Nat) (n : Nat) : rowsTo c n 0 = List.replicate n [] := by
  unfold rowsTo rowAt
  rw [List.eq_replicate_iff]
  exact ⟨by simp, fun b hb => by obtain ⟨k, _, rfl⟩ := List.mem_map.1 hb; simp⟩
theorem rowsTo_succ (c : Nat → Nat) (n t : Nat) : rowsTo c n (t + 1) = (rowsTo c n t).set (leastOf c t) (rowAt c t (leastOf c t) ++ [t]) := by
  apply List.ext_getElem?
  intro k
  unfold rowsTo
  by_cases hk : k < n
  · rw [List.getElem?_map, List.getElem?_range hk, List.getElem?_set]
    by_cases h : leastOf c t = k
    · rw [if_pos h, if_pos (by simpa using by omega), Option.map_some, rowAt_succ, if_pos h, h]
    · rw [if_neg h, List.getElem?_map, List.getElem?_range hk, Option.map_some, Option.map_some, rowAt_succ, if_neg h]
  · rw [List.getElem?_eq_none (by simpa using by omega), List.getElem?_eq_none (by simpa using by omega)]
theorem filter_rows (c : Nat → Nat) (n : Nat) : (rowsTo c n n).filter (fun r => !r.isEmpty) = classes c n := by
  unfold rowsTo classes firsts
  rw [List.filter_map]
  have h1 : (List.range n).filter ((fun r => !r.isEmpty) ∘ rowAt c n) = (List.range n).filter fun s => decide (∀ k, k < s → c k ≠ c s) := by
    refine List.filter_congr fun s hs => ?_
    have hs' := List.mem_range.1 hs
    show (!(rowAt c n s).isEmpty) = _
    rw [Bool.eq_iff_iff, decide_eq_true_iff]
    constructor
    · intro h
      obtain ⟨t, ht⟩ : ∃ t, t ∈ rowAt c n s := by
        cases he : rowAt c n s with
        | nil => rw [he] at h; simp at h
        | cons t r => exact ⟨t, List.mem_cons_self ..⟩
      have h2 := (List.mem_filter.1 ht).2
      obtain ⟨h3, _, h5⟩ := leastOf_iff.1 (beq_iff_eq.1 h2)
      intro k hk e; exact h5 k hk (e.trans h3)
    · intro h
      have : s ∈ rowAt c n s := List.mem_filter.2 ⟨hs, beq_iff_eq.2 (leastOf_iff.2 ⟨rfl, Nat.le_refl _, h⟩)⟩
      cases he : rowAt c n s with
      | nil => rw [he] at this; cases this
      | cons t r => rfl
  rw [h1]
  refine List.map_congr_left fun s hs => ?_
  obtain ⟨hs1, hs2⟩ := List.mem_filter.1 hs
  have hs2 := of_decide_eq_true hs2
  unfold rowAt member
  refine List.filter_congr fun t _ => ?_
  rw [Bool.eq_iff_iff, beq_iff_eq, beq_iff_eq, leastOf_iff]
  constructor
  · rintro ⟨h, _⟩; exact h.symm
  · intro h
    refine ⟨h.symm, ?_, fun j hj e => hs2 j hj (e.trans h)⟩
    rcases Nat.lt_or_ge t s with h3 | h3
    · exact absurd h (hs2 t h3)
    · exact h3
end Cv
end Go.Proofs.Ytodgongemoabiaa
