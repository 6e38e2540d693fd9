/-
  Classes that are merged: a class's label, the model's roots with their depths, how many classes there are; loops over rows of rows.
-/
import Derived.Test.YtamgimdjnmcpaaaGreatBase
import Derived.Test.YtamgimdjnmcpaaaGreatSlice
import Derived.Test.YtamgimdjnmcpaaaGreatInts
import Derived.Test.YtamgimdjnmcpaaaGreatGrid
namespace Go.Proofs.YtamgimdjnmcpaaaGreat
open Go.RowKit

/-- What two loops in one another have met, up to the element j of the row i. -/
def met {β : Type} (f : List Int → Nat → β) (L : List (List Int)) (i j : Nat) : List β := ((L.take i).flatMap fun r => (List.range r.length).map (f r)) ++ (List.range j).map (f (L.getD i []))
def metAll {β : Type} (f : List Int → Nat → β) (L : List (List Int)) : List β := L.flatMap fun r => (List.range r.length).map (f r)
section
variable {β : Type} {f : List Int → Nat → β} {L : List (List Int)} {i : Nat} {r : List Int}
theorem met_zero : met f L 0 0 = [] := by simp [met]
theorem met_step (j : Nat) (hi : L[i]? = some r) : met f L i (j + 1) = met f L i j ++ [f r j] := by
  unfold met
  rw [List.getD_eq_getElem?_getD, hi, Option.getD_some, List.range_succ, List.map_append, List.append_assoc]; rfl
theorem met_next (hi : L[i]? = some r) : met f L i r.length = met f L (i + 1) 0 := by
  obtain ⟨h1, rfl⟩ := List.getElem?_eq_some_iff.1 hi
  unfold met
  rw [List.getD_eq_getElem?_getD, List.getElem?_eq_getElem h1, Option.getD_some, List.take_succ_eq_append_getElem h1, List.flatMap_append]
  simp
theorem met_end : met f L L.length 0 = metAll f L := by simp [met, metAll]
theorem met_mem {x : β} (h : x ∈ metAll f L) : ∃ r ∈ L, ∃ j, j < r.length ∧ x = f r j := by
  unfold metAll at h
  rw [List.mem_flatMap] at h
  obtain ⟨r, hr, h⟩ := h
  rw [List.mem_map] at h
  obtain ⟨j, hj, rfl⟩ := h
  exact ⟨r, hr, j, List.mem_range.1 hj, rfl⟩
end

namespace Cls
/-- The classes of a and b become one. -/
def merge (c : Nat → Nat) (p : Nat × Nat) : Nat → Nat := fun k => if c k = c p.1 then c p.2 else c k
def mergeAll (l : List (Nat × Nat)) : Nat → Nat := l.foldl merge id
theorem mergeAll_snoc (l : List (Nat × Nat)) (p : Nat × Nat) : mergeAll (l ++ [p]) = merge (mergeAll l) p := by simp [mergeAll]
/-- The labels as a list. -/
def row (c : Nat → Nat) (n : Nat) : List Int := (List.range n).map fun k => ((c k : Nat) : Int)
theorem row_len (c : Nat → Nat) (n : Nat) : (row c n).length = n := by simp [row]
theorem row_get {c : Nat → Nat} {n k : Nat} (h : k < n) : (row c n)[k]? = some ((c k : Nat) : Int) := by simp [row, h]
theorem row_getD {c : Nat → Nat} {n k : Nat} (h : k < n) : (row c n).getD k 0 = ((c k : Nat) : Int) := by rw [List.getD_eq_getElem?_getD, row_get h]; rfl

/-- Labels below n, each the label of itself. -/
structure Ok (c : Nat → Nat) (n : Nat) : Prop where
  lt : ∀ k, k < n → c k < n
  idem : ∀ k, k < n → c (c k) = c k
theorem Ok.start (n : Nat) : Ok id n := ⟨fun _ h => h, fun _ _ => rfl⟩
theorem Ok.merge {c : Nat → Nat} {n : Nat} (h : Ok c n) {p : Nat × Nat} (h1 : p.1 < n) (h2 : p.2 < n) : Ok (Cls.merge c p) n := by
  constructor
  · intro k hk
    unfold Cls.merge
    split
    · exact h.lt _ h2
    · exact h.lt _ hk
  · intro k hk
    unfold Cls.merge
    by_cases e : c k = c p.1
    · rw [if_pos e]
      by_cases e2 : c p.2 = c p.1
      · rw [h.idem _ h2, if_pos e2]
      · rw [h.idem _ h2, if_neg e2]
    · rw [if_neg e, h.idem _ hk, if_neg e]
theorem Ok.all {n : Nat} {l : List (Nat × Nat)} (h : ∀ p ∈ l, p.1 < n ∧ p.2 < n) : Ok (mergeAll l) n := by
  have key : ∀ (m : List (Nat × Nat)) (c : Nat → Nat), Ok c n → (∀ p ∈ m, p.1 < n ∧ p.2 < n) → Ok (m.foldl Cls.merge c) n := by
    intro m
    induction m with
    | nil => intro c h _; exact h
    | cons p m ih => intro c hc hm; exact ih _ (hc.merge (hm p (List.mem_cons_self ..)).1 (hm p (List.mem_cons_self ..)).2) (fun q hq => hm q (List.mem_cons_of_mem _ hq))
  exact key l id (Ok.start n) h
/-- A set that holds both ends of what is merged holds the labels of its members. -/
theorem closed {S : Nat → Prop} {l : List (Nat × Nat)} (h : ∀ p ∈ l, S p.1 ∧ S p.2) : ∀ k, S k → S (mergeAll l k) := by
  have key : ∀ (m : List (Nat × Nat)) (c : Nat → Nat), (∀ k, S k → S (c k)) → (∀ p ∈ m, S p.1 ∧ S p.2) → ∀ k, S k → S (m.foldl Cls.merge c k) := by
    intro m
    induction m with
    | nil => intro c h _; exact h
    | cons p m ih =>
      intro c hc hm
      refine ih _ (fun k hk => ?_) (fun q hq => hm q (List.mem_cons_of_mem _ hq))
      unfold Cls.merge
      split
      · exact hc _ (hm p (List.mem_cons_self ..)).2
      · exact hc _ hk
  exact key l id (fun _ h => h) h

/-- A forest u whose roots are the labels c; d falls along it. -/
structure Up (u c d : Nat → Nat) (n : Nat) : Prop where
  ok : Ok c n
  lt : ∀ k, k < n → u k < n
  same : ∀ k, k < n → c (u k) = c k
  root : ∀ k, k < n → (u k = k ↔ c k = k)
  falls : ∀ k, k < n → u k ≠ k → d (u k) < d k
theorem Up.start (n : Nat) : Up id id (fun _ => 0) n := ⟨Ok.start n, fun _ h => h, fun _ _ => rfl, fun _ _ => Iff.rfl, fun _ _ h => absurd rfl h⟩
/-- One root is hung below another. -/
theorem Up.link {u c d : Nat → Nat} {n : Nat} (h : Up u c d n) {p : Nat × Nat} (h1 : p.1 < n) (h2 : p.2 < n) :
    Up (fun k => if k = c p.1 then c p.2 else u k) (Cls.merge c p) (fun k => if c k = c p.1 then d k + d (c p.2) + 1 else d k) n := by
  have ia := h.ok.idem _ h1
  have ib := h.ok.idem _ h2
  refine ⟨h.ok.merge h1 h2, fun k hk => ?_, fun k hk => ?_, fun k hk => ?_, fun k hk hne => ?_⟩
  · show (if k = c p.1 then c p.2 else u k) < n
    split
    · exact h.ok.lt _ h2
    · exact h.lt _ hk
  · show Cls.merge c p (if k = c p.1 then c p.2 else u k) = Cls.merge c p k
    unfold Cls.merge
    by_cases e : k = c p.1
    · rw [if_pos e, e, ib, ia, if_pos rfl]
      split <;> rfl
    · rw [if_neg e, h.same k hk]
  · show (if k = c p.1 then c p.2 else u k) = k ↔ Cls.merge c p k = k
    unfold Cls.merge
    by_cases e : k = c p.1
    · rw [if_pos e, if_pos (by rw [e]; exact ia)]
    · rw [if_neg e]
      by_cases e2 : c k = c p.1
      · rw [if_pos e2]
        constructor
        · intro hu; have := (h.root k hk).1 hu; omega
        · intro hc
          rw [← hc, ib] at e2
          omega
      · rw [if_neg e2]; exact h.root k hk
  · show (if c (if k = c p.1 then c p.2 else u k) = c p.1 then d (if k = c p.1 then c p.2 else u k) + d (c p.2) + 1 else d (if k = c p.1 then c p.2 else u k)) < (if c k = c p.1 then d k + d (c p.2) + 1 else d k)
    have hne' : (if k = c p.1 then c p.2 else u k) ≠ k := hne
    by_cases e : k = c p.1
    · rw [if_pos e] at hne' ⊢
      rw [ib, if_neg (by omega), if_pos (by rw [e]; exact ia)]
      omega
    · rw [if_neg e] at hne' ⊢
      have hf := h.falls k hk hne'
      rw [h.same k hk]
      split
      · omega
      · exact hf
theorem row_link {u : Nat → Nat} {n a b : Nat} (ha : a < n) : (row u n).set a ((b : Nat) : Int) = row (fun k => if k = a then b else u k) n := by
  apply List.ext_getElem?
  intro k
  rw [List.getElem?_set]
  by_cases hk : k < n
  · by_cases e : a = k
    · subst e; rw [if_pos rfl, if_pos (by rw [row_len]; exact hk), row_get hk, if_pos rfl]
    · rw [if_neg e, row_get hk, row_get hk, if_neg (fun h => e h.symm)]
  · have h1 : (row u n)[k]? = none := List.getElem?_eq_none (by rw [row_len]; omega)
    have h2 : (row (fun k => if k = a then b else u k) n)[k]? = none := List.getElem?_eq_none (by rw [row_len]; omega)
    rw [h2]
    split
    · rw [if_neg (by rw [row_len]; omega)]
    · exact h1

/-- The labels that have been found. -/
def foundStep (c : Nat → Nat) (out : List Nat) (m : Nat) : List Nat := if c m ∈ out then out else out ++ [c m]
def found (c : Nat → Nat) (ms : List Nat) : List Nat := ms.foldl (foundStep c) []
theorem found_snoc (c : Nat → Nat) (ms : List Nat) (m : Nat) : found c (ms ++ [m]) = foundStep c (found c ms) m := by simp [found]
theorem found_mem (c : Nat → Nat) (ms : List Nat) (x : Nat) : x ∈ found c ms ↔ ∃ m ∈ ms, c m = x := by
  have key : ∀ (l out : List Nat), x ∈ l.foldl (foundStep c) out ↔ x ∈ out ∨ ∃ m ∈ l, c m = x := by
    intro l
    induction l with
    | nil => intro out; simp
    | cons m l ih =>
      intro out
      rw [List.foldl_cons, ih]
      unfold foundStep
      constructor
      · rintro (h | ⟨q, hq, rfl⟩)
        · split at h
          · exact Or.inl h
          · rcases List.mem_append.1 h with h | h
            · exact Or.inl h
            · simp only [List.mem_singleton] at h; subst h; exact Or.inr ⟨m, List.mem_cons_self .., rfl⟩
        · exact Or.inr ⟨q, List.mem_cons_of_mem _ hq, rfl⟩
      · rintro (h | ⟨q, hq, rfl⟩)
        · left; split
          · exact h
          · exact List.mem_append.2 (Or.inl h)
        · rcases List.mem_cons.1 hq with rfl | hq
          · left; split
            · assumption
            · exact List.mem_append.2 (Or.inr (List.mem_singleton.2 rfl))
          · exact Or.inr ⟨q, hq, rfl⟩
  rw [found, key]; simp
theorem found_nodup (c : Nat → Nat) (ms : List Nat) : (found c ms).Nodup := by
  have key : ∀ (l out : List Nat), out.Nodup → (l.foldl (foundStep c) out).Nodup := by
    intro l
    induction l with
    | nil => intro out h; exact h
    | cons m l ih =>
      intro out h
      rw [List.foldl_cons]
      refine ih _ ?_
      unfold foundStep
      split
      · exact h
      · rename_i hn
        rw [List.nodup_append]
        refine ⟨h, by simp, fun x hx y hy => ?_⟩
        simp only [List.mem_singleton] at hy
        subst hy
        rintro rfl
        exact hn hx
  exact key ms [] List.nodup_nil
theorem found_len (c : Nat → Nat) (ms : List Nat) : (found c ms).length ≤ ms.length := by
  have key : ∀ (l out : List Nat), (l.foldl (foundStep c) out).length ≤ out.length + l.length := by
    intro l
    induction l with
    | nil => intro out; simp
    | cons m l ih =>
      intro out
      rw [List.foldl_cons]
      have := ih (foundStep c out m)
      have h2 : (foundStep c out m).length ≤ out.length + 1 := by unfold foundStep; split <;> simp
      simp only [List.length_cons]; omega
  have := key ms []
  simpa [found] using this
/-- How many members are labels of themselves. -/
def tally (c : Nat → Nat) (ms : List Nat) : Nat := (ms.filter fun m => c m == m).length
theorem tally_snoc (c : Nat → Nat) (ms : List Nat) (m : Nat) : tally c (ms ++ [m]) = tally c ms + if c m = m then 1 else 0 := by
  unfold tally
  rw [List.filter_append, List.length_append]
  by_cases h : c m = m <;> simp [h]
theorem tally_le (c : Nat → Nat) (ms : List Nat) : tally c ms ≤ ms.length := List.length_filter_le _ _
theorem tally_found {c : Nat → Nat} {ms : List Nat} (hn : ms.Nodup) (hc : ∀ m ∈ ms, c m ∈ ms) (hi : ∀ m ∈ ms, c (c m) = c m) : tally c ms = (found c ms).length := by
  unfold tally
  refine List.Perm.length_eq ((List.perm_ext_iff_of_nodup (hn.filter _) (found_nodup c ms)).2 fun x => ?_)
  rw [found_mem, List.mem_filter]
  constructor
  · rintro ⟨h1, h2⟩
    exact ⟨x, h1, by simpa using h2⟩
  · rintro ⟨m, hm, rfl⟩
    exact ⟨hc m hm, by simpa using hi m hm⟩
end Cls
end Go.Proofs.YtamgimdjnmcpaaaGreat
