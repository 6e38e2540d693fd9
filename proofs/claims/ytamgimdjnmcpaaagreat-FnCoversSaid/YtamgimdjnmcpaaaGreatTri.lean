/-
  Classes merged in three loops in one another; how many classes there are, told by other labels.
-/
import Derived.Test.YtamgimdjnmcpaaaGreatBase
import Derived.Test.YtamgimdjnmcpaaaGreatClass
namespace Go.Proofs.YtamgimdjnmcpaaaGreat
open Go.RowKit

namespace Cls
theorem snoc_ind {α : Type} {p : List α → Prop} (h0 : p []) (h1 : ∀ l x, p l → p (l ++ [x])) (l : List α) : p l := by
  have key : ∀ r : List α, p r.reverse := by
    intro r
    induction r with
    | nil => exact h0
    | cons x r ih => rw [List.reverse_cons]; exact h1 _ _ ih
  simpa using key l.reverse
/-- What agrees at both ends of all that is merged agrees on the classes. -/
theorem ker_le {α : Type} {F : Nat → α} {l : List (Nat × Nat)} (h : ∀ p ∈ l, F p.1 = F p.2) {x y : Nat} (e : mergeAll l x = mergeAll l y) : F x = F y := by
  have key : ∀ l : List (Nat × Nat), (∀ p ∈ l, F p.1 = F p.2) → ∀ x y, mergeAll l x = mergeAll l y → F x = F y := by
    intro l
    refine snoc_ind (p := fun l => (∀ p ∈ l, F p.1 = F p.2) → ∀ x y, mergeAll l x = mergeAll l y → F x = F y) ?_ ?_ l
    · intro _ x y e; exact congrArg F e
    · intro l p ih h x y e
      have hp := h p (List.mem_append.2 (Or.inr (List.mem_singleton.2 rfl)))
      have ih' := ih (fun q hq => h q (List.mem_append.2 (Or.inl hq)))
      rw [mergeAll_snoc] at e
      unfold Cls.merge at e
      by_cases e1 : mergeAll l x = mergeAll l p.1
      · by_cases e2 : mergeAll l y = mergeAll l p.1
        · exact ih' x y (e1.trans e2.symm)
        · rw [if_pos e1, if_neg e2] at e
          exact (ih' _ _ e1).trans (hp.trans (ih' _ _ e))
      · by_cases e2 : mergeAll l y = mergeAll l p.1
        · rw [if_neg e1, if_pos e2] at e
          exact (ih' _ _ e).trans (hp.symm.trans (ih' _ _ e2).symm)
        · rw [if_neg e1, if_neg e2] at e
          exact ih' _ _ e
  exact key l h x y e
/-- Both ends of what is merged have one label. -/
theorem eq_of_mem {l : List (Nat × Nat)} {a b : Nat} (h : (a, b) ∈ l) : mergeAll l a = mergeAll l b := by
  have keep : ∀ (m : List (Nat × Nat)) (c : Nat → Nat) (x y : Nat), c x = c y → m.foldl Cls.merge c x = m.foldl Cls.merge c y := by
    intro m
    induction m with
    | nil => intro c x y e; exact e
    | cons p m ih => intro c x y e; exact ih _ x y (by unfold Cls.merge; rw [e])
  have key : ∀ (m : List (Nat × Nat)) (c : Nat → Nat), (a, b) ∈ m → m.foldl Cls.merge c a = m.foldl Cls.merge c b := by
    intro m
    induction m with
    | nil => intro c h; cases h
    | cons p m ih =>
      intro c h
      rcases List.mem_cons.1 h with rfl | h
      · refine keep m _ a b ?_
        unfold Cls.merge
        rw [if_pos rfl]
        split <;> rfl
      · exact ih _ h
  exact key l id h
theorem eq_append {l m : List (Nat × Nat)} {a b : Nat} (h : mergeAll l a = mergeAll l b) : mergeAll (l ++ m) a = mergeAll (l ++ m) b :=
  ker_le (F := mergeAll (l ++ m)) (fun p hp => eq_of_mem (List.mem_append.2 (Or.inl hp))) h
/-- Labels that part a list alike are as many. -/
theorem found_ker {f g : Nat → Nat} {ms : List Nat} (h : ∀ i ∈ ms, ∀ j ∈ ms, f i = f j ↔ g i = g j) : (found f ms).length = (found g ms).length := by
  refine snoc_ind (p := fun ms => (∀ i ∈ ms, ∀ j ∈ ms, f i = f j ↔ g i = g j) → (found f ms).length = (found g ms).length) ?_ ?_ ms h
  · intro _; rfl
  · intro l x ih h
    have ih' := ih (fun i hi j hj => h i (List.mem_append.2 (Or.inl hi)) j (List.mem_append.2 (Or.inl hj)))
    rw [found_snoc, found_snoc]
    unfold foundStep
    have hx : f x ∈ found f l ↔ g x ∈ found g l := by
      rw [found_mem, found_mem]
      constructor
      · rintro ⟨m, hm, e⟩
        exact ⟨m, hm, (h m (List.mem_append.2 (Or.inl hm)) x (List.mem_append.2 (Or.inr (List.mem_singleton.2 rfl)))).1 e⟩
      · rintro ⟨m, hm, e⟩
        exact ⟨m, hm, (h m (List.mem_append.2 (Or.inl hm)) x (List.mem_append.2 (Or.inr (List.mem_singleton.2 rfl)))).2 e⟩
    by_cases e : f x ∈ found f l
    · rw [if_pos e, if_pos (hx.1 e)]; exact ih'
    · rw [if_neg e, if_neg (fun h => e (hx.2 h)), List.length_append, List.length_append, ih']; rfl
theorem found_map (c : Nat → Nat) (f : Nat → Nat) (ms : List Nat) : found c (ms.map f) = found (fun m => c (f m)) ms := by
  unfold found
  rw [List.foldl_map]; rfl
/-- The same labels met are as many. -/
theorem found_same {c d : Nat → Nat} {ms ns : List Nat} (h : ∀ x, (∃ m ∈ ms, c m = x) ↔ ∃ n ∈ ns, d n = x) : (found c ms).length = (found d ns).length :=
  List.Perm.length_eq ((List.perm_ext_iff_of_nodup (found_nodup c ms) (found_nodup d ns)).2 fun x => by rw [found_mem, found_mem]; exact h x)
theorem tally_range {c : Nat → Nat} {n : Nat} (h : Ok c n) : tally c (List.range n) = (found c (List.range n)).length :=
  tally_found List.nodup_range (fun m hm => List.mem_range.2 (h.lt m (List.mem_range.1 hm))) (fun m hm => h.idem m (List.mem_range.1 hm))

/-- Pairs (a, b) as often as S a b e holds below e. -/
def oneTo (S : Nat → Nat → Nat → Bool) (a b e : Nat) : List (Nat × Nat) := ((List.range e).filter (S a b)).map fun _ => (a, b)
def lineTo (S : Nat → Nat → Nat → Bool) (m a j : Nat) : List (Nat × Nat) := (List.range j).flatMap fun b => oneTo S a b m
def tri (S : Nat → Nat → Nat → Bool) (m i j e : Nat) : List (Nat × Nat) := ((List.range i).flatMap fun a => lineTo S m a a) ++ lineTo S m i j ++ oneTo S i j e
section
variable {S : Nat → Nat → Nat → Bool} {m i j e : Nat}
theorem tri_zero : tri S m 0 0 0 = [] := by simp [tri, lineTo, oneTo]
theorem tri_yes (h : S i j e = true) : tri S m i j (e + 1) = tri S m i j e ++ [(i, j)] := by
  unfold tri oneTo
  rw [List.range_succ, List.filter_append, List.map_append, ← List.append_assoc, List.filter_cons, if_pos h]; rfl
theorem tri_no (h : S i j e = false) : tri S m i j (e + 1) = tri S m i j e := by
  unfold tri oneTo
  rw [List.range_succ, List.filter_append, List.map_append, List.filter_cons, if_neg (by rw [h]; exact Bool.false_ne_true)]; simp
theorem tri_line : tri S m i j m = tri S m i (j + 1) 0 := by
  unfold tri lineTo
  rw [List.range_succ, List.flatMap_append]
  simp [oneTo]
theorem tri_next : tri S m i i 0 = tri S m (i + 1) 0 0 := by
  unfold tri
  rw [List.range_succ, List.flatMap_append]
  simp [oneTo, lineTo]
theorem tri_mem {n : Nat} {p : Nat × Nat} : p ∈ tri S m n 0 0 ↔ p.1 < n ∧ p.2 < p.1 ∧ ∃ e, e < m ∧ S p.1 p.2 e = true := by
  unfold tri lineTo oneTo
  simp only [List.range_zero, List.flatMap_nil, List.filter_nil, List.map_nil, List.append_nil, List.mem_flatMap, List.mem_range, List.mem_map, List.mem_filter]
  constructor
  · rintro ⟨a, ha, b, hb, e, ⟨he, hs⟩, rfl⟩
    exact ⟨ha, hb, e, he, hs⟩
  · rintro ⟨h1, h2, e, he, hs⟩
    exact ⟨p.1, h1, p.2, h2, e, ⟨he, hs⟩, rfl⟩
theorem tri_lt {n : Nat} : ∀ p ∈ tri S m n 0 0, p.1 < n ∧ p.2 < n := fun p hp => by have := tri_mem.1 hp; omega
end
end Cls
end Go.Proofs.YtamgimdjnmcpaaaGreat
