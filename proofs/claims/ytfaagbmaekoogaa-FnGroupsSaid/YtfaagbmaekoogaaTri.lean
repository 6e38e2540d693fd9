/-
  Classes merged in three loops in one another; how many classes there are, told by other labels. Maps, as functions of lists: what the document's chapter on maps says of them. Lists of permutations, and how words act by them: pure.
-/
import Derived.Test.YtfaagbmaekoogaaBase
import Derived.Test.YtfaagbmaekoogaaClass
import Derived.Test.YtfaagbmaekoogaaSlice
import Derived.Test.YtfaagbmaekoogaaInts
import Derived.Test.YtfaagbmaekoogaaGrid
import Derived.Test.YtfaagbmaekoogaaWord
namespace Go.Proofs.Ytfaagbmaekoogaa
open Go.RowKit

namespace Cls
theorem snoc_ind {α : Type} {p : List α → Prop} (h0 : p []) (h1 : ∀ l x, p l → p (l ++ [x])) (l : List α) : p l := by
  have key : ∀ r : List α, p r.reverse := by
    intro r
    induction r with
    | nil => exact h0
    | cons x r ih => rw [List.reverse_cons]; exact h1 _ _ ih
  simpa using key l.reverse
/-- What agrees at both ends of all that is merged agrees on the classes. -/
theorem ker_le {α : Type} {F : Nat → α} {l : List (Nat × Nat)} (h : ∀ p ∈ l, F p.1 = F p.2) {x y : Nat} (e : mergeAll l x = mergeAll l y) : F x = F y := by
  have key : ∀ l : List (Nat × Nat), (∀ p ∈ l, F p.1 = F p.2) → ∀ x y, mergeAll l x = mergeAll l y → F x = F y := by
    intro l
    refine snoc_ind (p := fun l => (∀ p ∈ l, F p.1 = F p.2) → ∀ x y, mergeAll l x = mergeAll l y → F x = F y) ?_ ?_ l
    · intro _ x y e; exact congrArg F e
    · intro l p ih h x y e
      have hp := h p (List.mem_append.2 (Or.inr (List.mem_singleton.2 rfl)))
      have ih' := ih (fun q hq => h q (List.mem_append.2 (Or.inl hq)))
      rw [mergeAll_snoc] at e
      unfold Cls.merge at e
      by_cases e1 : mergeAll l x = mergeAll l p.1
      · by_cases e2 : mergeAll l y = mergeAll l p.1
        · exact ih' x y (e1.trans e2.symm)
        · rw [if_pos e1, if_neg e2] at e
          exact (ih' _ _ e1).trans (hp.trans (ih' _ _ e))
      · by_cases e2 : mergeAll l y = mergeAll l p.1
        · rw [if_neg e1, if_pos e2] at e
          exact (ih' _ _ e).trans (hp.symm.trans (ih' _ _ e2).symm)
        · rw [if_neg e1, if_neg e2] at e
          exact ih' _ _ e
  exact key l h x y e
/-- Both ends of what is merged have one label. -/
theorem eq_of_mem {l : List (Nat × Nat)} {a b : Nat} (h : (a, b) ∈ l) : mergeAll l a = mergeAll l b := by
  have keep : ∀ (m : List (Nat × Nat)) (c : Nat → Nat) (x y : Nat), c x = c y → m.foldl Cls.merge c x = m.foldl Cls.merge c y := by
    intro m
    induction m with
    | nil => intro c x y e; exact e
    | cons p m ih => intro c x y e; exact ih _ x y (by unfold Cls.merge; rw [e])
  have key : ∀ (m : List (Nat × Nat)) (c : Nat → Nat), (a, b) ∈ m → m.foldl Cls.merge c a = m.foldl Cls.merge c b := by
    intro m
    induction m with
    | nil => intro c h; cases h
    | cons p m ih =>
      intro c h
      rcases List.mem_cons.1 h with rfl | h
      · refine keep m _ a b ?_
        unfold Cls.merge
        rw [if_pos rfl]
        split <;> rfl
      · exact ih _ h
  exact key l id h
theorem eq_append {l m : List (Nat × Nat)} {a b : Nat} (h : mergeAll l a = mergeAll l b) : mergeAll (l ++ m) a = mergeAll (l ++ m) b :=
  ker_le (F := mergeAll (l ++ m)) (fun p hp => eq_of_mem (List.mem_append.2 (Or.inl hp))) h
/-- Labels that part a list alike are as many. -/
theorem found_ker {f g : Nat → Nat} {ms : List Nat} (h : ∀ i ∈ ms, ∀ j ∈ ms, f i = f j ↔ g i = g j) : (found f ms).length = (found g ms).length := by
  refine snoc_ind (p := fun ms => (∀ i ∈ ms, ∀ j ∈ ms, f i = f j ↔ g i = g j) → (found f ms).length = (found g ms).length) ?_ ?_ ms h
  · intro _; rfl
  · intro l x ih h
    have ih' := ih (fun i hi j hj => h i (List.mem_append.2 (Or.inl hi)) j (List.mem_append.2 (Or.inl hj)))
    rw [found_snoc, found_snoc]
    unfold foundStep
    have hx : f x ∈ found f l ↔ g x ∈ found g l := by
      rw [found_mem, found_mem]
      constructor
      · rintro ⟨m, hm, e⟩
        exact ⟨m, hm, (h m (List.mem_append.2 (Or.inl hm)) x (List.mem_append.2 (Or.inr (List.mem_singleton.2 rfl)))).1 e⟩
      · rintro ⟨m, hm, e⟩
        exact ⟨m, hm, (h m (List.mem_append.2 (Or.inl hm)) x (List.mem_append.2 (Or.inr (List.mem_singleton.2 rfl)))).2 e⟩
    by_cases e : f x ∈ found f l
    · rw [if_pos e, if_pos (hx.1 e)]; exact ih'
    · rw [if_neg e, if_neg (fun h => e (hx.2 h)), List.length_append, List.length_append, ih']; rfl
theorem found_map (c : Nat → Nat) (f : Nat → Nat) (ms : List Nat) : found c (ms.map f) = found (fun m => c (f m)) ms := by
  unfold found
  rw [List.foldl_map]; rfl
/-- The same labels met are as many. -/
theorem found_same {c d : Nat → Nat} {ms ns : List Nat} (h : ∀ x, (∃ m ∈ ms, c m = x) ↔ ∃ n ∈ ns, d n = x) : (found c ms).length = (found d ns).length :=
  List.Perm.length_eq ((List.perm_ext_iff_of_nodup (found_nodup c ms) (found_nodup d ns)).2 fun x => by rw [found_mem, found_mem]; exact h x)
theorem tally_range {c : Nat → Nat} {n : Nat} (h : Ok c n) : tally c (List.range n) = (found c (List.range n)).length :=
  tally_found List.nodup_range (fun m hm => List.mem_range.2 (h.lt m (List.mem_range.1 hm))) (fun m hm => h.idem m (List.mem_range.1 hm))

/-- Pairs (a, b) as often as S a b e holds below e. -/
def oneTo (S : Nat → Nat → Nat → Bool) (a b e : Nat) : List (Nat × Nat) := ((List.range e).filter (S a b)).map fun _ => (a, b)
def lineTo (S : Nat → Nat → Nat → Bool) (m a j : Nat) : List (Nat × Nat) := (List.range j).flatMap fun b => oneTo S a b m
def tri (S : Nat → Nat → Nat → Bool) (m i j e : Nat) : List (Nat × Nat) := ((List.range i).flatMap fun a => lineTo S m a a) ++ lineTo S m i j ++ oneTo S i j e
section
variable {S : Nat → Nat → Nat → Bool} {m i j e : Nat}
theorem tri_zero : tri S m 0 0 0 = [] := by simp [tri, lineTo, oneTo]
theorem tri_yes (h : S i j e = true) : tri S m i j (e + 1) = tri S m i j e ++ [(i, j)] := by
  unfold tri oneTo
  rw [List.range_succ, List.filter_append, List.map_append, ← List.append_assoc, List.filter_cons, if_pos h]; rfl
theorem tri_no (h : S i j e = false) : tri S m i j (e + 1) = tri S m i j e := by
  unfold tri oneTo
  rw [List.range_succ, List.filter_append, List.map_append, List.filter_cons, if_neg (by rw [h]; exact Bool.false_ne_true)]; simp
theorem tri_line : tri S m i j m = tri S m i (j + 1) 0 := by
  unfold tri lineTo
  rw [List.range_succ, List.flatMap_append]
  simp [oneTo]
theorem tri_next : tri S m i i 0 = tri S m (i + 1) 0 0 := by
  unfold tri
  rw [List.range_succ, List.flatMap_append]
  simp [oneTo, lineTo]
theorem tri_mem {n : Nat} {p : Nat × Nat} : p ∈ tri S m n 0 0 ↔ p.1 < n ∧ p.2 < p.1 ∧ ∃ e, e < m ∧ S p.1 p.2 e = true := by
  unfold tri lineTo oneTo
  simp only [List.range_zero, List.flatMap_nil, List.filter_nil, List.map_nil, List.append_nil, List.mem_flatMap, List.mem_range, List.mem_map, List.mem_filter]
  constructor
  · rintro ⟨a, ha, b, hb, e, ⟨he, hs⟩, rfl⟩
    exact ⟨ha, hb, e, he, hs⟩
  · rintro ⟨h1, h2, e, he, hs⟩
    exact ⟨p.1, h1, p.2, h2, e, ⟨he, hs⟩, rfl⟩
theorem tri_lt {n : Nat} : ∀ p ∈ tri S m n 0 0, p.1 < n ∧ p.2 < n := fun p hp => by have := tri_mem.1 hp; omega
end
end Cls
end Go.Proofs.Ytfaagbmaekoogaa
namespace Go.Proofs.Ytfaagbmaekoogaa
open Go.RowKit

namespace Mp
/-- Each number less than the length, once. -/
def IsP (l : List Int) : Prop := (∀ x ∈ l, 0 ≤ x ∧ x < (l.length : Int)) ∧ l.Nodup
instance (l : List Int) : Decidable (IsP l) := by unfold IsP; exact inferInstance
def IsM (l : List Int) : Prop := 2 ≤ l.length ∧ l.length ≤ 24 ∧ l.length % 2 = 0 ∧ IsP l
instance (l : List Int) : Decidable (IsM l) := by unfold IsM; exact inferInstance
theorem isP_far {l : List Int} {i : Nat} {x : Int} (h : l[i]? = some x) (hx : ¬ (0 ≤ x ∧ x < (l.length : Int))) : ¬ IsP l := fun hp => hx (hp.1 x (get_mem h))
theorem isP_twice {l : List Int} {i : Nat} {x : Int} (h : l[i]? = some x) (hx : x ∈ l.take i) : ¬ IsP l := by
  rintro ⟨_, hn⟩
  obtain ⟨hi, e⟩ := List.getElem?_eq_some_iff.1 h
  have := List.nodup_append.1 (show (l.take i ++ l.drop i).Nodup by rw [List.take_append_drop]; exact hn)
  exact this.2.2 x hx x (by rw [List.drop_eq_getElem_cons hi, e]; exact List.mem_cons_self ..) rfl
/-- Where each number up to i is less than n and new. -/
def To (l : List Int) (i : Nat) : Prop := (∀ x ∈ l.take i, 0 ≤ x ∧ x < (l.length : Int)) ∧ (l.take i).Nodup
theorem To.zero (l : List Int) : To l 0 := ⟨by simp, by simp⟩
theorem To.step {l : List Int} {i : Nat} {x : Int} (h : To l i) (hx : l[i]? = some x) (h0 : 0 ≤ x ∧ x < (l.length : Int)) (hn : x ∉ l.take i) : To l (i + 1) := by
  obtain ⟨hi, rfl⟩ := List.getElem?_eq_some_iff.1 hx
  unfold To
  rw [List.take_succ_eq_append_getElem hi]
  refine ⟨fun y hy => ?_, ?_⟩
  · rcases List.mem_append.1 hy with hy | hy
    · exact h.1 y hy
    · rw [List.mem_singleton.1 hy]; exact h0
  · rw [List.nodup_append]
    refine ⟨h.2, by simp, fun a ha b hb => ?_⟩
    rw [List.mem_singleton.1 hb]
    rintro rfl; exact hn ha
theorem To.all {l : List Int} (h : To l l.length) : IsP l := by
  unfold To at h
  rw [List.take_of_length_le (Nat.le_refl _)] at h
  exact h
theorem take_mem {l : List Int} {i : Nat} {x y : Int} (h : l[i]? = some x) : y ∈ l.take (i + 1) ↔ (y ∈ l.take i ∨ y = x) := by
  obtain ⟨hi, rfl⟩ := List.getElem?_eq_some_iff.1 h
  rw [List.take_succ_eq_append_getElem hi, List.mem_append, List.mem_singleton]

/-- The dart that follows. -/
def at_ (l : List Int) (d : Nat) : Nat := (l.getD d 0).toNat
theorem at_get {l : List Int} (h : IsP l) {d : Nat} (hd : d < l.length) : l[d]? = some ((at_ l d : Nat) : Int) := by
  have := h.1 _ (List.getElem_mem hd)
  unfold at_
  rw [List.getD_eq_getElem?_getD, List.getElem?_eq_getElem hd]
  simp only [Option.getD_some]
  congr 1; omega
theorem at_lt {l : List Int} (h : IsP l) {d : Nat} (hd : d < l.length) : at_ l d < l.length := by
  have := h.1 _ (get_mem (at_get h hd)); omega
theorem at_inj {l : List Int} (h : IsP l) {d e : Nat} (hd : d < l.length) (he : e < l.length) (hh : at_ l d = at_ l e) : d = e := by
  have h1 := at_get h hd
  have h2 := at_get h he
  rw [List.getElem?_eq_getElem hd] at h1
  rw [List.getElem?_eq_getElem he, ← hh] at h2
  have h3 : l[d] = l[e] := by rw [Option.some.inj h1, Option.some.inj h2]
  have hp := List.pairwise_iff_getElem.1 (List.nodup_iff_pairwise_ne.1 h.2)
  rcases Nat.lt_trichotomy d e with h4 | h4 | h4
  · exact absurd h3 (hp d e hd he h4)
  · exact h4
  · exact absurd h3.symm (hp e d he hd h4)
theorem at_row {l : List Int} (h : IsP l) : Cls.row (at_ l) l.length = l := by
  apply List.ext_getElem?
  intro k
  by_cases hk : k < l.length
  · rw [Cls.row_get hk, at_get h hk]
  · rw [List.getElem?_eq_none (by rw [Cls.row_len]; omega), List.getElem?_eq_none (by omega)]
theorem isP_row {f : Nat → Nat} {n : Nat} (h1 : ∀ d, d < n → f d < n) (h2 : ∀ d e, d < n → e < n → f d = f e → d = e) : IsP (Cls.row f n) := by
  refine ⟨fun x hx => ?_, ?_⟩
  · unfold Cls.row at hx
    obtain ⟨k, hk, rfl⟩ := List.mem_map.1 hx
    have := h1 k (List.mem_range.1 hk)
    rw [Cls.row_len]; omega
  · unfold Cls.row
    rw [List.nodup_iff_pairwise_ne, List.pairwise_map, List.pairwise_iff_getElem]
    intro i j hi hj hij
    simp only [List.length_range] at hi hj
    simp only [List.getElem_range]
    intro e
    have := h2 i j hi hj (by omega)
    omega
theorem at_of_row {f : Nat → Nat} {n d : Nat} (hd : d < n) : at_ (Cls.row f n) d = f d := by
  unfold at_; rw [Cls.row_getD hd]; simp

/-- The other dart of an edge. -/
def mate (d : Nat) : Nat := if d % 2 = 0 then d + 1 else d - 1
theorem mate_mate (d : Nat) : mate (mate d) = d := by unfold mate; split <;> split <;> omega
theorem mate_lt {n d : Nat} (hn : n % 2 = 0) (hd : d < n) : mate d < n := by unfold mate; split <;> omega
theorem mate_half (d : Nat) : mate d / 2 = d / 2 := by unfold mate; split <;> omega
theorem mate_inj {d e : Nat} (h : mate d = mate e) : d = e := by have := congrArg mate h; rwa [mate_mate, mate_mate] at this

def dualF (l : List Int) (d : Nat) : Nat := at_ l (mate d)
def dual (l : List Int) : List Int := Cls.row (dualF l) l.length
def dualOf (l : List Int) : List Int := if IsM l then dual l else []
theorem dual_len (l : List Int) : (dual l).length = l.length := Cls.row_len _ _
theorem dual_isM {l : List Int} (h : IsM l) : IsM (dual l) := by
  obtain ⟨h1, h2, h3, h4⟩ := h
  refine ⟨by rw [dual_len]; exact h1, by rw [dual_len]; exact h2, by rw [dual_len]; exact h3, isP_row (fun d hd => at_lt h4 (mate_lt h3 hd)) (fun d e hd he hh => mate_inj (at_inj h4 (mate_lt h3 hd) (mate_lt h3 he) hh))⟩
theorem dualOf_len (l : List Int) : (dualOf l).length ≤ 24 := by
  unfold dualOf; split
  · rename_i h; rw [dual_len]; exact h.2.1
  · simp

/-- The inverse permutation, out of the first i darts. -/
def invTo (l : List Int) : Nat → Nat → Nat
  | 0 => fun _ => 0
  | i + 1 => fun x => if x = at_ l i then i else invTo l i x
def mirror (l : List Int) : List Int := Cls.row (invTo l l.length) l.length
def mirrorOf (l : List Int) : List Int := if IsM l then mirror l else []
theorem mirror_len (l : List Int) : (mirror l).length = l.length := Cls.row_len _ _
theorem mirrorOf_len (l : List Int) : (mirrorOf l).length ≤ 24 := by
  unfold mirrorOf; split
  · rename_i h; rw [mirror_len]; exact h.2.1
  · simp
theorem invTo_at {l : List Int} (h : IsP l) {i d : Nat} (hi : i ≤ l.length) (hd : d < i) : invTo l i (at_ l d) = d := by
  induction i with
  | zero => omega
  | succ i ih =>
    unfold invTo
    by_cases e : at_ l d = at_ l i
    · simp only [e, if_true]
      exact (at_inj h (by omega) (by omega) e).symm
    · simp only [e, if_false]
      refine ih (by omega) ?_
      rcases Nat.lt_or_ge d i with h2 | h2
      · exact h2
      · obtain rfl : d = i := by omega
        exact absurd rfl e

/-- The darts of a cycle, from d on, until one that was seen. -/
def cyc (f : Nat → Nat) : Nat → (Nat → Bool) → Nat → List Nat
  | 0, _, _ => []
  | k + 1, s, d => if s d then [] else d :: cyc f k (fun x => x == d || s x) (f d)
/-- What was seen, and the cycles. -/
def seen (s : Nat → Bool) (c : List Nat) : Nat → Bool := fun x => decide (x ∈ c) || s x
def cycStep (f : Nat → Nat) (n : Nat) (st : (Nat → Bool) × List (List Nat)) (k : Nat) : (Nat → Bool) × List (List Nat) :=
  if cyc f (n + 1) st.1 k = [] then st else (seen st.1 (cyc f (n + 1) st.1 k), st.2 ++ [cyc f (n + 1) st.1 k])
def cycTo (f : Nat → Nat) (n i : Nat) : (Nat → Bool) × List (List Nat) := (List.range i).foldl (cycStep f n) (fun _ => false, [])
theorem cycTo_zero (f : Nat → Nat) (n : Nat) : cycTo f n 0 = (fun _ => false, []) := rfl
theorem cycTo_succ (f : Nat → Nat) (n i : Nat) : cycTo f n (i + 1) = cycStep f n (cycTo f n i) i := by
  unfold cycTo; rw [List.range_succ, List.foldl_append]; rfl
def natRows (C : List (List Nat)) : List (List Int) := C.map fun c => c.map fun d => ((d : Nat) : Int)
def cycs (l : List Int) : List (List Nat) := (cycTo (at_ l) l.length l.length).2
def cycles (l : List Int) : List (List Int) := natRows (cycs l)
def cyclesOf (l : List Int) : List (List Int) := if IsM l then cycles l else []
def facesOf (l : List Int) : List (List Int) := if IsM l then cycles (dual l) else []

/-- A state of the inner loop: c was walked, from d on there is left cyc f k s' d. -/
structure Mid (f : Nat → Nat) (n : Nat) (s : Nat → Bool) (first : Nat) (c : List Nat) (d : Nat) : Prop where
  nodup : c.Nodup
  lt : ∀ x ∈ c, x < n
  new : ∀ x ∈ c, s x = false
  dlt : d < n
  whole : ∃ k, c.length + k = n + 1 ∧ cyc f (n + 1) s first = c ++ cyc f k (seen s c) d
theorem seen_snoc (s : Nat → Bool) (c : List Nat) (d : Nat) : seen s (c ++ [d]) = fun x => x == d || seen s c x := by
  funext x
  unfold seen
  by_cases h : x = d <;> by_cases h2 : x ∈ c <;> simp [h, h2]
theorem seen_nil (s : Nat → Bool) : seen s [] = s := by funext x; simp [seen]
theorem nodup_len : ∀ {n : Nat} {c : List Nat}, c.Nodup → (∀ x ∈ c, x < n) → c.length ≤ n
  | 0, c, _, hl => by
    cases c with
    | nil => exact Nat.le_refl _
    | cons x t => have := hl x (List.mem_cons_self ..); omega
  | n + 1, c, h, hl => by
    have := nodup_len (n := n) (c := c.erase n) (h.erase n) (fun x hx => by
      have h1 := (List.Nodup.mem_erase_iff h).1 hx
      have := hl x h1.2; omega)
    rw [List.length_erase] at this
    split at this <;> omega
theorem nodup_perm {n : Nat} {c : List Nat} (h : c.Nodup) (hl : ∀ x ∈ c, x < n) (hn : n ≤ c.length) : c.Perm (List.range n) := by
  refine (List.perm_ext_iff_of_nodup h List.nodup_range).2 fun k => ?_
  rw [List.mem_range]
  refine ⟨hl k, fun hk => Classical.byContradiction fun hno => ?_⟩
  have := nodup_len (n := n) (c := k :: c) (List.nodup_cons.2 ⟨hno, h⟩) (fun x hx => by
    rcases List.mem_cons.1 hx with rfl | hx
    · exact hk
    · exact hl x hx)
  simp at this; omega
theorem Mid.start (f : Nat → Nat) {n : Nat} (s : Nat → Bool) {first : Nat} (h : first < n) : Mid f n s first [] first :=
  ⟨List.nodup_nil, fun _ h => (by cases h), fun _ h => (by cases h), h, n + 1, by simp, by rw [seen_nil]; rfl⟩
theorem Mid.len {f : Nat → Nat} {n : Nat} {s : Nat → Bool} {first : Nat} {c : List Nat} {d : Nat} (h : Mid f n s first c d) : c.length ≤ n := nodup_len h.nodup h.lt
theorem Mid.step {f : Nat → Nat} {n : Nat} {s : Nat → Bool} {first : Nat} {c : List Nat} {d : Nat} (h : Mid f n s first c d) (hd : seen s c d = false) (hf : f d < n) : Mid f n s first (c ++ [d]) (f d) := by
  have hl := h.len
  obtain ⟨h1, h2, h3, h4, k, hk, hw⟩ := h
  have hd2 : d ∉ c ∧ s d = false := by unfold seen at hd; simpa using hd
  refine ⟨?_, fun x hx => ?_, fun x hx => ?_, hf, k - 1, by simp; omega, ?_⟩
  · rw [List.nodup_append]
    refine ⟨h1, by simp, fun a ha b hb => ?_⟩
    rw [List.mem_singleton.1 hb]; rintro rfl; exact hd2.1 ha
  · rcases List.mem_append.1 hx with hx | hx
    · exact h2 x hx
    · rw [List.mem_singleton.1 hx]; exact h4
  · rcases List.mem_append.1 hx with hx | hx
    · exact h3 x hx
    · rw [List.mem_singleton.1 hx]; exact hd2.2
  · obtain ⟨j, rfl⟩ : ∃ j, k = j + 1 := ⟨k - 1, by omega⟩
    rw [hw, seen_snoc]
    conv => lhs; unfold cyc
    rw [hd]
    simp
theorem Mid.stop {f : Nat → Nat} {n : Nat} {s : Nat → Bool} {first : Nat} {c : List Nat} {d : Nat} (h : Mid f n s first c d) (hd : seen s c d = true) : cyc f (n + 1) s first = c := by
  obtain ⟨_, _, _, _, k, hk, hw⟩ := h
  rw [hw]
  cases k with
  | zero => simp [cyc]
  | succ k => unfold cyc; rw [hd]; simp

/-- Connected parts. -/
def pair1 (l : List Int) (d : Nat) : List (Nat × Nat) := [(d, at_ l d), (d, mate d)]
def pairsTo (l : List Int) (i : Nat) : List (Nat × Nat) := (List.range i).flatMap (pair1 l)
theorem pairsTo_succ (l : List Int) (i : Nat) : pairsTo l (i + 1) = pairsTo l i ++ [(i, at_ l i)] ++ [(i, mate i)] := by
  unfold pairsTo; rw [List.range_succ, List.flatMap_append]; simp [pair1]
def ring (l : List Int) : Nat → Nat := Cls.mergeAll (pairsTo l l.length)
def parts (l : List Int) : Nat := Cls.tally (ring l) (List.range l.length)
def partsOf (l : List Int) : Int := if IsM l then (parts l : Int) else -1
theorem pairsTo_lt {l : List Int} (h : IsM l) {i : Nat} (hi : i ≤ l.length) : ∀ p ∈ pairsTo l i, p.1 < l.length ∧ p.2 < l.length := by
  intro p hp
  unfold pairsTo at hp
  obtain ⟨d, hd, hp⟩ := List.mem_flatMap.1 hp
  have hd' : d < l.length := by have := List.mem_range.1 hd; omega
  simp only [pair1, List.mem_cons, List.not_mem_nil, or_false] at hp
  rcases hp with rfl | rfl
  · exact ⟨hd', at_lt h.2.2.2 hd'⟩
  · exact ⟨hd', mate_lt h.2.2.1 hd'⟩
theorem ring_ok {l : List Int} (h : IsM l) : Cls.Ok (ring l) l.length := Cls.Ok.all (pairsTo_lt h (Nat.le_refl _))
def natsOf (l : List Int) : List Nat := l.map Int.toNat
theorem natsOf_row {l : List Int} (h : IsP l) : (natsOf l).map (fun k => ((k : Nat) : Int)) = l := by
  unfold natsOf
  rw [List.map_map]
  conv => rhs; rw [← List.map_id l]
  apply List.map_congr_left
  intro x hx
  have := h.1 x hx
  simp; omega
/-- A permutation has all darts as its members. -/
theorem parts_found {l : List Int} (h : IsM l) : parts l = (Cls.found (ring l) (natsOf l)).length := by
  unfold parts
  rw [Cls.tally_range (ring_ok h)]
  refine Cls.found_same fun x => ?_
  have hp := h.2.2.2
  constructor
  · rintro ⟨m, hm, rfl⟩
    -- every dart below n is a member
    have hm := List.mem_range.1 hm
    have hsub : (natsOf l).Perm (List.range l.length) := by
      have hnd : (natsOf l).Nodup := by
        have := hp.2
        rw [← natsOf_row hp, List.nodup_iff_pairwise_ne, List.pairwise_map] at this
        rw [List.nodup_iff_pairwise_ne]
        exact this.imp fun h e => h (by rw [e])
      refine nodup_perm hnd (fun y hy => ?_) (by simp [natsOf])
      obtain ⟨x, hx, rfl⟩ := List.mem_map.1 hy
      have := hp.1 x hx
      omega
    exact ⟨m, hsub.mem_iff.2 (List.mem_range.2 hm), rfl⟩
  · rintro ⟨m, hm, rfl⟩
    obtain ⟨x, hx, rfl⟩ := List.mem_map.1 hm
    have := hp.1 x hx
    exact ⟨_, List.mem_range.2 (by omega), rfl⟩
def genus (l : List Int) : Int := (parts l : Int) - (((cycs l).length : Int) - ((l.length / 2 : Nat) : Int) + ((cycs (dual l)).length : Int)).tdiv 2
def genusOf (l : List Int) : Int := if IsM l then genus l else -1

/-- The edge of two darts is left out. -/
def Edge (l : List Int) (e : Int) : Prop := IsM l ∧ 0 ≤ e ∧ e < ((l.length / 2 : Nat) : Int)
instance (l : List Int) (e : Int) : Decidable (Edge l e) := by unfold Edge; exact inferInstance
def DropOk (l : List Int) (e : Int) : Prop := Edge l e ∧ l.length ≠ 2
instance (l : List Int) (e : Int) : Decidable (DropOk l e) := by unfold DropOk; exact inferInstance
def skip (l : List Int) (e x : Nat) : Nat := if x / 2 = e then (if at_ l x / 2 = e then at_ l (at_ l x) else at_ l x) else x
def less (e x : Nat) : Nat := if e < x / 2 then x - 2 else x
def dropTo (l : List Int) (e i : Nat) : List Nat := ((List.range i).filter fun d => d / 2 != e).map fun d => less e (skip l e (at_ l d))
def dropN (l : List Int) (e : Nat) : List Nat := dropTo l e l.length
def drop (l : List Int) (e : Int) : List Int := if DropOk l e then (dropN l e.toNat).map (fun d => ((d : Nat) : Int)) else []
/-- A new edge. -/
def Room (l : List Int) : Prop := l.length + 2 ≤ 24
instance (l : List Int) : Decidable (Room l) := by unfold Room; exact inferInstance
def Dart (l : List Int) (a : Int) : Prop := 0 ≤ a ∧ a < (l.length : Int)
instance (l : List Int) (a : Int) : Decidable (Dart l a) := by unfold Dart; exact inferInstance
def AddOk (l : List Int) (a b : Int) : Prop := IsM l ∧ Dart l a ∧ Dart l b ∧ Room l
instance (l : List Int) (a b : Int) : Decidable (AddOk l a b) := by unfold AddOk; exact inferInstance
def upd (f : Nat → Nat) (a b : Nat) : Nat → Nat := fun k => if k = a then b else f k
/-- The dart d is laid behind the dart a. -/
def behind (f : Nat → Nat) (d a : Nat) : Nat → Nat := upd (upd f d (f a)) a d
def addF (l : List Int) (a b : Nat) : Nat → Nat := behind (behind (at_ l) l.length a) (l.length + 1) (if a = b then l.length else b)
def add (l : List Int) (a b : Int) : List Int := if AddOk l a b then Cls.row (addF l a.toNat b.toNat) (l.length + 2) else []
def SubOk (l : List Int) (e : Int) : Prop := Edge l e ∧ Room l
instance (l : List Int) (e : Int) : Decidable (SubOk l e) := by unfold SubOk; exact inferInstance
/-- n is laid behind d, and n + 1 in the place that d had. -/
def subF (l : List Int) (d : Nat) : Nat → Nat := fun k =>
  if k = d then l.length else if k = l.length then d else if k = l.length + 1 then (if at_ l d = d then l.length + 1 else at_ l d) else if at_ l k = d then l.length + 1 else at_ l k
def sub (l : List Int) (e : Int) : List Int := if SubOk l e then Cls.row (subF l (2 * e.toNat + 1)) (l.length + 2) else []
theorem drop_len (l : List Int) (e : Int) : (drop l e).length ≤ 24 := by
  unfold drop; split
  · rename_i h
    rw [List.length_map]
    unfold dropN dropTo
    rw [List.length_map]
    refine Nat.le_trans (List.length_filter_le _ _) ?_
    rw [List.length_range]; exact h.1.1.2.1
  · simp
theorem add_len (l : List Int) (a b : Int) : (add l a b).length ≤ 24 := by
  unfold add; split
  · rename_i h; rw [Cls.row_len]; exact h.2.2.2
  · simp
theorem sub_len (l : List Int) (e : Int) : (sub l e).length ≤ 24 := by
  unfold sub; split
  · rename_i h; rw [Cls.row_len]; exact h.2
  · simp
end Mp
end Go.Proofs.Ytfaagbmaekoogaa
namespace Go.Proofs.Ytfaagbmaekoogaa
open Go.RowKit

namespace Cv
/-- How many sheets. -/
def deg (L : List (List Int)) : Nat := (L.headD []).length
def Perms (L : List (List Int)) : Prop := (∀ p ∈ L, p.length = deg L ∧ Mp.IsP p) ∧ 1 ≤ L.length ∧ L.length ≤ 8 ∧ 1 ≤ deg L ∧ deg L ≤ 5
instance (l : List Int) : Decidable (Mp.IsP l) := by unfold Mp.IsP; exact inferInstance
instance (L : List (List Int)) : Decidable (Perms L) := by unfold Perms; exact inferInstance
/-- The permutation of a letter; the image of a sheet under it, under a word. -/
def perm (L : List (List Int)) (x : Int) : List Int := let p := L.getD (x.natAbs - 1) []; if x < 0 then Mp.mirror p else p
def img (L : List (List Int)) (s : Nat) (x : Int) : Nat := Mp.at_ (perm L x) s
def act (L : List (List Int)) (w : List Int) (s : Nat) : Nat := w.foldl (img L) s
def Fits (L : List (List Int)) (w : List Int) : Prop := ∀ x ∈ w, x.natAbs ≤ L.length
instance (L : List (List Int)) (w : List Int) : Decidable (Fits L w) := by unfold Fits; exact inferInstance
def Ok (L : List (List Int)) (w : List Int) : Prop := Perms L ∧ Word.IsW w ∧ Fits L w
instance (L : List (List Int)) (w : List Int) : Decidable (Ok L w) := by unfold Ok; exact inferInstance
def row (L : List (List Int)) (w : List Int) (n : Nat) : List Int := (List.range n).map fun s => ((act L w s : Nat) : Int)
def actW (L : List (List Int)) (w : List Int) : List Int := if Ok L w then row L w (deg L) else []
theorem row_len (L : List (List Int)) (w : List Int) (n : Nat) : (row L w n).length = n := by simp [row]
theorem row_snoc (L : List (List Int)) (w : List Int) (n : Nat) : row L w (n + 1) = row L w n ++ [((act L w n : Nat) : Int)] := by
  unfold row; rw [List.range_succ, List.map_append]; rfl
theorem act_take {L : List (List Int)} {w : List Int} {i : Nat} (h : i < w.length) (s : Nat) : act L (w.take (i + 1)) s = img L (act L (w.take i) s) w[i] := by
  unfold act; rw [List.take_succ_eq_append_getElem h, List.foldl_append]; rfl
theorem invTo_lt {l : List Int} : ∀ (n d : Nat), 0 < n → Mp.invTo l n d < n
  | 0, d, h => absurd h (by omega)
  | n + 1, d, _ => by
    show (if d = Mp.at_ l n then n else Mp.invTo l n d) < n + 1
    split
    · omega
    · cases n with
      | zero => show 0 < 1; omega
      | succ n => have := invTo_lt (l := l) (n + 1) d (by omega); omega
theorem mirror_isP {l : List Int} (h : Mp.IsP l) : Mp.IsP (Mp.mirror l) := by
  unfold Mp.mirror
  refine Mp.isP_row (fun d hd => invTo_lt _ d (by omega)) fun d e hd he hh => ?_
  have key : ∀ d, d < l.length → Mp.at_ l (Mp.invTo l l.length d) = d := by
    intro d hd
    have hm : ((d : Nat) : Int) ∈ l := by
      have hnd : (l.map Int.toNat).Nodup := by
        rw [List.nodup_iff_pairwise_ne, List.pairwise_map]
        refine List.Pairwise.imp_of_mem ?_ (List.nodup_iff_pairwise_ne.1 h.2)
        intro a b ha hb hab e
        have := h.1 a ha; have := h.1 b hb; omega
      have hp := Mp.nodup_perm (n := l.length) hnd (fun x hx => by
        obtain ⟨y, hy, rfl⟩ := List.mem_map.1 hx
        have := h.1 y hy; omega) (by simp)
      have : d ∈ l.map Int.toNat := hp.mem_iff.2 (List.mem_range.2 hd)
      obtain ⟨y, hy, e⟩ := List.mem_map.1 this
      have := h.1 y hy
      rwa [show ((d : Nat) : Int) = y by omega]
    obtain ⟨j, hj, e⟩ := List.mem_iff_getElem.1 hm
    have ha : Mp.at_ l j = d := by
      have := Mp.at_get h hj
      rw [List.getElem?_eq_getElem hj, e] at this
      have := Option.some.inj this; omega
    have := Mp.invTo_at h (Nat.le_refl _) hj
    rw [ha] at this
    rw [this, ha]
  have h1 := key d hd
  have h2 := key e he
  rw [hh] at h1
  exact h1.symm.trans h2
theorem perm_isP {L : List (List Int)} (h : Perms L) {x : Int} (hx : x ≠ 0) (hf : x.natAbs ≤ L.length) : Mp.IsP (perm L x) ∧ (perm L x).length = deg L := by
  have hi : x.natAbs - 1 < L.length := by omega
  have hm : L.getD (x.natAbs - 1) [] ∈ L := by
    rw [List.getD_eq_getElem?_getD, List.getElem?_eq_getElem hi]; exact List.getElem_mem hi
  obtain ⟨h1, h2⟩ := h.1 _ hm
  unfold perm
  simp only
  split
  · exact ⟨mirror_isP h2, by rw [Mp.mirror_len, h1]⟩
  · exact ⟨h2, h1⟩
theorem img_lt {L : List (List Int)} (h : Perms L) {x : Int} (hx : x ≠ 0) (hf : x.natAbs ≤ L.length) {s : Nat} (hs : s < deg L) : img L s x < deg L := by
  obtain ⟨h1, h2⟩ := perm_isP h hx hf
  have := Mp.at_lt h1 (d := s) (by omega)
  unfold img; omega
theorem act_lt {L : List (List Int)} (h : Perms L) : ∀ {w : List Int}, (∀ x ∈ w, x ≠ 0 ∧ x.natAbs ≤ L.length) → ∀ {s : Nat}, s < deg L → act L w s < deg L
  | [], _, s, hs => hs
  | x :: w, hw, s, hs => by
    have hx := hw x (List.mem_cons_self ..)
    exact act_lt h (w := w) (fun y hy => hw y (List.mem_cons_of_mem _ hy)) (img_lt h hx.1 hx.2 hs)
end Cv
end Go.Proofs.Ytfaagbmaekoogaa
