/-
  Lists of permutations, and how words act by them: pure. Actions on sheets, pure: all orders, lists that continue a list, classes in the order of their least members. Actions on sheets, pure: what acts, its parts, cycles in a part, lifts, covers, counts, symmetries. Actions on sheets, pure: words act as permutations; cycles hang on what a permutation does below n alone. Branched coverings, pure: products of permutations, passports, what closes up, braids, passports of maps. Branched coverings, pure: how many cycles products have and in how many parts, that braids keep both, passports of maps. Coverings, pure: sums of lengths, the table of counts, Euler numbers of covers, symmetries divide the degree.
-/
import Derived.Test.YtamgimdjnmcpaaaGreatBase
import Derived.Test.YtamgimdjnmcpaaaGreatSlice
import Derived.Test.YtamgimdjnmcpaaaGreatInts
import Derived.Test.YtamgimdjnmcpaaaGreatWord
import Derived.Test.YtamgimdjnmcpaaaGreatMap
import Derived.Test.YtamgimdjnmcpaaaGreatGrid
import Derived.Test.YtamgimdjnmcpaaaGreatClass
import Derived.Test.YtamgimdjnmcpaaaGreatTri
import Derived.Test.YtamgimdjnmcpaaaGreatMapTopo
import Derived.Test.YtamgimdjnmcpaaaGreatLab
import Derived.Test.YtamgimdjnmcpaaaGreatAm
namespace Go.Proofs.YtamgimdjnmcpaaaGreat
open Go.RowKit

namespace Cv
/-- How many sheets. -/
def deg (L : List (List Int)) : Nat := (L.headD []).length
def Perms (L : List (List Int)) : Prop := (∀ p ∈ L, p.length = deg L ∧ Mp.IsP p) ∧ 1 ≤ L.length ∧ L.length ≤ 8 ∧ 1 ≤ deg L ∧ deg L ≤ 5
instance (l : List Int) : Decidable (Mp.IsP l) := by unfold Mp.IsP; exact inferInstance
instance (L : List (List Int)) : Decidable (Perms L) := by unfold Perms; exact inferInstance
/-- The permutation of a letter; the image of a sheet under it, under a word. -/
def perm (L : List (List Int)) (x : Int) : List Int := let p := L.getD (x.natAbs - 1) []; if x < 0 then Mp.mirror p else p
def img (L : List (List Int)) (s : Nat) (x : Int) : Nat := Mp.at_ (perm L x) s
def act (L : List (List Int)) (w : List Int) (s : Nat) : Nat := w.foldl (img L) s
def Fits (L : List (List Int)) (w : List Int) : Prop := ∀ x ∈ w, x.natAbs ≤ L.length
instance (L : List (List Int)) (w : List Int) : Decidable (Fits L w) := by unfold Fits; exact inferInstance
def Ok (L : List (List Int)) (w : List Int) : Prop := Perms L ∧ Word.IsW w ∧ Fits L w
instance (L : List (List Int)) (w : List Int) : Decidable (Ok L w) := by unfold Ok; exact inferInstance
def row (L : List (List Int)) (w : List Int) (n : Nat) : List Int := (List.range n).map fun s => ((act L w s : Nat) : Int)
def actW (L : List (List Int)) (w : List Int) : List Int := if Ok L w then row L w (deg L) else []
theorem row_len (L : List (List Int)) (w : List Int) (n : Nat) : (row L w n).length = n := by simp [row]
theorem row_snoc (L : List (List Int)) (w : List Int) (n : Nat) : row L w (n + 1) = row L w n ++ [((act L w n : Nat) : Int)] := by
  unfold row; rw [List.range_succ, List.map_append]; rfl
theorem act_take {L : List (List Int)} {w : List Int} {i : Nat} (h : i < w.length) (s : Nat) : act L (w.take (i + 1)) s = img L (act L (w.take i) s) w[i] := by
  unfold act; rw [List.take_succ_eq_append_getElem h, List.foldl_append]; rfl
theorem invTo_lt {l : List Int} : ∀ (n d : Nat), 0 < n → Mp.invTo l n d < n
  | 0, d, h => absurd h (by omega)
  | n + 1, d, _ => by
    show (if d = Mp.at_ l n then n else Mp.invTo l n d) < n + 1
    split
    · omega
    · cases n with
      | zero => show 0 < 1; omega
      | succ n => have := invTo_lt (l := l) (n + 1) d (by omega); omega
theorem mirror_isP {l : List Int} (h : Mp.IsP l) : Mp.IsP (Mp.mirror l) := by
  unfold Mp.mirror
  refine Mp.isP_row (fun d hd => invTo_lt _ d (by omega)) fun d e hd he hh => ?_
  have key : ∀ d, d < l.length → Mp.at_ l (Mp.invTo l l.length d) = d := by
    intro d hd
    have hm : ((d : Nat) : Int) ∈ l := by
      have hnd : (l.map Int.toNat).Nodup := by
        rw [List.nodup_iff_pairwise_ne, List.pairwise_map]
        refine List.Pairwise.imp_of_mem ?_ (List.nodup_iff_pairwise_ne.1 h.2)
        intro a b ha hb hab e
        have := h.1 a ha; have := h.1 b hb; omega
      have hp := Mp.nodup_perm (n := l.length) hnd (fun x hx => by
        obtain ⟨y, hy, rfl⟩ := List.mem_map.1 hx
        have := h.1 y hy; omega) (by simp)
      have : d ∈ l.map Int.toNat := hp.mem_iff.2 (List.mem_range.2 hd)
      obtain ⟨y, hy, e⟩ := List.mem_map.1 this
      have := h.1 y hy
      rwa [show ((d : Nat) : Int) = y by omega]
    obtain ⟨j, hj, e⟩ := List.mem_iff_getElem.1 hm
    have ha : Mp.at_ l j = d := by
      have := Mp.at_get h hj
      rw [List.getElem?_eq_getElem hj, e] at this
      have := Option.some.inj this; omega
    have := Mp.invTo_at h (Nat.le_refl _) hj
    rw [ha] at this
    rw [this, ha]
  have h1 := key d hd
  have h2 := key e he
  rw [hh] at h1
  exact h1.symm.trans h2
theorem perm_isP {L : List (List Int)} (h : Perms L) {x : Int} (hx : x ≠ 0) (hf : x.natAbs ≤ L.length) : Mp.IsP (perm L x) ∧ (perm L x).length = deg L := by
  have hi : x.natAbs - 1 < L.length := by omega
  have hm : L.getD (x.natAbs - 1) [] ∈ L := by
    rw [List.getD_eq_getElem?_getD, List.getElem?_eq_getElem hi]; exact List.getElem_mem hi
  obtain ⟨h1, h2⟩ := h.1 _ hm
  unfold perm
  simp only
  split
  · exact ⟨mirror_isP h2, by rw [Mp.mirror_len, h1]⟩
  · exact ⟨h2, h1⟩
theorem img_lt {L : List (List Int)} (h : Perms L) {x : Int} (hx : x ≠ 0) (hf : x.natAbs ≤ L.length) {s : Nat} (hs : s < deg L) : img L s x < deg L := by
  obtain ⟨h1, h2⟩ := perm_isP h hx hf
  have := Mp.at_lt h1 (d := s) (by omega)
  unfold img; omega
theorem act_lt {L : List (List Int)} (h : Perms L) : ∀ {w : List Int}, (∀ x ∈ w, x ≠ 0 ∧ x.natAbs ≤ L.length) → ∀ {s : Nat}, s < deg L → act L w s < deg L
  | [], _, s, hs => hs
  | x :: w, hw, s, hs => by
    have hx := hw x (List.mem_cons_self ..)
    exact act_lt h (w := w) (fun y hy => hw y (List.mem_cons_of_mem _ hy)) (img_lt h hx.1 hx.2 hs)
end Cv
end Go.Proofs.YtamgimdjnmcpaaaGreat
namespace Go.Proofs.YtamgimdjnmcpaaaGreat
open Go.RowKit

namespace Cv
/-- All orders of the numbers below n, as both make them: each new number is put at every place of the orders before. -/
def allStep (O : List (List Nat)) (x : Nat) : List (List Nat) := O.flatMap fun o => (List.range (x + 1)).map fun p => Gr.put o x p
def all : Nat → List (List Nat)
  | 0 => [[]]
  | x + 1 => allStep (all x) x
theorem all_perm : ∀ (n : Nat), ∀ o ∈ all n, o.Perm (List.range n)
  | 0, o, h => by rw [show o = [] by simpa [all] using h]; exact List.Perm.refl _
  | x + 1, o, h => by
    obtain ⟨o', ho', h2⟩ := List.mem_flatMap.1 (show o ∈ allStep (all x) x from h)
    obtain ⟨p, _, rfl⟩ := List.mem_map.1 h2
    refine (Gr.put_perm o' x p).trans ?_
    rw [List.range_succ]
    exact ((all_perm x o' ho').cons x).trans (List.perm_append_singleton x (List.range x)).symm
theorem all_row {n : Nat} {o : List Nat} (h : o ∈ all n) : o.length = n := by
  have := (all_perm n o h).length_eq; simpa using this
theorem sum_const {α : Type} {f : α → Nat} {m : Nat} : ∀ {l : List α}, (∀ x ∈ l, f x = m) → (l.map f).sum = l.length * m
  | [], _ => by simp
  | x :: l, h => by
    rw [List.map_cons, List.sum_cons, h x (List.mem_cons_self ..), sum_const (l := l) fun y hy => h y (List.mem_cons_of_mem _ hy), List.length_cons, Nat.add_mul]; omega
theorem all_len : ∀ n, (all n).length = Gr.fac n
  | 0 => rfl
  | x + 1 => by
    show (allStep (all x) x).length = Gr.fac x * (x + 1)
    unfold allStep
    rw [List.length_flatMap, ← all_len x]
    exact sum_const fun o _ => by simp
/-- What the loops have made: i of the orders are done, and j places of the next one. -/
def allTo (O : List (List Nat)) (x i j : Nat) : List (List Nat) := ((O.take i).flatMap fun o => (List.range (x + 1)).map fun p => Gr.put o x p) ++ (List.range j).map fun p => Gr.put (O.getD i []) x p
theorem allTo_zero (O : List (List Nat)) (x : Nat) : allTo O x 0 0 = [] := by simp [allTo]
theorem allTo_more (O : List (List Nat)) (x i j : Nat) : allTo O x i (j + 1) = allTo O x i j ++ [Gr.put (O.getD i []) x j] := by
  unfold allTo; rw [List.range_succ (n := j), List.map_append, ← List.append_assoc]; rfl
theorem allTo_next {O : List (List Nat)} {x i : Nat} {o : List Nat} (h : O[i]? = some o) : allTo O x i (x + 1) = allTo O x (i + 1) 0 := by
  obtain ⟨hi, rfl⟩ := List.getElem?_eq_some_iff.1 h
  unfold allTo
  rw [List.take_succ_eq_append_getElem hi, List.flatMap_append, List.range_zero, List.map_nil, List.append_nil]
  congr 1
  have e : O.getD i [] = O[i] := by rw [List.getD_eq_getElem?_getD, List.getElem?_eq_getElem hi]; rfl
  rw [e, List.flatMap_singleton]
theorem allTo_end (O : List (List Nat)) (x : Nat) : allTo O x O.length 0 = allStep O x := by
  unfold allTo allStep
  rw [List.take_of_length_le (Nat.le_refl _)]; simp
theorem allTo_len {O : List (List Nat)} {x i j : Nat} (hj : j ≤ x + 1) : (allTo O x i j).length ≤ (O.length + 1) * (x + 1) := by
  unfold allTo
  rw [List.length_append, List.length_map, List.length_range, List.length_flatMap, sum_const (m := x + 1) fun o _ => by simp]
  have h2 : (O.take i).length * (x + 1) ≤ O.length * (x + 1) := Nat.mul_le_mul (by rw [List.length_take]; omega) (Nat.le_refl _)
  rw [Nat.add_mul]; omega

/-- All lists that continue a list by m elements. -/
def ext {α : Type} (A : List α) : Nat → List α → List (List α)
  | 0, pre => [pre]
  | m + 1, pre => A.flatMap fun x => ext A m (pre ++ [x])
theorem ext_len {α : Type} (A : List α) : ∀ (m : Nat) (pre : List α), (ext A m pre).length = A.length ^ m
  | 0, _ => by simp [ext]
  | m + 1, pre => by
    unfold ext
    rw [List.length_flatMap, sum_const (m := A.length ^ m) fun x _ => ext_len A m _, Nat.pow_succ, Nat.mul_comm]
theorem ext_mem {α : Type} {A : List α} : ∀ {m : Nat} {pre L : List α}, L ∈ ext A m pre → L.length = pre.length + m ∧ ∀ x ∈ L, x ∈ pre ∨ x ∈ A
  | 0, pre, L, h => by rw [List.mem_singleton.1 h]; exact ⟨rfl, fun x hx => Or.inl hx⟩
  | m + 1, pre, L, h => by
    obtain ⟨x, hx, h2⟩ := List.mem_flatMap.1 h
    obtain ⟨h3, h4⟩ := ext_mem h2
    refine ⟨by rw [h3]; simp; omega, fun y hy => ?_⟩
    rcases h4 y hy with h5 | h5
    · rcases List.mem_append.1 h5 with h6 | h6
      · exact Or.inl h6
      · rw [List.mem_singleton.1 h6]; exact Or.inr hx
    · exact Or.inr h5
/-- i of the elements are done. -/
def extTo {α : Type} (A : List α) (m i : Nat) (pre : List α) : List (List α) := (A.take i).flatMap fun x => ext A m (pre ++ [x])
theorem extTo_zero {α : Type} (A : List α) (m : Nat) (pre : List α) : extTo A m 0 pre = [] := by simp [extTo]
theorem extTo_step {α : Type} {A : List α} {m i : Nat} {pre : List α} {x : α} (h : A[i]? = some x) : extTo A m (i + 1) pre = extTo A m i pre ++ ext A m (pre ++ [x]) := by
  obtain ⟨hi, rfl⟩ := List.getElem?_eq_some_iff.1 h
  unfold extTo
  rw [List.take_succ_eq_append_getElem hi, List.flatMap_append, List.flatMap_singleton]
theorem extTo_end {α : Type} (A : List α) (m : Nat) (pre : List α) : extTo A m A.length pre = ext A (m + 1) pre := by
  unfold extTo; rw [List.take_of_length_le (Nat.le_refl _)]; rfl
theorem extTo_len {α : Type} (A : List α) (m i : Nat) (pre : List α) : (extTo A m i pre).length ≤ A.length ^ (m + 1) := by
  unfold extTo
  rw [List.length_flatMap, sum_const (m := A.length ^ m) fun x _ => ext_len A m _, Nat.pow_succ, Nat.mul_comm]
  exact Nat.mul_le_mul (Nat.le_refl _) (by rw [List.length_take]; omega)

/-- Labels of which the greater one is always replaced by the lesser. -/
def minMerge (c : Nat → Nat) (p : Nat × Nat) : Nat → Nat := Cls.merge c (if c p.1 ≤ c p.2 then (p.2, p.1) else p)
def minAll (l : List (Nat × Nat)) : Nat → Nat := l.foldl minMerge id
theorem minAll_snoc (l : List (Nat × Nat)) (p : Nat × Nat) : minAll (l ++ [p]) = minMerge (minAll l) p := by simp [minAll]
theorem merge_ker (c : Nat → Nat) (p : Nat × Nat) (i j : Nat) : Cls.merge c p i = Cls.merge c p j ↔ (c i = c j ∨ ((c i = c p.1 ∨ c i = c p.2) ∧ (c j = c p.1 ∨ c j = c p.2))) := by
  unfold Cls.merge
  split <;> split <;> omega
def SameKer (c c' : Nat → Nat) : Prop := ∀ i j, c i = c j ↔ c' i = c' j
theorem SameKer.merge {c c' : Nat → Nat} (h : SameKer c c') (p : Nat × Nat) : SameKer (Cls.merge c p) (Cls.merge c' p) := fun i j => by
  rw [merge_ker, merge_ker, h i j, h i p.1, h i p.2, h j p.1, h j p.2]
theorem SameKer.swap (c : Nat → Nat) (a b : Nat) : SameKer (Cls.merge c (a, b)) (Cls.merge c (b, a)) := fun i j => by
  rw [merge_ker, merge_ker]; constructor <;> (intro h; rcases h with h | h; exact Or.inl h; exact Or.inr ⟨h.1.symm, h.2.symm⟩)
theorem SameKer.trans {a b c : Nat → Nat} (h : SameKer a b) (h' : SameKer b c) : SameKer a c := fun i j => (h i j).trans (h' i j)
theorem minMerge_ker {c c' : Nat → Nat} (h : SameKer c c') (p : Nat × Nat) : SameKer (minMerge c p) (Cls.merge c' p) := by
  unfold minMerge
  split
  · exact (SameKer.swap c p.2 p.1).trans (h.merge p)
  · exact h.merge p
theorem min_fold : ∀ (l : List (Nat × Nat)) (c c' : Nat → Nat), SameKer c c' → SameKer (l.foldl minMerge c) (l.foldl Cls.merge c')
  | [], _, _, h => h
  | p :: l, _, _, h => min_fold l _ _ (minMerge_ker h p)
theorem minAll_ker (l : List (Nat × Nat)) : SameKer (minAll l) (Cls.mergeAll l) := min_fold l _ _ fun _ _ => Iff.rfl
theorem min_le : ∀ (l : List (Nat × Nat)) (c : Nat → Nat), (∀ k, c k ≤ k) → ∀ k, (l.foldl minMerge c) k ≤ k
  | [], _, h, k => h k
  | p :: l, c, h, k => min_le l _ (fun k => by
      have := h k
      unfold minMerge Cls.merge
      split
      · show (if c k = c p.2 then c p.1 else c k) ≤ k
        split <;> omega
      · show (if c k = c p.1 then c p.2 else c k) ≤ k
        split <;> omega) k
theorem minAll_le (l : List (Nat × Nat)) (k : Nat) : minAll l k ≤ k := min_le l id (fun _ => Nat.le_refl _) k

/-- The classes of labels, each from its least member on, in the order of these. -/
def firsts (c : Nat → Nat) (n : Nat) : List Nat := (List.range n).filter fun s => decide (∀ k, k < s → c k ≠ c s)
def member (c : Nat → Nat) (n s : Nat) : List Nat := (List.range n).filter fun t => c t == c s
def classes (c : Nat → Nat) (n : Nat) : List (List Nat) := (firsts c n).map (member c n)
theorem firsts_ker {c c' : Nat → Nat} (h : SameKer c c') (n : Nat) : firsts c n = firsts c' n := by
  unfold firsts
  refine List.filter_congr fun s _ => ?_
  refine decide_eq_decide.2 ⟨fun hh k hk e => hh k hk ((h k s).2 e), fun hh k hk e => hh k hk ((h k s).1 e)⟩
theorem member_ker {c c' : Nat → Nat} (h : SameKer c c') (n s : Nat) : member c n s = member c' n s := by
  unfold member
  refine List.filter_congr fun t _ => ?_
  have := h t s
  rw [Bool.eq_iff_iff, beq_iff_eq, beq_iff_eq]; exact this
theorem classes_ker {c c' : Nat → Nat} (h : SameKer c c') (n : Nat) : classes c n = classes c' n := by
  unfold classes
  rw [firsts_ker h]
  exact List.map_congr_left fun s _ => member_ker h n s
/-- Where labels are the least members. -/
theorem firsts_min {c : Nat → Nat} {n : Nat} (hle : ∀ k, k < n → c k ≤ k) (hid : ∀ k, k < n → c (c k) = c k) {s : Nat} (hs : s < n) : (∀ k, k < s → c k ≠ c s) ↔ c s = s := by
  constructor
  · intro h
    rcases Nat.lt_or_ge (c s) s with h1 | h1
    · exact absurd (hid s hs) (h _ h1)
    · have := hle s hs; omega
  · intro h k hk e
    have := hle k (by omega); omega
/-- Rows that hold at the least member's place the class, and elsewhere nothing. -/
def leastOf (c : Nat → Nat) (s : Nat) : Nat := ((List.range (s + 1)).find? fun k => c k == c s).getD s
theorem leastOf_spec (c : Nat → Nat) (s : Nat) : c (leastOf c s) = c s ∧ leastOf c s ≤ s ∧ ∀ k, k < leastOf c s → c k ≠ c s := by
  unfold leastOf
  cases h : (List.range (s + 1)).find? (fun k => c k == c s) with
  | none =>
    have := List.find?_eq_none.1 h s (by simp)
    simp at this
  | some k =>
    simp only [Option.getD_some]
    rw [List.find?_range_eq_some] at h
    obtain ⟨h1, h2, h3⟩ := h
    refine ⟨by simpa using h1, by have := List.mem_range.1 h2; omega, fun j hj => by simpa using h3 j hj⟩
theorem leastOf_eq {c : Nat → Nat} {s t : Nat} (h : c s = c t) : leastOf c s = leastOf c t := by
  obtain ⟨a1, _, a3⟩ := leastOf_spec c s
  obtain ⟨b1, _, b3⟩ := leastOf_spec c t
  rcases Nat.lt_trichotomy (leastOf c s) (leastOf c t) with h1 | h1 | h1
  · exact absurd (a1.trans h) (b3 _ h1)
  · exact h1
  · exact absurd (b1.trans h.symm) (a3 _ h1)
theorem leastOf_iff {c : Nat → Nat} {s k : Nat} : leastOf c s = k ↔ (c k = c s ∧ k ≤ s ∧ ∀ j, j < k → c j ≠ c s) := by
  obtain ⟨a1, a2, a3⟩ := leastOf_spec c s
  constructor
  · rintro rfl; exact ⟨a1, a2, a3⟩
  · rintro ⟨b1, b2, b3⟩
    rcases Nat.lt_trichotomy (leastOf c s) k with h1 | h1 | h1
    · exact absurd a1 (b3 _ h1)
    · exact h1
    · exact absurd b1 (a3 _ h1)
def rowAt (c : Nat → Nat) (t k : Nat) : List Nat := (List.range t).filter fun s => leastOf c s == k
def rowsTo (c : Nat → Nat) (n t : Nat) : List (List Nat) := (List.range n).map (rowAt c t)
theorem rowAt_succ (c : Nat → Nat) (t k : Nat) : rowAt c (t + 1) k = if leastOf c t = k then rowAt c t k ++ [t] else rowAt c t k := by
  unfold rowAt
  rw [List.range_succ, List.filter_append]
  by_cases h : leastOf c t = k
  · rw [if_pos h]; simp [h]
  · rw [if_neg h]; simp [h]
theorem rowsTo_zero (c : Nat → Nat) (n : Nat) : rowsTo c n 0 = List.replicate n [] := by
  unfold rowsTo rowAt
  rw [List.eq_replicate_iff]
  exact ⟨by simp, fun b hb => by obtain ⟨k, _, rfl⟩ := List.mem_map.1 hb; simp⟩
theorem rowsTo_succ (c : Nat → Nat) (n t : Nat) : rowsTo c n (t + 1) = (rowsTo c n t).set (leastOf c t) (rowAt c t (leastOf c t) ++ [t]) := by
  apply List.ext_getElem?
  intro k
  unfold rowsTo
  by_cases hk : k < n
  · rw [List.getElem?_map, List.getElem?_range hk, List.getElem?_set]
    by_cases h : leastOf c t = k
    · rw [if_pos h, if_pos (by simpa using by omega), Option.map_some, rowAt_succ, if_pos h, h]
    · rw [if_neg h, List.getElem?_map, List.getElem?_range hk, Option.map_some, Option.map_some, rowAt_succ, if_neg h]
  · rw [List.getElem?_eq_none (by simpa using by omega), List.getElem?_eq_none (by simpa using by omega)]
theorem filter_rows (c : Nat → Nat) (n : Nat) : (rowsTo c n n).filter (fun r => !r.isEmpty) = classes c n := by
  unfold rowsTo classes firsts
  rw [List.filter_map]
  have h1 : (List.range n).filter ((fun r => !r.isEmpty) ∘ rowAt c n) = (List.range n).filter fun s => decide (∀ k, k < s → c k ≠ c s) := by
    refine List.filter_congr fun s hs => ?_
    have hs' := List.mem_range.1 hs
    show (!(rowAt c n s).isEmpty) = _
    rw [Bool.eq_iff_iff, decide_eq_true_iff]
    constructor
    · intro h
      obtain ⟨t, ht⟩ : ∃ t, t ∈ rowAt c n s := by
        cases he : rowAt c n s with
        | nil => rw [he] at h; simp at h
        | cons t r => exact ⟨t, List.mem_cons_self ..⟩
      have h2 := (List.mem_filter.1 ht).2
      obtain ⟨h3, _, h5⟩ := leastOf_iff.1 (beq_iff_eq.1 h2)
      intro k hk e; exact h5 k hk (e.trans h3)
    · intro h
      have : s ∈ rowAt c n s := List.mem_filter.2 ⟨hs, beq_iff_eq.2 (leastOf_iff.2 ⟨rfl, Nat.le_refl _, h⟩)⟩
      cases he : rowAt c n s with
      | nil => rw [he] at this; cases this
      | cons t r => rfl
  rw [h1]
  refine List.map_congr_left fun s hs => ?_
  obtain ⟨hs1, hs2⟩ := List.mem_filter.1 hs
  have hs2 := of_decide_eq_true hs2
  unfold rowAt member
  refine List.filter_congr fun t _ => ?_
  rw [Bool.eq_iff_iff, beq_iff_eq, beq_iff_eq, leastOf_iff]
  constructor
  · rintro ⟨h, _⟩; exact h.symm
  · intro h
    refine ⟨h.symm, ?_, fun j hj e => hs2 j hj (e.trans h)⟩
    rcases Nat.lt_or_ge t s with h3 | h3
    · exact absurd h (hs2 t h3)
    · exact h3
end Cv
end Go.Proofs.YtamgimdjnmcpaaaGreat
namespace Go.Proofs.YtamgimdjnmcpaaaGreat
open Go.RowKit

namespace Cv
/-- What a group's list of permutations must be. -/
def Act (g : Int) (L : List (List Int)) : Prop := (0 ≤ g ∧ g ≤ 2) ∧ Perms L ∧ (L.length : Int) = 2 * max 1 g ∧ (g = 0 ∨ ∀ s, s < deg L → act L (Dn.rel g) s = s)
instance (g : Int) (L : List (List Int)) : Decidable (Act g L) := by unfold Act; exact inferInstance
/-- The pairs of sheets that lead to each other. -/
def step1 (r : List Int) (j : Nat) : Nat × Nat := (j, Mp.at_ r j)
def pairs (L : List (List Int)) : List (Nat × Nat) := metAll step1 L
def lab (L : List (List Int)) : Nat → Nat := Cls.mergeAll (pairs L)
def partsN (L : List (List Int)) : List (List Nat) := classes (lab L) (deg L)
def parts (L : List (List Int)) : List (List Int) := if Perms L then Mp.natRows (partsN L) else []
theorem lab_at {L : List (List Int)} (h : Perms L) {q : List Int} (hq : q ∈ L) {s : Nat} (hs : s < deg L) : lab L (Mp.at_ q s) = lab L s := by
  refine (Cls.eq_of_mem (a := s) (b := Mp.at_ q s) ?_).symm
  unfold pairs metAll
  exact List.mem_flatMap.2 ⟨q, hq, List.mem_map.2 ⟨s, List.mem_range.2 (by rw [(h.1 q hq).1]; exact hs), rfl⟩⟩
theorem mirror_at {l : List Int} (h : Mp.IsP l) {d : Nat} (hd : d < l.length) : Mp.at_ l (Mp.at_ (Mp.mirror l) d) = d := by
  have hm := mirror_isP h
  have hl := Mp.mirror_len l
  have h1 := Mp.at_lt hm (d := d) (by omega)
  -- the inverse of the inverse
  have e : Mp.at_ (Mp.mirror l) d = Mp.invTo l l.length d := by unfold Mp.mirror; exact Mp.at_of_row hd
  refine Mp.at_inj hm (by rw [hl]; exact Mp.at_lt h (by omega)) (by omega) ?_
  have h2 : ∀ x, x < l.length → Mp.at_ (Mp.mirror l) (Mp.at_ l x) = x := fun x hx => by
    have : Mp.at_ (Mp.mirror l) (Mp.at_ l x) = Mp.invTo l l.length (Mp.at_ l x) := by unfold Mp.mirror; exact Mp.at_of_row (Mp.at_lt h hx)
    rw [this]; exact Mp.invTo_at h (Nat.le_refl _) hx
  exact h2 _ (by omega)
theorem lab_img {L : List (List Int)} (h : Perms L) {x : Int} (hx : x ≠ 0) (hf : x.natAbs ≤ L.length) {s : Nat} (hs : s < deg L) : lab L (img L s x) = lab L s := by
  have hi : x.natAbs - 1 < L.length := by omega
  have hm : L.getD (x.natAbs - 1) [] ∈ L := by
    rw [List.getD_eq_getElem?_getD, List.getElem?_eq_getElem hi]; exact List.getElem_mem hi
  obtain ⟨h1, h2⟩ := h.1 _ hm
  unfold img perm
  simp only
  generalize L.getD (x.natAbs - 1) [] = q at *
  split
  · have hlt : Mp.at_ (Mp.mirror q) s < deg L := by
      have := Mp.at_lt (mirror_isP h2) (d := s) (by rw [Mp.mirror_len]; omega)
      rw [Mp.mirror_len] at this; omega
    have := lab_at h hm hlt
    rw [mirror_at h2 (by omega)] at this
    exact this.symm
  · exact lab_at h hm hs
theorem lab_act {L : List (List Int)} (h : Perms L) : ∀ {w : List Int}, (∀ x ∈ w, x ≠ 0 ∧ x.natAbs ≤ L.length) → ∀ {s : Nat}, s < deg L → lab L (act L w s) = lab L s
  | [], _, s, hs => rfl
  | x :: w, hw, s, hs => by
    have hx := hw x (List.mem_cons_self ..)
    have h1 : act L (x :: w) s = act L w (img L s x) := rfl
    rw [h1, lab_act h (w := w) (fun y hy => hw y (List.mem_cons_of_mem _ hy)) (img_lt h hx.1 hx.2 hs), lab_img h hx.1 hx.2 hs]

/-- The cycles that begin among some members. -/
def cycIn (f : Nat → Nat) (n : Nat) (ms : List Nat) : (Nat → Bool) × List (List Nat) := ms.foldl (Mp.cycStep f n) (fun _ => false, [])
theorem cycIn_range (f : Nat → Nat) (n : Nat) : cycIn f n (List.range n) = Mp.cycTo f n n := rfl
theorem cycIn_snoc (f : Nat → Nat) (n : Nat) (ms : List Nat) (m : Nat) : cycIn f n (ms ++ [m]) = Mp.cycStep f n (cycIn f n ms) m := by simp [cycIn]
theorem cyc_in {f : Nat → Nat} {n : Nat} {S : Nat → Bool} (hS : ∀ x, x < n → f x < n ∧ S (f x) = S x) : ∀ (k : Nat) (s s' : Nat → Bool) (d : Nat), d < n → S d = true → (∀ x, S x = true → s x = s' x) → Mp.cyc f k s d = Mp.cyc f k s' d ∧ ∀ x ∈ Mp.cyc f k s d, S x = true
  | 0, _, _, _, _, _, _ => ⟨rfl, fun _ h => by cases h⟩
  | k + 1, s, s', d, hd, hSd, he => by
    unfold Mp.cyc
    rw [← he d hSd]
    by_cases h : s d = true
    · rw [if_pos h, if_pos h]; exact ⟨rfl, fun _ h => by cases h⟩
    · rw [if_neg h, if_neg h]
      obtain ⟨h1, h2⟩ := hS d hd
      obtain ⟨h3, h4⟩ := cyc_in hS k (fun x => x == d || s x) (fun x => x == d || s' x) (f d) h1 (h2.trans hSd) (fun x hx => by simp only [he x hx])
      rw [h3]
      refine ⟨rfl, fun x hx => ?_⟩
      rcases List.mem_cons.1 hx with rfl | hx
      · exact hSd
      · rw [← h3] at hx; exact h4 x hx
theorem cyc_out {f : Nat → Nat} {n : Nat} {S : Nat → Bool} (hS : ∀ x, x < n → f x < n ∧ S (f x) = S x) : ∀ (k : Nat) (s : Nat → Bool) (d : Nat), d < n → S d = false → ∀ x ∈ Mp.cyc f k s d, S x = false
  | 0, _, _, _, _ => fun _ h => by cases h
  | k + 1, s, d, hd, hSd => by
    unfold Mp.cyc
    split
    · exact fun _ h => by cases h
    · obtain ⟨h1, h2⟩ := hS d hd
      intro x hx
      rcases List.mem_cons.1 hx with rfl | hx
      · exact hSd
      · exact cyc_out hS k _ (f d) h1 (h2.trans hSd) x hx
theorem cyc_head {f : Nat → Nat} {k : Nat} {s : Nat → Bool} {d : Nat} (h : Mp.cyc f (k + 1) s d ≠ []) : (Mp.cyc f (k + 1) s d).headD 0 = d := by
  unfold Mp.cyc at h ⊢
  split
  · rename_i h1; rw [if_pos h1] at h; exact absurd rfl h
  · rfl
theorem cycIn_filter {f : Nat → Nat} {n : Nat} {S : Nat → Bool} (hS : ∀ x, x < n → f x < n ∧ S (f x) = S x) (ms : List Nat) (hms : ∀ m ∈ ms, m < n) :
    (∀ x, S x = true → (cycIn f n ms).1 x = (cycIn f n (ms.filter S)).1 x) ∧ (cycIn f n (ms.filter S)).2 = (cycIn f n ms).2.filter (fun c => S (c.headD 0)) := by
  refine Cls.snoc_ind (p := fun ms => (∀ m ∈ ms, m < n) → (∀ x, S x = true → (cycIn f n ms).1 x = (cycIn f n (ms.filter S)).1 x) ∧ (cycIn f n (ms.filter S)).2 = (cycIn f n ms).2.filter (fun c => S (c.headD 0))) ?_ ?_ ms hms
  · intro _; exact ⟨fun _ _ => rfl, rfl⟩
  · intro l m ih hl
    obtain ⟨h1, h2⟩ := ih fun x hx => hl x (List.mem_append.2 (Or.inl hx))
    have hm : m < n := hl m (List.mem_append.2 (Or.inr (List.mem_singleton.2 rfl)))
    rw [List.filter_append, cycIn_snoc]
    cases hSm : S m with
    | true =>
      rw [show [m].filter S = [m] by simp [hSm], cycIn_snoc]
      obtain ⟨h3, h4⟩ := cyc_in hS (n + 1) (cycIn f n l).1 (cycIn f n (l.filter S)).1 m hm hSm h1
      unfold Mp.cycStep
      rw [← h3]
      by_cases he : Mp.cyc f (n + 1) (cycIn f n l).1 m = []
      · rw [if_pos he, if_pos he]; exact ⟨h1, h2⟩
      · rw [if_neg he, if_neg he]
        refine ⟨fun x hx => ?_, ?_⟩
        · show Mp.seen _ _ x = Mp.seen _ _ x
          unfold Mp.seen; rw [h1 x hx]
        · show _ ++ [_] = List.filter _ (_ ++ [_])
          rw [List.filter_append, h2]
          congr 1
          have hh := cyc_head he
          rw [List.filter_cons, hh, hSm]; rfl
    | false =>
      rw [show [m].filter S = [] by simp [hSm], List.append_nil]
      have h4 := cyc_out hS (n + 1) (cycIn f n l).1 m hm hSm
      unfold Mp.cycStep
      by_cases he : Mp.cyc f (n + 1) (cycIn f n l).1 m = []
      · rw [if_pos he]; exact ⟨h1, h2⟩
      · rw [if_neg he]
        refine ⟨fun x hx => ?_, ?_⟩
        · show Mp.seen _ _ x = _
          unfold Mp.seen
          have : x ∉ Mp.cyc f (n + 1) (cycIn f n l).1 m := fun h => by have := h4 x h; rw [hx] at this; cases this
          rw [← h1 x hx]; simp [this]
        · show _ = List.filter _ (_ ++ [_])
          rw [List.filter_append, h2]
          have hh := cyc_head he
          rw [List.filter_cons (x := Mp.cyc f (n + 1) (cycIn f n l).1 m), hh, hSm]; simp
/-- The word around the polygon; the cycles above the border; those in a part. -/
def rim (L : List (List Int)) : Nat → Nat := act L [1, 2, -1, -2]
def rimCycles (L : List (List Int)) : List (List Nat) := (Mp.cycTo (rim L) (deg L) (deg L)).2
def rimIn (L : List (List Int)) (part : List Nat) : Nat := (cycIn (rim L) (deg L) part).2.length
theorem rim_at {L : List (List Int)} {s : Nat} (h : s < deg L) : Mp.at_ (row L [1, 2, -1, -2] (deg L)) s = rim L s := by
  have : row L [1, 2, -1, -2] (deg L) = Cls.row (rim L) (deg L) := rfl
  rw [this]; exact Mp.at_of_row h
theorem rim_lets {L : List (List Int)} (h2 : 2 ≤ L.length) : ∀ x ∈ ([1, 2, -1, -2] : List Int), x ≠ 0 ∧ x.natAbs ≤ L.length := by
  intro x hx
  simp only [List.mem_cons, List.not_mem_nil, or_false] at hx
  rcases hx with rfl | rfl | rfl | rfl <;> (refine ⟨by decide, ?_⟩; simp; omega)
theorem rimIn_count {L : List (List Int)} (h : Perms L) (h2 : 2 ≤ L.length) (s : Nat) : rimIn L (member (lab L) (deg L) s) = ((rimCycles L).filter fun c => lab L (c.headD 0) == lab L s).length := by
  unfold rimIn rimCycles member
  rw [(cycIn_filter (f := rim L) (n := deg L) (S := fun t => lab L t == lab L s) (fun x hx => ⟨act_lt h (rim_lets h2) hx, by show (lab L (act L _ x) == _) = _; rw [lab_act h (rim_lets h2) hx]⟩) (List.range (deg L)) (fun m hm => List.mem_range.1 hm)).2, cycIn_range]
/-- The surface that covers with a part. -/
def coverOf (g : Int) (L : List (List Int)) (part : List Nat) : Int × Int × Int :=
  if g = 0 then ((2 + (part.length : Int) - (rimIn L part : Int)) / 2, 0, (rimIn L part : Int)) else (1 + (part.length : Int) * (g - 1), 0, 0)
def covers (g : Int) (L : List (List Int)) : List (Int × Int × Int) := if Act g L then (partsN L).map (coverOf g L) else []
/-- How long the lifts of a word are, in order. -/
def liftsN (L : List (List Int)) (w : List Int) : List (List Nat) := (Mp.cycTo (act L w) (deg L) (deg L)).2
def lifts (L : List (List Int)) (w : List Int) : List Int := if Ok L w then ((liftsN L w).map fun c => (c.length : Int)).mergeSort else []
theorem sorted_unique : ∀ {a b : List Int}, a.Perm b → a.Pairwise (· ≤ ·) → b.Pairwise (· ≤ ·) → a = b
  | [], b, h, _, _ => by rw [List.nil_perm.1 h]
  | x :: a, [], h, _, _ => by have := h.length_eq; simp at this
  | x :: a, y :: b, h, ha, hb => by
    have h1 := List.pairwise_cons.1 ha
    have h2 := List.pairwise_cons.1 hb
    have e : x = y := by
      have hx : x ∈ y :: b := h.mem_iff.1 (List.mem_cons_self ..)
      have hy : y ∈ x :: a := h.mem_iff.2 (List.mem_cons_self ..)
      rcases List.mem_cons.1 hx with hx | hx
      · exact hx
      · rcases List.mem_cons.1 hy with hy | hy
        · exact hy.symm
        · have := h2.1 x hx; have := h1.1 y hy; omega
    subst e
    rw [sorted_unique ((List.perm_cons x).1 h) h1.2 h2.2]
theorem sort_eq {a b : List Int} (h : b.Perm a) (hb : b.Pairwise (· ≤ ·)) : a.mergeSort = b := by
  refine sorted_unique ((List.mergeSort_perm a _).trans h.symm) ?_ hb
  have := List.pairwise_mergeSort (le := fun (x y : Int) => decide (x ≤ y)) (fun x y z h1 h2 => by simp at *; omega) (fun x y => by simp; omega) a
  exact this.imp fun h => by simpa using h
/-- A number behind all that are no greater. -/
def Cut (l : List Int) (x : Int) (p : Nat) : Prop := p ≤ l.length ∧ (∀ i v, p ≤ i → l[i]? = some v → x < v) ∧ (p = 0 ∨ ∀ v, l[p - 1]? = some v → v ≤ x)
theorem cut_sorted {l : List Int} {x : Int} {p : Nat} (h : Cut l x p) (hl : l.Pairwise (· ≤ ·)) : (l.take p ++ [x] ++ l.drop p).Pairwise (· ≤ ·) := by
  obtain ⟨h1, h2, h3⟩ := h
  have hd : ∀ v ∈ l.drop p, x < v := fun v hv => by
    obtain ⟨i, hi, rfl⟩ := List.mem_iff_getElem.1 hv
    rw [List.getElem_drop]
    exact h2 (p + i) _ (by omega) (List.getElem?_eq_getElem _)
  have ht : ∀ v ∈ l.take p, v ≤ x := fun v hv => by
    obtain ⟨i, hi, rfl⟩ := List.mem_iff_getElem.1 hv
    rw [List.length_take] at hi
    rw [List.getElem_take]
    rcases h3 with h3 | h3
    · omega
    · have hq := h3 (l[p - 1]'(by omega)) (List.getElem?_eq_getElem _)
      rcases Nat.lt_or_ge i (p - 1) with h4 | h4
      · have := List.pairwise_iff_getElem.1 hl i (p - 1) (by omega) (by omega) h4
        omega
      · have : i = p - 1 := by omega
        subst this; exact hq
  rw [List.pairwise_append, List.pairwise_append]
  refine ⟨⟨hl.sublist (List.take_sublist _ _), List.pairwise_singleton _ _, fun a ha b hb => by rw [List.mem_singleton.1 hb]; exact ht a ha⟩, hl.sublist (List.drop_sublist _ _), fun a ha b hb => ?_⟩
  have := hd b hb
  rcases List.mem_append.1 ha with ha | ha
  · have := ht a ha; omega
  · rw [List.mem_singleton.1 ha]; omega
theorem cut_perm (l : List Int) (x : Int) (p : Nat) : (l.take p ++ [x] ++ l.drop p).Perm (l ++ [x]) := by
  rw [List.append_assoc]
  refine (List.perm_middle (l₁ := l.take p) (a := x) (l₂ := l.drop p)).trans ?_
  rw [List.take_append_drop]
  exact (List.perm_append_singleton x l).symm
/-- How many actions, and how many in one part. -/
def gens (g : Int) : Nat := (2 * max 1 g).toNat
def lists (g : Int) (n : Nat) : List (List (List Int)) := ext (Mp.natRows (all n)) (gens g) []
def actsN (g : Int) (n : Nat) : Nat := (lists g n).countP fun L => decide (Act g L)
def wholeN (g : Int) (n : Nat) : Nat := (lists g n).countP fun L => decide (Act g L) && decide ((partsN L).length = 1)
def Counted (g n : Int) : Prop := (0 ≤ g ∧ g ≤ 2) ∧ 1 ≤ n ∧ n ≤ 3
instance (g n : Int) : Decidable (Counted g n) := by unfold Counted; exact inferInstance
def acts (g n : Int) : Int := if Counted g n then (actsN g n.toNat : Int) else -1
def coverings (g n : Int) : Int := if Counted g n then ((wholeN g n.toNat / Gr.fac (n.toNat - 1) : Nat) : Int) else -1
/-- Permutations that commute with all. -/
def Comm (p q : List Int) : Prop := ∀ s, s < q.length → Mp.at_ p (Mp.at_ q s) = Mp.at_ q (Mp.at_ p s)
instance (p q : List Int) : Decidable (Comm p q) := by unfold Comm; exact inferInstance
def Symm (L : List (List Int)) (p : List Int) : Prop := ∀ q ∈ L, Comm p q
instance (L : List (List Int)) (p : List Int) : Decidable (Symm L p) := by unfold Symm; exact inferInstance
def symms (L : List (List Int)) : Int := if Perms L then (((Mp.natRows (all (deg L))).countP fun p => decide (Symm L p) : Nat) : Int) else -1
theorem all_isP {n : Nat} {r : List Int} (h : r ∈ Mp.natRows (all n)) : r.length = n ∧ Mp.IsP r := by
  unfold Mp.natRows at h
  obtain ⟨o, ho, rfl⟩ := List.mem_map.1 h
  have hp := all_perm n o ho
  have hl := all_row ho
  refine ⟨by rw [List.length_map]; exact hl, fun x hx => ?_, ?_⟩
  · obtain ⟨k, hk, rfl⟩ := List.mem_map.1 hx
    have := List.mem_range.1 (hp.mem_iff.1 hk)
    rw [List.length_map]; omega
  · have hn : o.Nodup := hp.nodup_iff.2 List.nodup_range
    rw [List.nodup_iff_pairwise_ne, List.pairwise_map]
    exact (List.nodup_iff_pairwise_ne.1 hn).imp fun h => by omega
theorem fac5 {n : Nat} (h : n ≤ 5) : Gr.fac n ≤ 120 := Nat.le_trans (Gr.fac_mono h) (by decide +kernel)
end Cv
end Go.Proofs.YtamgimdjnmcpaaaGreat
namespace Go.Proofs.YtamgimdjnmcpaaaGreat
open Go.RowKit

namespace Cv
theorem img_inj {L : List (List Int)} (h : Perms L) {x : Int} (hx : x ≠ 0) (hf : x.natAbs ≤ L.length) {s t : Nat} (hs : s < deg L) (ht : t < deg L) (e : img L s x = img L t x) : s = t := by
  obtain ⟨h1, h2⟩ := perm_isP h hx hf
  exact Mp.at_inj h1 (by omega) (by omega) e
theorem act_inj {L : List (List Int)} (h : Perms L) : ∀ {w : List Int}, (∀ x ∈ w, x ≠ 0 ∧ x.natAbs ≤ L.length) → ∀ {s t : Nat}, s < deg L → t < deg L → act L w s = act L w t → s = t
  | [], _, _, _, _, _, e => e
  | x :: w, hw, s, t, hs, ht, e => by
    have hx := hw x (List.mem_cons_self ..)
    exact img_inj h hx.1 hx.2 hs ht (act_inj h (w := w) (fun y hy => hw y (List.mem_cons_of_mem _ hy)) (img_lt h hx.1 hx.2 hs) (img_lt h hx.1 hx.2 ht) e)
theorem row_eq (L : List (List Int)) (w : List Int) (n : Nat) : row L w n = Cls.row (act L w) n := rfl
theorem ok_lets {L : List (List Int)} {w : List Int} (h : Ok L w) : ∀ x ∈ w, x ≠ 0 ∧ x.natAbs ≤ L.length := fun x hx => ⟨(h.2.1.1 x hx).1, h.2.2 x hx⟩
theorem row_isP {L : List (List Int)} {w : List Int} (h : Ok L w) : Mp.IsP (row L w (deg L)) := by
  rw [row_eq]
  exact Mp.isP_row (fun d hd => act_lt h.1 (ok_lets h) hd) (fun d e hd he hh => act_inj h.1 (ok_lets h) hd he hh)
theorem cyc_congr {f g : Nat → Nat} {n : Nat} (h : ∀ x, x < n → f x = g x ∧ f x < n) : ∀ (k : Nat) (s : Nat → Bool) (d : Nat), d < n → Mp.cyc f k s d = Mp.cyc g k s d
  | 0, _, _, _ => rfl
  | k + 1, s, d, hd => by
    obtain ⟨h1, h2⟩ := h d hd
    unfold Mp.cyc
    split
    · rfl
    · rw [cyc_congr h k _ (f d) h2, h1]
theorem cycIn_congr {f g : Nat → Nat} {n : Nat} (h : ∀ x, x < n → f x = g x ∧ f x < n) (ms : List Nat) (hms : ∀ m ∈ ms, m < n) : cycIn f n ms = cycIn g n ms := by
  refine Cls.snoc_ind (p := fun ms => (∀ m ∈ ms, m < n) → cycIn f n ms = cycIn g n ms) (fun _ => rfl) (fun l m ih hl => ?_) ms hms
  have := ih fun x hx => hl x (List.mem_append.2 (Or.inl hx))
  rw [cycIn_snoc, cycIn_snoc, this]
  unfold Mp.cycStep
  rw [cyc_congr h (n + 1) _ m (hl m (List.mem_append.2 (Or.inr (List.mem_singleton.2 rfl))))]
theorem cycs_row {L : List (List Int)} {w : List Int} (h : Ok L w) : Mp.cycs (row L w (deg L)) = (Mp.cycTo (act L w) (deg L) (deg L)).2 := by
  unfold Mp.cycs
  rw [row_len, ← cycIn_range, ← cycIn_range, cycIn_congr (f := Mp.at_ (row L w (deg L))) (g := act L w) (fun x hx => ?_) _ (fun m hm => List.mem_range.1 hm)]
  have e : Mp.at_ (row L w (deg L)) x = act L w x := by rw [row_eq]; exact Mp.at_of_row hx
  rw [e]
  exact ⟨rfl, act_lt h.1 (ok_lets h) hx⟩
theorem cycles_row {L : List (List Int)} {w : List Int} (h : Ok L w) : Mp.cycles (row L w (deg L)) = Mp.natRows (liftsN L w) := by
  unfold Mp.cycles liftsN; rw [cycs_row h]
theorem liftsN_len {L : List (List Int)} {w : List Int} (h : Ok L w) : (liftsN L w).length ≤ 5 := by
  have h1 : ∀ i, (Mp.cycTo (act L w) (deg L) i).2.length ≤ i := by
    intro i
    induction i with
    | zero => exact Nat.le_refl _
    | succ i ih =>
      rw [Mp.cycTo_succ]
      unfold Mp.cycStep
      split
      · omega
      · simp; omega
  exact Nat.le_trans (h1 _) h.1.2.2.2.2
theorem lifts_len (L : List (List Int)) (w : List Int) : (lifts L w).length ≤ 5 := by
  unfold lifts
  split
  · rename_i h
    rw [List.length_mergeSort, List.length_map]; exact liftsN_len h
  · simp
end Cv
end Go.Proofs.YtamgimdjnmcpaaaGreat
namespace Go.Proofs.YtamgimdjnmcpaaaGreat
open Go.RowKit

namespace Br
open Cv
/-- The letters of a list of permutations, one after the other. -/
def lets (n : Nat) : List Int := (List.range n).map fun k => ((k + 1 : Nat) : Int)
theorem lets_len (n : Nat) : (lets n).length = n := by simp [lets]
theorem lets_snoc (n : Nat) : lets (n + 1) = lets n ++ [((n + 1 : Nat) : Int)] := by simp [lets, List.range_succ]
theorem lets_mem {n : Nat} {x : Int} (h : x ∈ lets n) : 1 ≤ x ∧ x ≤ (n : Int) := by
  unfold lets at h
  obtain ⟨k, hk, rfl⟩ := List.mem_map.1 h
  have := List.mem_range.1 hk
  omega
theorem lets_isW {n : Nat} (h : n ≤ 8) : Word.IsW (lets n) :=
  ⟨fun x hx => by have := lets_mem hx; rw [Word.letter_iff]; omega, by rw [lets_len]; omega⟩
theorem lets_ok {L : List (List Int)} (h : Perms L) : Ok L (lets L.length) :=
  ⟨h, lets_isW h.2.2.1, fun x hx => by have := lets_mem hx; omega⟩
/-- Where the permutations lead, one after the other. -/
def mul (P : List (List Int)) (s : Nat) : Nat := P.foldl (fun s p => Mp.at_ p s) s
theorem mul_snoc (P : List (List Int)) (p : List Int) (s : Nat) : mul (P ++ [p]) s = Mp.at_ p (mul P s) := by simp [mul]
theorem mul_take {P : List (List Int)} {i : Nat} {p : List Int} (h : P[i]? = some p) (s : Nat) : mul (P.take (i + 1)) s = Mp.at_ p (mul (P.take i) s) := by
  obtain ⟨hi, rfl⟩ := List.getElem?_eq_some_iff.1 h
  rw [List.take_succ_eq_append_getElem hi, mul_snoc]
theorem img_letter {L : List (List Int)} {i : Nat} {p : List Int} (h : L[i]? = some p) (s : Nat) : img L s ((i + 1 : Nat) : Int) = Mp.at_ p s := by
  unfold img perm
  simp only
  rw [if_neg (by omega), Int.natAbs_natCast, Nat.add_sub_cancel, List.getD_eq_getElem?_getD, h]; rfl
theorem act_lets {L : List (List Int)} : ∀ n, n ≤ L.length → ∀ s, act L (lets n) s = mul (L.take n) s
  | 0, _, s => by simp [lets, act, mul]
  | n + 1, hn, s => by
    obtain ⟨p, hp⟩ := get_some (show n < L.length by omega)
    rw [lets_snoc, mul_take hp, ← act_lets n (by omega) s]
    show List.foldl (img L) s (lets n ++ [_]) = _
    rw [List.foldl_append]
    show img L (act L (lets n) s) _ = _
    rw [img_letter hp]
theorem act_all (L : List (List Int)) (s : Nat) : act L (lets L.length) s = mul L s := by
  rw [act_lets L.length (Nat.le_refl _), List.take_of_length_le (Nat.le_refl _)]
/-- Permutations of the same n numbers. -/
def Alike (n : Nat) (P : List (List Int)) : Prop := ∀ p ∈ P, p.length = n ∧ Mp.IsP p
theorem mul_lt {n : Nat} : ∀ {P : List (List Int)}, Alike n P → ∀ {s : Nat}, s < n → mul P s < n
  | [], _, s, hs => hs
  | p :: P, h, s, hs => by
    have hp := h p (List.mem_cons_self ..)
    have := Mp.at_lt hp.2 (d := s) (by omega)
    exact mul_lt (P := P) (fun q hq => h q (List.mem_cons_of_mem _ hq)) (s := Mp.at_ p s) (by omega)
theorem mul_inj {n : Nat} : ∀ {P : List (List Int)}, Alike n P → ∀ {s t : Nat}, s < n → t < n → mul P s = mul P t → s = t
  | [], _, s, t, _, _, e => e
  | p :: P, h, s, t, hs, ht, e => by
    have hp := h p (List.mem_cons_self ..)
    have h1 := Mp.at_lt hp.2 (d := s) (by omega)
    have h2 := Mp.at_lt hp.2 (d := t) (by omega)
    exact Mp.at_inj hp.2 (by omega) (by omega) (mul_inj (P := P) (fun q hq => h q (List.mem_cons_of_mem _ hq)) (s := Mp.at_ p s) (t := Mp.at_ p t) (by omega) (by omega) e)
theorem alike {L : List (List Int)} (h : Perms L) : Alike (deg L) L := h.1
theorem Alike.take {n : Nat} {P : List (List Int)} (h : Alike n P) (i : Nat) : Alike n (P.take i) := fun p hp => h p (List.mem_of_mem_take hp)
def prod (P : List (List Int)) (n : Nat) : List Int := Cls.row (mul P) n
theorem prod_isP {n : Nat} {P : List (List Int)} (h : Alike n P) : Mp.IsP (prod P n) := Mp.isP_row (fun _ hd => mul_lt h hd) (fun _ _ hd he hh => mul_inj h hd he hh)
theorem prod_len (P : List (List Int)) (n : Nat) : (prod P n).length = n := Cls.row_len _ _
theorem prod_at {P : List (List Int)} {n s : Nat} (hs : s < n) : Mp.at_ (prod P n) s = mul P s := Mp.at_of_row hs
theorem actW_lets {L : List (List Int)} (h : Perms L) : actW L (lets L.length) = prod L (deg L) := by
  rw [show actW L (lets L.length) = row L (lets L.length) (deg L) from if_pos (lets_ok h), row_eq]
  unfold prod Cls.row
  exact List.map_congr_left fun s _ => by rw [act_all]
theorem row_congr {f g : Nat → Nat} {n : Nat} (h : ∀ s, s < n → f s = g s) : Cls.row f n = Cls.row g n := by
  unfold Cls.row; exact List.map_congr_left fun s hs => by rw [h s (List.mem_range.1 hs)]
theorem row_inj {f g : Nat → Nat} {n : Nat} (h : Cls.row f n = Cls.row g n) {s : Nat} (hs : s < n) : f s = g s := by
  have h1 := Cls.row_get (c := f) hs
  rw [h, Cls.row_get hs] at h1
  have := Option.some.inj h1; omega

/-- Permutations that act one after the other as the identity. -/
def Pass (L : List (List Int)) : Prop := L.length ≤ 5 ∧ Perms L ∧ ∀ s, s < deg L → mul L s = s
instance (L : List (List Int)) : Decidable (Pass L) := by unfold Pass; exact inferInstance
theorem pass_prod {L : List (List Int)} : (∀ s, s < deg L → mul L s = s) ↔ prod L (deg L) = Cls.row id (deg L) :=
  ⟨fun h => row_congr h, fun h s hs => row_inj h hs⟩
def defect (p : List Int) : Int := (p.length : Int) - ((Mp.cycles p).length : Int)
def total (L : List (List Int)) : Int := (L.map defect).sum
def bsum (L : List (List Int)) : Int := if Pass L then total L else -1
def CoverOk (L : List (List Int)) : Prop := Pass L ∧ (partsN L).length = 1
instance (L : List (List Int)) : Decidable (CoverOk L) := by unfold CoverOk; exact inferInstance
def cover (L : List (List Int)) : Int × Int × Int := if CoverOk L then ((2 - 2 * (deg L : Int) + total L).tdiv 2, 0, 0) else (0, 0, 0)
/-- The lengths of the cycles, in order. -/
def lens (p : List Int) : List Int := ((Mp.cycles p).map fun r => (r.length : Int)).mergeSort
theorem lens_len (p : List Int) : (lens p).length = (Mp.cycles p).length := by unfold lens; rw [List.length_mergeSort, List.length_map]
def types (L : List (List Int)) : List (List Int) := if Pass L then L.map lens else []
theorem cycles_le {p : List Int} : (Mp.cycles p).length ≤ p.length := by
  unfold Mp.cycles Mp.cycs
  have h : ∀ i, (Mp.cycTo (Mp.at_ p) p.length i).2.length ≤ i := by
    intro i
    induction i with
    | zero => exact Nat.le_refl _
    | succ i ih =>
      rw [Mp.cycTo_succ]; unfold Mp.cycStep
      split
      · omega
      · simp; omega
  have := h p.length
  simpa [Mp.natRows] using this
theorem defect_in (p : List Int) : 0 ≤ defect p ∧ defect p ≤ (p.length : Int) := by
  have := cycles_le (p := p); unfold defect; omega
theorem total_snoc (P : List (List Int)) (p : List Int) : total (P ++ [p]) = total P + defect p := by simp [total]
theorem total_take {P : List (List Int)} {i : Nat} {p : List Int} (h : P[i]? = some p) : total (P.take (i + 1)) = total (P.take i) + defect p := by
  obtain ⟨hi, rfl⟩ := List.getElem?_eq_some_iff.1 h
  rw [List.take_succ_eq_append_getElem hi, total_snoc]
theorem total_in {n : Nat} : ∀ {P : List (List Int)}, (∀ p ∈ P, p.length = n) → 0 ≤ total P ∧ total P ≤ (P.length : Int) * (n : Int)
  | [], _ => ⟨by simp [total], by simp [total]⟩
  | p :: P, h => by
    have h1 := defect_in p
    have h2 := total_in (P := P) fun q hq => h q (List.mem_cons_of_mem _ hq)
    have h3 := h p (List.mem_cons_self ..)
    have e : total (p :: P) = defect p + total P := by simp [total]
    rw [e, List.length_cons, Int.natCast_add, Int.add_mul]
    rw [h3] at h1
    have : ((1 : Nat) : Int) * (n : Int) = (n : Int) := by omega
    omega
theorem total_few {L : List (List Int)} (h : Pass L) (i : Nat) : 0 ≤ total (L.take i) ∧ total (L.take i) ≤ 25 := by
  have h1 := total_in (P := L.take i) (n := deg L) fun p hp => (h.2.1.1 p (List.mem_of_mem_take hp)).1
  refine ⟨h1.1, Int.le_trans h1.2 ?_⟩
  have h2 : (L.take i).length ≤ 5 := by rw [List.length_take]; have := h.1; omega
  have h3 : (L.take i).length * deg L ≤ 5 * 5 := Nat.mul_le_mul h2 h.2.1.2.2.2.2
  have : ((L.take i).length : Int) * (deg L : Int) = (((L.take i).length * deg L : Nat) : Int) := by rw [Int.natCast_mul]
  omega
theorem total_all {L : List (List Int)} (h : Pass L) : 0 ≤ total L ∧ total L ≤ 25 := by
  have := total_few h L.length; rwa [List.take_of_length_le (Nat.le_refl _)] at this
/-- What one letter does. -/
theorem actW_letter {L : List (List Int)} (h : Perms L) {i : Nat} {p : List Int} (hp : L[i]? = some p) : actW L [((i + 1 : Nat) : Int)] = p := by
  have hi := (List.getElem?_eq_some_iff.1 hp).1
  have h8 := h.2.2.1
  have hok : Ok L [((i + 1 : Nat) : Int)] := ⟨h, ⟨fun x hx => by rw [List.mem_singleton.1 hx, Word.letter_iff]; omega, by simp⟩, fun x hx => by rw [List.mem_singleton.1 hx]; omega⟩
  rw [show actW L [((i + 1 : Nat) : Int)] = row L [((i + 1 : Nat) : Int)] (deg L) from if_pos hok, row_eq]
  obtain ⟨h1, h2⟩ := h.1 p (get_mem hp)
  rw [← h1]
  refine Eq.trans (row_congr fun s _ => ?_) (Mp.at_row h2)
  show img L s _ = _
  rw [img_letter hp]

/-- What closes up. -/
def last (L : List (List Int)) : List Int := Mp.mirror (prod L (deg L))
theorem last_len (L : List (List Int)) : (last L).length = deg L := by unfold last; rw [Mp.mirror_len, prod_len]
def CloseOk (L : List (List Int)) : Prop := L.length ≤ 4 ∧ Perms L
instance (L : List (List Int)) : Decidable (CloseOk L) := by unfold CloseOk; exact inferInstance
def closed (L : List (List Int)) : List (List Int) := if CloseOk L then L ++ [last L] else []
theorem deg_snoc {L : List (List Int)} (h : 1 ≤ L.length) (p : List Int) : deg (L ++ [p]) = deg L := by
  cases L with
  | nil => simp at h
  | cons q L => rfl
theorem last_isP {L : List (List Int)} (h : Perms L) : Mp.IsP (last L) := mirror_isP (prod_isP (alike h))
theorem last_perms {L : List (List Int)} (h : Perms L) (h8 : L.length + 1 ≤ 8) : Perms (L ++ [last L]) := by
  unfold Perms
  rw [deg_snoc h.2.1]
  refine ⟨fun p hp => ?_, by simp, by simpa using h8, h.2.2.2.1, h.2.2.2.2⟩
  rcases List.mem_append.1 hp with hp | hp
  · exact h.1 p hp
  · rw [List.mem_singleton.1 hp]; exact ⟨last_len L, last_isP h⟩
theorem inv_at {l : List Int} (h : Mp.IsP l) {x : Nat} (hx : x < l.length) : Mp.at_ (Mp.mirror l) (Mp.at_ l x) = x := by
  unfold Mp.mirror
  rw [Mp.at_of_row (Mp.at_lt h hx)]; exact Mp.invTo_at h (Nat.le_refl _) hx
theorem last_mul {L : List (List Int)} (h : Perms L) {s : Nat} (hs : s < deg L) : mul (L ++ [last L]) s = s := by
  rw [mul_snoc, ← prod_at (P := L) hs]
  exact inv_at (prod_isP (alike h)) (by rw [prod_len]; exact hs)
theorem closed_pass {L : List (List Int)} (h : CloseOk L) : Pass (L ++ [last L]) := by
  obtain ⟨h1, h2⟩ := h
  refine ⟨by simp; omega, last_perms h2 (by omega), fun s hs => ?_⟩
  rw [deg_snoc h2.2.1] at hs
  exact last_mul h2 hs
theorem pass_close {L : List (List Int)} (h : Perms L) : Pass (L ++ [last L]) ↔ L.length ≤ 4 :=
  ⟨fun hp => by have := hp.1; simp at this; omega, fun h4 => closed_pass ⟨h4, h⟩⟩
theorem closed_few (L : List (List Int)) : (closed L).length ≤ 5 ∧ ∀ p ∈ closed L, p.length ≤ 5 := by
  unfold closed
  split
  · rename_i h
    have := closed_pass h
    exact ⟨this.1, fun p hp => by rw [(this.2.1.1 p hp).1]; exact this.2.1.2.2.2.2⟩
  · exact ⟨by simp, fun p hp => by cases hp⟩

/-- What p, q and the inverse of p do one after the other. -/
def conj (p q : List Int) : List Int := Cls.row (fun s => Mp.at_ (Mp.mirror p) (Mp.at_ q (Mp.at_ p s))) p.length
theorem conj_len (p q : List Int) : (conj p q).length = p.length := Cls.row_len _ _
theorem conj_prod (p q : List Int) : conj p q = prod [p, q, Mp.mirror p] p.length := rfl
def BraidOk (L : List (List Int)) (k : Int) : Prop := Pass L ∧ 0 ≤ k ∧ k ≤ (L.length : Int) - 2
instance (L : List (List Int)) (k : Int) : Decidable (BraidOk L k) := by unfold BraidOk; exact inferInstance
def braided (L : List (List Int)) (k : Nat) : List (List Int) := (L.set k (conj (L.getD k []) (L.getD (k + 1) []))).set (k + 1) (L.getD k [])
def braid (L : List (List Int)) (k : Int) : List (List Int) := if BraidOk L k then braided L k.toNat else []
theorem braided_len (L : List (List Int)) (k : Nat) : (braided L k).length = L.length := by simp [braided]
theorem actW_conj {L : List (List Int)} (h : Perms L) {k : Nat} {p q : List Int} (hp : L[k]? = some p) (hq : L[k + 1]? = some q) : actW L [((k + 1 : Nat) : Int), ((k + 2 : Nat) : Int), -((k + 1 : Nat) : Int)] = conj p q := by
  have hi := (List.getElem?_eq_some_iff.1 hq).1
  have h8 := h.2.2.1
  have hlets : ∀ x ∈ [((k + 1 : Nat) : Int), ((k + 2 : Nat) : Int), -((k + 1 : Nat) : Int)], x ≠ 0 ∧ x.natAbs ≤ L.length := by
    intro x hx
    simp only [List.mem_cons, List.not_mem_nil, or_false] at hx
    rcases hx with rfl | rfl | rfl <;> omega
  have hok : Ok L [((k + 1 : Nat) : Int), ((k + 2 : Nat) : Int), -((k + 1 : Nat) : Int)] := ⟨h, ⟨fun x hx => by rw [Word.letter_iff]; have := hlets x hx; omega, by simp⟩, fun x hx => (hlets x hx).2⟩
  rw [show actW L _ = row L _ (deg L) from if_pos hok, row_eq]
  obtain ⟨h1, h2⟩ := h.1 p (get_mem hp)
  unfold conj
  rw [h1]
  refine row_congr fun s _ => ?_
  show img L (img L (img L s _) _) _ = _
  rw [img_letter hp, img_letter hq]
  unfold img perm
  simp only
  rw [if_pos (by omega), Int.natAbs_neg, Int.natAbs_natCast, Nat.add_sub_cancel, List.getD_eq_getElem?_getD, hp]; rfl

/-- The exchange of mates; the passport of a map. -/
def mates (n : Nat) : List Int := Cls.row Mp.mate n
theorem mates_len (n : Nat) : (mates n).length = n := Cls.row_len _ _
theorem mates_isP {n : Nat} (hn : n % 2 = 0) : Mp.IsP (mates n) := Mp.isP_row (fun _ hd => Mp.mate_lt hn hd) (fun _ _ _ _ h => Mp.mate_inj h)
def MapOk (m : List Int) : Prop := Mp.IsM m ∧ m.length ≤ 5
instance (m : List Int) : Decidable (MapOk m) := by unfold MapOk; exact inferInstance
def mapPass (m : List Int) : List (List Int) := if MapOk m then closed [m, mates m.length] else []
theorem map_perms {m : List Int} (h : Mp.IsM m) : Perms [m, mates m.length] ↔ m.length ≤ 5 := by
  have hd : deg [m, mates m.length] = m.length := rfl
  unfold Perms
  rw [hd]
  refine ⟨fun hp => hp.2.2.2.2, fun h5 => ⟨fun p hp => ?_, by simp, by simp, by have := h.1; omega, h5⟩⟩
  simp only [List.mem_cons, List.not_mem_nil, or_false] at hp
  rcases hp with rfl | rfl
  · exact ⟨rfl, h.2.2.2⟩
  · exact ⟨mates_len _, mates_isP h.2.2.1⟩
theorem map_ok {m : List Int} (h : Mp.IsM m) : CloseOk [m, mates m.length] ↔ m.length ≤ 5 :=
  ⟨fun hc => (map_perms h).1 hc.2, fun h5 => ⟨by simp, (map_perms h).2 h5⟩⟩
end Br
end Go.Proofs.YtamgimdjnmcpaaaGreat
namespace Go.Proofs.YtamgimdjnmcpaaaGreat
open Go.RowKit

namespace Br
open Cls Mp
theorem cnum_congr {f g : Nat → Nat} {n : Nat} (h : ∀ d, d < n → g d = f d) : cnum g n = cnum f n := by unfold cnum; rw [arcs_congr h]
/-- One permutation more: how many cycles, and in how many parts. -/
theorem rh {n : Nat} {f : Nat → Nat} (hf : Per f n) : ∀ {g : Nat → Nat} {E : List (Nat × Nat)}, Per g n → In n E → (∀ k, k < n → mergeAll E k = mergeAll E (g k)) →
    cnum (fun k => f (g k)) n + 2 * num n (mergeAll E) + cnum f n ≤ cnum g n + 2 * num n (mergeAll (E ++ arcs f n)) + n ∧ (cnum (fun k => f (g k)) n + cnum f n + cnum g n + n) % 2 = 0 := by
  generalize hm : n - cnum f n = m
  induction m using Nat.strongRecOn generalizing f with
  | ind m ih =>
    intro g E hg hE hgE
    by_cases hid : ∀ d, d < n → f d = d
    · have e1 : cnum f n = n := (cnum_congr (f := fun k => k) (g := f) hid).trans (num_id n)
      have e2 : cnum (fun k => f (g k)) n = cnum g n := cnum_congr fun d hd => hid _ (hg.lt d hd)
      have e3 : num n (mergeAll (E ++ arcs f n)) = num n (mergeAll E) := by
        refine num_iff (In.append hE (arcs_in hf)) hE (fun p hp => ?_) (fun p hp => eq_of_mem (List.mem_append.2 (Or.inl hp)))
        rcases List.mem_append.1 hp with hp | hp
        · exact eq_of_mem hp
        · obtain ⟨h1, h2⟩ := arcs_mem.1 hp
          rw [h2, hid _ h1]
      omega
    · obtain ⟨a, ha, hne⟩ : ∃ a, a < n ∧ f a ≠ a := by
        apply Classical.byContradiction
        intro hh
        exact hid fun d hd => Classical.byContradiction fun hne => hh ⟨d, hd, hne⟩
      obtain ⟨b, hb, hfb⟩ := hf.pre ha
      have hba : b ≠ a := fun e => hne (by rw [← e]; rw [hfb]; exact e.symm)
      have hf' := hf.swp ha hb
      have hga : swp f a b a = a := by rw [swp_l, hfb]
      have hgb : swp f a b b = f a := swp_r f a b
      have hgo : ∀ k, k ≠ a → k ≠ b → swp f a b k = f k := fun k h1 h2 => swp_o h1 h2
      have hcf : cnum f n + 1 = cnum (swp f a b) n := by
        have := swp_diff hf' ha hb (fix_apart hf' ha hga hba)
        rwa [swp_swp] at this
      obtain ⟨x, hx, hgx⟩ := hg.pre ha
      obtain ⟨y, hy, hgy⟩ := hg.pre hb
      have hxy : x ≠ y := fun e => hba (by rw [← hgx, ← hgy, e])
      have hg' := hg.swp hx hy
      have hcomp : ∀ k, k < n → swp f a b (swp g x y k) = f (g k) := by
        intro k hk
        by_cases e1 : k = x
        · subst e1; rw [swp_l, hgy, hgb, hgx]
        · by_cases e2 : k = y
          · subst e2; rw [swp_r, hgx, hga, hgy, hfb]
          · rw [swp_o e1 e2]
            exact hgo _ (fun e => e1 (hg.inj _ _ hk hx (e.trans hgx.symm))) (fun e => e2 (hg.inj _ _ hk hy (e.trans hgy.symm)))
      have hE' : In n (E ++ [(a, b)]) := In.append hE fun p hp => by rw [List.mem_singleton.1 hp]; exact ⟨ha, hb⟩
      have hab : mergeAll (E ++ [(a, b)]) a = mergeAll (E ++ [(a, b)]) b := eq_of_mem (List.mem_append.2 (Or.inr (List.mem_singleton.2 rfl)))
      have hgE' : ∀ k, k < n → mergeAll (E ++ [(a, b)]) k = mergeAll (E ++ [(a, b)]) (swp g x y k) := by
        intro k hk
        have h0 : mergeAll (E ++ [(a, b)]) k = mergeAll (E ++ [(a, b)]) (g k) := eq_append (hgE k hk)
        by_cases e1 : k = x
        · subst e1; rw [swp_l, h0, hgx, hgy]; exact hab
        · by_cases e2 : k = y
          · subst e2; rw [swp_r, h0, hgx, hgy]; exact hab.symm
          · rw [swp_o e1 e2]; exact h0
      have hle := cnum_le (swp f a b) n
      obtain ⟨i1, i2⟩ := ih (n - cnum (swp f a b) n) (by omega) hf' rfl hg' hE' hgE'
      rw [cnum_congr (f := fun k => f (g k)) (g := fun k => swp f a b (swp g x y k)) hcomp] at i1 i2
      have e3 : num n (mergeAll (E ++ [(a, b)] ++ arcs (swp f a b) n)) = num n (mergeAll (E ++ arcs f n)) := by
        have k1 : ∀ k, k < n → mergeAll (E ++ arcs f n) k = mergeAll (E ++ arcs f n) (f k) := fun k hk => arcs_eq hk _ fun _ h => List.mem_append.2 (Or.inr h)
        have k2 : ∀ k, k < n → mergeAll (E ++ [(a, b)] ++ arcs (swp f a b) n) k = mergeAll (E ++ [(a, b)] ++ arcs (swp f a b) n) (swp f a b k) := fun k hk => arcs_eq hk _ fun _ h => List.mem_append.2 (Or.inr h)
        have k3 : mergeAll (E ++ [(a, b)] ++ arcs (swp f a b) n) a = mergeAll (E ++ [(a, b)] ++ arcs (swp f a b) n) b := eq_append hab
        refine num_iff (In.append hE' (arcs_in hf')) (In.append hE (arcs_in hf)) (fun p hp => ?_) (fun p hp => ?_)
        · rcases List.mem_append.1 hp with hp | hp
          · rcases List.mem_append.1 hp with hp | hp
            · exact eq_of_mem (List.mem_append.2 (Or.inl hp))
            · rw [List.mem_singleton.1 hp]
              have := k1 b hb
              rw [hfb] at this; exact this.symm
          · obtain ⟨h1, h2⟩ := arcs_mem.1 hp
            rw [h2]
            by_cases e1 : p.1 = a
            · rw [e1, hga]
            · by_cases e2 : p.1 = b
              · rw [e2, hgb]
                have := k1 b hb
                rw [hfb] at this; exact this.trans (k1 a ha)
              · rw [hgo _ e1 e2]; exact k1 _ h1
        · rcases List.mem_append.1 hp with hp | hp
          · exact eq_of_mem (List.mem_append.2 (Or.inl (List.mem_append.2 (Or.inl hp))))
          · obtain ⟨h1, h2⟩ := arcs_mem.1 hp
            rw [h2]
            by_cases e1 : p.1 = a
            · rw [e1]
              have := k2 b hb
              rw [hgb] at this; exact k3.trans this
            · by_cases e2 : p.1 = b
              · rw [e2, hfb]; exact k3.symm
              · have := k2 _ h1
                rw [hgo _ e1 e2] at this; exact this
      rw [e3] at i1
      rcases swp_cases hg hx hy hxy with ⟨_, h2⟩ | ⟨h1, h2⟩
      · have h3 : num n (mergeAll E) ≤ num n (mergeAll (E ++ [(a, b)])) + 1 := by
          by_cases e : mergeAll E a = mergeAll E b
          · rw [num_same (p := (a, b)) e]; omega
          · have := num_diff (p := (a, b)) hE ha hb e; omega
        omega
      · have h3 : mergeAll E a = mergeAll E b := by
          have h4 : mergeAll E x = mergeAll E y := ker_le (fun p hp => by
            obtain ⟨h5, h6⟩ := arcs_mem.1 hp
            rw [h6]; exact hgE _ h5) h1
          have h5 := hgE x hx
          have h6 := hgE y hy
          rw [hgx] at h5; rw [hgy] at h6
          rw [← h5, ← h6]; exact h4
        have h4 := num_same (N := n) (es := E) (p := (a, b)) h3
        omega
theorem pairs_snoc {n : Nat} (P : List (List Int)) {p : List Int} (hp : p.length = n) : Cv.pairs (P ++ [p]) = Cv.pairs P ++ arcs (at_ p) n := by
  unfold Cv.pairs metAll
  rw [List.flatMap_append, List.flatMap_singleton, hp]; rfl
theorem pairs_mem {n : Nat} {P : List (List Int)} (h : Alike n P) {p : List Int} (hp : p ∈ P) {s : Nat} (hs : s < n) : (s, at_ p s) ∈ Cv.pairs P := by
  unfold Cv.pairs metAll
  exact List.mem_flatMap.2 ⟨p, hp, List.mem_map.2 ⟨s, List.mem_range.2 (by rw [(h p hp).1]; exact hs), rfl⟩⟩
theorem pairs_of {n : Nat} {P : List (List Int)} (h : Alike n P) {x : Nat × Nat} (hx : x ∈ Cv.pairs P) : ∃ p ∈ P, x.1 < n ∧ x.2 = at_ p x.1 := by
  unfold Cv.pairs metAll at hx
  obtain ⟨p, hp, h2⟩ := List.mem_flatMap.1 hx
  obtain ⟨s, hs, rfl⟩ := List.mem_map.1 h2
  refine ⟨p, hp, ?_, rfl⟩
  have := List.mem_range.1 hs
  rw [(h p hp).1] at this; exact this
theorem pairs_in {n : Nat} {P : List (List Int)} (h : Alike n P) : In n (Cv.pairs P) := fun x hx => by
  obtain ⟨p, hp, h1, h2⟩ := pairs_of h hx
  have := h p hp
  exact ⟨h1, by rw [h2]; have := at_lt this.2 (d := x.1) (by omega); omega⟩
theorem lab_step {n : Nat} {P : List (List Int)} (h : Alike n P) {p : List Int} (hp : p ∈ P) {s : Nat} (hs : s < n) : Cv.lab P s = Cv.lab P (at_ p s) := eq_of_mem (pairs_mem h hp hs)
theorem lab_mul {n : Nat} {P : List (List Int)} (h : Alike n P) : ∀ {Q : List (List Int)}, (∀ q ∈ Q, q ∈ P) → ∀ {s : Nat}, s < n → Cv.lab P s = Cv.lab P (mul Q s)
  | [], _, s, hs => rfl
  | q :: Q, hQ, s, hs => by
    have hq := hQ q (List.mem_cons_self ..)
    have h1 := h q hq
    have := at_lt h1.2 (d := s) (by omega)
    rw [lab_step h hq hs]
    exact lab_mul (Q := Q) h (fun r hr => hQ r (List.mem_cons_of_mem _ hr)) (by omega)
theorem per_mul {n : Nat} {P : List (List Int)} (h : Alike n P) : Per (mul P) n := ⟨fun _ hd => mul_lt h hd, fun _ _ hd he hh => mul_inj h hd he hh⟩
theorem per_of {n : Nat} {p : List Int} (h : p.length = n ∧ IsP p) : Per (at_ p) n := by rw [← h.1]; exact per_at h.2
theorem cycles_num {n : Nat} {p : List Int} (h : p.length = n ∧ IsP p) : (cycles p).length = cnum (at_ p) n := by
  unfold cycles natRows
  rw [List.length_map, cycs_len h.2, h.1]
theorem chain {n : Nat} (P : List (List Int)) : Alike n P → (n : Int) + (cnum (mul P) n : Int) ≤ total P + 2 * (num n (Cv.lab P) : Int) ∧ (total P + (n : Int) + (cnum (mul P) n : Int)) % 2 = 0 := by
  refine snoc_ind (p := fun P => Alike n P → (n : Int) + (cnum (mul P) n : Int) ≤ total P + 2 * (num n (Cv.lab P) : Int) ∧ (total P + (n : Int) + (cnum (mul P) n : Int)) % 2 = 0) (fun _ => ?_) (fun P p ih h => ?_) P
  · have e1 : cnum (mul []) n = n := num_id n
    have e2 : num n (Cv.lab []) = n := by
      show num n (fun k => k) = n
      unfold num tally
      rw [List.filter_eq_self.2 (fun x _ => by simp), List.length_range]
    have e3 : total [] = 0 := rfl
    rw [e1, e2, e3]; omega
  · have hP : Alike n P := fun q hq => h q (List.mem_append.2 (Or.inl hq))
    have hp := h p (List.mem_append.2 (Or.inr (List.mem_singleton.2 rfl)))
    obtain ⟨i1, i2⟩ := ih hP
    obtain ⟨r1, r2⟩ := rh (per_of hp) (per_mul hP) (pairs_in hP) (fun k hk => lab_mul hP (fun _ h => h) hk)
    have e1 : (fun k => at_ p (mul P k)) = mul (P ++ [p]) := funext fun k => (mul_snoc P p k).symm
    rw [e1] at r1 r2
    rw [← pairs_snoc P hp.1] at r1
    have e2 : total (P ++ [p]) = total P + ((n : Int) - (cnum (at_ p) n : Int)) := by
      rw [total_snoc]; unfold defect; rw [hp.1, cycles_num hp]
    rw [e2]
    unfold Cv.lab at *
    omega
theorem firsts_num {c : Nat → Nat} {n : Nat} (h : Ok c n) : (Cv.firsts c n).length = num n c := by
  rw [num_found h, ← List.length_map (f := c)]
  refine List.Perm.length_eq ((List.perm_ext_iff_of_nodup ?_ (found_nodup _ _)).2 fun x => ?_)
  · have hn : (Cv.firsts c n).Nodup := List.Nodup.sublist List.filter_sublist List.nodup_range
    rw [List.nodup_iff_pairwise_ne, List.pairwise_map]
    refine List.Pairwise.imp_of_mem ?_ (List.nodup_iff_pairwise_ne.1 hn)
    intro a b ha hb hab e
    have h1 := of_decide_eq_true (List.mem_filter.1 ha).2
    have h2 := of_decide_eq_true (List.mem_filter.1 hb).2
    rcases Nat.lt_trichotomy a b with h3 | h3 | h3
    · exact h2 a h3 e
    · exact hab h3
    · exact h1 b h3 e.symm
  · rw [found_mem, List.mem_map]
    constructor
    · rintro ⟨s, hs, e⟩; exact ⟨s, (List.mem_filter.1 hs).1, e⟩
    · rintro ⟨m, hm, rfl⟩
      obtain ⟨h1, h2, h3⟩ := Cv.leastOf_spec c m
      have := List.mem_range.1 hm
      exact ⟨Cv.leastOf c m, List.mem_filter.2 ⟨List.mem_range.2 (by omega), decide_eq_true fun k hk e => h3 k hk (e.trans h1)⟩, h1⟩
theorem parts_num {n : Nat} {L : List (List Int)} (h : Alike n L) (hd : Cv.deg L = n) : (Cv.partsN L).length = num n (Cv.lab L) := by
  unfold Cv.partsN Cv.classes
  rw [List.length_map, hd]
  exact firsts_num (Ok.all (pairs_in h))
theorem mul_id {L : List (List Int)} (h : Pass L) : cnum (mul L) (Cv.deg L) = Cv.deg L := (cnum_congr (f := fun k => k) h.2.2).trans (num_id _)
/-- Riemann and Hurwitz. -/
theorem hurwitz {L : List (List Int)} (h : CoverOk L) : 2 * (Cv.deg L : Int) - 2 ≤ total L ∧ total L % 2 = 0 := by
  obtain ⟨h1, h2⟩ := chain (n := Cv.deg L) L (alike h.1.2.1)
  rw [mul_id h.1] at h1 h2
  rw [← parts_num (alike h.1.2.1) rfl, h.2] at h1
  omega
theorem cover_facts {L : List (List Int)} (h : CoverOk L) : 0 ≤ (cover L).1 ∧ 2 - 2 * (cover L).1 = 2 * (Cv.deg L : Int) - total L := by
  obtain ⟨h1, h2⟩ := hurwitz h
  have e : (cover L).1 = (2 - 2 * (Cv.deg L : Int) + total L) / 2 := by
    unfold cover
    rw [if_pos h]
    rw [tdiv_even (k := (2 - 2 * (Cv.deg L : Int) + total L) / 2) (by omega)]
  rw [e]; omega

/-- One permutation led over by another. -/
theorem cnum_conj {c q p r : Nat → Nat} {n : Nat} (hc : Per c n) (hq : Per q n) (hp : Per p n) (hr : ∀ x, x < n → r (p x) = x ∧ p (r x) = x ∧ r x < n) (h : ∀ x, x < n → c x = r (q (p x))) : cnum c n = cnum q n := by
  unfold cnum
  refine num_relabel (Ok.all (arcs_in hc)) (Ok.all (arcs_in hq)) hp fun x hx y hy => ⟨fun e => ?_, fun e => ?_⟩
  · refine ker_le (F := fun x => mergeAll (arcs q n) (p x)) (fun z hz => ?_) e
    obtain ⟨h1, h2⟩ := arcs_mem.1 hz
    rw [h2, h _ h1]
    show _ = mergeAll (arcs q n) (p (r (q (p z.1))))
    rw [(hr _ (hq.lt _ (hp.lt _ h1))).2.1]
    exact arcs_same (hp.lt _ h1)
  · have h3 : (fun y => mergeAll (arcs c n) (r y)) (p x) = (fun y => mergeAll (arcs c n) (r y)) (p y) := by
      refine ker_le (F := fun y => mergeAll (arcs c n) (r y)) (fun z hz => ?_) e
      obtain ⟨h1, h2⟩ := arcs_mem.1 hz
      rw [h2]
      have h4 := arcs_same (f := c) (hr _ h1).2.2
      rw [h _ (hr _ h1).2.2, (hr _ h1).2.1] at h4
      exact h4
    have h4 : mergeAll (arcs c n) (r (p x)) = mergeAll (arcs c n) (r (p y)) := h3
    rwa [(hr x hx).1, (hr y hy).1] at h4

theorem deg_of {n : Nat} {L : List (List Int)} (h : Alike n L) (h1 : 1 ≤ L.length) : Cv.deg L = n := by
  cases L with
  | nil => simp at h1
  | cons p L => exact (h p (List.mem_cons_self ..)).1
theorem mul_append (A B : List (List Int)) (s : Nat) : mul (A ++ B) s = mul B (mul A s) := by simp [mul]
theorem total_append (A B : List (List Int)) : total (A ++ B) = total A + total B := by simp [total]
theorem braid_split {L : List (List Int)} {k : Nat} (h : k + 1 < L.length) : ∃ A p q B, L = A ++ [p, q] ++ B ∧ A.length = k ∧ L[k]? = some p ∧ L[k + 1]? = some q ∧ braided L k = A ++ [conj p q, p] ++ B := by
  obtain ⟨p, hp⟩ := get_some (show k < L.length by omega)
  obtain ⟨q, hq⟩ := get_some h
  refine ⟨L.take k, p, q, L.drop (k + 2), ?_, by rw [List.length_take]; omega, hp, hq, ?_⟩
  · apply List.ext_getElem?
    intro i
    rcases Nat.lt_trichotomy i k with h1 | h1 | h1
    · rw [List.append_assoc, List.getElem?_append_left (by rw [List.length_take]; omega), List.getElem?_take_of_lt h1]
    · subst h1
      rw [List.append_assoc, List.getElem?_append_right (by rw [List.length_take]; omega), hp, List.length_take, Nat.min_eq_left (by omega), Nat.sub_self]; rfl
    · by_cases h2 : i = k + 1
      · subst h2
        rw [List.append_assoc, List.getElem?_append_right (by rw [List.length_take]; omega), hq, List.length_take, Nat.min_eq_left (by omega), Nat.add_sub_cancel_left]; rfl
      · rw [List.getElem?_append_right (by simp; omega), List.getElem?_drop]
        congr 1
        simp; omega
  · unfold braided
    rw [List.getD_eq_getElem?_getD, List.getD_eq_getElem?_getD, hp, hq]
    simp only [Option.getD_some]
    generalize conj p q = c
    apply List.ext_getElem?
    intro i
    rcases Nat.lt_trichotomy i k with h1 | h1 | h1
    · rw [List.append_assoc, List.getElem?_append_left (by rw [List.length_take]; omega), List.getElem?_take_of_lt h1, List.getElem?_set_ne (by omega), List.getElem?_set_ne (by omega)]
    · subst h1
      rw [List.append_assoc, List.getElem?_append_right (by rw [List.length_take]; omega), List.getElem?_set_ne (by omega), List.getElem?_set_self (by omega), List.length_take, Nat.min_eq_left (by omega), Nat.sub_self]; rfl
    · by_cases h2 : i = k + 1
      · subst h2
        rw [List.append_assoc, List.getElem?_append_right (by rw [List.length_take]; omega), List.getElem?_set_self (by rw [List.length_set]; omega), List.length_take, Nat.min_eq_left (by omega), Nat.add_sub_cancel_left]; rfl
      · rw [List.getElem?_append_right (by simp; omega), List.getElem?_drop, List.getElem?_set_ne (by omega), List.getElem?_set_ne (by omega)]
        congr 1
        simp; omega
theorem conj_at {p q : List Int} {s : Nat} (hs : s < p.length) : at_ (conj p q) s = at_ (mirror p) (at_ q (at_ p s)) := at_of_row hs
theorem conj_isP {n : Nat} {p q : List Int} (hp : p.length = n ∧ IsP p) (hq : q.length = n ∧ IsP q) : (conj p q).length = n ∧ IsP (conj p q) := by
  refine ⟨by rw [conj_len, hp.1], ?_⟩
  rw [conj_prod]
  refine prod_isP (P := [p, q, mirror p]) fun r hr => ?_
  simp only [List.mem_cons, List.not_mem_nil, or_false] at hr
  rcases hr with rfl | rfl | rfl
  · exact ⟨rfl, hp.2⟩
  · exact ⟨hq.1.trans hp.1.symm, hq.2⟩
  · exact ⟨mirror_len _, Cv.mirror_isP hp.2⟩
theorem braid_facts {L : List (List Int)} {k : Nat} (h : Pass L) (hk : k + 1 < L.length) :
    Pass (braided L k) ∧ Cv.deg (braided L k) = Cv.deg L ∧ Cv.partsN (braided L k) = Cv.partsN L ∧ total (braided L k) = total L := by
  obtain ⟨h5, hP, hid⟩ := h
  have hL := alike hP
  obtain ⟨A, p, q, B, rfl, hA, _, _, hb⟩ := braid_split hk
  rw [hb]
  generalize hn : Cv.deg (A ++ [p, q] ++ B) = n at *
  have hp : p.length = n ∧ IsP p := hL p (by simp)
  have hq : q.length = n ∧ IsP q := hL q (by simp)
  have hc := conj_isP hp hq
  have hL' : Alike n (A ++ [conj p q, p] ++ B) := fun r hr => by
    simp only [List.mem_append, List.mem_cons, List.not_mem_nil, or_false] at hr
    rcases hr with (hr | rfl | rfl) | hr
    · exact hL r (by simp [hr])
    · exact hc
    · exact hp
    · exact hL r (by simp [hr])
  have hlen : (A ++ [conj p q, p] ++ B).length = (A ++ [p, q] ++ B).length := by simp
  have hd' : Cv.deg (A ++ [conj p q, p] ++ B) = n := deg_of hL' (by simp; omega)
  have hcp : ∀ t, t < n → at_ p (at_ (conj p q) t) = at_ q (at_ p t) := fun t ht => by
    rw [conj_at (by omega)]
    have h1 := at_lt hp.2 (d := t) (by omega)
    have h2 := at_lt hq.2 (d := at_ p t) (by omega)
    exact Cv.mirror_at hp.2 (by omega)
  have hAl : Alike n A := fun r hr => hL r (by simp [hr])
  refine ⟨⟨by rw [hlen]; exact h5, ⟨fun r hr => ?_, by rw [hlen]; exact hP.2.1, by rw [hlen]; exact hP.2.2.1, by rw [hd', ← hn]; exact hP.2.2.2.1, by rw [hd', ← hn]; exact hP.2.2.2.2⟩, fun s hs => ?_⟩, hd', ?_, ?_⟩
  · rw [hd']; exact hL' r hr
  · rw [hd'] at hs
    refine Eq.trans ?_ (hid s hs)
    rw [mul_append, mul_append, mul_append, mul_append]
    congr 1
    exact hcp _ (mul_lt hAl hs)
  · unfold Cv.partsN
    rw [hd', hn]
    refine Cv.classes_ker (fun i j => ⟨fun e => ker_le (fun z hz => ?_) e, fun e => ker_le (fun z hz => ?_) e⟩) n
    · obtain ⟨r, hr, h1, h2⟩ := pairs_of hL' hz
      show Cv.lab _ _ = Cv.lab _ _
      rw [h2]
      simp only [List.mem_append, List.mem_cons, List.not_mem_nil, or_false] at hr
      rcases hr with (hr | rfl | rfl) | hr
      · exact lab_step hL (by simp [hr]) h1
      · have h3 := at_lt hp.2 (d := z.1) (by omega)
        have h4 := at_lt hc.2 (d := z.1) (by omega)
        have h5 := lab_step hL (p := p) (by simp) h1
        have h6 := lab_step hL (p := q) (by simp) (s := at_ p z.1) (by omega)
        have h7 := lab_step hL (p := p) (by simp) (s := at_ (conj p q) z.1) (by omega)
        rw [hcp _ h1] at h7
        exact h5.trans (h6.trans h7.symm)
      · exact lab_step hL (by simp) h1
      · exact lab_step hL (by simp [hr]) h1
    · obtain ⟨r, hr, h1, h2⟩ := pairs_of hL hz
      show Cv.lab _ _ = Cv.lab _ _
      rw [h2]
      simp only [List.mem_append, List.mem_cons, List.not_mem_nil, or_false] at hr
      rcases hr with (hr | rfl | rfl) | hr
      · exact lab_step hL' (by simp [hr]) h1
      · exact lab_step hL' (by simp) h1
      · obtain ⟨t, ht, e⟩ := (per_of hp).pre h1
        have h3 := at_lt hc.2 (d := t) (by omega)
        have h5 := lab_step hL' (p := p) (by simp) ht
        have h6 := lab_step hL' (p := conj p r) (by simp) ht
        have h7 := lab_step hL' (p := p) (by simp) (s := at_ (conj p r) t) (by omega)
        rw [hcp _ ht] at h7
        rw [e] at h5 h7
        exact h5.symm.trans (h6.trans h7)
      · exact lab_step hL' (by simp [hr]) h1
  · have e : defect (conj p q) = defect q := by
      unfold defect
      rw [cycles_num hc, cycles_num hq, hc.1, hq.1]
      rw [cnum_conj (per_of hc) (per_of hq) (per_of hp) (r := at_ (mirror p)) (fun x hx => ⟨inv_at hp.2 (by omega), Cv.mirror_at hp.2 (by omega), ?_⟩) (fun x hx => conj_at (by omega))]
      have := at_lt (Cv.mirror_isP hp.2) (d := x) (by rw [mirror_len]; omega)
      rw [mirror_len] at this; omega
    rw [total_append, total_append, total_append, total_append]
    simp only [total, List.map_cons, List.map_nil, List.sum_cons, List.sum_nil]
    rw [e]; omega

theorem parts_cN {l : List Int} (h : IsM l) : parts l = cN (at_ l) l.length := by
  unfold parts ring cN
  refine num_mem (pairsTo_lt h (Nat.le_refl _)) fun p => ?_
  rw [tied_mem]
  unfold pairsTo
  rw [List.mem_flatMap]
  constructor
  · rintro ⟨d, hd, hp⟩
    have hd := List.mem_range.1 hd
    simp only [pair1, List.mem_cons, List.not_mem_nil, or_false] at hp
    rcases hp with rfl | rfl
    · exact ⟨hd, Or.inl rfl⟩
    · exact ⟨hd, Or.inr rfl⟩
  · rintro ⟨h1, h2⟩
    refine ⟨p.1, List.mem_range.2 h1, ?_⟩
    simp only [pair1, List.mem_cons, List.not_mem_nil, or_false]
    rcases h2 with h2 | h2
    · exact Or.inl (by rw [← h2])
    · exact Or.inr (by rw [← h2])
/-- The passport of a map in one part. -/
theorem map_cover {m : List Int} (h : MapOk m) (hone : parts m = 1) : CoverOk (mapPass m) ∧ (cover (mapPass m)).1 = genus m := by
  obtain ⟨hM, h5⟩ := h
  have hok : CloseOk [m, mates m.length] := (map_ok hM).2 h5
  have e0 : mapPass m = [m, mates m.length] ++ [last [m, mates m.length]] := by
    unfold mapPass
    rw [if_pos ⟨hM, h5⟩]
    unfold closed
    rw [if_pos hok]
  have hpass := closed_pass hok
  have hPp := hok.2
  rw [e0]
  have hd : Cv.deg ([m, mates m.length] ++ [last [m, mates m.length]]) = m.length := rfl
  have hL := alike hpass.2.1
  rw [hd] at hL
  generalize hX : last [m, mates m.length] = X at *
  have hm := hL m (by simp)
  have hmt := hL (mates m.length) (by simp)
  have hXp := hL X (by simp)
  have hev := hM.2.2.1
  obtain ⟨n, hn⟩ : ∃ n, m.length = n := ⟨_, rfl⟩
  have hml : m.length = n ∧ IsP m := ⟨hn, hM.2.2.2⟩
  rw [hn] at hX hpass hd hL hPp hm hmt hXp hev ⊢
  replace hm := hml
  have hmx : ∀ t, t < n → at_ X (mate (at_ m t)) = t := fun t ht => by
    have := hpass.2.2 t (by rw [hd]; exact ht)
    rw [mul_append] at this
    have e : mul [m, mates n] t = mate (at_ m t) := by
      show at_ (mates n) (at_ m t) = _
      exact at_of_row ((per_of hm).lt t ht)
    rw [e] at this
    exact this
  have hfm := (per_mate hev).comp (per_of hm)
  have hcX : cnum (at_ X) n = cnum (fun k => at_ m (mate k)) n := by
    rw [cnum_inv hfm (per_of hXp) hmx]
    exact cnum_conj hfm ((per_of hm).comp (per_mate hev)) (per_mate hev) (r := mate) (fun x hx => ⟨mate_mate x, mate_mate x, mate_lt hev hx⟩) (fun x hx => by rw [mate_mate])
  have hcm : cnum (at_ (mates n)) n = n / 2 := by
    rw [cnum_congr (f := mate) (g := at_ (mates n)) (fun d hd => at_of_row hd)]; exact cnum_mate hev
  have hcn : num n (Cv.lab ([m, mates n] ++ [X])) = cN (at_ m) n := by
    unfold cN Cv.lab
    refine num_iff (pairs_in hL) (tied_in (per_of hm) hev) (fun z hz => ?_) (fun z hz => ?_)
    · obtain ⟨r, hr, h1, h2⟩ := pairs_of hL hz
      rw [h2]
      simp only [List.mem_append, List.mem_cons, List.not_mem_nil, or_false] at hr
      rcases hr with (rfl | rfl) | rfl
      · exact tied_arc h1
      · rw [show at_ (mates n) z.1 = mate z.1 from at_of_row h1]; exact tied_mate h1
      · obtain ⟨t, ht, e⟩ := hfm.pre h1
        rw [← e, hmx t ht]
        exact ((tied_arc (f := at_ m) ht).trans (tied_mate ((per_of hm).lt t ht))).symm
    · obtain ⟨h1, h2 | h2⟩ := tied_mem.1 hz
      · rw [h2]; exact lab_step hL (p := m) (by simp) h1
      · rw [h2]
        have := lab_step hL (p := mates n) (by simp) h1
        rw [show at_ (mates n) z.1 = mate z.1 from at_of_row h1] at this
        exact this
  have hpar : parts m = cN (at_ m) n := by
    have := parts_cN hM
    rw [hn] at this; exact this
  have hc : CoverOk ([m, mates n] ++ [X]) := ⟨hpass, by rw [parts_num hL hd, hcn, ← hpar, hone]⟩
  refine ⟨hc, ?_⟩
  have hf := (cover_facts hc).2
  rw [hd] at hf
  have ht : total ([m, mates n] ++ [X]) = ((n : Int) - (cnum (at_ m) n : Int)) + ((n : Int) - ((n / 2 : Nat) : Int)) + ((n : Int) - (cnum (fun k => at_ m (mate k)) n : Int)) := by
    simp only [total, List.map_append, List.map_cons, List.map_nil, List.sum_append, List.sum_cons, List.sum_nil, defect]
    rw [cycles_num hm, cycles_num hmt, cycles_num hXp, hm.1, hmt.1, hXp.1, hcX, hcm]; omega
  rw [genus_gen hM, hn]
  obtain ⟨k, g1, g2⟩ := gen_half (per_of hm) hev
  rw [g2, ← hpar, hone]
  unfold vN fN at g1
  omega
end Br
end Go.Proofs.YtamgimdjnmcpaaaGreat
namespace Go.Proofs.YtamgimdjnmcpaaaGreat
open Go.RowKit

namespace Cv
open Cls Mp Br
/-- Each class counts its members: together they are all. -/
theorem sum_members (c : Nat → Nat) (n : Nat) : ((classes c n).map List.length).sum = n := by
  have hn : ((firsts c n).map c).Nodup := by
    have hn : (firsts c n).Nodup := List.Nodup.sublist List.filter_sublist List.nodup_range
    rw [List.nodup_iff_pairwise_ne, List.pairwise_map]
    refine List.Pairwise.imp_of_mem ?_ (List.nodup_iff_pairwise_ne.1 hn)
    intro a b ha hb hab e
    have h1 := of_decide_eq_true (List.mem_filter.1 ha).2
    have h2 := of_decide_eq_true (List.mem_filter.1 hb).2
    rcases Nat.lt_trichotomy a b with h3 | h3 | h3
    · exact h2 a h3 e
    · exact hab h3
    · exact h1 b h3 e.symm
  have h1 := Cls.Scheme.sum_count c (List.range n) _ hn
  have h2 : (List.range n).countP (fun w => decide (c w ∈ (firsts c n).map c)) = n := by
    have : (List.range n).countP (fun w => decide (c w ∈ (firsts c n).map c)) = (List.range n).length := by
      rw [List.countP_eq_length]
      intro m hm
      obtain ⟨h1, h2, h3⟩ := leastOf_spec c m
      have := List.mem_range.1 hm
      exact decide_eq_true (List.mem_map.2 ⟨leastOf c m, List.mem_filter.2 ⟨List.mem_range.2 (by omega), decide_eq_true fun k hk e => h3 k hk (e.trans h1)⟩, h1⟩)
    rw [this, List.length_range]
  rw [h2, List.map_map] at h1
  refine Eq.trans (congrArg List.sum ?_) h1
  unfold classes
  rw [List.map_map]
  refine List.map_congr_left fun s _ => ?_
  show (member c n s).length = List.countP (fun w => c w == c s) (List.range n)
  unfold member
  rw [List.countP_eq_length_filter]
theorem count_app {s : Nat → Bool} {cs : List Nat} {n : Nat} (h1 : cs.Nodup) (h2 : ∀ x ∈ cs, x < n ∧ s x = false) : (List.range n).countP (Mp.seen s cs) = cs.length + (List.range n).countP s := by
  have e : (List.range n).countP (Mp.seen s cs) = (List.range n).countP (fun x => decide (x ∈ cs)) + (List.range n).countP s := by
    have key : ∀ l : List Nat, l.countP (Mp.seen s cs) = l.countP (fun x => decide (x ∈ cs)) + l.countP s := by
      intro l
      induction l with
      | nil => rfl
      | cons x l ih =>
        rw [List.countP_cons, List.countP_cons, List.countP_cons, ih]
        have e1 : Mp.seen s cs x = (decide (x ∈ cs) || s x) := rfl
        rw [e1]
        by_cases h3 : x ∈ cs
        · rw [decide_eq_true h3, (h2 x h3).2]
          simp only [Bool.true_or, if_true, Bool.false_eq_true, if_false]; omega
        · rw [decide_eq_false h3]
          cases s x <;> simp only [Bool.false_or, if_true, Bool.false_eq_true, if_false] <;> omega
    exact key _
  rw [e]
  congr 1
  rw [List.countP_eq_length_filter]
  refine List.Perm.length_eq ((List.perm_ext_iff_of_nodup (List.Nodup.sublist List.filter_sublist List.nodup_range) h1).2 fun x => ?_)
  rw [List.mem_filter, List.mem_range]
  constructor
  · rintro ⟨_, h⟩; exact of_decide_eq_true h
  · intro h; exact ⟨(h2 x h).1, decide_eq_true h⟩
/-- The cycles hold each number once. -/
theorem sum_cycTo {f : Nat → Nat} {n : Nat} (h : Per f n) : ∀ i, i ≤ n → ((cycTo f n i).2.map List.length).sum = (List.range n).countP (cycTo f n i).1
  | 0, _ => by
    rw [cycTo_zero]
    simp
  | i + 1, hi => by
    have ih := sum_cycTo h i (by omega)
    obtain ⟨c, d, m, hd⟩ := Mid2.ends h (n + 1) (s := (cycTo f n i).1) (first := i) (c := []) (d := i) (by simp) ⟨Mid.start f _ (by omega), fun _ h => (by cases h), fun _ h => (by cases h), rfl, Or.inr rfl⟩
    rw [cycTo_succ]
    unfold cycStep
    rw [m.mid.stop hd]
    by_cases he : c = []
    · rw [if_pos he]; exact ih
    · rw [if_neg he]
      show ((_ ++ [c]).map List.length).sum = List.countP (Mp.seen _ c) _
      rw [List.map_append, List.sum_append, ih, count_app m.mid.nodup (fun x hx => ⟨m.mid.lt x hx, m.mid.new x hx⟩)]
      simp; omega
theorem sum_cycles {f : Nat → Nat} {n : Nat} (h : Per f n) : ((cycTo f n n).2.map List.length).sum = n := by
  rw [sum_cycTo h n (Nat.le_refl _)]
  have : (List.range n).countP (cycTo f n n).1 = (List.range n).length := by
    rw [List.countP_eq_length]
    intro x hx
    exact ((cycTo_inv h n (Nat.le_refl _)).1 x (List.mem_range.1 hx)).2 ⟨x, List.mem_range.1 hx, rfl⟩
  rw [this, List.length_range]
theorem sum_perm {a b : List Int} (h : a.Perm b) : a.sum = b.sum := by
  induction h with
  | nil => rfl
  | cons x _ ih => simp [ih]
  | swap x y l => simp; omega
  | trans _ _ h1 h2 => exact h1.trans h2
theorem sum_cast (l : List (List Nat)) : (l.map fun c => (c.length : Int)).sum = (((l.map List.length).sum : Nat) : Int) := by
  induction l with
  | nil => rfl
  | cons x l ih => simp only [List.map_cons, List.sum_cons, ih]; omega
theorem act_per {L : List (List Int)} {w : List Int} (h : Ok L w) : Per (act L w) (deg L) :=
  ⟨fun _ hd => act_lt h.1 (ok_lets h) hd, fun _ _ hd he hh => act_inj h.1 (ok_lets h) hd he hh⟩
/-- The lifts' lengths together are all the sheets. -/
theorem lifts_sum (L : List (List Int)) (w : List Int) : (lifts L w).sum = ((actW L w).length : Int) := by
  unfold lifts actW
  by_cases h : Ok L w
  · rw [if_pos h, if_pos h, row_len, sum_perm (List.mergeSort_perm _ _), sum_cast]
    unfold liftsN
    rw [sum_cycles (act_per h)]
  · rw [if_neg h, if_neg h]; rfl

set_option maxRecDepth 100000 in
theorem table : (acts 0 1 = 1 ∧ acts 0 2 = 4 ∧ acts 0 3 = 36) ∧ (acts 1 1 = 1 ∧ acts 1 2 = 4 ∧ acts 1 3 = 18) ∧ (acts 2 1 = 1 ∧ acts 2 2 = 16 ∧ acts 2 3 = 486) := by decide +kernel

/-! ### Euler numbers of covers -/
/-- What f does among some, and nothing elsewhere. -/
def among (S : Nat → Bool) (f : Nat → Nat) (x : Nat) : Nat := if S x then f x else x
theorem among_per {S : Nat → Bool} {f : Nat → Nat} {n : Nat} (h : Per f n) (hS : ∀ x, x < n → S (f x) = S x) : Per (among S f) n := by
  refine ⟨fun d hd => ?_, fun d e hd he hh => ?_⟩
  · unfold among; split
    · exact h.lt d hd
    · exact hd
  · unfold among at hh
    have h1 := hS d hd
    have h2 := hS e he
    by_cases e1 : S d = true
    · rw [if_pos e1] at hh
      by_cases e2 : S e = true
      · rw [if_pos e2] at hh; exact h.inj d e hd he hh
      · rw [if_neg e2] at hh; rw [hh] at h1; rw [e1] at h1; exact absurd h1 e2
    · rw [if_neg e1] at hh
      by_cases e2 : S e = true
      · rw [if_pos e2] at hh; rw [← hh, e2] at h2; exact absurd h2 e1
      · rw [if_neg e2] at hh; exact hh
theorem parity {f g : Nat → Nat} {n : Nat} (hf : Per f n) (hg : Per g n) : (cnum (fun k => f (g k)) n + cnum f n + cnum g n + n) % 2 = 0 :=
  (rh hf hg (arcs_in hg) fun _ hk => arcs_same hk).2
theorem cyc_other {f g : Nat → Nat} {n : Nat} {S : Nat → Bool} (h : ∀ x, x < n → S x = true → f x = g x ∧ f x < n ∧ S (f x) = true) : ∀ (k : Nat) (s : Nat → Bool) (d : Nat), d < n → S d = true → cyc f k s d = cyc g k s d
  | 0, _, _, _, _ => rfl
  | k + 1, s, d, hd, hSd => by
    obtain ⟨h1, h2, h3⟩ := h d hd hSd
    unfold cyc
    split
    · rfl
    · rw [cyc_other h k _ (f d) h2 h3, h1]
theorem cycIn_other {f g : Nat → Nat} {n : Nat} {S : Nat → Bool} (h : ∀ x, x < n → S x = true → f x = g x ∧ f x < n ∧ S (f x) = true) (ms : List Nat) (hms : ∀ m ∈ ms, m < n ∧ S m = true) : cycIn f n ms = cycIn g n ms := by
  refine snoc_ind (p := fun ms => (∀ m ∈ ms, m < n ∧ S m = true) → cycIn f n ms = cycIn g n ms) (fun _ => rfl) (fun l m ih hl => ?_) ms hms
  have := ih fun x hx => hl x (List.mem_append.2 (Or.inl hx))
  rw [cycIn_snoc, cycIn_snoc, this]
  have hm := hl m (List.mem_append.2 (Or.inr (List.mem_singleton.2 rfl)))
  unfold cycStep
  rw [cyc_other h (n + 1) _ m hm.1 hm.2]
theorem cycIn_still {f : Nat → Nat} {n : Nat} (ms : List Nat) (hn : ms.Nodup) (h : ∀ m ∈ ms, f m = m) : (cycIn f n ms).2.length = ms.length ∧ ∀ x, (cycIn f n ms).1 x = decide (x ∈ ms) := by
  refine snoc_ind (p := fun ms => ms.Nodup → (∀ m ∈ ms, f m = m) → (cycIn f n ms).2.length = ms.length ∧ ∀ x, (cycIn f n ms).1 x = decide (x ∈ ms)) (fun _ _ => ⟨rfl, fun x => by simp [cycIn]⟩) (fun l m ih hn hl => ?_) ms hn h
  have hn' := List.nodup_append.1 hn
  obtain ⟨h1, h2⟩ := ih hn'.1 fun x hx => hl x (List.mem_append.2 (Or.inl hx))
  have hfm := hl m (List.mem_append.2 (Or.inr (List.mem_singleton.2 rfl)))
  have hml : m ∉ l := fun hh => hn'.2.2 m hh m (List.mem_singleton.2 rfl) rfl
  have hc : cyc f (n + 1) (cycIn f n l).1 m = [m] := by
    unfold cyc
    rw [h2 m, decide_eq_false hml]
    simp only [Bool.false_eq_true, if_false]
    congr 1
    cases n with
    | zero => rfl
    | succ n => unfold cyc; rw [hfm]; simp
  rw [cycIn_snoc]
  unfold cycStep
  rw [hc, if_neg (by simp)]
  refine ⟨by simp [h1], fun x => ?_⟩
  show Mp.seen _ [m] x = _
  unfold Mp.seen
  rw [h2 x]
  simp [Bool.or_comm]
theorem filter_both {α : Type} (p : α → Bool) (l : List α) : (l.filter p).length + (l.filter fun x => !p x).length = l.length := by
  induction l with
  | nil => rfl
  | cons x l ih => cases h : p x <;> simp [List.filter_cons, h] <;> omega
/-- How many cycles there are, when only some are moved. -/
theorem among_cnum {S : Nat → Bool} {f : Nat → Nat} {n : Nat} (h : Per f n) (hS : ∀ x, x < n → S (f x) = S x) : cnum (among S f) n + ((List.range n).filter S).length = (cycIn f n ((List.range n).filter S)).2.length + n := by
  have hp := among_per h hS
  have hS' : ∀ x, x < n → among S f x < n ∧ S (among S f x) = S x := fun x hx => ⟨hp.lt x hx, by unfold among; split; exact hS x hx; rfl⟩
  have h1 := (cycIn_filter (f := among S f) (n := n) (S := S) hS' (List.range n) fun m hm => List.mem_range.1 hm).2
  have h2 := (cycIn_filter (f := among S f) (n := n) (S := fun x => !S x) (fun x hx => ⟨(hS' x hx).1, by rw [(hS' x hx).2]⟩) (List.range n) fun m hm => List.mem_range.1 hm).2
  rw [cycIn_range] at h1 h2
  have h3 := filter_both (fun c => S (c.headD 0)) (cycTo (among S f) n n).2
  rw [← h1, ← h2, cyc_count hp] at h3
  have h4 := (cycIn_still (f := among S f) (n := n) ((List.range n).filter fun x => !S x) (List.Nodup.sublist List.filter_sublist List.nodup_range) fun m hm => by
    have := (List.mem_filter.1 hm).2
    unfold among; rw [if_neg (by simpa using this)]).1
  have h5 := filter_both S (List.range n)
  rw [List.length_range] at h5
  have h6 := cycIn_other (f := f) (g := among S f) (n := n) (S := S) (fun x hx hs => ⟨by unfold among; rw [if_pos hs], h.lt x hx, by rw [hS x hx]; exact hs⟩) ((List.range n).filter S) fun m hm => ⟨List.mem_range.1 (List.mem_filter.1 hm).1, (List.mem_filter.1 hm).2⟩
  rw [h6]; omega
theorem rim_even {L : List (List Int)} (h : Perms L) (h2 : 2 ≤ L.length) (s : Nat) : (rimIn L (member (lab L) (deg L) s) + (member (lab L) (deg L) s).length) % 2 = 0 := by
  obtain ⟨a, ha⟩ := get_some (show 0 < L.length by omega)
  obtain ⟨b, hb⟩ := get_some (show 1 < L.length by omega)
  have hA := h.1 a (get_mem ha)
  have hB := h.1 b (get_mem hb)
  generalize hn : deg L = n at *
  have lstep : ∀ {p : List Int}, p ∈ L → ∀ {x : Nat}, x < n → lab L (at_ p x) = lab L x := fun {p} hp {x} hx => lab_at h hp (by rw [hn]; exact hx)
  let S : Nat → Bool := fun t => lab L t == lab L s
  have hSa : ∀ x, x < n → S (at_ a x) = S x := fun x hx => by show (lab L _ == _) = _; rw [lstep (get_mem ha) hx]
  have hSb : ∀ x, x < n → S (at_ b x) = S x := fun x hx => by show (lab L _ == _) = _; rw [lstep (get_mem hb) hx]
  have pa := per_of hA
  have pb := per_of hB
  have pa' : Per (at_ (mirror a)) n := per_of ⟨by rw [mirror_len]; exact hA.1, mirror_isP hA.2⟩
  have pb' : Per (at_ (mirror b)) n := per_of ⟨by rw [mirror_len]; exact hB.1, mirror_isP hB.2⟩
  have ia : ∀ x, x < n → at_ (mirror a) (at_ a x) = x := fun x hx => inv_at hA.2 (by omega)
  have ib : ∀ x, x < n → at_ (mirror b) (at_ b x) = x := fun x hx => inv_at hB.2 (by omega)
  have ja : ∀ x, x < n → at_ a (at_ (mirror a) x) = x := fun x hx => mirror_at hA.2 (by omega)
  have jb : ∀ x, x < n → at_ b (at_ (mirror b) x) = x := fun x hx => mirror_at hB.2 (by omega)
  have hSa' : ∀ x, x < n → S (at_ (mirror a) x) = S x := fun x hx => by have := hSa _ (pa'.lt x hx); rw [ja x hx] at this; exact this.symm
  have hSb' : ∀ x, x < n → S (at_ (mirror b) x) = S x := fun x hx => by have := hSb _ (pb'.lt x hx); rw [jb x hx] at this; exact this.symm
  have i1 : ∀ x, img L x 1 = at_ a x := fun x => by have := img_letter ha x; exact this
  have i2 : ∀ x, img L x 2 = at_ b x := fun x => by have := img_letter hb x; exact this
  have e1 : L.getD 0 [] = a := by rw [List.getD_eq_getElem?_getD, ha]; rfl
  have e2 : L.getD 1 [] = b := by rw [List.getD_eq_getElem?_getD, hb]; rfl
  have i3 : ∀ x, img L x (-1) = at_ (mirror a) x := fun x => by
    show at_ (perm L (-1)) x = _
    have : perm L (-1) = mirror a := by show (if (-1 : Int) < 0 then mirror (L.getD 0 []) else L.getD 0 []) = _; rw [if_pos (by decide), e1]
    rw [this]
  have i4 : ∀ x, img L x (-2) = at_ (mirror b) x := fun x => by
    show at_ (perm L (-2)) x = _
    have : perm L (-2) = mirror b := by show (if (-2 : Int) < 0 then mirror (L.getD 1 []) else L.getD 1 []) = _; rw [if_pos (by decide), e2]
    rw [this]
  have hrim : ∀ x, rim L x = at_ (mirror b) (at_ (mirror a) (at_ b (at_ a x))) := fun x => by
    show img L (img L (img L (img L x 1) 2) (-1)) (-2) = _
    rw [i1, i2, i3, i4]
  have prim : Per (rim L) n := (pb'.comp (pa'.comp (pb.comp pa))).congr fun d _ => hrim d
  have hSr : ∀ x, x < n → S (rim L x) = S x := fun x hx => by
    rw [hrim, hSb' _ (pa'.lt _ (pb.lt _ (pa.lt x hx))), hSa' _ (pb.lt _ (pa.lt x hx)), hSb _ (pa.lt x hx), hSa x hx]
  have qa := among_per pa hSa
  have qb := among_per pb hSb
  have qa' := among_per pa' hSa'
  have qb' := among_per pb' hSb'
  have c1 : cnum (among S (at_ (mirror a))) n = cnum (among S (at_ a)) n := cnum_inv qa qa' fun d hd => by
    unfold among
    by_cases e : S d = true
    · rw [if_pos e, if_pos (by rw [hSa d hd]; exact e), ia d hd]
    · rw [if_neg e, if_neg e]
  have c2 : cnum (among S (at_ (mirror b))) n = cnum (among S (at_ b)) n := cnum_inv qb qb' fun d hd => by
    unfold among
    by_cases e : S d = true
    · rw [if_pos e, if_pos (by rw [hSb d hd]; exact e), ib d hd]
    · rw [if_neg e, if_neg e]
  have p1 := parity qb qa
  have p2 := parity qa' (qb.comp qa)
  have p3 := parity qb' (qa'.comp (qb.comp qa))
  have e3 : cnum (among S (rim L)) n = cnum (fun k => among S (at_ (mirror b)) (among S (at_ (mirror a)) (among S (at_ b) (among S (at_ a) k)))) n := cnum_congr fun d hd => by
    unfold among
    by_cases e : S d = true
    · have h1 := hSa d hd
      have h2 := hSb _ (pa.lt d hd)
      have h3 := hSa' _ (pb.lt _ (pa.lt d hd))
      rw [if_pos e, if_pos e, if_pos (h1.trans e), if_pos (h2.trans (h1.trans e)), if_pos (h3.trans (h2.trans (h1.trans e))), hrim]
    · rw [if_neg e, if_neg e, if_neg e, if_neg e, if_neg e]
  have h5 := among_cnum prim hSr
  have h6 : rimIn L (member (lab L) n s) = (cycIn (rim L) n ((List.range n).filter S)).2.length := by unfold rimIn; rw [hn]; rfl
  have h7 : (member (lab L) n s).length = ((List.range n).filter S).length := rfl
  rw [h6, h7]
  have h8 := cnum_le (among S (rim L)) n
  omega
/-- Euler's number of a cover of a part is as many times that of the surface below. -/
def base (g : Int) : Int := if g = 0 then -1 else if g = 1 then 0 else -2
def euler3 (s : Int × Int × Int) : Int := 2 - 2 * s.1 - s.2.1 - s.2.2
theorem rimIn_le (L : List (List Int)) (ms : List Nat) : rimIn L ms ≤ ms.length := by
  unfold rimIn
  refine snoc_ind (p := fun ms => (cycIn (rim L) (deg L) ms).2.length ≤ ms.length) (Nat.le_refl _) (fun l m ih => ?_) ms
  rw [cycIn_snoc]
  unfold cycStep
  split
  · rw [List.length_append]; omega
  · rw [List.length_append]; simp; omega
theorem cover_euler {g : Int} {L : List (List Int)} (h : Act g L) {part : List Nat} (hp : part ∈ partsN L) :
    euler3 (coverOf g L part) = base g * (part.length : Int) ∧ 0 ≤ (coverOf g L part).1 ∧ (coverOf g L part).1 ≤ 20 ∧ (coverOf g L part).2.1 = 0 ∧ 0 ≤ (coverOf g L part).2.2 ∧ (coverOf g L part).2.2 ≤ 20 := by
  obtain ⟨⟨g0, g2⟩, hP, hl, _⟩ := h
  obtain ⟨s, hs, rfl⟩ := List.mem_map.1 (show part ∈ (firsts (lab L) (deg L)).map (member (lab L) (deg L)) from hp)
  have hle := rimIn_le L (member (lab L) (deg L) s)
  have hm : (member (lab L) (deg L) s).length ≤ 5 := by
    have : (member (lab L) (deg L) s).length ≤ (List.range (deg L)).length := List.length_filter_le _ _
    rw [List.length_range] at this
    exact Nat.le_trans this hP.2.2.2.2
  have hev := rim_even hP (by omega) s
  generalize member (lab L) (deg L) s = m at *
  generalize hr : rimIn L m = r at *
  unfold coverOf euler3 base
  rw [hr]
  rcases (show g = 0 ∨ g = 1 ∨ g = 2 by omega) with rfl | rfl | rfl
  · simp only [if_true]
    refine ⟨?_, ?_, ?_, trivial, ?_, ?_⟩ <;> omega
  · simp
  · simp
    omega
theorem covers_sum {g : Int} {L : List (List Int)} (h : Act g L) : ((covers g L).map euler3).sum = base g * (deg L : Int) := by
  unfold covers
  rw [if_pos h, List.map_map]
  have h1 : ((partsN L).map (euler3 ∘ coverOf g L)) = (partsN L).map fun part => base g * (part.length : Int) := List.map_congr_left fun part hp => (cover_euler h hp).1
  rw [h1]
  have h2 : ∀ l : List (List Nat), (l.map fun part => base g * (part.length : Int)).sum = base g * (((l.map List.length).sum : Nat) : Int) := by
    intro l
    induction l with
    | nil => simp
    | cons x l ih => simp only [List.map_cons, List.sum_cons, ih, Int.natCast_add, Int.mul_add]
  rw [h2]
  unfold partsN
  rw [sum_members]

/-! ### Symmetries -/
theorem all_mem : ∀ {n : Nat} {o : List Nat}, o.Perm (List.range n) → o ∈ all n
  | 0, o, h => by
    have : o = [] := List.perm_nil.1 (by simpa using h)
    rw [this]; exact List.mem_singleton.2 rfl
  | n + 1, o, h => by
    have hm : n ∈ o := h.mem_iff.2 (List.mem_range.2 (by omega))
    obtain ⟨A, B, rfl⟩ := List.append_of_mem hm
    have h1 : (A ++ B).Perm (List.range n) := by
      have h2 : (n :: (A ++ B)).Perm (n :: List.range n) := by
        refine (List.perm_middle (l₁ := A) (a := n) (l₂ := B)).symm.trans (h.trans ?_)
        rw [List.range_succ]
        exact List.perm_append_singleton n (List.range n)
      exact (List.perm_cons n).1 h2
    have hl := h1.length_eq
    rw [List.length_range, List.length_append] at hl
    refine List.mem_flatMap.2 ⟨A ++ B, all_mem h1, List.mem_map.2 ⟨A.length, List.mem_range.2 (by omega), ?_⟩⟩
    unfold Gr.put
    simp
theorem all_nodup {n : Nat} (h : n ≤ 5) : (all n).Nodup := by
  have : ∀ n, n ≤ 5 → (all n).Nodup := by decide +kernel
  exact this n h
/-- The permutations that commute with all. -/
def rowOf (o : List Nat) : List Int := o.map fun d => ((d : Nat) : Int)
def syms (L : List (List Int)) : List (List Nat) := (all (deg L)).filter fun o => decide (Symm L (rowOf o))
theorem syms_len {L : List (List Int)} (h : Perms L) : symms L = ((syms L).length : Int) := by
  unfold symms syms
  rw [if_pos h]
  unfold natRows
  rw [List.countP_map, List.countP_eq_length_filter]; rfl
theorem rowOf_at {o : List Nat} (s : Nat) : at_ (rowOf o) s = o.getD s 0 := by
  unfold at_ rowOf
  rw [List.getD_eq_getElem?_getD, List.getD_eq_getElem?_getD, List.getElem?_map]
  cases o[s]? <;> simp
theorem sym_facts {L : List (List Int)} (h : Perms L) {o : List Nat} (ho : o ∈ syms L) : o.length = deg L ∧ Per (fun s => o.getD s 0) (deg L) ∧ ∀ q ∈ L, ∀ s, s < deg L → o.getD (at_ q s) 0 = at_ q (o.getD s 0) := by
  obtain ⟨h1, h2⟩ := List.mem_filter.1 ho
  have h2 := of_decide_eq_true h2
  have h3 := all_row h1
  obtain ⟨h4, h5⟩ := all_isP (n := deg L) (r := rowOf o) (by unfold natRows; exact List.mem_map.2 ⟨o, h1, rfl⟩)
  refine ⟨h3, ?_, fun q hq s hs => ?_⟩
  · have := per_of ⟨h4, h5⟩
    exact this.congr fun d _ => (rowOf_at d).symm
  · have := h2 q hq s (by rw [(h.1 q hq).1]; exact hs)
    rwa [rowOf_at, rowOf_at] at this
theorem sym_of {L : List (List Int)} (h : Perms L) {f : Nat → Nat} (hf : Per f (deg L)) (hc : ∀ q ∈ L, ∀ s, s < deg L → f (at_ q s) = at_ q (f s)) : (List.range (deg L)).map f ∈ syms L := by
  refine List.mem_filter.2 ⟨all_mem hf.perm, decide_eq_true fun q hq s hs => ?_⟩
  have hq' := h.1 q hq
  rw [hq'.1] at hs
  have hg : ∀ t, t < deg L → ((List.range (deg L)).map f).getD t 0 = f t := fun t ht => by
    rw [List.getD_eq_getElem?_getD]; simp [ht]
  rw [rowOf_at, rowOf_at, hg _ hs, hg _ ((per_of hq').lt s hs)]
  exact hc q hq s hs
theorem one_lab {L : List (List Int)} (h : (partsN L).length = 1) {s t : Nat} (hs : s < deg L) (ht : t < deg L) : lab L s = lab L t := by
  unfold partsN classes at h
  rw [List.length_map] at h
  have key : ∀ m, m < deg L → leastOf (lab L) m ∈ firsts (lab L) (deg L) := fun m hm => by
    obtain ⟨h1, h2, h3⟩ := leastOf_spec (lab L) m
    exact List.mem_filter.2 ⟨List.mem_range.2 (by omega), decide_eq_true fun k hk e => h3 k hk (e.trans h1)⟩
  obtain ⟨x, hx⟩ := List.length_eq_one_iff.1 h
  have h1 := key s hs
  have h2 := key t ht
  rw [hx] at h1 h2
  have e : leastOf (lab L) s = leastOf (lab L) t := (List.mem_singleton.1 h1).trans (List.mem_singleton.1 h2).symm
  rw [← (leastOf_spec (lab L) s).1, ← (leastOf_spec (lab L) t).1, e]
theorem sym_same {L : List (List Int)} (h : Perms L) (h1 : (partsN L).length = 1) {o o' : List Nat} (ho : o ∈ syms L) (ho' : o' ∈ syms L) {s : Nat} (hs : s < deg L) (e : o.getD s 0 = o'.getD s 0) : o = o' := by
  obtain ⟨a1, a2, a3⟩ := sym_facts h ho
  obtain ⟨b1, b2, b3⟩ := sym_facts h ho'
  have key : ∀ t, t < deg L → o.getD t 0 = o'.getD t 0 := fun t ht => by
    have := ker_le (F := fun x => decide (o.getD x 0 = o'.getD x 0)) (fun z hz => by
      obtain ⟨q, hq, hz1, hz2⟩ := pairs_of (alike h) hz
      show decide (o.getD z.1 0 = o'.getD z.1 0) = decide (o.getD z.2 0 = o'.getD z.2 0)
      rw [hz2, a3 q hq _ hz1, b3 q hq _ hz1]
      refine decide_eq_decide.2 ⟨fun e => by rw [e], fun e => ?_⟩
      exact (per_of (h.1 q hq)).inj _ _ (a2.lt _ hz1) (b2.lt _ hz1) e) (one_lab h1 hs ht)
    have this : decide (o.getD s 0 = o'.getD s 0) = decide (o.getD t 0 = o'.getD t 0) := this
    rw [decide_eq_true e] at this
    exact of_decide_eq_true this.symm
  apply List.ext_getElem?
  intro t
  by_cases ht : t < deg L
  · have := key t ht
    rw [List.getD_eq_getElem?_getD, List.getD_eq_getElem?_getD, List.getElem?_eq_getElem (by omega), List.getElem?_eq_getElem (by omega)] at this
    rw [List.getElem?_eq_getElem (by omega), List.getElem?_eq_getElem (by omega)]
    exact congrArg some this
  · rw [List.getElem?_eq_none (by omega), List.getElem?_eq_none (by omega)]
/-- Which sheets the symmetries lead to one another. -/
def near (L : List (List Int)) (s t : Nat) : Prop := ∃ o ∈ syms L, o.getD s 0 = t
instance (L : List (List Int)) (s t : Nat) : Decidable (near L s t) := by unfold near; exact inferInstance
theorem near_refl {L : List (List Int)} (h : Perms L) {s : Nat} (hs : s < deg L) : near L s s :=
  ⟨_, sym_of h (f := fun x => x) ⟨fun _ h => h, fun _ _ _ _ h => h⟩ (fun _ _ _ _ => rfl), by rw [List.getD_eq_getElem?_getD]; simp [hs]⟩
theorem near_symm {L : List (List Int)} (h : Perms L) {s t : Nat} (hs : s < deg L) (hn : near L s t) : near L t s := by
  obtain ⟨o, ho, rfl⟩ := hn
  obtain ⟨a1, a2, a3⟩ := sym_facts h ho
  have hP := (all_isP (n := deg L) (r := rowOf o) (by unfold natRows; exact List.mem_map.2 ⟨o, (List.mem_filter.1 ho).1, rfl⟩))
  have hi : ∀ x, x < deg L → at_ (mirror (rowOf o)) (o.getD x 0) = x := fun x hx => by
    have := inv_at hP.2 (x := x) (by rw [hP.1]; exact hx)
    rwa [rowOf_at] at this
  have hj : ∀ x, x < deg L → o.getD (at_ (mirror (rowOf o)) x) 0 = x := fun x hx => by
    have := mirror_at hP.2 (d := x) (by rw [hP.1]; exact hx)
    rwa [rowOf_at] at this
  have pm : Per (at_ (mirror (rowOf o))) (deg L) := per_of ⟨by rw [mirror_len, hP.1], mirror_isP hP.2⟩
  refine ⟨_, sym_of h pm (fun q hq x hx => ?_), ?_⟩
  · have h1 := a3 q hq _ (pm.lt x hx)
    rw [hj x hx] at h1
    rw [← h1]
    exact hi _ ((per_of (h.1 q hq)).lt _ (pm.lt x hx))
  · rw [List.getD_eq_getElem?_getD]
    have := a2.lt s hs
    simp only [List.getElem?_map, List.getElem?_range this, Option.map_some, Option.getD_some]
    exact hi s hs
theorem near_trans {L : List (List Int)} (h : Perms L) {s t u : Nat} (hs : s < deg L) (h1 : near L s t) (h2 : near L t u) : near L s u := by
  obtain ⟨o, ho, rfl⟩ := h1
  obtain ⟨o', ho', rfl⟩ := h2
  obtain ⟨a1, a2, a3⟩ := sym_facts h ho
  obtain ⟨b1, b2, b3⟩ := sym_facts h ho'
  refine ⟨_, sym_of h (b2.comp a2) (fun q hq x hx => ?_), ?_⟩
  · show o'.getD (o.getD _ 0) 0 = at_ q (o'.getD (o.getD x 0) 0)
    rw [a3 q hq x hx, b3 q hq _ (a2.lt x hx)]
  · rw [List.getD_eq_getElem?_getD]; simp [hs]
def orb (L : List (List Int)) (s : Nat) : Nat := ((List.range (deg L)).find? fun t => decide (near L s t)).getD 0
theorem orb_near {L : List (List Int)} (h : Perms L) {s : Nat} (hs : s < deg L) : near L s (orb L s) ∧ orb L s < deg L := by
  unfold orb
  cases he : (List.range (deg L)).find? (fun t => decide (near L s t)) with
  | none =>
    have := List.find?_eq_none.1 he s (List.mem_range.2 hs)
    exact absurd (near_refl h hs) (by simpa using this)
  | some t =>
    simp only [Option.getD_some]
    rw [List.find?_range_eq_some] at he
    exact ⟨by simpa using he.1, List.mem_range.1 he.2.1⟩
theorem orb_iff {L : List (List Int)} (h : Perms L) {s t : Nat} (hs : s < deg L) (ht : t < deg L) : orb L t = orb L s ↔ near L s t := by
  constructor
  · intro e
    have h1 := orb_near h hs
    have h2 := orb_near h ht
    rw [e] at h2
    exact near_trans h hs h1.1 (near_symm h ht h2.1)
  · intro hn
    unfold orb
    congr 1
    congr 1
    funext u
    exact decide_eq_decide.2 ⟨near_trans h hs hn, near_trans h ht (near_symm h hs hn)⟩
theorem symms_div {L : List (List Int)} (h : Perms L) (h1 : (partsN L).length = 1) : 1 ≤ symms L ∧ (deg L : Int) % symms L = 0 := by
  have h5 := h.2.2.2.2
  have h0 := h.2.2.2.1
  have hpos : 1 ≤ (syms L).length := by
    obtain ⟨o, ho, _⟩ := near_refl h (s := 0) (by omega)
    exact List.length_pos_of_mem ho
  rw [syms_len h]
  have hR := Cls.Scheme.sum_count (orb L) (List.range (deg L)) (found (orb L) (List.range (deg L))) (found_nodup _ _)
  have hall : (List.range (deg L)).countP (fun w => decide (orb L w ∈ found (orb L) (List.range (deg L)))) = deg L := by
    have : (List.range (deg L)).countP (fun w => decide (orb L w ∈ found (orb L) (List.range (deg L)))) = (List.range (deg L)).length := by
      rw [List.countP_eq_length]
      intro m hm
      exact decide_eq_true ((found_mem _ _ _).2 ⟨m, hm, rfl⟩)
    rw [this, List.length_range]
  rw [hall, sum_const (m := (syms L).length) (fun r hr => ?_)] at hR
  · refine ⟨by omega, ?_⟩
    have : deg L % (syms L).length = 0 := by rw [← hR]; exact Nat.mul_mod_left _ _
    omega
  · obtain ⟨s, hs, rfl⟩ := (found_mem _ _ _).1 hr
    have hs := List.mem_range.1 hs
    rw [List.countP_eq_length_filter]
    refine Eq.trans (List.Perm.length_eq (l₂ := (syms L).map fun o => o.getD s 0) ?_) (by rw [List.length_map])
    refine ((List.perm_ext_iff_of_nodup (List.Nodup.sublist List.filter_sublist List.nodup_range) ?_).2 fun t => ?_)
    · have hn : (syms L).Nodup := List.Nodup.sublist List.filter_sublist (all_nodup h5)
      rw [List.nodup_iff_pairwise_ne, List.pairwise_map]
      refine List.Pairwise.imp_of_mem ?_ (List.nodup_iff_pairwise_ne.1 hn)
      intro a b ha hb hab e
      exact hab (sym_same h h1 ha hb hs e)
    · rw [List.mem_filter, List.mem_range, List.mem_map, beq_iff_eq]
      constructor
      · rintro ⟨ht, e⟩; exact (orb_iff h hs ht).1 e
      · intro hn
        obtain ⟨o, ho, e⟩ := hn
        have ht : t < deg L := by rw [← e]; exact (sym_facts h ho).2.1.lt s hs
        exact ⟨ht, (orb_iff h hs ht).2 ⟨o, ho, e⟩⟩
end Cv
end Go.Proofs.YtamgimdjnmcpaaaGreat
