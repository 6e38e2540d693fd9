/-
  The topology of gluings: circles of a scheme of sides, its letters, polygons and parts; that Euler's number is at most twice the parts less the circles, and even with them where it is two-sided. Permutations of darts: how many cycles they have when two images change places; that Euler's number of a map is even and at most twice its parts; how the genus changes when a dart is laid behind another. The genus of maps: of the dual and of the mirror image; an edge that is left out; an edge with a vertex on it. The cycles of a map are counted; the genus of maps with an edge less, an edge more, a vertex on an edge. Graphs, as functions of lists: what the document's chapter on graphs says of them. Rotations of graphs: darts that are laid behind others make each rotation once; rows that count. Rotations of graphs, one after another: in the order of the darts, and vertex after vertex, each comes once.
-/
import Derived.Test.YtamgimdjnmcpaaaGreatBase
import Derived.Test.YtamgimdjnmcpaaaGreatClass
import Derived.Test.YtamgimdjnmcpaaaGreatTri
import Derived.Test.YtamgimdjnmcpaaaGreatMap
import Derived.Test.YtamgimdjnmcpaaaGreatSlice
import Derived.Test.YtamgimdjnmcpaaaGreatInts
import Derived.Test.YtamgimdjnmcpaaaGreatGrid
import Derived.Test.YtamgimdjnmcpaaaGreatLab
namespace Go.Proofs.YtamgimdjnmcpaaaGreat

namespace Cls
theorem filter_less {l : List Nat} {P : Nat → Bool} {r : Nat} (hn : l.Nodup) (hr : r ∈ l) (hp : P r = true) : (l.filter fun v => P v && v != r).length + 1 = (l.filter P).length := by
  induction l with
  | nil => cases hr
  | cons x l ih =>
    rw [List.nodup_cons] at hn
    rw [List.filter_cons, List.filter_cons]
    by_cases e : x = r
    · subst e
      have : (l.filter fun v => P v && v != x) = l.filter P := List.filter_congr fun v hv => by
        have : v ≠ x := fun h => hn.1 (h ▸ hv)
        simp [this]
      simp [hp, this]
    · have hr' : r ∈ l := (List.mem_cons.1 hr).resolve_left (fun h => e h.symm)
      have := ih hn.2 hr'
      by_cases hx : P x = true
      · simp [hx, e, ← this]
      · simp [hx, this]
/-- How many classes of S there are, below N. -/
def numS (S : Nat → Bool) (N : Nat) (c : Nat → Nat) : Nat := ((List.range N).filter fun v => S v && c v == v).length
def num (N : Nat) (c : Nat → Nat) : Nat := tally c (List.range N)
theorem num_numS (N : Nat) (c : Nat → Nat) : num N c = numS (fun _ => true) N c := by simp [num, numS, tally]
theorem numS_same {S : Nat → Bool} {N : Nat} {c : Nat → Nat} {p : Nat × Nat} (h : c p.1 = c p.2) : numS S N (merge c p) = numS S N c := by
  have : merge c p = c := funext fun k => by unfold merge; split <;> simp_all
  rw [this]
theorem numS_out {S : Nat → Bool} {N : Nat} {c : Nat → Nat} (hc : Ok c N) {p : Nat × Nat} (h1 : p.1 < N) (h2 : p.2 < N) (hs : S (c p.1) = false) : numS S N (merge c p) = numS S N c := by
  unfold numS
  refine congrArg List.length (List.filter_congr fun v hv => ?_)
  have hv := List.mem_range.1 hv
  unfold merge
  by_cases hS : S v = true
  · rw [hS, Bool.true_and, Bool.true_and]
    by_cases e : c v = c p.1
    · have : c v ≠ v := fun h => by rw [← e, h, hS] at hs; cases hs
      rw [if_pos e]
      have h3 : c p.2 ≠ v := by
        intro h
        have := hc.idem _ h2
        rw [h] at this
        exact absurd this (by assumption)
      rw [beq_eq_false_iff_ne.2 this, beq_eq_false_iff_ne.2 h3]
    · rw [if_neg e]
  · simp [hS]
theorem numS_diff {S : Nat → Bool} {N : Nat} {c : Nat → Nat} (hc : Ok c N) {p : Nat × Nat} (h1 : p.1 < N) (h2 : p.2 < N) (h : c p.1 ≠ c p.2) (hs : S (c p.1) = true) : numS S N (merge c p) + 1 = numS S N c := by
  unfold numS
  rw [← filter_less (P := fun v => S v && c v == v) List.nodup_range (List.mem_range.2 (hc.lt _ h1)) (by simp [hs, hc.idem _ h1])]
  congr 1
  refine congrArg List.length (List.filter_congr fun v hv => ?_)
  have hv := List.mem_range.1 hv
  have ia := hc.idem _ h1
  have ib := hc.idem _ h2
  unfold merge
  by_cases e : c v = c p.1
  · rw [if_pos e]
    by_cases e2 : c v = v
    · have hv' : v = c p.1 := by rw [← e2]; exact e
      have : c p.2 ≠ v := fun hh => h (by rw [← hv', hh])
      rw [hv'] at this ⊢
      simp [this]
    · have : c p.2 ≠ v := fun hh => by rw [hh] at ib; exact e2 ib
      rw [beq_eq_false_iff_ne.2 this, beq_eq_false_iff_ne.2 e2]; simp
  · rw [if_neg e]
    have : v ≠ c p.1 ∨ c v ≠ v := by
      by_cases e3 : v = c p.1
      · right; intro h4; rw [e3] at h4; exact e (by rw [e3]; exact h4)
      · exact Or.inl e3
    rcases this with h5 | h5
    · simp [h5]
    · simp [h5]
theorem numS_le {S : Nat → Bool} {N : Nat} {c : Nat → Nat} (hc : Ok c N) {p : Nat × Nat} (h1 : p.1 < N) (h2 : p.2 < N) : numS S N (merge c p) ≤ numS S N c ∧ numS S N c ≤ numS S N (merge c p) + 1 := by
  by_cases h : c p.1 = c p.2
  · rw [numS_same h]; omega
  · by_cases hs : S (c p.1) = true
    · have := numS_diff hc h1 h2 h hs; omega
    · rw [numS_out hc h1 h2 (by simpa using hs)]; omega

abbrev In (N : Nat) (es : List (Nat × Nat)) : Prop := ∀ p ∈ es, p.1 < N ∧ p.2 < N
abbrev Closed (S : Nat → Bool) (es : List (Nat × Nat)) : Prop := ∀ p ∈ es, S p.1 = S p.2
theorem Closed.lab {S : Nat → Bool} {es : List (Nat × Nat)} {N : Nat} (h : Closed S es) (hN : In N es) {v : Nat} (hv : v < N) : S (mergeAll es v) = S v :=
  ker_le h ((Ok.all hN).idem _ hv)
theorem Closed.ofCls (es : List (Nat × Nat)) (r : Nat) : Closed (fun v => mergeAll es v == r) es := fun p hp => by show (mergeAll es p.1 == r) = (mergeAll es p.2 == r); rw [eq_of_mem (a := p.1) (b := p.2) hp]
theorem Closed.sub {S : Nat → Bool} {es fs : List (Nat × Nat)} (h : Closed S es) (hs : ∀ p ∈ fs, p ∈ es) : Closed S fs := fun p hp => h p (hs p hp)
theorem In.sub {N : Nat} {es fs : List (Nat × Nat)} (h : In N es) (hs : ∀ p ∈ fs, p ∈ es) : In N fs := fun p hp => h p (hs p hp)
/-- How many of the pairs lie in S. -/
def inE (S : Nat → Bool) (es : List (Nat × Nat)) : Nat := es.countP fun p => S p.1
def nodes (S : Nat → Bool) (N : Nat) : Nat := (List.range N).countP S
/-- A set of classes has no more members than classes and pairs. -/
theorem nodes_le {S : Nat → Bool} {N : Nat} {es : List (Nat × Nat)} (hc : Closed S es) (hN : In N es) : nodes S N ≤ numS S N (mergeAll es) + inE S es := by
  refine snoc_ind (p := fun es => Closed S es → In N es → nodes S N ≤ numS S N (mergeAll es) + inE S es) ?_ ?_ es hc hN
  · intro _ _
    unfold nodes numS inE
    rw [List.countP_eq_length_filter]
    simp [mergeAll]
  · intro es p ih hc hN
    have hc' : Closed S es := hc.sub fun p hp => List.mem_append.2 (Or.inl hp)
    have hN' : In N es := hN.sub fun p hp => List.mem_append.2 (Or.inl hp)
    have hp := hN p (List.mem_append.2 (Or.inr (List.mem_singleton.2 rfl)))
    have ih := ih hc' hN'
    rw [mergeAll_snoc]
    have hi : inE S (es ++ [p]) = inE S es + if S p.1 = true then 1 else 0 := by
      unfold inE; rw [List.countP_append, List.countP_singleton]
    rw [hi]
    by_cases hs : S p.1 = true
    · rw [if_pos hs]
      have := (numS_le (S := S) (Ok.all hN') hp.1 hp.2).2
      omega
    · rw [if_neg hs, numS_out (Ok.all hN') hp.1 hp.2 (by rw [hc'.lab hN' hp.1]; simpa using hs)]
      exact ih
/-- Pairs in another order have the same classes. -/
theorem ker_sub {es fs : List (Nat × Nat)} (h : ∀ p ∈ es, p ∈ fs) {x y : Nat} (e : mergeAll es x = mergeAll es y) : mergeAll fs x = mergeAll fs y :=
  ker_le (F := mergeAll fs) (fun p hp => eq_of_mem (h p hp)) e
theorem num_found {N : Nat} {c : Nat → Nat} (h : Ok c N) : num N c = (found c (List.range N)).length := tally_range h
theorem num_ker {N : Nat} {c d : Nat → Nat} (hc : Ok c N) (hd : Ok d N) (h : ∀ x, x < N → ∀ y, y < N → (c x = c y ↔ d x = d y)) : num N c = num N d := by
  rw [num_found hc, num_found hd]
  exact found_ker fun i hi j hj => h i (List.mem_range.1 hi) j (List.mem_range.1 hj)
theorem num_mem {N : Nat} {es fs : List (Nat × Nat)} (hN : In N es) (h : ∀ p, p ∈ es ↔ p ∈ fs) : num N (mergeAll es) = num N (mergeAll fs) :=
  num_ker (Ok.all hN) (Ok.all (hN.sub fun p hp => (h p).2 hp)) fun x _ y _ => ⟨ker_sub fun p hp => (h p).1 hp, ker_sub fun p hp => (h p).2 hp⟩
theorem num_same {N : Nat} {es : List (Nat × Nat)} {p : Nat × Nat} (h : mergeAll es p.1 = mergeAll es p.2) : num N (mergeAll (es ++ [p])) = num N (mergeAll es) := by
  rw [mergeAll_snoc, num_numS, num_numS, numS_same h]
theorem num_diff {N : Nat} {es : List (Nat × Nat)} {p : Nat × Nat} (hN : In N es) (h1 : p.1 < N) (h2 : p.2 < N) (h : mergeAll es p.1 ≠ mergeAll es p.2) : num N (mergeAll (es ++ [p])) + 1 = num N (mergeAll es) := by
  rw [mergeAll_snoc, num_numS, num_numS, numS_diff (Ok.all hN) h1 h2 h rfl]
theorem snoc_eq {es : List (Nat × Nat)} {p : Nat × Nat} {x y : Nat} : mergeAll (es ++ [p]) x = mergeAll (es ++ [p]) y ↔ (mergeAll es x = mergeAll es y ∨ (mergeAll es x = mergeAll es p.1 ∧ mergeAll es y = mergeAll es p.2) ∨ (mergeAll es x = mergeAll es p.2 ∧ mergeAll es y = mergeAll es p.1)) := by
  rw [mergeAll_snoc]; unfold merge
  generalize mergeAll es = c
  by_cases h1 : c x = c p.1
  · by_cases h2 : c y = c p.1
    · rw [if_pos h1, if_pos h2]
      exact ⟨fun _ => Or.inl (h1.trans h2.symm), fun _ => rfl⟩
    · rw [if_pos h1, if_neg h2]
      constructor
      · intro h; exact Or.inr (Or.inl ⟨h1, h.symm⟩)
      · rintro (h | ⟨_, h⟩ | ⟨_, h⟩)
        · exact absurd (h.symm.trans h1) h2
        · exact h.symm
        · exact absurd h h2
  · by_cases h2 : c y = c p.1
    · rw [if_neg h1, if_pos h2]
      constructor
      · intro h; exact Or.inr (Or.inr ⟨h, h2⟩)
      · rintro (h | ⟨h, _⟩ | ⟨h, _⟩)
        · exact absurd (h.trans h2) h1
        · exact absurd h h1
        · exact h
    · rw [if_neg h1, if_neg h2]
      constructor
      · intro h; exact Or.inl h
      · rintro (h | ⟨h, _⟩ | ⟨_, h⟩)
        · exact h
        · exact absurd h h1
        · exact absurd h h2
end Cls

namespace Cls
def bit (b : Bool) : Nat := if b then 1 else 0
theorem bit_le (b : Bool) : bit b ≤ 1 := by cases b <;> simp [bit]
theorem pattern {A B D E : Nat} (par : ∀ r, (bit (A == r) + bit (B == r) + bit (D == r) + bit (E == r)) % 2 = 0) :
    (A = B ∧ D = E ∧ A ≠ D) ∨ (A = D ∧ B = E ∧ A ≠ B) ∨ (A = E ∧ B = D ∧ A ≠ B) ∨ (A = B ∧ A = D ∧ A = E) := by
  have h1 := par A
  have h2 := par B
  have h3 := par D
  unfold bit at h1 h2 h3
  simp only [beq_iff_eq] at h1 h2 h3
  by_cases ab : A = B
  · by_cases ad : A = D
    · by_cases ae : A = E
      · omega
      · subst ab; subst ad
        have ea : ¬ E = A := fun h => ae h.symm
        simp [ea] at h1
    · left
      subst ab
      refine ⟨rfl, ?_, ad⟩
      by_cases de : D = E
      · exact de
      · have h4 : ¬ E = D := fun h => de h.symm
        simp [ad, h4] at h3
  · have ba : ¬ B = A := fun h => ab h.symm
    by_cases ad : A = D
    · subst ad
      right; left
      refine ⟨rfl, ?_, ab⟩
      by_cases be : B = E
      · exact be
      · have eb : ¬ E = B := fun h => be h.symm
        simp [ab, eb] at h2
    · have da : ¬ D = A := fun h => ad h.symm
      by_cases ae : A = E
      · subst ae
        right; right; left
        refine ⟨rfl, ?_, ab⟩
        by_cases bd : B = D
        · exact bd
        · have db : ¬ D = B := fun h => bd h.symm
          simp [ab, db] at h2
      · have ea : ¬ E = A := fun h => ae h.symm
        simp [ba, da, ea] at h1
/-- Four ends of paths, each class holding an even number of them. -/
structure Quad (N : Nat) (Q : List (Nat × Nat)) (a b d e : Nat) : Prop where
  inN : In N Q
  la : a < N
  lb : b < N
  ld : d < N
  le : e < N
  par : ∀ S : Nat → Bool, Closed S Q → (bit (S a) + bit (S b) + bit (S d) + bit (S e)) % 2 = 0
theorem two (Q : List (Nat × Nat)) (p q : Nat × Nat) : Q ++ [p, q] = Q ++ [p] ++ [q] := by simp
theorem In.snoc {N : Nat} {Q : List (Nat × Nat)} {p : Nat × Nat} (h : In N Q) (h1 : p.1 < N) (h2 : p.2 < N) : In N (Q ++ [p]) := fun q hq => by
  rcases List.mem_append.1 hq with hq | hq
  · exact h q hq
  · rw [List.mem_singleton.1 hq]; exact ⟨h1, h2⟩
theorem num2_ss {N : Nat} {Q : List (Nat × Nat)} {p q : Nat × Nat} (h1 : mergeAll Q p.1 = mergeAll Q p.2) (h2 : mergeAll Q q.1 = mergeAll Q q.2) : num N (mergeAll (Q ++ [p, q])) = num N (mergeAll Q) := by
  rw [two, num_same (snoc_eq.2 (Or.inl h2)), num_same h1]
theorem num2_ds {N : Nat} {Q : List (Nat × Nat)} {p q : Nat × Nat} (hN : In N Q) (hp1 : p.1 < N) (hp2 : p.2 < N) (h1 : mergeAll Q p.1 ≠ mergeAll Q p.2) (h2 : mergeAll (Q ++ [p]) q.1 = mergeAll (Q ++ [p]) q.2) : num N (mergeAll (Q ++ [p, q])) + 1 = num N (mergeAll Q) := by
  rw [two, num_same h2, num_diff hN hp1 hp2 h1]
/-- What becomes of the classes' number when two spans are replaced by two other pairs. -/
theorem Quad.cases {N : Nat} {Q : List (Nat × Nat)} {a b d e : Nat} (h : Quad N Q a b d e) :
    (mergeAll Q a = mergeAll Q b ∧ mergeAll Q d = mergeAll Q e ∧ mergeAll Q a ≠ mergeAll Q d ∧ num N (mergeAll (Q ++ [(a, d), (b, e)])) + 1 = num N (mergeAll (Q ++ [(a, b), (d, e)]))) ∨
    (mergeAll Q a = mergeAll Q d ∧ mergeAll Q b = mergeAll Q e ∧ mergeAll Q a ≠ mergeAll Q b ∧ num N (mergeAll (Q ++ [(a, d), (b, e)])) = num N (mergeAll (Q ++ [(a, b), (d, e)])) + 1) ∨
    (mergeAll Q a = mergeAll Q e ∧ mergeAll Q b = mergeAll Q d ∧ mergeAll Q a ≠ mergeAll Q b ∧ num N (mergeAll (Q ++ [(a, d), (b, e)])) = num N (mergeAll (Q ++ [(a, b), (d, e)]))) ∨
    (mergeAll Q a = mergeAll Q b ∧ mergeAll Q a = mergeAll Q d ∧ mergeAll Q a = mergeAll Q e ∧ num N (mergeAll (Q ++ [(a, d), (b, e)])) = num N (mergeAll (Q ++ [(a, b), (d, e)]))) := by
  have hp := pattern (A := mergeAll Q a) (B := mergeAll Q b) (D := mergeAll Q d) (E := mergeAll Q e) (fun r => h.par _ (Closed.ofCls Q r))
  rcases hp with ⟨h1, h2, h3⟩ | ⟨h1, h2, h3⟩ | ⟨h1, h2, h3⟩ | ⟨h1, h2, h3⟩
  · refine Or.inl ⟨h1, h2, h3, ?_⟩
    rw [num2_ss (p := (a, b)) (q := (d, e)) h1 h2, num2_ds (p := (a, d)) (q := (b, e)) h.inN h.la h.ld h3 (snoc_eq.2 (Or.inr (Or.inl ⟨h1.symm, h2.symm⟩)))]
  · refine Or.inr (Or.inl ⟨h1, h2, h3, ?_⟩)
    rw [num2_ss (p := (a, d)) (q := (b, e)) h1 h2, num2_ds (p := (a, b)) (q := (d, e)) h.inN h.la h.lb h3 (snoc_eq.2 (Or.inr (Or.inl ⟨h1.symm, h2.symm⟩)))]
  · refine Or.inr (Or.inr (Or.inl ⟨h1, h2, h3, ?_⟩))
    have e1 := num2_ds (p := (a, b)) (q := (d, e)) h.inN h.la h.lb h3 (snoc_eq.2 (Or.inr (Or.inr ⟨h2.symm, h1.symm⟩)))
    have e2 := num2_ds (p := (a, d)) (q := (b, e)) h.inN h.la h.ld (fun hh => h3 (hh.trans h2.symm)) (snoc_eq.2 (Or.inr (Or.inr ⟨h2, h1.symm⟩)))
    omega
  · refine Or.inr (Or.inr (Or.inr ⟨h1, h2, h3, ?_⟩))
    rw [num2_ss (p := (a, b)) (q := (d, e)) h1 (h2.symm.trans h3), num2_ss (p := (a, d)) (q := (b, e)) h2 (h1.symm.trans h3)]
theorem Quad.le1 {N : Nat} {Q : List (Nat × Nat)} {a b d e : Nat} (h : Quad N Q a b d e) : num N (mergeAll (Q ++ [(a, d), (b, e)])) ≤ num N (mergeAll (Q ++ [(a, b), (d, e)])) + 1 := by
  rcases h.cases with ⟨_, _, _, h⟩ | ⟨_, _, _, h⟩ | ⟨_, _, _, h⟩ | ⟨_, _, _, h⟩ <;> omega
theorem Quad.sep {N : Nat} {Q : List (Nat × Nat)} {a b d e : Nat} (h : Quad N Q a b d e) {S : Nat → Bool} (hS : Closed S Q) (ha : S a = true) (hb : S b = true) (hd : S d = false) (he : S e = false) :
    num N (mergeAll (Q ++ [(a, d), (b, e)])) + 1 = num N (mergeAll (Q ++ [(a, b), (d, e)])) := by
  have k : ∀ {x y}, mergeAll Q x = mergeAll Q y → S x = S y := fun hh => ker_le hS hh
  rcases h.cases with ⟨_, _, _, h⟩ | ⟨h1, _, _, _⟩ | ⟨h1, _, _, _⟩ | ⟨_, h1, _, _⟩
  · exact h
  · have := k h1; rw [ha, hd] at this; cases this
  · have := k h1; rw [ha, he] at this; cases this
  · have := k h1; rw [ha, hd] at this; cases this
/-- Where beginnings and ends are as many in each class (a, e: beginnings; b, d: ends), and no class holds all four. -/
theorem Quad.odd {N : Nat} {Q : List (Nat × Nat)} {a b d e : Nat} (h : Quad N Q a b d e) (ho : ∀ S : Nat → Bool, Closed S Q → bit (S a) + bit (S e) = bit (S b) + bit (S d))
    (h4 : ¬ (mergeAll Q a = mergeAll Q b ∧ mergeAll Q a = mergeAll Q d ∧ mergeAll Q a = mergeAll Q e)) : (num N (mergeAll (Q ++ [(a, d), (b, e)])) + num N (mergeAll (Q ++ [(a, b), (d, e)]))) % 2 = 1 := by
  rcases h.cases with ⟨_, _, _, h⟩ | ⟨_, _, _, h⟩ | ⟨h1, h2, h3, _⟩ | ⟨h1, h2, h3, _⟩
  · omega
  · omega
  · have := ho _ (Closed.ofCls Q (mergeAll Q a))
    have hb : ¬ mergeAll Q b = mergeAll Q a := fun hh => h3 hh.symm
    simp [bit, ← h1, ← h2, hb] at this
  · exact absurd ⟨h1, h2, h3⟩ h4
end Cls

namespace Cls
/-- A gluing as a scheme: n sides, each with a beginning (2 i) and an end (2 i + 1); nx: the next side of its polygon. -/
def corners (nx : Nat → Nat) (n : Nat) : List (Nat × Nat) := (List.range n).map fun i => (2 * i + 1, 2 * nx i)
def span (x : Nat) : List (Nat × Nat) := [(2 * x, 2 * x + 1)]
/-- Two sides are glued: beginning to beginning, or (b) beginning to end. -/
def glue (t : Nat × Nat × Bool) : List (Nat × Nat) := if t.2.2 then [(2 * t.1, 2 * t.2.1 + 1), (2 * t.1 + 1, 2 * t.2.1)] else [(2 * t.1, 2 * t.2.1), (2 * t.1 + 1, 2 * t.2.1 + 1)]
def spans2 (t : Nat × Nat × Bool) : List (Nat × Nat) := [(2 * t.1, 2 * t.1 + 1), (if t.2.2 then (2 * t.2.1 + 1, 2 * t.2.1) else (2 * t.2.1, 2 * t.2.1 + 1))]
def sidesOf (T : List (Nat × Nat × Bool)) : List Nat := T.flatMap fun t => [t.1, t.2.1]
/-- The weight of a side: how many of its ends lie in S. -/
def wt (S : Nat → Bool) (x : Nat) : Nat := bit (S (2 * x)) + bit (S (2 * x + 1))
/-- The ends of pairs that lie in S. -/
def endsIn (S : Nat → Bool) (es : List (Nat × Nat)) : Nat := (es.map fun p => bit (S p.1) + bit (S p.2)).sum
theorem endsIn_append (S : Nat → Bool) (es fs : List (Nat × Nat)) : endsIn S (es ++ fs) = endsIn S es + endsIn S fs := by simp [endsIn]
theorem endsIn_closed {S : Nat → Bool} {es : List (Nat × Nat)} (h : Closed S es) : endsIn S es = 2 * inE S es := by
  induction es with
  | nil => rfl
  | cons p es ih =>
    have ih := ih (h.sub fun q hq => List.mem_cons_of_mem _ hq)
    have hp := h p (List.mem_cons_self ..)
    unfold endsIn inE at *
    rw [List.map_cons, List.sum_cons, ih, List.countP_cons, ← hp]
    cases S p.1 <;> simp [bit] <;> omega
theorem glue_ends (S : Nat → Bool) (t : Nat × Nat × Bool) : endsIn S (glue t) = wt S t.1 + wt S t.2.1 := by
  unfold glue endsIn wt
  split <;> simp <;> omega
theorem spans2_ends (S : Nat → Bool) (t : Nat × Nat × Bool) : endsIn S (spans2 t) = wt S t.1 + wt S t.2.1 := by
  unfold spans2 endsIn wt; split <;> simp <;> omega
theorem span_ends (S : Nat → Bool) (x : Nat) : endsIn S (span x) = wt S x := by unfold span endsIn wt; simp
theorem flat_ends {α : Type} (S : Nat → Bool) (f : α → List (Nat × Nat)) (l : List α) : endsIn S (l.flatMap f) = (l.map fun t => endsIn S (f t)).sum := by
  induction l with
  | nil => rfl
  | cons t l ih => rw [List.flatMap_cons, endsIn_append, ih, List.map_cons, List.sum_cons]
theorem sum_sides (w : Nat → Nat) (T : List (Nat × Nat × Bool)) : ((sidesOf T).map w).sum = (T.map fun t => w t.1 + w t.2.1).sum := by
  induction T with
  | nil => rfl
  | cons t T ih =>
    show (([t.1, t.2.1] ++ sidesOf T).map w).sum = _
    rw [List.map_append, List.sum_append, ih, List.map_cons, List.sum_cons]; simp
theorem sum_two (f g : Nat → Nat) (l : List Nat) : (l.map fun x => f x + g x).sum = (l.map f).sum + (l.map g).sum := by
  induction l with
  | nil => rfl
  | cons x l ih => simp only [List.map_cons, List.sum_cons, ih]; omega
theorem nodes_wt (S : Nat → Bool) (n : Nat) : nodes S (2 * n) = ((List.range n).map (wt S)).sum := by
  induction n with
  | zero => rfl
  | succ n ih =>
    rw [List.range_succ, List.map_append, List.sum_append, ← ih]
    show nodes S (2 * n + 2) = _
    unfold nodes
    rw [List.range_succ, List.range_succ, List.append_assoc, List.countP_append]
    simp [List.countP_cons, wt, bit]
    cases S (2 * n) <;> cases S (2 * n + 1) <;> simp
/-- nx is a permutation of the sides. -/
abbrev Perm (nx : Nat → Nat) (n : Nat) : Prop := ((List.range n).map nx).Perm (List.range n)
theorem perm_sum {nx : Nat → Nat} {n : Nat} (h : Perm nx n) (f : Nat → Nat) : ((List.range n).map fun i => f (nx i)).sum = ((List.range n).map f).sum := by
  have := (h.map f).sum_nat
  rwa [List.map_map] at this
theorem corners_ends {nx : Nat → Nat} {n : Nat} (h : Perm nx n) (S : Nat → Bool) : endsIn S (corners nx n) = nodes S (2 * n) := by
  rw [nodes_wt]
  unfold endsIn corners wt
  rw [List.map_map]
  show ((List.range n).map fun i => bit (S (2 * i + 1)) + bit (S (2 * nx i))).sum = _
  rw [sum_two, perm_sum h (fun i => bit (S (2 * i))), sum_two]; omega
theorem corners_in {nx : Nat → Nat} {n : Nat} (h : Perm nx n) : In (2 * n) (corners nx n) := by
  intro p hp
  unfold corners at hp
  obtain ⟨i, hi, rfl⟩ := List.mem_map.1 hp
  have hi := List.mem_range.1 hi
  have : nx i ∈ List.range n := h.mem_iff.1 (List.mem_map.2 ⟨i, List.mem_range.2 hi, rfl⟩)
  have := List.mem_range.1 this
  exact ⟨by show 2 * i + 1 < 2 * n; omega, by show 2 * nx i < 2 * n; omega⟩
/-- Beginnings and ends are as many in each set that the corners keep. -/
theorem corners_even {nx : Nat → Nat} {n : Nat} (h : Perm nx n) {S : Nat → Bool} (hS : Closed S (corners nx n)) : ((List.range n).map fun i => bit (S (2 * i))).sum = ((List.range n).map fun i => bit (S (2 * i + 1))).sum := by
  rw [← perm_sum h (fun i => bit (S (2 * i)))]
  refine congrArg List.sum (List.map_congr_left fun i hi => ?_)
  have := hS (2 * i + 1, 2 * nx i) (List.mem_map.2 ⟨i, hi, rfl⟩)
  show bit (S (2 * nx i)) = bit (S (2 * i + 1))
  rw [show S (2 * i + 1) = S (2 * nx i) from this]

/-- The scheme: sides, which are glued, which not. -/
structure Scheme where
  n : Nat
  nx : Nat → Nat
  T : List (Nat × Nat × Bool)
  Fr : List Nat
namespace Scheme
structure Ok (s : Scheme) : Prop where
  perm : Perm s.nx s.n
  sides : (sidesOf s.T ++ s.Fr).Perm (List.range s.n)
/-- The first letters are glued, the others not yet. -/
def part (s : Scheme) (A B : List (Nat × Nat × Bool)) : List (Nat × Nat) := corners s.nx s.n ++ (A.flatMap glue ++ (B.flatMap spans2 ++ s.Fr.flatMap span))
/-- What hangs together. -/
def tied (s : Scheme) (A : List (Nat × Nat × Bool)) : List (Nat × Nat) := (corners s.nx s.n ++ (List.range s.n).flatMap span) ++ A.map fun t => (2 * t.1, 2 * t.2.1)
end Scheme
end Cls

namespace Cls
namespace Scheme
variable {s : Scheme}
theorem Ok.lt (h : Ok s) {x : Nat} (hx : x ∈ sidesOf s.T ++ s.Fr) : x < s.n := List.mem_range.1 (h.sides.mem_iff.1 hx)
theorem Ok.sum (h : Ok s) (f : Nat → Nat) : ((sidesOf s.T).map f).sum + (s.Fr.map f).sum = ((List.range s.n).map f).sum := by
  have := (h.sides.map f).sum_nat
  rwa [List.map_append, List.sum_append] at this
theorem sides_append (A B : List (Nat × Nat × Bool)) : sidesOf (A ++ B) = sidesOf A ++ sidesOf B := by unfold sidesOf; rw [List.flatMap_append]
theorem sides_mem {T : List (Nat × Nat × Bool)} {t : Nat × Nat × Bool} (h : t ∈ T) : t.1 ∈ sidesOf T ∧ t.2.1 ∈ sidesOf T := by
  unfold sidesOf
  exact ⟨List.mem_flatMap.2 ⟨t, h, by simp⟩, List.mem_flatMap.2 ⟨t, h, by simp⟩⟩
theorem Ok.lt2 (h : Ok s) {t : Nat × Nat × Bool} (ht : t ∈ s.T) : t.1 < s.n ∧ t.2.1 < s.n :=
  ⟨h.lt (List.mem_append.2 (Or.inl (sides_mem ht).1)), h.lt (List.mem_append.2 (Or.inl (sides_mem ht).2))⟩
theorem Ok.ltF (h : Ok s) {x : Nat} (hx : x ∈ s.Fr) : x < s.n := h.lt (List.mem_append.2 (Or.inr hx))
theorem glue_in {t : Nat × Nat × Bool} {n : Nat} (h1 : t.1 < n) (h2 : t.2.1 < n) : In (2 * n) (glue t) := by
  intro p hp
  unfold glue at hp
  split at hp <;> simp only [List.mem_cons, List.not_mem_nil, or_false] at hp <;> rcases hp with rfl | rfl <;> exact ⟨by simp; omega, by simp; omega⟩
theorem spans2_in {t : Nat × Nat × Bool} {n : Nat} (h1 : t.1 < n) (h2 : t.2.1 < n) : In (2 * n) (spans2 t) := by
  intro p hp
  unfold spans2 at hp
  simp only [List.mem_cons, List.not_mem_nil, or_false] at hp
  rcases hp with rfl | rfl
  · exact ⟨by simp; omega, by simp; omega⟩
  · split <;> exact ⟨by simp; omega, by simp; omega⟩
theorem part_mem {A B : List (Nat × Nat × Bool)} {p : Nat × Nat} : p ∈ s.part A B ↔ p ∈ corners s.nx s.n ∨ (∃ t ∈ A, p ∈ glue t) ∨ (∃ t ∈ B, p ∈ spans2 t) ∨ ∃ x ∈ s.Fr, p ∈ span x := by
  unfold part
  simp only [List.mem_append, List.mem_flatMap]
theorem Ok.partIn (h : Ok s) {A B : List (Nat × Nat × Bool)} (hA : ∀ t ∈ A, t ∈ s.T) (hB : ∀ t ∈ B, t ∈ s.T) : In (2 * s.n) (s.part A B) := by
  intro p hp
  rcases part_mem.1 hp with hp | ⟨t, ht, hp⟩ | ⟨t, ht, hp⟩ | ⟨x, hx, hp⟩
  · exact corners_in h.perm p hp
  · exact glue_in (h.lt2 (hA t ht)).1 (h.lt2 (hA t ht)).2 p hp
  · exact spans2_in (h.lt2 (hB t ht)).1 (h.lt2 (hB t ht)).2 p hp
  · have := h.ltF hx
    rw [List.mem_singleton.1 hp]
    exact ⟨by simp; omega, by simp; omega⟩
theorem part_ends (S : Nat → Bool) (h : Ok s) (A B : List (Nat × Nat × Bool)) : endsIn S (s.part A B) = nodes S (2 * s.n) + (((sidesOf A).map (wt S)).sum + ((sidesOf B).map (wt S)).sum + (s.Fr.map (wt S)).sum) := by
  unfold part
  rw [endsIn_append, endsIn_append, endsIn_append, corners_ends h.perm, flat_ends, flat_ends, flat_ends, sum_sides, sum_sides]
  simp only [glue_ends, spans2_ends, span_ends]
  have e : (List.map (fun t => wt S t) s.Fr).sum = (List.map (wt S) s.Fr).sum := rfl
  omega
/-- Two ends more, of the letter that is not glued yet. -/
def endD (t : Nat × Nat × Bool) : Nat := if t.2.2 then 2 * t.2.1 + 1 else 2 * t.2.1
def endE (t : Nat × Nat × Bool) : Nat := if t.2.2 then 2 * t.2.1 else 2 * t.2.1 + 1
theorem glue_eq (t : Nat × Nat × Bool) : glue t = [(2 * t.1, endD t), (2 * t.1 + 1, endE t)] := by unfold glue endD endE; split <;> rfl
theorem spans2_eq (t : Nat × Nat × Bool) : spans2 t = [(2 * t.1, 2 * t.1 + 1), (endD t, endE t)] := by unfold spans2 endD endE; split <;> rfl
theorem wt_ends (S : Nat → Bool) (t : Nat × Nat × Bool) : wt S t.2.1 = bit (S (endD t)) + bit (S (endE t)) := by unfold wt endD endE; split <;> omega
theorem Ok.sum3 (h : Ok s) {A B : List (Nat × Nat × Bool)} {t : Nat × Nat × Bool} (hT : s.T = A ++ t :: B) (f : Nat → Nat) :
    ((sidesOf A).map f).sum + ((sidesOf B).map f).sum + (s.Fr.map f).sum + (f t.1 + f t.2.1) = ((List.range s.n).map f).sum := by
  have := h.sum f
  rw [hT, sides_append, show sidesOf (t :: B) = [t.1, t.2.1] ++ sidesOf B from rfl, List.map_append, List.map_append, List.sum_append, List.sum_append] at this
  simp at this
  omega
theorem Ok.quad (h : Ok s) {A B : List (Nat × Nat × Bool)} {t : Nat × Nat × Bool} (hT : s.T = A ++ t :: B) : Quad (2 * s.n) (s.part A B) (2 * t.1) (2 * t.1 + 1) (endD t) (endE t) := by
  have ht : t ∈ s.T := by rw [hT]; simp
  have h2 := h.lt2 ht
  refine ⟨h.partIn (fun u hu => by rw [hT]; simp [hu]) (fun u hu => by rw [hT]; simp [hu]), by omega, by omega, by unfold endD; split <;> omega, by unfold endE; split <;> omega, fun S hS => ?_⟩
  have h3 := endsIn_closed hS
  rw [part_ends S h] at h3
  have h4 := h.sum3 hT (wt S)
  rw [← nodes_wt, wt_ends] at h4
  unfold wt at h4
  unfold wt at h3
  omega
theorem part_spans (A B : List (Nat × Nat × Bool)) (t : Nat × Nat × Bool) (h : Ok s) (hA : ∀ u ∈ A, u ∈ s.T) (hB : ∀ u ∈ t :: B, u ∈ s.T) : num (2 * s.n) (mergeAll (s.part A (t :: B))) = num (2 * s.n) (mergeAll (s.part A B ++ [(2 * t.1, 2 * t.1 + 1), (endD t, endE t)])) := by
  refine num_mem (h.partIn hA hB) fun p => ?_
  rw [← spans2_eq, List.mem_append, part_mem, part_mem]
  constructor
  · rintro (hp | hp | ⟨u, hu, hp⟩ | hp)
    · exact Or.inl (Or.inl hp)
    · exact Or.inl (Or.inr (Or.inl hp))
    · rcases List.mem_cons.1 hu with rfl | hu
      · exact Or.inr hp
      · exact Or.inl (Or.inr (Or.inr (Or.inl ⟨u, hu, hp⟩)))
    · exact Or.inl (Or.inr (Or.inr (Or.inr hp)))
  · rintro ((hp | hp | ⟨u, hu, hp⟩ | hp) | hp)
    · exact Or.inl hp
    · exact Or.inr (Or.inl hp)
    · exact Or.inr (Or.inr (Or.inl ⟨u, List.mem_cons_of_mem _ hu, hp⟩))
    · exact Or.inr (Or.inr (Or.inr hp))
    · exact Or.inr (Or.inr (Or.inl ⟨t, List.mem_cons_self .., hp⟩))
theorem part_glue (A B : List (Nat × Nat × Bool)) (t : Nat × Nat × Bool) (h : Ok s) (hA : ∀ u ∈ A ++ [t], u ∈ s.T) (hB : ∀ u ∈ B, u ∈ s.T) : num (2 * s.n) (mergeAll (s.part (A ++ [t]) B)) = num (2 * s.n) (mergeAll (s.part A B ++ [(2 * t.1, endD t), (2 * t.1 + 1, endE t)])) := by
  refine num_mem (h.partIn hA hB) fun p => ?_
  rw [← glue_eq, List.mem_append, part_mem, part_mem]
  constructor
  · rintro (hp | ⟨u, hu, hp⟩ | hp | hp)
    · exact Or.inl (Or.inl hp)
    · rcases List.mem_append.1 hu with hu | hu
      · exact Or.inl (Or.inr (Or.inl ⟨u, hu, hp⟩))
      · rw [List.mem_singleton.1 hu] at hp; exact Or.inr hp
    · exact Or.inl (Or.inr (Or.inr (Or.inl hp)))
    · exact Or.inl (Or.inr (Or.inr (Or.inr hp)))
  · rintro ((hp | ⟨u, hu, hp⟩ | hp | hp) | hp)
    · exact Or.inl hp
    · exact Or.inr (Or.inl ⟨u, List.mem_append.2 (Or.inl hu), hp⟩)
    · exact Or.inr (Or.inr (Or.inl hp))
    · exact Or.inr (Or.inr (Or.inr hp))
    · exact Or.inr (Or.inl ⟨t, List.mem_append.2 (Or.inr (List.mem_singleton.2 rfl)), hp⟩)
/-- The tied sets. -/
theorem tied_span {A : List (Nat × Nat × Bool)} {x : Nat} (hx : x < s.n) : mergeAll (s.tied A) (2 * x) = mergeAll (s.tied A) (2 * x + 1) :=
  eq_of_mem (List.mem_append.2 (Or.inl (List.mem_append.2 (Or.inr (List.mem_flatMap.2 ⟨x, List.mem_range.2 hx, by simp [span]⟩)))))
theorem tied_link {A : List (Nat × Nat × Bool)} {t : Nat × Nat × Bool} (ht : t ∈ A) : mergeAll (s.tied A) (2 * t.1) = mergeAll (s.tied A) (2 * t.2.1) :=
  eq_of_mem (List.mem_append.2 (Or.inr (List.mem_map.2 ⟨t, ht, rfl⟩)))
theorem tied_corner {A : List (Nat × Nat × Bool)} {p : Nat × Nat} (hp : p ∈ corners s.nx s.n) : mergeAll (s.tied A) p.1 = mergeAll (s.tied A) p.2 :=
  eq_of_mem (List.mem_append.2 (Or.inl (List.mem_append.2 (Or.inl hp))))
theorem tied_endD {A : List (Nat × Nat × Bool)} {t : Nat × Nat × Bool} (h2 : t.2.1 < s.n) : mergeAll (s.tied A) (endD t) = mergeAll (s.tied A) (2 * t.2.1) ∧ mergeAll (s.tied A) (endE t) = mergeAll (s.tied A) (2 * t.2.1) := by
  unfold endD endE
  split
  · exact ⟨(tied_span h2).symm, rfl⟩
  · exact ⟨rfl, (tied_span h2).symm⟩
theorem Ok.tied_part (h : Ok s) {A B : List (Nat × Nat × Bool)} (hA : ∀ t ∈ A, t ∈ s.T) (hB : ∀ t ∈ B, t ∈ s.T) (r : Nat) : Closed (fun v => mergeAll (s.tied A) v == r) (s.part A B) := by
  intro p hp
  show (mergeAll (s.tied A) p.1 == r) = (mergeAll (s.tied A) p.2 == r)
  have key : mergeAll (s.tied A) p.1 = mergeAll (s.tied A) p.2 := by
    rcases part_mem.1 hp with hp | ⟨t, ht, hp⟩ | ⟨t, ht, hp⟩ | ⟨x, hx, hp⟩
    · exact tied_corner hp
    · have h2 := h.lt2 (hA t ht)
      have e := tied_endD (A := A) h2.2
      rw [glue_eq] at hp
      simp only [List.mem_cons, List.not_mem_nil, or_false] at hp
      rcases hp with rfl | rfl
      · exact (tied_link ht).trans e.1.symm
      · exact (tied_span h2.1).symm.trans ((tied_link ht).trans e.2.symm)
    · have h2 := h.lt2 (hB t ht)
      have e := tied_endD (A := A) h2.2
      rw [spans2_eq] at hp
      simp only [List.mem_cons, List.not_mem_nil, or_false] at hp
      rcases hp with rfl | rfl
      · exact tied_span h2.1
      · exact e.1.trans e.2.symm
    · rw [List.mem_singleton.1 hp]; exact tied_span (h.ltF hx)
  rw [key]
theorem Ok.tiedIn (h : Ok s) {A : List (Nat × Nat × Bool)} (hA : ∀ t ∈ A, t ∈ s.T) : In (2 * s.n) (s.tied A) := by
  intro p hp
  rcases List.mem_append.1 hp with hp | hp
  · rcases List.mem_append.1 hp with hp | hp
    · exact corners_in h.perm p hp
    · obtain ⟨x, hx, hp⟩ := List.mem_flatMap.1 hp
      have := List.mem_range.1 hx
      rw [List.mem_singleton.1 hp]
      exact ⟨by simp; omega, by simp; omega⟩
  · obtain ⟨t, ht, rfl⟩ := List.mem_map.1 hp
    have := h.lt2 (hA t ht)
    exact ⟨by simp; omega, by simp; omega⟩
/-- At the start: the polygons. -/
theorem Ok.start (h : Ok s) : num (2 * s.n) (mergeAll (s.part [] s.T)) = num (2 * s.n) (mergeAll (s.tied [])) := by
  refine num_ker (Cls.Ok.all (h.partIn (fun _ ht => by cases ht) (fun _ ht => ht))) (Cls.Ok.all (h.tiedIn (fun _ ht => by cases ht))) fun x _ y _ => ⟨fun e => ?_, fun e => ?_⟩
  · have := ker_le (F := mergeAll (s.tied [])) (l := s.part [] s.T) (fun p hp => by
      have := h.tied_part (A := []) (B := s.T) (fun _ ht => by cases ht) (fun _ ht => ht) (mergeAll (s.tied []) p.1) p hp
      simp only [beq_self_eq_true] at this
      exact (beq_iff_eq.1 this.symm).symm) e
    exact this
  · refine ker_le (F := mergeAll (s.part [] s.T)) (l := s.tied []) (fun p hp => ?_) e
    rcases List.mem_append.1 hp with hp | hp
    · rcases List.mem_append.1 hp with hp | hp
      · exact eq_of_mem (part_mem.2 (Or.inl hp))
      · obtain ⟨x, hx, hp⟩ := List.mem_flatMap.1 hp
        rw [List.mem_singleton.1 hp]
        rcases List.mem_append.1 (h.sides.mem_iff.2 hx) with hx | hx
        · unfold sidesOf at hx
          obtain ⟨t, ht, hx⟩ := List.mem_flatMap.1 hx
          simp only [List.mem_cons, List.not_mem_nil, or_false] at hx
          have hs : ∀ p ∈ spans2 t, mergeAll (s.part [] s.T) p.1 = mergeAll (s.part [] s.T) p.2 := fun p hp => eq_of_mem (part_mem.2 (Or.inr (Or.inr (Or.inl ⟨t, ht, hp⟩))))
          rcases hx with rfl | rfl
          · exact hs (2 * t.1, 2 * t.1 + 1) (by simp [spans2])
          · by_cases hf : t.2.2 = true
            · exact (hs (2 * t.2.1 + 1, 2 * t.2.1) (by simp [spans2, hf])).symm
            · exact hs (2 * t.2.1, 2 * t.2.1 + 1) (by simp [spans2, hf])
        · exact eq_of_mem (part_mem.2 (Or.inr (Or.inr (Or.inr ⟨x, hx, by simp [span]⟩))))
    · cases hp
theorem tied_snoc (A : List (Nat × Nat × Bool)) (t : Nat × Nat × Bool) : s.tied (A ++ [t]) = s.tied A ++ [(2 * t.1, 2 * t.2.1)] := by unfold tied; simp
/-- Circles, letters, polygons and parts. -/
theorem Ok.le (h : Ok s) : ∀ A B, s.T = A ++ B → num (2 * s.n) (mergeAll (s.part A B)) + num (2 * s.n) (mergeAll (s.part [] s.T)) ≤ 2 * num (2 * s.n) (mergeAll (s.tied A)) + A.length := by
  intro A
  refine snoc_ind (p := fun A => ∀ B, s.T = A ++ B → num (2 * s.n) (mergeAll (s.part A B)) + num (2 * s.n) (mergeAll (s.part [] s.T)) ≤ 2 * num (2 * s.n) (mergeAll (s.tied A)) + A.length) ?_ ?_ A
  · intro B hB
    rw [show s.part [] B = s.part [] s.T from by rw [hB]; rfl, h.start]
    simp; omega
  · intro A t ih B hT
    have hT' : s.T = A ++ t :: B := by rw [hT]; simp
    have ih := ih (t :: B) hT'
    have hA : ∀ u ∈ A, u ∈ s.T := fun u hu => by rw [hT']; simp [hu]
    have hA' : ∀ u ∈ A ++ [t], u ∈ s.T := fun u hu => by rw [hT]; exact List.mem_append.2 (Or.inl hu)
    have hB' : ∀ u ∈ t :: B, u ∈ s.T := fun u hu => by rw [hT']; exact List.mem_append.2 (Or.inr hu)
    have hB : ∀ u ∈ B, u ∈ s.T := fun u hu => hB' u (List.mem_cons_of_mem _ hu)
    have h2 := h.lt2 (hB' t (List.mem_cons_self ..))
    have q := h.quad hT'
    rw [part_spans A B t h hA hB'] at ih
    rw [part_glue A B t h hA' hB, tied_snoc, List.length_append, List.length_singleton]
    by_cases e : mergeAll (s.tied A) (2 * t.1) = mergeAll (s.tied A) (2 * t.2.1)
    · have h1 := q.le1
      rw [num_same (p := (2 * t.1, 2 * t.2.1)) e]
      omega
    · have hd := tied_endD (A := A) h2.2
      have e' : ¬ mergeAll (s.tied A) (2 * t.2.1) = mergeAll (s.tied A) (2 * t.1) := fun hh => e hh.symm
      have h1 := q.sep (h.tied_part hA hB (mergeAll (s.tied A) (2 * t.1))) (by simp) (by simp [← tied_span (A := A) h2.1]) (by simp [hd.1, e']) (by simp [hd.2, e'])
      have h3 := num_diff (p := (2 * t.1, 2 * t.2.1)) (h.tiedIn hA) (by show 2 * t.1 < 2 * s.n; omega) (by show 2 * t.2.1 < 2 * s.n; omega) e
      omega
end Scheme
end Cls

namespace Cls
theorem nodup_one {l : List Nat} {r : Nat} (hn : l.Nodup) (h : ∀ x ∈ l, x = r) : l.length ≤ 1 := by
  cases l with
  | nil => simp
  | cons x l =>
    cases l with
    | nil => simp
    | cons y l =>
      rw [List.nodup_cons] at hn
      have h1 := h x (by simp)
      have h2 := h y (by simp)
      exact absurd (show x ∈ y :: l by rw [h1, ← h2]; simp) hn.1
/-- One class is one class. -/
theorem numS_cls (c : Nat → Nat) (r N : Nat) : numS (fun v => c v == r) N c ≤ 1 := by
  unfold numS
  refine nodup_one (r := r) (List.nodup_range.filter _) fun x hx => ?_
  have := (List.mem_filter.1 hx).2
  simp only [Bool.and_eq_true, beq_iff_eq] at this
  omega
theorem le_sum {l : List Nat} {x : Nat} (h : x ∈ l) : x ≤ l.sum := by
  induction l with
  | nil => cases h
  | cons y l ih =>
    rw [List.sum_cons]
    rcases List.mem_cons.1 h with rfl | h
    · omega
    · have := ih h; omega
theorem bit_one (b : Bool) : bit b = 1 ↔ b = true := by cases b <;> simp [bit]
namespace Scheme
variable {s : Scheme}
/-- The polygons can be turned so that every letter is glued beginning to end. -/
def Turned (s : Scheme) : Prop := ∃ fl : Nat → Bool, (∀ i, i < s.n → fl (s.nx i) = fl i) ∧ ∀ t ∈ s.T, t.2.2 = (fl t.1 == fl t.2.1)
theorem sum_bits (f : Nat → Nat) (T : List (Nat × Nat × Bool)) : ((sidesOf T).map f).sum = (T.map fun t => f t.1 + f t.2.1).sum := sum_sides f T
theorem sum_eq {α : Type} {f g : α → Nat} {l : List α} (h : ∀ x ∈ l, f x = g x) : (l.map f).sum = (l.map g).sum := by rw [List.map_congr_left h]
/-- The ends of a side, by colour. -/
def nt (fl : Nat → Bool) (x : Nat) : Nat := if fl x then 2 * x else 2 * x + 1
def nf (fl : Nat → Bool) (x : Nat) : Nat := if fl x then 2 * x + 1 else 2 * x
theorem corners_col {nx : Nat → Nat} {n : Nat} (h : Perm nx n) {fl : Nat → Bool} (hf : ∀ i, i < n → fl (nx i) = fl i) {S : Nat → Bool} (hS : Closed S (corners nx n)) :
    ((List.range n).map fun i => bit (S (nt fl i))).sum = ((List.range n).map fun i => bit (S (nf fl i))).sum := by
  have hc : ∀ i ∈ List.range n, S (2 * i + 1) = S (2 * nx i) := fun i hi => hS (2 * i + 1, 2 * nx i) (List.mem_map.2 ⟨i, hi, rfl⟩)
  have e1 : ((List.range n).map fun i => if fl i then bit (S (nf fl i)) else 0).sum = ((List.range n).map fun i => if fl i then bit (S (nt fl i)) else 0).sum := by
    rw [← perm_sum h (fun i => if fl i then bit (S (nt fl i)) else 0)]
    refine sum_eq fun i hi => ?_
    rw [hf i (List.mem_range.1 hi)]
    by_cases e : fl i = true
    · have e' := hf i (List.mem_range.1 hi)
      rw [if_pos e, if_pos e]
      unfold nf nt
      rw [if_pos e, if_pos (by rw [e']; exact e), hc i hi]
    · rw [if_neg e, if_neg e]
  have e2 : ((List.range n).map fun i => if fl i then 0 else bit (S (nt fl i))).sum = ((List.range n).map fun i => if fl i then 0 else bit (S (nf fl i))).sum := by
    rw [← perm_sum h (fun i => if fl i then 0 else bit (S (nf fl i)))]
    refine sum_eq fun i hi => ?_
    rw [hf i (List.mem_range.1 hi)]
    by_cases e : fl i = true
    · rw [if_pos e, if_pos e]
    · have e' := hf i (List.mem_range.1 hi)
      rw [if_neg e, if_neg e]
      unfold nf nt
      rw [if_neg e, if_neg (by rw [e']; exact e), hc i hi]
  have e3 : ∀ g : Nat → Nat, ((List.range n).map g).sum = ((List.range n).map fun i => if fl i then g i else 0).sum + ((List.range n).map fun i => if fl i then 0 else g i).sum := fun g => by
    rw [← sum_two]
    exact sum_eq fun i _ => by by_cases e : fl i = true <;> simp [e]
  rw [e3 (fun i => bit (S (nt fl i))), e3 (fun i => bit (S (nf fl i))), e1, e2]
theorem Ok.odd (h : Ok s) (ht : Turned s) {A B : List (Nat × Nat × Bool)} {t : Nat × Nat × Bool} (hT : s.T = A ++ t :: B) :
    (num (2 * s.n) (mergeAll (s.part A B ++ [(2 * t.1, endD t), (2 * t.1 + 1, endE t)])) + num (2 * s.n) (mergeAll (s.part A B ++ [(2 * t.1, 2 * t.1 + 1), (endD t, endE t)]))) % 2 = 1 := by
  obtain ⟨fl, hfl, htt⟩ := ht
  have htT : t ∈ s.T := by rw [hT]; simp
  have hA : ∀ u ∈ A, u ∈ s.T := fun u hu => by rw [hT]; simp [hu]
  have hB : ∀ u ∈ B, u ∈ s.T := fun u hu => by rw [hT]; simp [hu]
  have q := h.quad hT
  refine q.odd (fun S hS => ?_) (fun hh => ?_)
  · have h1 := corners_col h.perm hfl (S := S) (hS.sub fun p hp => part_mem.2 (Or.inl hp))
    rw [← h.sum3 hT (fun i => bit (S (nt fl i))), ← h.sum3 hT (fun i => bit (S (nf fl i)))] at h1
    have hgl : ∀ u ∈ A, bit (S (nt fl u.1)) + bit (S (nt fl u.2.1)) = bit (S (nf fl u.1)) + bit (S (nf fl u.2.1)) := fun u hu => by
      have hg : ∀ p ∈ glue u, S p.1 = S p.2 := fun p hp => hS p (part_mem.2 (Or.inr (Or.inl ⟨u, hu, hp⟩)))
      have hu' := htt u (hA u hu)
      unfold glue at hg
      unfold nt nf
      cases e1 : fl u.1 <;> cases e2 : fl u.2.1 <;> rw [e1, e2] at hu' <;> simp [hu'] at hg <;> simp [hg] <;> omega
    have hsp : ∀ u ∈ B, bit (S (nt fl u.1)) + bit (S (nt fl u.2.1)) = bit (S (nf fl u.1)) + bit (S (nf fl u.2.1)) := fun u hu => by
      have hg : ∀ p ∈ spans2 u, S p.1 = S p.2 := fun p hp => hS p (part_mem.2 (Or.inr (Or.inr (Or.inl ⟨u, hu, hp⟩))))
      have e1 := hg (2 * u.1, 2 * u.1 + 1) (by simp [spans2])
      have e2 : S (2 * u.2.1) = S (2 * u.2.1 + 1) := by
        by_cases hf : u.2.2 = true
        · exact (hg (2 * u.2.1 + 1, 2 * u.2.1) (by simp [spans2, hf])).symm
        · exact hg (2 * u.2.1, 2 * u.2.1 + 1) (by simp [spans2, hf])
      simp only at e1
      unfold nt nf
      cases fl u.1 <;> cases fl u.2.1 <;> simp [e1, e2]
    have hfr : ∀ x ∈ s.Fr, bit (S (nt fl x)) = bit (S (nf fl x)) := fun x hx => by
      have e1 := hS (2 * x, 2 * x + 1) (part_mem.2 (Or.inr (Or.inr (Or.inr ⟨x, hx, by simp [span]⟩))))
      simp only at e1
      unfold nt nf
      cases fl x <;> simp [e1]
    rw [sum_bits, sum_bits, sum_bits, sum_bits, sum_eq hgl, sum_eq hsp, sum_eq hfr] at h1
    have hu' := htt t htT
    have h2 : bit (S (nt fl t.1)) + bit (S (nt fl t.2.1)) = bit (S (nf fl t.1)) + bit (S (nf fl t.2.1)) := by omega
    unfold nt nf at h2
    unfold endD endE
    cases e1 : fl t.1 <;> cases e2 : fl t.2.1 <;> rw [e1, e2] at hu' <;> simp [e1, e2] at h2 <;> simp [hu'] <;> omega
  · have hc := Closed.ofCls (s.part A B) (mergeAll (s.part A B) (2 * t.1))
    have h3 := endsIn_closed hc
    rw [part_ends _ h] at h3
    have h4 := h.sum3 hT (wt (fun v => mergeAll (s.part A B) v == mergeAll (s.part A B) (2 * t.1)))
    rw [← nodes_wt, wt_ends] at h4
    have h5 := nodes_le hc q.inN
    have h6 := numS_cls (mergeAll (s.part A B)) (mergeAll (s.part A B) (2 * t.1)) (2 * s.n)
    have h7 : wt (fun v => mergeAll (s.part A B) v == mergeAll (s.part A B) (2 * t.1)) t.1 = 2 := by
      unfold wt; simp [bit, ← hh.1]
    have h8 : bit (mergeAll (s.part A B) (endD t) == mergeAll (s.part A B) (2 * t.1)) = 1 := by rw [← hh.2.1]; simp [bit]
    have h9 : bit (mergeAll (s.part A B) (endE t) == mergeAll (s.part A B) (2 * t.1)) = 1 := by rw [← hh.2.2]; simp [bit]
    rw [h7, h8, h9] at h4
    omega
/-- Two-sided: circles, letters and polygons. -/
theorem Ok.even (h : Ok s) (ht : Turned s) : ∀ A B, s.T = A ++ B → (num (2 * s.n) (mergeAll (s.part A B)) + num (2 * s.n) (mergeAll (s.part [] s.T)) + A.length) % 2 = 0 := by
  intro A
  refine snoc_ind (p := fun A => ∀ B, s.T = A ++ B → (num (2 * s.n) (mergeAll (s.part A B)) + num (2 * s.n) (mergeAll (s.part [] s.T)) + A.length) % 2 = 0) ?_ ?_ A
  · intro B hB
    rw [show s.part [] B = s.part [] s.T from by rw [hB]; rfl]
    simp; omega
  · intro A t ih B hT
    have hT' : s.T = A ++ t :: B := by rw [hT]; simp
    have ih := ih (t :: B) hT'
    have hA : ∀ u ∈ A, u ∈ s.T := fun u hu => by rw [hT']; simp [hu]
    have hA' : ∀ u ∈ A ++ [t], u ∈ s.T := fun u hu => by rw [hT]; exact List.mem_append.2 (Or.inl hu)
    have hB' : ∀ u ∈ t :: B, u ∈ s.T := fun u hu => by rw [hT']; exact List.mem_append.2 (Or.inr hu)
    have hB : ∀ u ∈ B, u ∈ s.T := fun u hu => hB' u (List.mem_cons_of_mem _ hu)
    have q := h.odd ht hT'
    rw [part_spans A B t h hA hB'] at ih
    rw [part_glue A B t h hA' hB, List.length_append, List.length_singleton]
    omega

/-- All letters glued, the free sides left open. -/
def glued (s : Scheme) : List (Nat × Nat) := corners s.nx s.n ++ s.T.flatMap glue
def closed (s : Scheme) : List (Nat × Nat) := s.glued ++ s.Fr.flatMap span
theorem closed_part : s.closed = s.part s.T [] := by unfold closed glued part; simp
/-- How many circles the boundary has. -/
def circles (s : Scheme) : Nat := (found (mergeAll s.closed) (s.Fr.map fun x => 2 * x)).length
theorem Ok.gluedIn (h : Ok s) : In (2 * s.n) s.glued := (h.partIn (A := s.T) (B := []) (fun _ ht => ht) (fun _ ht => by cases ht)).sub fun p hp => by
  rw [← closed_part]; exact List.mem_append.2 (Or.inl hp)
theorem Ok.closedIn (h : Ok s) : In (2 * s.n) s.closed := by rw [closed_part]; exact h.partIn (fun _ ht => ht) (fun _ ht => by cases ht)
theorem numS_split (S : Nat → Bool) (N : Nat) (c : Nat → Nat) : num N c = numS S N c + numS (fun v => !S v) N c := by
  unfold num tally numS
  generalize List.range N = l
  induction l with
  | nil => rfl
  | cons x l ih =>
    simp only [List.filter_cons]
    cases S x <;> cases (c x == x) <;> simp [ih] <;> omega
/-- Pairs outside S leave its classes alone. -/
theorem numS_more {S : Nat → Bool} {N : Nat} {es : List (Nat × Nat)} (fs : List (Nat × Nat)) : Closed S (es ++ fs) → In N (es ++ fs) → (∀ p ∈ fs, S p.1 = false) → numS S N (mergeAll (es ++ fs)) = numS S N (mergeAll es) := by
  refine snoc_ind (p := fun fs => Closed S (es ++ fs) → In N (es ++ fs) → (∀ p ∈ fs, S p.1 = false) → numS S N (mergeAll (es ++ fs)) = numS S N (mergeAll es)) ?_ ?_ fs
  · intro _ _ _; rw [List.append_nil]
  · intro fs p ih hS hN hf
    have hs : ∀ q ∈ es ++ fs, q ∈ es ++ (fs ++ [p]) := fun q hq => by rw [← List.append_assoc]; exact List.mem_append.2 (Or.inl hq)
    have hp := hN p (by simp)
    rw [← List.append_assoc, mergeAll_snoc, numS_out (Ok.all (hN.sub hs)) hp.1 hp.2 (by rw [(hS.sub hs).lab (hN.sub hs) hp.1]; exact hf p (by simp))]
    exact ih (hS.sub hs) (hN.sub hs) (fun q hq => hf q (by simp [hq]))
theorem sum_count (c : Nat → Nat) (W : List Nat) : ∀ R : List Nat, R.Nodup → (R.map fun r => W.countP fun w => c w == r).sum = W.countP fun w => decide (c w ∈ R) := by
  intro R
  induction R with
  | nil => intro _; simp
  | cons r R ih =>
    intro hn
    rw [List.nodup_cons] at hn
    rw [List.map_cons, List.sum_cons, ih hn.2]
    clear ih
    induction W with
    | nil => rfl
    | cons w W ih =>
      rw [List.countP_cons, List.countP_cons, List.countP_cons]
      by_cases e : c w = r
      · have : ¬ c w ∈ R := by rw [e]; exact hn.1
        simp [e, hn.1] ; simp [List.mem_cons] at ih; omega
      · simp only [beq_iff_eq, e, if_false, List.mem_cons, false_or, decide_eq_true_eq]
        simp only [List.mem_cons] at ih
        omega
theorem sum_all2 {l : List Nat} {f : Nat → Nat} (h : ∀ x ∈ l, f x = 2) : (l.map f).sum = 2 * l.length := by
  induction l with
  | nil => rfl
  | cons x l ih => rw [List.map_cons, List.sum_cons, ih (fun y hy => h y (List.mem_cons_of_mem _ hy)), h x (List.mem_cons_self ..), List.length_cons]; omega
/-- Both ends of sides. -/
def both (l : List Nat) : List Nat := l.flatMap fun x => [2 * x, 2 * x + 1]
theorem both_len (l : List Nat) : (both l).length = 2 * l.length := by
  induction l with
  | nil => rfl
  | cons x l ih => show ([2 * x, 2 * x + 1] ++ both l).length = _; rw [List.length_append, ih, List.length_cons]; simp; omega
theorem both_count (S : Nat → Bool) (l : List Nat) : (both l).countP S = (l.map (wt S)).sum := by
  induction l with
  | nil => rfl
  | cons x l ih =>
    show ([2 * x, 2 * x + 1] ++ both l).countP S = _
    rw [List.countP_append, ih, List.map_cons, List.sum_cons]
    unfold wt bit
    simp only [List.countP_cons, List.countP_nil]
    omega
/-- Vertices, circles and free sides: each path of corners has two ends. -/
theorem Ok.circles (h : Ok s) : num (2 * s.n) (mergeAll s.glued) + s.circles = num (2 * s.n) (mergeAll s.closed) + s.Fr.length := by
  let S : Nat → Bool := fun v => s.Fr.any fun f => mergeAll s.closed (2 * f) == mergeAll s.closed v
  have hSc : Closed S s.closed := fun p hp => by
    show (s.Fr.any fun f => mergeAll s.closed (2 * f) == mergeAll s.closed p.1) = (s.Fr.any fun f => mergeAll s.closed (2 * f) == mergeAll s.closed p.2)
    rw [eq_of_mem (a := p.1) (b := p.2) hp]
  have hgc : ∀ p ∈ s.glued, p ∈ s.closed := fun p hp => List.mem_append.2 (Or.inl hp)
  have hSg : Closed S s.glued := hSc.sub hgc
  have hN : Closed (fun v => !S v) s.closed := fun p hp => by show (!S p.1) = (!S p.2); rw [hSc p hp]
  rw [numS_split S, numS_split S (2 * s.n) (mergeAll s.closed)]
  have h1 : numS (fun v => !S v) (2 * s.n) (mergeAll s.closed) = numS (fun v => !S v) (2 * s.n) (mergeAll s.glued) :=
    numS_more (s.Fr.flatMap span) hN h.closedIn (fun p hp => by
      obtain ⟨x, hx, hp⟩ := List.mem_flatMap.1 hp
      rw [List.mem_singleton.1 hp]
      show (!(s.Fr.any fun f => mergeAll s.closed (2 * f) == mergeAll s.closed (2 * x))) = false
      rw [Bool.not_eq_false']
      exact List.any_eq_true.2 ⟨x, hx, by simp⟩)
  have h2 : numS S (2 * s.n) (mergeAll s.closed) = s.circles := by
    unfold numS Scheme.circles
    refine List.Perm.length_eq ((List.perm_ext_iff_of_nodup (List.nodup_range.filter _) (found_nodup _ _)).2 fun x => ?_)
    rw [found_mem, List.mem_filter, List.mem_range, Bool.and_eq_true, beq_iff_eq]
    constructor
    · rintro ⟨_, hx, hx2⟩
      obtain ⟨f, hf, e⟩ := List.any_eq_true.1 hx
      exact ⟨2 * f, List.mem_map.2 ⟨f, hf, rfl⟩, (beq_iff_eq.1 e).trans hx2⟩
    · rintro ⟨m, hm, rfl⟩
      obtain ⟨f, hf, rfl⟩ := List.mem_map.1 hm
      have hlt : 2 * f < 2 * s.n := by have := h.ltF hf; omega
      have hid := (Cls.Ok.all h.closedIn).idem _ hlt
      exact ⟨(Cls.Ok.all h.closedIn).lt _ hlt, List.any_eq_true.2 ⟨f, hf, by rw [beq_iff_eq]; exact hid.symm⟩, hid⟩
  have h3 : 2 * numS S (2 * s.n) (mergeAll s.glued) = 2 * s.Fr.length := by
    have hgo := Cls.Ok.all h.gluedIn
    have hR := sum_count (mergeAll s.glued) (both s.Fr) ((List.range (2 * s.n)).filter fun v => S v && mergeAll s.glued v == v) (List.nodup_range.filter _)
    rw [sum_all2 (fun r hr => ?_)] at hR
    · show 2 * ((List.range (2 * s.n)).filter fun v => S v && mergeAll s.glued v == v).length = _
      rw [hR, ← both_len, List.countP_eq_length]
      intro x hx
      unfold both at hx
      obtain ⟨f, hf, hx⟩ := List.mem_flatMap.1 hx
      have hSf : S x = true := by
        have : mergeAll s.closed (2 * f) = mergeAll s.closed (2 * f + 1) := eq_of_mem (List.mem_append.2 (Or.inr (List.mem_flatMap.2 ⟨f, hf, by simp [span]⟩)))
        simp only [List.mem_cons, List.not_mem_nil, or_false] at hx
        rcases hx with rfl | rfl
        · exact List.any_eq_true.2 ⟨f, hf, by simp⟩
        · exact List.any_eq_true.2 ⟨f, hf, by simp [this]⟩
      have hlt : x < 2 * s.n := by
        have := h.ltF hf
        simp only [List.mem_cons, List.not_mem_nil, or_false] at hx
        omega
      rw [decide_eq_true_eq, List.mem_filter, List.mem_range, Bool.and_eq_true, beq_iff_eq]
      exact ⟨hgo.lt _ hlt, by rw [hSg.lab h.gluedIn hlt]; exact hSf, hgo.idem _ hlt⟩
    · obtain ⟨hr1, hr2⟩ := List.mem_filter.1 hr
      have hr1 := List.mem_range.1 hr1
      rw [Bool.and_eq_true, beq_iff_eq] at hr2
      show (both s.Fr).countP (fun w => mergeAll s.glued w == r) = 2
      rw [both_count]
      have hc := Closed.ofCls s.glued r
      have e1 := endsIn_closed hc
      unfold glued at e1
      rw [endsIn_append, corners_ends h.perm, flat_ends] at e1
      simp only [glue_ends] at e1
      rw [← sum_sides] at e1
      have e2 := h.sum (wt (fun v => mergeAll (corners s.nx s.n ++ s.T.flatMap glue) v == r))
      rw [← nodes_wt] at e2
      have e3 := nodes_le hc h.gluedIn
      have e4 := numS_cls (mergeAll s.glued) r (2 * s.n)
      unfold glued at e3 e4 ⊢
      have e5 : (s.Fr.map (wt (fun v => mergeAll (corners s.nx s.n ++ s.T.flatMap glue) v == r))).sum ≠ 0 := by
        intro h0
        have hz : ∀ f ∈ s.Fr, wt (fun v => mergeAll s.glued v == r) f = 0 := fun f hf => by
          rcases Nat.eq_zero_or_pos (wt (fun v => mergeAll s.glued v == r) f) with hw | hw
          · exact hw
          · have hm : wt (fun v => mergeAll s.glued v == r) f ∈ s.Fr.map (wt (fun v => mergeAll s.glued v == r)) := List.mem_map.2 ⟨f, hf, rfl⟩
            have := le_sum hm
            unfold glued at this hw ⊢
            omega
        have hcl : Closed (fun v => mergeAll s.glued v == r) s.closed := fun p hp => by
          rcases List.mem_append.1 hp with hp | hp
          · exact hc p hp
          · obtain ⟨x, hx, hp⟩ := List.mem_flatMap.1 hp
            rw [List.mem_singleton.1 hp]
            have hw := hz x hx
            unfold wt bit at hw
            show (mergeAll s.glued (2 * x) == r) = (mergeAll s.glued (2 * x + 1) == r)
            cases h1 : (mergeAll s.glued (2 * x) == r) <;> cases h2 : (mergeAll s.glued (2 * x + 1) == r) <;> simp [h1, h2] at hw <;> rfl
        obtain ⟨f, hf, e⟩ := List.any_eq_true.1 hr2.1
        have hfr := ker_le (F := fun v => mergeAll s.glued v == r) hcl (beq_iff_eq.1 e)
        have hw := hz f hf
        simp only [hr2.2, beq_self_eq_true] at hfr
        unfold wt bit at hw
        simp [hfr] at hw
      omega
  omega
/-- Euler's number is at most twice the parts less the circles. -/
theorem Ok.bound (h : Ok s) : num (2 * s.n) (mergeAll s.glued) + num (2 * s.n) (mergeAll (s.tied [])) + s.circles ≤ 2 * num (2 * s.n) (mergeAll (s.tied s.T)) + s.T.length + s.Fr.length := by
  have h1 := h.le s.T [] (by simp)
  have h2 := h.circles
  rw [← closed_part, h.start] at h1
  omega
theorem Ok.parity (h : Ok s) (ht : Turned s) : (num (2 * s.n) (mergeAll s.glued) + num (2 * s.n) (mergeAll (s.tied [])) + s.circles + s.T.length + s.Fr.length) % 2 = 0 := by
  have h1 := h.even ht s.T [] (by simp)
  have h2 := h.circles
  rw [← closed_part, h.start] at h1
  omega
end Scheme
end Cls
end Go.Proofs.YtamgimdjnmcpaaaGreat
namespace Go.Proofs.YtamgimdjnmcpaaaGreat

namespace Mp
open Cls
/-- f leads the numbers below n to one another, each to one of its own. -/
structure Per (f : Nat → Nat) (n : Nat) : Prop where
  lt : ∀ d, d < n → f d < n
  inj : ∀ d e, d < n → e < n → f d = f e → d = e
theorem Per.perm {f : Nat → Nat} {n : Nat} (h : Per f n) : Cls.Perm f n := by
  have hnd : ((List.range n).map f).Nodup := by
    rw [List.nodup_iff_pairwise_ne, List.pairwise_map, List.pairwise_iff_getElem]
    intro i j hi hj hij
    simp only [List.length_range] at hi hj
    simp only [List.getElem_range]
    intro e
    have := h.inj i j hi hj e
    omega
  refine nodup_perm hnd (fun y hy => ?_) (by simp)
  obtain ⟨x, hx, rfl⟩ := List.mem_map.1 hy
  exact h.lt x (List.mem_range.1 hx)
theorem Per.pre {f : Nat → Nat} {n : Nat} (h : Per f n) {y : Nat} (hy : y < n) : ∃ x, x < n ∧ f x = y := by
  obtain ⟨x, hx, e⟩ := List.mem_map.1 (h.perm.mem_iff.2 (List.mem_range.2 hy))
  exact ⟨x, List.mem_range.1 hx, e⟩
theorem per_at {l : List Int} (h : IsP l) : Per (at_ l) l.length := ⟨fun _ hd => at_lt h hd, fun _ _ hd he => at_inj h hd he⟩
theorem per_mate {n : Nat} (hn : n % 2 = 0) : Per mate n := ⟨fun _ hd => mate_lt hn hd, fun _ _ _ _ h => mate_inj h⟩
theorem Per.comp {f g : Nat → Nat} {n : Nat} (hf : Per f n) (hg : Per g n) : Per (fun k => f (g k)) n :=
  ⟨fun d hd => hf.lt _ (hg.lt d hd), fun d e hd he h => hg.inj d e hd he (hf.inj _ _ (hg.lt d hd) (hg.lt e he) h)⟩
theorem Per.congr {f g : Nat → Nat} {n : Nat} (hf : Per f n) (h : ∀ d, d < n → g d = f d) : Per g n :=
  ⟨fun d hd => by rw [h d hd]; exact hf.lt d hd, fun d e hd he hh => hf.inj d e hd he (by rw [← h d hd, ← h e he]; exact hh)⟩

def arcs (f : Nat → Nat) (n : Nat) : List (Nat × Nat) := (List.range n).map fun k => (k, f k)
theorem arcs_mem {f : Nat → Nat} {n : Nat} {p : Nat × Nat} : p ∈ arcs f n ↔ p.1 < n ∧ p.2 = f p.1 := by
  unfold arcs
  rw [List.mem_map]
  constructor
  · rintro ⟨k, hk, rfl⟩; exact ⟨List.mem_range.1 hk, rfl⟩
  · rintro ⟨h1, h2⟩; exact ⟨p.1, List.mem_range.2 h1, by rw [← h2]⟩
theorem arcs_in {f : Nat → Nat} {n : Nat} (h : Per f n) : In n (arcs f n) := fun p hp => by
  obtain ⟨h1, h2⟩ := arcs_mem.1 hp; exact ⟨h1, by rw [h2]; exact h.lt _ h1⟩
theorem arcs_eq {f : Nat → Nat} {n k : Nat} (hk : k < n) (es : List (Nat × Nat)) (h : ∀ p ∈ arcs f n, p ∈ es) : mergeAll es k = mergeAll es (f k) := eq_of_mem (h (k, f k) (arcs_mem.2 ⟨hk, rfl⟩))
theorem arcs_same {f : Nat → Nat} {n k : Nat} (hk : k < n) : mergeAll (arcs f n) k = mergeAll (arcs f n) (f k) := arcs_eq hk _ fun _ h => h
theorem arcs_congr {f g : Nat → Nat} {n : Nat} (h : ∀ d, d < n → g d = f d) : arcs g n = arcs f n := by
  unfold arcs; exact List.map_congr_left fun k hk => by rw [h k (List.mem_range.1 hk)]
def cnum (f : Nat → Nat) (n : Nat) : Nat := num n (mergeAll (arcs f n))
theorem In.append {N : Nat} {es fs : List (Nat × Nat)} (h : In N es) (h' : In N fs) : In N (es ++ fs) := fun p hp => (List.mem_append.1 hp).elim (h p) (h' p)
/-- Pairs that lie in the same classes, one way and the other. -/
theorem num_iff {N : Nat} {es fs : List (Nat × Nat)} (h1 : In N es) (h2 : In N fs) (h3 : ∀ p ∈ es, mergeAll fs p.1 = mergeAll fs p.2) (h4 : ∀ p ∈ fs, mergeAll es p.1 = mergeAll es p.2) : num N (mergeAll es) = num N (mergeAll fs) :=
  num_ker (Ok.all h1) (Ok.all h2) fun _ _ _ _ => ⟨ker_le h3, ker_le h4⟩

def swp (f : Nat → Nat) (a b : Nat) : Nat → Nat := fun k => if k = a then f b else if k = b then f a else f k
theorem swp_l (f : Nat → Nat) (a b : Nat) : swp f a b a = f b := by simp [swp]
theorem swp_r (f : Nat → Nat) (a b : Nat) : swp f a b b = f a := by unfold swp; split <;> simp_all
theorem swp_o {f : Nat → Nat} {a b k : Nat} (h1 : k ≠ a) (h2 : k ≠ b) : swp f a b k = f k := by simp [swp, h1, h2]
theorem swp_swp (f : Nat → Nat) (a b : Nat) : swp (swp f a b) a b = f := by
  funext k
  by_cases h1 : k = a
  · subst h1; rw [swp_l, swp_r]
  · by_cases h2 : k = b
    · subst h2; rw [swp_r, swp_l]
    · rw [swp_o h1 h2, swp_o h1 h2]
theorem Per.swp {f : Nat → Nat} {n a b : Nat} (h : Per f n) (ha : a < n) (hb : b < n) : Per (swp f a b) n := by
  refine ⟨fun d hd => ?_, fun d e hd he hh => ?_⟩
  · unfold Mp.swp; split
    · exact h.lt _ hb
    · split
      · exact h.lt _ ha
      · exact h.lt _ hd
  · unfold Mp.swp at hh
    by_cases d1 : d = a
    · by_cases e1 : e = a
      · omega
      · rw [if_pos d1, if_neg e1] at hh
        by_cases e2 : e = b
        · rw [if_pos e2] at hh; have := h.inj _ _ hb ha hh; omega
        · rw [if_neg e2] at hh; have := h.inj _ _ hb he hh; omega
    · rw [if_neg d1] at hh
      by_cases d2 : d = b
      · rw [if_pos d2] at hh
        by_cases e1 : e = a
        · rw [if_pos e1] at hh; have := h.inj _ _ ha hb hh; omega
        · rw [if_neg e1] at hh
          by_cases e2 : e = b
          · omega
          · rw [if_neg e2] at hh; have := h.inj _ _ ha he hh; omega
      · rw [if_neg d2] at hh
        by_cases e1 : e = a
        · rw [if_pos e1] at hh; have := h.inj _ _ hd hb hh; omega
        · rw [if_neg e1] at hh
          by_cases e2 : e = b
          · rw [if_pos e2] at hh; have := h.inj _ _ hd ha hh; omega
          · rw [if_neg e2] at hh; exact h.inj _ _ hd he hh
/-- The arcs but those of a and b. -/
def others (n a b : Nat) : List Nat := (List.range n).filter fun k => k != a && k != b
def rest2 (f : Nat → Nat) (n a b : Nat) : List (Nat × Nat) := (others n a b).map fun k => (k, f k)
theorem others_mem {n a b k : Nat} : k ∈ others n a b ↔ k < n ∧ k ≠ a ∧ k ≠ b := by
  unfold others; rw [List.mem_filter, List.mem_range]; simp
theorem others_perm {n a b : Nat} (ha : a < n) (hb : b < n) (hab : a ≠ b) : (List.range n).Perm (a :: b :: others n a b) := by
  refine (List.perm_ext_iff_of_nodup List.nodup_range ?_).2 fun k => ?_
  · rw [List.nodup_cons, List.nodup_cons]
    refine ⟨?_, ?_, List.nodup_range.filter _⟩
    · intro h
      rcases List.mem_cons.1 h with h | h
      · exact hab h
      · exact (others_mem.1 h).2.1 rfl
    · intro h; exact (others_mem.1 h).2.2 rfl
  · rw [List.mem_range, List.mem_cons, List.mem_cons, others_mem]
    constructor
    · intro h; by_cases e1 : k = a
      · exact Or.inl e1
      · by_cases e2 : k = b
        · exact Or.inr (Or.inl e2)
        · exact Or.inr (Or.inr ⟨h, e1, e2⟩)
    · rintro (h | h | h)
      · rw [h]; exact ha
      · rw [h]; exact hb
      · exact h.1
theorem sum_others {n a b : Nat} (ha : a < n) (hb : b < n) (hab : a ≠ b) (g : Nat → Nat) : ((List.range n).map g).sum = g a + (g b + ((others n a b).map g).sum) := by
  have := ((others_perm ha hb hab).map g).sum_nat
  simpa using this
theorem rest2_mem {f : Nat → Nat} {n a b : Nat} {p : Nat × Nat} : p ∈ rest2 f n a b ↔ p.1 < n ∧ p.1 ≠ a ∧ p.1 ≠ b ∧ p.2 = f p.1 := by
  unfold rest2
  rw [List.mem_map]
  constructor
  · rintro ⟨k, hk, rfl⟩
    have := others_mem.1 hk
    exact ⟨this.1, this.2.1, this.2.2, rfl⟩
  · rintro ⟨h1, h2, h3, h4⟩; exact ⟨p.1, others_mem.2 ⟨h1, h2, h3⟩, by rw [← h4]⟩
section
variable {f : Nat → Nat} {n a b : Nat}
theorem rest2_in (h : Per f n) : In n (rest2 f n a b) := fun p hp => by
  obtain ⟨h1, _, _, h2⟩ := rest2_mem.1 hp; exact ⟨h1, by rw [h2]; exact h.lt _ h1⟩
/-- Beginnings and ends are as many. -/
theorem rest2_even (h : Per f n) (ha : a < n) (hb : b < n) (hab : a ≠ b) {S : Nat → Bool} (hS : Closed S (rest2 f n a b)) : bit (S a) + bit (S b) = bit (S (f a)) + bit (S (f b)) := by
  have h1 := perm_sum h.perm (fun k => bit (S k))
  rw [sum_others ha hb hab, sum_others ha hb hab] at h1
  have h2 : ((others n a b).map fun i => bit (S (f i))) = (others n a b).map fun k => bit (S k) := List.map_congr_left fun k hk => by
    have hk := others_mem.1 hk
    have := hS (k, f k) (rest2_mem.2 ⟨hk.1, hk.2.1, hk.2.2, rfl⟩)
    rw [show S k = S (f k) from this]
  rw [h2] at h1
  omega
theorem rest2_quad (h : Per f n) (ha : a < n) (hb : b < n) (hab : a ≠ b) : Quad n (rest2 f n a b) a (f a) (f b) b :=
  ⟨rest2_in h, ha, h.lt _ ha, h.lt _ hb, hb, fun S hS => by have := rest2_even h ha hb hab hS; omega⟩
theorem rest2_apart (h : Per f n) (ha : a < n) (hb : b < n) (hab : a ≠ b) (he : mergeAll (rest2 f n a b) a = mergeAll (rest2 f n a b) b) : False := by
  have hc := Closed.ofCls (rest2 f n a b) (mergeAll (rest2 f n a b) a)
  have h1 := nodes_le hc (rest2_in h)
  generalize hS : (fun v => mergeAll (rest2 f n a b) v == mergeAll (rest2 f n a b) a) = S at *
  have hSa : S a = true := by rw [← hS]; simp
  have hSb : S b = true := by rw [← hS]; simp [he]
  have h2 : numS S n (mergeAll (rest2 f n a b)) ≤ 1 := by
    unfold numS
    have key : ∀ {l : List Nat} {r : Nat}, l.Nodup → (∀ x ∈ l, x = r) → l.length ≤ 1 := fun {l r} hn hl => by
      cases l with
      | nil => simp
      | cons x t =>
        cases t with
        | nil => simp
        | cons y t =>
          have := hl x (by simp)
          have := hl y (by simp)
          rw [List.nodup_cons] at hn
          exact absurd (by simp_all) hn.1
    refine key (r := mergeAll (rest2 f n a b) a) (List.nodup_range.filter _) fun x hx => ?_
    have := (List.mem_filter.1 hx).2
    rw [← hS] at this
    simp only [Bool.and_eq_true, beq_iff_eq] at this
    rw [← this.2]; exact this.1
  have h3 : inE S (rest2 f n a b) + 2 = nodes S n := by
    unfold inE nodes rest2
    rw [(others_perm ha hb hab).countP_eq, List.countP_map, List.countP_cons, List.countP_cons, hSa, hSb]
    rfl
  omega
/-- The classes of the arcs, by those of the others. -/
theorem arcs_num (h : Per f n) (ha : a < n) (hb : b < n) : num n (mergeAll (rest2 f n a b ++ [(a, f a), (f b, b)])) = cnum f n := by
  refine num_iff ?_ (arcs_in h) (fun p hp => ?_) (fun p hp => ?_)
  · exact In.append (rest2_in h) fun p hp => by
      simp only [List.mem_cons, List.not_mem_nil, or_false] at hp
      rcases hp with rfl | rfl
      · exact ⟨ha, h.lt _ ha⟩
      · exact ⟨h.lt _ hb, hb⟩
  · rcases List.mem_append.1 hp with hp | hp
    · obtain ⟨h1, _, _, h2⟩ := rest2_mem.1 hp
      rw [h2]; exact arcs_same h1
    · simp only [List.mem_cons, List.not_mem_nil, or_false] at hp
      rcases hp with rfl | rfl
      · exact arcs_same ha
      · exact (arcs_same hb).symm
  · obtain ⟨h1, h2⟩ := arcs_mem.1 hp
    obtain ⟨k, y⟩ := p
    simp only at h1 h2
    subst h2
    by_cases e1 : k = a
    · subst e1; exact eq_of_mem (by simp)
    · by_cases e2 : k = b
      · subst e2; exact (eq_of_mem (a := f k) (b := k) (by simp)).symm
      · exact eq_of_mem (List.mem_append.2 (Or.inl (rest2_mem.2 ⟨h1, e1, e2, rfl⟩)))
theorem rest2_swp : rest2 (swp f a b) n a b = rest2 f n a b := by
  unfold rest2
  exact List.map_congr_left fun k hk => by have hk := others_mem.1 hk; rw [swp_o hk.2.1 hk.2.2]
theorem swp_num (h : Per f n) (ha : a < n) (hb : b < n) : num n (mergeAll (rest2 f n a b ++ [(a, f b), (f a, b)])) = cnum (swp f a b) n := by
  have := arcs_num (h.swp ha hb) ha hb
  rw [rest2_swp, swp_l, swp_r] at this
  exact this
theorem rest2_sub {k y : Nat} (h : mergeAll (rest2 f n a b) k = mergeAll (rest2 f n a b) y) : mergeAll (arcs f n) k = mergeAll (arcs f n) y :=
  ker_le (fun p hp => by obtain ⟨h1, _, _, h2⟩ := rest2_mem.1 hp; rw [h2]; exact arcs_same h1) h
/-- Two images change places: a cycle is parted, or two are joined. -/
theorem swp_cases (h : Per f n) (ha : a < n) (hb : b < n) (hab : a ≠ b) :
    (mergeAll (arcs f n) a ≠ mergeAll (arcs f n) b ∧ cnum (swp f a b) n + 1 = cnum f n) ∨ (mergeAll (arcs f n) a = mergeAll (arcs f n) b ∧ cnum (swp f a b) n = cnum f n + 1) := by
  have hq := (rest2_quad h ha hb hab).cases
  rw [arcs_num h ha hb, swp_num h ha hb] at hq
  rcases hq with ⟨h1, h2, h3, h4⟩ | ⟨h1, h2, h3, h4⟩ | ⟨h1, h2, h3, h4⟩ | ⟨h1, h2, h3, h4⟩
  · refine Or.inl ⟨fun he => ?_, h4⟩
    -- the arcs of a and b lie in classes of the others
    have key : ∀ p ∈ arcs f n, mergeAll (rest2 f n a b) p.1 = mergeAll (rest2 f n a b) p.2 := fun p hp => by
      obtain ⟨h5, h6⟩ := arcs_mem.1 hp
      obtain ⟨k, y⟩ := p
      simp only at h5 h6
      subst h6
      by_cases e1 : k = a
      · subst e1; exact h1
      · by_cases e2 : k = b
        · subst e2; exact h2.symm
        · exact eq_of_mem (rest2_mem.2 ⟨h5, e1, e2, rfl⟩)
    have := ker_le key he
    exact h3 (this.trans h2.symm)
  · exact Or.inr ⟨(rest2_sub h1).trans (arcs_same hb).symm, h4⟩
  · exact absurd h1 (fun e => rest2_apart h ha hb hab e)
  · exact absurd h3 (fun e => rest2_apart h ha hb hab e)
theorem swp_diff (h : Per f n) (ha : a < n) (hb : b < n) (hd : mergeAll (arcs f n) a ≠ mergeAll (arcs f n) b) : cnum (swp f a b) n + 1 = cnum f n := by
  rcases swp_cases h ha hb (fun e => hd (by rw [e])) with ⟨_, h2⟩ | ⟨h1, _⟩
  · exact h2
  · exact absurd h1 hd
theorem swp_same (h : Per f n) (ha : a < n) (hb : b < n) (hab : a ≠ b) (hd : mergeAll (arcs f n) a = mergeAll (arcs f n) b) : cnum (swp f a b) n = cnum f n + 1 := by
  rcases swp_cases h ha hb hab with ⟨h1, _⟩ | ⟨_, h2⟩
  · exact absurd hd h1
  · exact h2
/-- A number that leads to itself is a cycle of its own. -/
theorem fix_apart (h : Per f n) (ha : a < n) (hf : f a = a) (hb : b ≠ a) : mergeAll (arcs f n) a ≠ mergeAll (arcs f n) b := by
  intro he
  have := ker_le (F := fun k => k == a) (fun p hp => by
    obtain ⟨h1, h2⟩ := arcs_mem.1 hp
    rw [h2]
    by_cases e : p.1 = a
    · rw [e, hf]
    · have : f p.1 ≠ a := fun hh => e (h.inj _ _ h1 ha (hh.trans hf.symm))
      rw [beq_eq_false_iff_ne.2 e, beq_eq_false_iff_ne.2 this]) he
  simp [hb] at this
theorem cnum_le (f : Nat → Nat) (n : Nat) : cnum f n ≤ n := by
  unfold cnum num
  have := tally_le (mergeAll (arcs f n)) (List.range n)
  rwa [List.length_range] at this
end

/-- Vertices, faces, parts. -/
def vN (f : Nat → Nat) (n : Nat) : Nat := cnum f n
def fN (f : Nat → Nat) (n : Nat) : Nat := cnum (fun k => f (mate k)) n
def tied (f : Nat → Nat) (n : Nat) : List (Nat × Nat) := arcs f n ++ arcs mate n
def cN (f : Nat → Nat) (n : Nat) : Nat := num n (mergeAll (tied f n))
section
variable {f : Nat → Nat} {n a b : Nat}
theorem tied_in (h : Per f n) (hn : n % 2 = 0) : In n (tied f n) := In.append (arcs_in h) (arcs_in (per_mate hn))
theorem tied_arc {k : Nat} (hk : k < n) : mergeAll (tied f n) k = mergeAll (tied f n) (f k) := arcs_eq hk _ fun _ h => List.mem_append.2 (Or.inl h)
theorem tied_mate {k : Nat} (hk : k < n) : mergeAll (tied f n) k = mergeAll (tied f n) (mate k) := arcs_eq hk _ fun _ h => List.mem_append.2 (Or.inr h)
theorem tied_mem {p : Nat × Nat} : p ∈ tied f n ↔ p.1 < n ∧ (p.2 = f p.1 ∨ p.2 = mate p.1) := by
  unfold tied; rw [List.mem_append, arcs_mem, arcs_mem]
  constructor
  · rintro (h | h)
    · exact ⟨h.1, Or.inl h.2⟩
    · exact ⟨h.1, Or.inr h.2⟩
  · rintro ⟨h, h2 | h2⟩
    · exact Or.inl ⟨h, h2⟩
    · exact Or.inr ⟨h, h2⟩
theorem face_tied (hn : n % 2 = 0) {x y : Nat} (h : mergeAll (arcs (fun k => f (mate k)) n) x = mergeAll (arcs (fun k => f (mate k)) n) y) : mergeAll (tied f n) x = mergeAll (tied f n) y :=
  ker_le (fun p hp => by
    obtain ⟨h1, h2⟩ := arcs_mem.1 hp
    rw [h2]
    exact (tied_mate h1).trans (tied_arc (mate_lt hn h1))) h
theorem face_swp (f : Nat → Nat) (a b : Nat) : (fun k => swp f a b (mate k)) = swp (fun k => f (mate k)) (mate a) (mate b) := by
  funext k
  show swp f a b (mate k) = swp (fun k => f (mate k)) (mate a) (mate b) k
  unfold swp
  simp only [mate_mate]
  have e : ∀ c, (mate k = c) = (k = mate c) := fun c => propext ⟨fun h => by rw [← h, mate_mate], fun h => by rw [h, mate_mate]⟩
  simp only [e]
/-- A dart that was alone at its vertex is laid behind another. -/
theorem insert_cases (h : Per f n) (hn : n % 2 = 0) (ha : a < n) (hb : b < n) (hf : f a = a) (hab : b ≠ a) :
    vN (swp f a b) n + 1 = vN f n ∧
    ((mergeAll (tied f n) a = mergeAll (tied f n) b ∧ cN (swp f a b) n = cN f n ∧ (fN (swp f a b) n = fN f n + 1 ∧ mergeAll (arcs (fun k => f (mate k)) n) (mate a) = mergeAll (arcs (fun k => f (mate k)) n) (mate b) ∨ fN (swp f a b) n + 1 = fN f n)) ∨
     (mergeAll (tied f n) a ≠ mergeAll (tied f n) b ∧ cN (swp f a b) n + 1 = cN f n ∧ fN (swp f a b) n + 1 = fN f n)) := by
  refine ⟨swp_diff h ha hb (fix_apart h ha hf hab), ?_⟩
  have hfc := h.comp (per_mate hn)
  have hma := mate_lt hn ha
  have hmb := mate_lt hn hb
  have hmab : mate a ≠ mate b := fun e => hab (mate_inj e).symm
  have hF : fN (swp f a b) n = cnum (swp (fun k => f (mate k)) (mate a) (mate b)) n := by unfold fN; rw [face_swp]
  have hC : cN (swp f a b) n = num n (mergeAll (tied f n ++ [(a, b)])) := by
    unfold cN
    have hI : In n (tied f n ++ [(a, b)]) := In.append (tied_in h hn) (fun p hp => by rw [List.mem_singleton.1 hp]; exact ⟨ha, hb⟩)
    have hab' : mergeAll (tied f n ++ [(a, b)]) a = mergeAll (tied f n ++ [(a, b)]) b := eq_of_mem (by simp)
    refine num_iff (tied_in (h.swp ha hb) hn) hI (fun p hp => ?_) (fun p hp => ?_)
    · obtain ⟨k, y⟩ := p
      obtain ⟨h1, h2⟩ := tied_mem.1 hp
      simp only at h1 h2 ⊢
      rcases h2 with rfl | rfl
      · unfold Mp.swp; split
        · rename_i e; rw [e, hab']; exact eq_append (tied_arc hb)
        · split
          · rename_i e; rw [e, hf]; exact hab'.symm
          · exact eq_append (tied_arc h1)
      · exact eq_append (tied_mate h1)
    · have e1 : mergeAll (tied (swp f a b) n) b = mergeAll (tied (swp f a b) n) a := by
        have := tied_arc (f := swp f a b) hb; rwa [swp_r, hf] at this
      rcases List.mem_append.1 hp with hp | hp
      · obtain ⟨k, y⟩ := p
        obtain ⟨h1, h2⟩ := tied_mem.1 hp
        simp only at h1 h2 ⊢
        rcases h2 with rfl | rfl
        · by_cases k1 : k = a
          · rw [k1, hf]
          · by_cases k2 : k = b
            · rw [k2, e1]
              have := tied_arc (f := swp f a b) ha; rwa [swp_l] at this
            · have := tied_arc (f := swp f a b) h1; rwa [swp_o k1 k2] at this
        · exact tied_mate h1
      · rw [List.mem_singleton.1 hp]; exact e1.symm
  by_cases he : mergeAll (tied f n) a = mergeAll (tied f n) b
  · refine Or.inl ⟨he, ?_, ?_⟩
    · rw [hC, num_same (p := (a, b)) he]; rfl
    · rw [hF]
      rcases swp_cases hfc hma hmb hmab with ⟨_, h2⟩ | ⟨h1, h2⟩
      · exact Or.inr h2
      · exact Or.inl ⟨h2, h1⟩
  · refine Or.inr ⟨he, ?_, ?_⟩
    · rw [hC, num_diff (p := (a, b)) (tied_in h hn) ha hb he]; rfl
    · rw [hF]
      refine swp_diff hfc hma hmb fun e => he ?_
      exact (tied_mate ha).trans ((face_tied hn e).trans (tied_mate hb).symm)
end
/-- How many edges there are. -/
theorem num_half (m : Nat) : num (2 * m) (fun k => 2 * (k / 2)) = m := by
  unfold num tally
  induction m with
  | zero => rfl
  | succ m ih =>
    rw [show 2 * (m + 1) = 2 * m + 1 + 1 from by omega, List.range_succ, List.range_succ, List.append_assoc, List.filter_append, List.length_append, ih]
    have e1 : (2 * (2 * m / 2) == 2 * m) = true := by simp
    have e2 : (2 * ((2 * m + 1) / 2) == 2 * m + 1) = false := beq_eq_false_iff_ne.2 (by omega)
    simp [List.filter_cons, e1, e2]
theorem cnum_mate {n : Nat} (hn : n % 2 = 0) : cnum mate n = n / 2 := by
  have h : Ok (fun k => 2 * (k / 2)) n := ⟨fun k hk => by show 2 * (k / 2) < n; omega, fun k _ => by show 2 * (2 * (k / 2) / 2) = 2 * (k / 2); omega⟩
  have e := num_half (n / 2)
  rw [show 2 * (n / 2) = n from by omega] at e
  rw [← e]
  unfold cnum
  refine num_ker (Ok.all (arcs_in (per_mate hn))) h fun x hx y hy => ⟨fun hh => ?_, fun hh => ?_⟩
  · exact ker_le (F := fun k => 2 * (k / 2)) (fun p hp => by
      obtain ⟨_, h2⟩ := arcs_mem.1 hp
      show 2 * (p.1 / 2) = 2 * (p.2 / 2)
      rw [h2, mate_half]) hh
  · have hxy : x / 2 = y / 2 := by
      have hh : 2 * (x / 2) = 2 * (y / 2) := hh
      omega
    have : y = x ∨ y = mate x := by unfold mate; split <;> omega
    rcases this with rfl | rfl
    · rfl
    · exact arcs_same hx
theorem num_id (n : Nat) : num n (mergeAll (arcs (fun k => k) n)) = n := by
  have : ∀ k, mergeAll (arcs (fun k => k) n) k = k := fun k => by
    unfold mergeAll arcs
    have key : ∀ (l : List Nat) (c : Nat → Nat), (l.map fun k => (k, k)).foldl merge c = c := by
      intro l
      induction l with
      | nil => intro c; rfl
      | cons x l ih =>
        intro c
        rw [List.map_cons, List.foldl_cons, ih]
        funext y; unfold merge; split <;> simp_all
    rw [key]; rfl
  unfold num tally
  rw [List.filter_eq_self.2 (fun x _ => by simp [this x]), List.length_range]
/-- Euler: the number is even, and at most twice the parts. -/
theorem euler {f : Nat → Nat} {n : Nat} (h : Per f n) (hn : n % 2 = 0) : vN f n + fN f n ≤ 2 * cN f n + n / 2 ∧ (vN f n + fN f n + n / 2) % 2 = 0 := by
  generalize hm : n - vN f n = m
  induction m using Nat.strongRecOn generalizing f with
  | ind m ih =>
    by_cases hid : ∀ d, d < n → f d = d
    · have e1 : arcs f n = arcs (fun k => k) n := arcs_congr fun d hd => hid d hd
      have e2 : arcs (fun k => f (mate k)) n = arcs mate n := arcs_congr fun d hd => hid _ (mate_lt hn hd)
      have v : vN f n = n := by unfold vN cnum; rw [e1, num_id]
      have fa : fN f n = n / 2 := by unfold fN cnum; rw [e2]; exact cnum_mate hn
      have c : cN f n = n / 2 := by
        rw [← cnum_mate hn]
        unfold cN cnum
        refine num_iff (tied_in h hn) (arcs_in (per_mate hn)) (fun p hp => ?_) (fun p hp => ?_)
        · obtain ⟨h1, h2 | h2⟩ := tied_mem.1 hp
          · rw [h2, hid _ h1]
          · rw [h2]; exact arcs_same h1
        · obtain ⟨h1, h2⟩ := arcs_mem.1 hp
          rw [h2]; exact tied_mate h1
      omega
    · obtain ⟨a, ha, hne⟩ : ∃ a, a < n ∧ f a ≠ a := by
        apply Classical.byContradiction
        intro hh
        exact hid fun d hd => Classical.byContradiction fun hne => hh ⟨d, hd, hne⟩
      obtain ⟨b, hb, hfb⟩ := h.pre ha
      have hba : b ≠ a := fun e => hne (by rw [← e]; rw [hfb]; exact e.symm)
      have hg := h.swp ha hb
      have hga : swp f a b a = a := by rw [swp_l, hfb]
      have hc := insert_cases hg hn ha hb hga hba
      rw [swp_swp] at hc
      have hle := cnum_le (swp f a b) n
      have := ih (n - vN (swp f a b) n) (by unfold vN at *; omega) hg rfl
      rcases hc with ⟨hv, ⟨_, h1, ⟨h2, _⟩ | h2⟩ | ⟨_, h1, h2⟩⟩ <;> omega
end Mp
end Go.Proofs.YtamgimdjnmcpaaaGreat
namespace Go.Proofs.YtamgimdjnmcpaaaGreat

namespace Mp
open Cls
def gen (f : Nat → Nat) (n : Nat) : Int := (cN f n : Int) - ((vN f n : Int) - ((n / 2 : Nat) : Int) + (fN f n : Int)).tdiv 2
/-- Half of an even number. -/
theorem tdiv_even {x k : Int} (h : x = 2 * k) : x.tdiv 2 = k := by rw [h, Int.mul_tdiv_cancel_left _ (by decide)]
theorem gen_half {f : Nat → Nat} {n : Nat} (h : Per f n) (hn : n % 2 = 0) : ∃ k : Int, (vN f n : Int) - ((n / 2 : Nat) : Int) + (fN f n : Int) = 2 * k ∧ gen f n = (cN f n : Int) - k := by
  have he := (euler h hn).2
  obtain ⟨k, hk⟩ : ∃ k : Int, (vN f n : Int) - ((n / 2 : Nat) : Int) + (fN f n : Int) = 2 * k := ⟨((vN f n : Int) - ((n / 2 : Nat) : Int) + (fN f n : Int)) / 2, by omega⟩
  exact ⟨k, hk, by unfold gen; rw [tdiv_even hk]⟩
theorem gen_nonneg {f : Nat → Nat} {n : Nat} (h : Per f n) (hn : n % 2 = 0) : 0 ≤ gen f n := by
  obtain ⟨k, hk, hg⟩ := gen_half h hn
  have := (euler h hn).1
  omega
theorem gen_insert {f : Nat → Nat} {n a b : Nat} (h : Per f n) (hn : n % 2 = 0) (ha : a < n) (hb : b < n) (hf : f a = a) (hab : b ≠ a) : gen f n ≤ gen (swp f a b) n := by
  obtain ⟨k, hk, hg⟩ := gen_half h hn
  obtain ⟨k', hk', hg'⟩ := gen_half (h.swp ha hb) hn
  obtain ⟨hv, hc⟩ := insert_cases h hn ha hb hf hab
  rcases hc with ⟨_, h1, ⟨h2, _⟩ | h2⟩ | ⟨_, h1, h2⟩ <;> omega
/-- The dart a is taken out: it is alone at its vertex then. -/
theorem gen_takeOut {f : Nat → Nat} {n a b : Nat} (h : Per f n) (hn : n % 2 = 0) (ha : a < n) (hb : b < n) (hf : f b = a) : gen (swp f a b) n ≤ gen f n := by
  by_cases hab : b = a
  · subst hab
    have : swp f b b = f := by funext k; unfold swp; split <;> simp_all
    rw [this]; exact Int.le_refl _
  · have := gen_insert (h.swp ha hb) hn ha hb (by rw [swp_l, hf]) hab
    rwa [swp_swp] at this

/-- How many classes there are does not turn on the order. -/
theorem num_relabel {N : Nat} {c d g : Nat → Nat} (hc : Ok c N) (hd : Ok d N) (hg : Per g N) (h : ∀ x, x < N → ∀ y, y < N → (c x = c y ↔ d (g x) = d (g y))) : num N c = num N d := by
  rw [num_found hc, num_found hd]
  rw [found_ker (g := fun x => d (g x)) fun i hi j hj => h i (List.mem_range.1 hi) j (List.mem_range.1 hj)]
  rw [← found_map]
  refine found_same fun x => ?_
  constructor
  · rintro ⟨m, hm, e⟩; exact ⟨m, hg.perm.mem_iff.1 hm, e⟩
  · rintro ⟨m, hm, e⟩; exact ⟨m, hg.perm.mem_iff.2 hm, e⟩
theorem cN_dual {f : Nat → Nat} {n : Nat} (h : Per f n) (hn : n % 2 = 0) : cN (fun k => f (mate k)) n = cN f n := by
  have hfc := h.comp (per_mate hn)
  unfold cN
  refine num_iff (tied_in hfc hn) (tied_in h hn) (fun p hp => ?_) (fun p hp => ?_)
  · obtain ⟨h1, h2 | h2⟩ := tied_mem.1 hp
    · rw [h2]; exact (tied_mate h1).trans (tied_arc (mate_lt hn h1))
    · rw [h2]; exact tied_mate h1
  · obtain ⟨h1, h2 | h2⟩ := tied_mem.1 hp
    · rw [h2]
      have := tied_arc (f := fun k => f (mate k)) (mate_lt hn h1)
      rw [mate_mate] at this
      exact (tied_mate h1).trans this
    · rw [h2]; exact tied_mate h1
theorem fN_dual {f : Nat → Nat} {n : Nat} : fN (fun k => f (mate k)) n = vN f n := by
  unfold fN vN; simp only [mate_mate]
theorem gen_dual {f : Nat → Nat} {n : Nat} (h : Per f n) (hn : n % 2 = 0) : gen (fun k => f (mate k)) n = gen f n := by
  unfold gen
  rw [cN_dual h hn, fN_dual, show vN (fun k => f (mate k)) n = fN f n from rfl]
  congr 2; omega
/-- The inverse. -/
theorem cnum_inv {f g : Nat → Nat} {n : Nat} (hf : Per f n) (hg : Per g n) (h : ∀ d, d < n → g (f d) = d) : cnum g n = cnum f n := by
  have h' : ∀ d, d < n → f (g d) = d := fun d hd => by
    obtain ⟨e, he, rfl⟩ := hf.pre hd
    rw [h e he]
  unfold cnum
  refine num_iff (arcs_in hg) (arcs_in hf) (fun p hp => ?_) (fun p hp => ?_)
  · obtain ⟨h1, h2⟩ := arcs_mem.1 hp
    rw [h2]
    have := arcs_same (f := f) (hg.lt _ h1)
    rw [h' _ h1] at this; exact this.symm
  · obtain ⟨h1, h2⟩ := arcs_mem.1 hp
    rw [h2]
    have := arcs_same (f := g) (hf.lt _ h1)
    rw [h _ h1] at this; exact this.symm
theorem gen_mirror {f g : Nat → Nat} {n : Nat} (hf : Per f n) (hg : Per g n) (hn : n % 2 = 0) (h : ∀ d, d < n → g (f d) = d) : gen g n = gen f n := by
  have h' : ∀ d, d < n → f (g d) = d := fun d hd => by
    obtain ⟨e, he, rfl⟩ := hf.pre hd
    rw [h e he]
  have hm := per_mate hn
  have hv : vN g n = vN f n := cnum_inv hf hg h
  have hc : cN g n = cN f n := by
    unfold cN
    refine num_iff (tied_in hg hn) (tied_in hf hn) (fun p hp => ?_) (fun p hp => ?_)
    · obtain ⟨h1, h2 | h2⟩ := tied_mem.1 hp
      · rw [h2]
        have := tied_arc (f := f) (hg.lt _ h1)
        rw [h' _ h1] at this; exact this.symm
      · rw [h2]; exact tied_mate h1
    · obtain ⟨h1, h2 | h2⟩ := tied_mem.1 hp
      · rw [h2]
        have := tied_arc (f := g) (hf.lt _ h1)
        rw [h _ h1] at this; exact this.symm
      · rw [h2]; exact tied_mate h1
  have hF : fN g n = fN f n := by
    -- the inverse of f after mate is mate after g, which mate leads to g after mate
    have h1 : cnum (fun k => mate (g k)) n = cnum (fun k => f (mate k)) n := cnum_inv (hf.comp hm) (hm.comp hg) fun d hd => by
      show mate (g (f (mate d))) = d
      rw [h _ (mate_lt hn hd), mate_mate]
    unfold fN
    rw [← h1]
    unfold cnum
    refine num_relabel (Ok.all (arcs_in (hg.comp hm))) (Ok.all (arcs_in (hm.comp hg))) hm fun x hx y hy => ⟨fun e => ?_, fun e => ?_⟩
    · exact ker_le (F := fun k => mergeAll (arcs (fun k => mate (g k)) n) (mate k)) (fun p hp => by
        obtain ⟨h2, h3⟩ := arcs_mem.1 hp
        show mergeAll _ (mate p.1) = mergeAll _ (mate p.2)
        rw [h3]
        exact arcs_same (f := fun k => mate (g k)) (mate_lt hn h2)) e
    · have := ker_le (F := fun k => mergeAll (arcs (fun k => g (mate k)) n) (mate k)) (fun p hp => by
        obtain ⟨h2, h3⟩ := arcs_mem.1 hp
        show mergeAll _ (mate p.1) = mergeAll _ (mate p.2)
        rw [h3]
        have := arcs_same (f := fun k => g (mate k)) (mate_lt hn h2)
        rw [mate_mate] at this ⊢; exact this) e
      simpa [mate_mate] using this
  unfold gen
  rw [hv, hc, hF]

/-- The darts a and a + 1 are left out of n + 2. -/
def up2 (a x : Nat) : Nat := if x < a then x else x + 2
def dn2 (a x : Nat) : Nat := if x < a then x else x - 2
theorem dn_up (a x : Nat) : dn2 a (up2 a x) = x := by
  unfold dn2 up2
  by_cases h : x < a
  · rw [if_pos h, if_pos h]
  · rw [if_neg h, if_neg (by omega)]; omega
theorem up_dn {a x : Nat} (h1 : x ≠ a) (h2 : x ≠ a + 1) : up2 a (dn2 a x) = x := by
  unfold dn2 up2
  by_cases h : x < a
  · rw [if_pos h, if_pos h]
  · rw [if_neg h, if_neg (by omega)]; omega
theorem up_lt {a x n : Nat} (h : x < n) (ha : a ≤ n) : up2 a x < n + 2 := by unfold up2; split <;> omega
theorem up_ne {a x : Nat} : up2 a x ≠ a ∧ up2 a x ≠ a + 1 := by unfold up2; split <;> omega
theorem up_inj {a x y : Nat} (h : up2 a x = up2 a y) : x = y := by have := congrArg (dn2 a) h; rwa [dn_up, dn_up] at this
theorem up_mate {a x : Nat} (ha : a % 2 = 0) : up2 a (mate x) = mate (up2 a x) := by
  unfold up2
  by_cases h : x < a
  · rw [if_pos h, if_pos (mate_lt ha h)]
  · have h2 : ¬ mate x < a := by unfold mate; split <;> omega
    rw [if_neg h, if_neg h2]; unfold mate; by_cases h3 : x % 2 = 0
    · rw [if_pos h3, if_pos (by omega)]
    · rw [if_neg h3, if_neg (by omega)]; omega
theorem split2 {n a : Nat} (ha : a ≤ n) {x : Nat} (hx : x < n + 2) : x = a ∨ x = a + 1 ∨ ∃ y, y < n ∧ up2 a y = x := by
  by_cases h1 : x = a
  · exact Or.inl h1
  · by_cases h2 : x = a + 1
    · exact Or.inr (Or.inl h2)
    · exact Or.inr (Or.inr ⟨dn2 a x, by unfold dn2; split <;> omega, up_dn h1 h2⟩)
/-- Classes of n + 2 numbers, of which a and a + 1 hang together with no other. -/
theorem num_emb {n a : Nat} {es es' : List (Nat × Nat)} (ha : a ≤ n) (hI : In (n + 2) es) (hI' : In n es')
    (h1 : ∀ p ∈ es', mergeAll es (up2 a p.1) = mergeAll es (up2 a p.2))
    (h2 : ∀ p ∈ es, (p.1 = a ∨ p.1 = a + 1) ∧ (p.2 = a ∨ p.2 = a + 1) ∨ (p.1 ≠ a ∧ p.1 ≠ a + 1 ∧ p.2 ≠ a ∧ p.2 ≠ a + 1 ∧ mergeAll es' (dn2 a p.1) = mergeAll es' (dn2 a p.2))) :
    num (n + 2) (mergeAll es) = num n (mergeAll es') + (if mergeAll es a = mergeAll es (a + 1) then 1 else 2) := by
  have hof := Ok.all hI
  have hof' := Ok.all hI'
  -- the two classes keep to themselves
  have hown : ∀ x y, mergeAll es x = mergeAll es y → ((x = a ∨ x = a + 1) ↔ (y = a ∨ y = a + 1)) := fun x y e => by
    have := ker_le (F := fun k => decide (k = a ∨ k = a + 1)) (fun p hp => by
      show decide (p.1 = a ∨ p.1 = a + 1) = decide (p.2 = a ∨ p.2 = a + 1)
      rcases h2 p hp with ⟨h3, h4⟩ | ⟨h3, h4, h5, h6, _⟩
      · rw [decide_eq_true h3, decide_eq_true h4]
      · rw [decide_eq_false (fun h => h.elim h3 h4), decide_eq_false (fun h => h.elim h5 h6)]) e
    simpa only [decide_eq_decide] using this
  have hk : ∀ x, x < n → ∀ y, y < n → (mergeAll es (up2 a x) = mergeAll es (up2 a y) ↔ mergeAll es' x = mergeAll es' y) := fun x hx y hy => ⟨fun e => by
    have := ker_le (F := fun k => if k = a ∨ k = a + 1 then n else mergeAll es' (dn2 a k)) (fun p hp => by
      show (if p.1 = a ∨ p.1 = a + 1 then n else mergeAll es' (dn2 a p.1)) = (if p.2 = a ∨ p.2 = a + 1 then n else mergeAll es' (dn2 a p.2))
      rcases h2 p hp with ⟨h3, h4⟩ | ⟨h3, h4, h5, h6, h7⟩
      · rw [if_pos h3, if_pos h4]
      · rw [if_neg (fun h => h.elim h3 h4), if_neg (fun h => h.elim h5 h6), h7]) e
    have ex := up_ne (a := a) (x := x)
    have ey := up_ne (a := a) (x := y)
    simpa [ex, ey, dn_up] using this, fun e => ker_le (F := fun k => mergeAll es (up2 a k)) h1 e⟩
  rw [num_found hof, num_found hof']
  rw [found_same (c := mergeAll es) (d := mergeAll es) (ms := List.range (n + 2)) (ns := (List.range n).map (up2 a) ++ [a] ++ [a + 1]) fun x => by
    constructor
    · rintro ⟨m, hm, e⟩
      rcases split2 ha (List.mem_range.1 hm) with rfl | rfl | ⟨y, hy, rfl⟩
      · exact ⟨m, by simp, e⟩
      · exact ⟨a + 1, by simp, e⟩
      · exact ⟨_, List.mem_append.2 (Or.inl (List.mem_append.2 (Or.inl (List.mem_map.2 ⟨y, List.mem_range.2 hy, rfl⟩)))), e⟩
    · rintro ⟨m, hm, e⟩
      refine ⟨m, List.mem_range.2 ?_, e⟩
      simp only [List.mem_append, List.mem_map, List.mem_range, List.mem_singleton] at hm
      rcases hm with (⟨y, hy, rfl⟩ | rfl) | rfl
      · exact up_lt hy ha
      · omega
      · omega]
  have e0 : (found (mergeAll es) ((List.range n).map (up2 a))).length = (found (mergeAll es') (List.range n)).length := by
    rw [found_map]
    exact found_ker fun i hi j hj => hk i (List.mem_range.1 hi) j (List.mem_range.1 hj)
  have m0 : ∀ z, (z = a ∨ z = a + 1) → mergeAll es z ∉ found (mergeAll es) ((List.range n).map (up2 a)) := fun z hz hm => by
    obtain ⟨m, hm, e⟩ := (found_mem _ _ _).1 hm
    obtain ⟨y, _, rfl⟩ := List.mem_map.1 hm
    have ey := up_ne (a := a) (x := y)
    exact (fun h => h.elim ey.1 ey.2) ((hown _ _ e).2 hz)
  have e1 : found (mergeAll es) ((List.range n).map (up2 a) ++ [a]) = found (mergeAll es) ((List.range n).map (up2 a)) ++ [mergeAll es a] := by
    rw [found_snoc]; unfold foundStep; rw [if_neg (m0 a (Or.inl rfl))]
  by_cases hs : mergeAll es a = mergeAll es (a + 1)
  · rw [if_pos hs, found_snoc]; unfold foundStep
    rw [if_pos (by rw [e1]; simp [hs]), e1, List.length_append, e0]; rfl
  · rw [if_neg hs, found_snoc]; unfold foundStep
    rw [if_neg (by
      rw [e1, List.mem_append, List.mem_singleton]
      rintro (h | h)
      · exact m0 (a + 1) (Or.inr rfl) h
      · exact hs h.symm), e1, List.length_append, List.length_append, e0]; rfl

/-- g has the darts a and a + 1 more than f, which are alone. -/
structure Emb (f g : Nat → Nat) (n a : Nat) : Prop where
  le : a ≤ n
  even : a % 2 = 0
  nev : n % 2 = 0
  perf : Per f n
  l : g a = a
  r : g (a + 1) = a + 1
  up : ∀ x, x < n → g (up2 a x) = up2 a (f x)
section
variable {f g : Nat → Nat} {n a : Nat}
theorem Emb.per (h : Emb f g n a) : Per g (n + 2) := by
  have hle := h.le
  refine ⟨fun d hd => ?_, fun d e hd he hh => ?_⟩
  · rcases split2 h.le hd with rfl | rfl | ⟨y, hy, rfl⟩
    · rw [h.l]; exact hd
    · rw [h.r]; exact hd
    · rw [h.up y hy]; exact up_lt (h.perf.lt y hy) h.le
  · rcases split2 h.le hd with rfl | rfl | ⟨y, hy, rfl⟩
    · rcases split2 h.le he with rfl | rfl | ⟨z, hz, rfl⟩
      · rfl
      · rw [h.l, h.r] at hh; omega
      · rw [h.l, h.up z hz] at hh; exact absurd hh.symm up_ne.1
    · rcases split2 h.le he with rfl | rfl | ⟨z, hz, rfl⟩
      · rw [h.l, h.r] at hh; omega
      · rfl
      · rw [h.r, h.up z hz] at hh; exact absurd hh.symm up_ne.2
    · rcases split2 h.le he with rfl | rfl | ⟨z, hz, rfl⟩
      · rw [h.l, h.up y hy] at hh; exact absurd hh up_ne.1
      · rw [h.r, h.up y hy] at hh; exact absurd hh up_ne.2
      · rw [h.up y hy, h.up z hz] at hh
        rw [h.perf.inj y z hy hz (up_inj hh)]
theorem emb_mate {a : Nat} (ha : a % 2 = 0) : mate a = a + 1 ∧ mate (a + 1) = a := by unfold mate; constructor <;> split <;> omega
/-- An arc of g is one of f, or leads from a or a + 1. -/
theorem Emb.arc (h : Emb f g n a) {k : Nat} (hk : k < n + 2) : (k = a ∧ g k = a) ∨ (k = a + 1 ∧ g k = a + 1) ∨ (k ≠ a ∧ k ≠ a + 1 ∧ g k ≠ a ∧ g k ≠ a + 1 ∧ dn2 a k < n ∧ dn2 a (g k) = f (dn2 a k)) := by
  rcases split2 h.le hk with rfl | rfl | ⟨y, hy, rfl⟩
  · exact Or.inl ⟨rfl, h.l⟩
  · exact Or.inr (Or.inl ⟨rfl, h.r⟩)
  · refine Or.inr (Or.inr ⟨up_ne.1, up_ne.2, ?_, ?_, by rw [dn_up]; exact hy, by rw [h.up y hy, dn_up, dn_up]⟩)
    · rw [h.up y hy]; exact up_ne.1
    · rw [h.up y hy]; exact up_ne.2
theorem Emb.mate_arc (h : Emb f g n a) {k : Nat} (hk : k < n + 2) : (k = a ∧ mate k = a + 1) ∨ (k = a + 1 ∧ mate k = a) ∨ (k ≠ a ∧ k ≠ a + 1 ∧ mate k ≠ a ∧ mate k ≠ a + 1 ∧ dn2 a k < n ∧ dn2 a (mate k) = mate (dn2 a k)) := by
  have hm := emb_mate h.even
  rcases split2 h.le hk with rfl | rfl | ⟨y, hy, rfl⟩
  · exact Or.inl ⟨rfl, hm.1⟩
  · exact Or.inr (Or.inl ⟨rfl, hm.2⟩)
  · refine Or.inr (Or.inr ⟨up_ne.1, up_ne.2, ?_, ?_, by rw [dn_up]; exact hy, by rw [← up_mate h.even, dn_up, dn_up]⟩)
    · rw [← up_mate h.even]; exact up_ne.1
    · rw [← up_mate h.even]; exact up_ne.2
theorem Emb.vN (h : Emb f g n a) : vN g (n + 2) = vN f n + 2 := by
  unfold Mp.vN cnum
  rw [num_emb h.le (arcs_in h.per) (arcs_in h.perf) (fun p hp => ?_) (fun p hp => ?_), if_neg (fix_apart h.per (by have := h.le; omega) h.l (by omega))]
  · obtain ⟨h1, h2⟩ := arcs_mem.1 hp
    rw [h2, ← h.up _ h1]
    exact arcs_same (up_lt h1 h.le)
  · obtain ⟨h1, h2⟩ := arcs_mem.1 hp
    rw [h2]
    rcases h.arc h1 with ⟨e1, e2⟩ | ⟨e1, e2⟩ | ⟨e1, e2, e3, e4, e5, e6⟩
    · exact Or.inl ⟨Or.inl e1, Or.inl e2⟩
    · exact Or.inl ⟨Or.inr e1, Or.inr e2⟩
    · exact Or.inr ⟨e1, e2, e3, e4, by rw [e6]; exact arcs_same e5⟩
theorem Emb.fN (h : Emb f g n a) : fN g (n + 2) = fN f n + 1 := by
  have hn2 : (n + 2) % 2 = 0 := by have := h.nev; omega
  have hm := emb_mate h.even
  have ha2 : a < n + 2 := by have := h.le; omega
  unfold Mp.fN cnum
  rw [num_emb h.le (arcs_in (h.per.comp (per_mate hn2))) (arcs_in (h.perf.comp (per_mate h.nev))) (fun p hp => ?_) (fun p hp => ?_), if_pos]
  · have := arcs_same (f := fun k => g (mate k)) ha2
    rw [hm.1, h.r] at this; exact this
  · obtain ⟨h1, h2⟩ := arcs_mem.1 hp
    rw [h2, ← h.up _ (mate_lt h.nev h1), up_mate h.even]
    exact arcs_same (f := fun k => g (mate k)) (up_lt h1 h.le)
  · obtain ⟨h1, h2⟩ := arcs_mem.1 hp
    rw [h2]
    rcases h.mate_arc h1 with ⟨e1, e2⟩ | ⟨e1, e2⟩ | ⟨e1, e2, e3, e4, e5, e6⟩
    · exact Or.inl ⟨Or.inl e1, Or.inr (by rw [e2, h.r])⟩
    · exact Or.inl ⟨Or.inr e1, Or.inl (by rw [e2, h.l])⟩
    · rcases h.arc (mate_lt hn2 h1) with ⟨d1, _⟩ | ⟨d1, _⟩ | ⟨_, _, d3, d4, _, d6⟩
      · exact absurd d1 e3
      · exact absurd d1 e4
      · exact Or.inr ⟨e1, e2, d3, d4, by rw [d6, e6]; exact arcs_same (f := fun k => f (mate k)) e5⟩
theorem Emb.cN (h : Emb f g n a) : cN g (n + 2) = cN f n + 1 := by
  have hn2 : (n + 2) % 2 = 0 := by have := h.nev; omega
  have hm := emb_mate h.even
  have ha2 : a < n + 2 := by have := h.le; omega
  unfold Mp.cN
  rw [num_emb h.le (tied_in h.per hn2) (tied_in h.perf h.nev) (fun p hp => ?_) (fun p hp => ?_), if_pos]
  · have := tied_mate (f := g) ha2
    rwa [hm.1] at this
  · obtain ⟨h1, h2 | h2⟩ := tied_mem.1 hp
    · rw [h2, ← h.up _ h1]; exact tied_arc (up_lt h1 h.le)
    · rw [h2, up_mate h.even]; exact tied_mate (up_lt h1 h.le)
  · obtain ⟨h1, h2 | h2⟩ := tied_mem.1 hp
    · rw [h2]
      rcases h.arc h1 with ⟨e1, e2⟩ | ⟨e1, e2⟩ | ⟨e1, e2, e3, e4, e5, e6⟩
      · exact Or.inl ⟨Or.inl e1, Or.inl e2⟩
      · exact Or.inl ⟨Or.inr e1, Or.inr e2⟩
      · exact Or.inr ⟨e1, e2, e3, e4, by rw [e6]; exact tied_arc e5⟩
    · rw [h2]
      rcases h.mate_arc h1 with ⟨e1, e2⟩ | ⟨e1, e2⟩ | ⟨e1, e2, e3, e4, e5, e6⟩
      · exact Or.inl ⟨Or.inl e1, Or.inr e2⟩
      · exact Or.inl ⟨Or.inr e1, Or.inl e2⟩
      · exact Or.inr ⟨e1, e2, e3, e4, by rw [e6]; exact tied_mate e5⟩
theorem Emb.gen (h : Emb f g n a) : gen g (n + 2) = gen f n := by
  have hn2 : (n + 2) % 2 = 0 := by have := h.nev; omega
  obtain ⟨k, hk, hg⟩ := gen_half h.perf h.nev
  obtain ⟨k', hk', hg'⟩ := gen_half h.per hn2
  rw [h.vN, h.fN] at hk'
  rw [h.cN] at hg'
  have := h.nev
  omega
end
end Mp
end Go.Proofs.YtamgimdjnmcpaaaGreat
namespace Go.Proofs.YtamgimdjnmcpaaaGreat

namespace Mp
open Cls
theorem sum_eq {α : Type} {u v : α → Nat} : ∀ {l : List α}, (∀ x ∈ l, u x ≤ v x) → (l.map u).sum = (l.map v).sum → ∀ x ∈ l, u x = v x
  | [], _, _ => fun _ h => by cases h
  | y :: l, h, e => by
    have hle : ∀ m : List α, (∀ x ∈ m, u x ≤ v x) → (m.map u).sum ≤ (m.map v).sum := by
      intro m
      induction m with
      | nil => intro _; exact Nat.le_refl _
      | cons z m ih =>
        intro hm
        have h1 := hm z (List.mem_cons_self ..)
        have h2 := ih fun x hx => hm x (List.mem_cons_of_mem _ hx)
        simp only [List.map_cons, List.sum_cons]; omega
    have h1 := h y (List.mem_cons_self ..)
    have h2 := hle l fun x hx => h x (List.mem_cons_of_mem _ hx)
    simp only [List.map_cons, List.sum_cons] at e
    intro x hx
    rcases List.mem_cons.1 hx with rfl | hx
    · omega
    · exact sum_eq (fun z hz => h z (List.mem_cons_of_mem _ hz)) (by omega) x hx
section
variable {f : Nat → Nat} {n : Nat}
/-- A set that f keeps is made of whole cycles. -/
theorem kept (h : Per f n) {T : Nat → Bool} (hT : ∀ x, x < n → T x = true → T (f x) = true) : ∀ x, x < n → T x = T (f x) := by
  intro x hx
  have hs := perm_sum h.perm (fun k => bit (T k))
  have := sum_eq (u := fun k => bit (T k)) (v := fun k => bit (T (f k))) (l := List.range n) (fun y hy => by
    have := hT y (List.mem_range.1 hy)
    show bit (T y) ≤ bit (T (f y))
    cases h1 : T y
    · simp [bit]
    · rw [this h1]; exact Nat.le_refl _) hs.symm x (List.mem_range.2 hx)
  have this : bit (T x) = bit (T (f x)) := this
  cases h1 : T x <;> cases h2 : T (f x) <;> simp [bit, h1, h2] at this ⊢
theorem kept_cls (h : Per f n) {T : Nat → Bool} (hT : ∀ x, x < n → T x = true → T (f x) = true) {x y : Nat} (e : mergeAll (arcs f n) x = mergeAll (arcs f n) y) : T x = T y :=
  ker_le (fun p hp => by obtain ⟨h1, h2⟩ := arcs_mem.1 hp; rw [h2]; exact kept h hT _ h1) e
/-- What the inner loop has walked. -/
structure Mid2 (f : Nat → Nat) (n : Nat) (s : Nat → Bool) (first : Nat) (c : List Nat) (d : Nat) : Prop where
  mid : Mid f n s first c d
  next : ∀ x ∈ c, f x ∈ c ∨ f x = d
  cls : ∀ x ∈ c, mergeAll (arcs f n) x = mergeAll (arcs f n) first
  dcls : mergeAll (arcs f n) d = mergeAll (arcs f n) first
  has : first ∈ c ∨ d = first
theorem Mid2.step (h : Per f n) {s : Nat → Bool} {first : Nat} {c : List Nat} {d : Nat} (m : Mid2 f n s first c d) (hd : seen s c d = false) : Mid2 f n s first (c ++ [d]) (f d) := by
  refine ⟨m.mid.step hd (h.lt _ m.mid.dlt), fun x hx => ?_, fun x hx => ?_, ?_, ?_⟩
  · rcases List.mem_append.1 hx with hx | hx
    · rcases m.next x hx with h1 | h1
      · exact Or.inl (List.mem_append.2 (Or.inl h1))
      · exact Or.inl (List.mem_append.2 (Or.inr (List.mem_singleton.2 h1)))
    · rw [List.mem_singleton.1 hx]; exact Or.inr rfl
  · rcases List.mem_append.1 hx with hx | hx
    · exact m.cls x hx
    · rw [List.mem_singleton.1 hx]; exact m.dcls
  · rw [← arcs_same m.mid.dlt]; exact m.dcls
  · rcases m.has with h1 | h1
    · exact Or.inl (List.mem_append.2 (Or.inl h1))
    · exact Or.inl (List.mem_append.2 (Or.inr (List.mem_singleton.2 h1.symm)))
theorem Mid2.ends (h : Per f n) {s : Nat → Bool} {first : Nat} : ∀ (m : Nat) {c : List Nat} {d : Nat}, n + 1 - c.length ≤ m → Mid2 f n s first c d → ∃ c d, Mid2 f n s first c d ∧ seen s c d = true
  | 0, c, d, hm, m2 => by have := m2.mid.len; omega
  | m + 1, c, d, hm, m2 => by
    by_cases hd : seen s c d = true
    · exact ⟨c, d, m2, hd⟩
    · exact Mid2.ends h m (by have := m2.mid.len; rw [List.length_append, List.length_singleton]; omega) (m2.step h (by simpa using hd))
theorem cyc_cls (h : Per f n) {s : Nat → Bool} {first : Nat} (hf : first < n) (hs : ∀ x, x < n → s x = true → s (f x) = true) {x : Nat} (hx : x < n) :
    seen s (cyc f (n + 1) s first) x = true ↔ (mergeAll (arcs f n) x = mergeAll (arcs f n) first ∨ s x = true) := by
  obtain ⟨c, d, m, hd⟩ := Mid2.ends h (n + 1) (s := s) (first := first) (c := []) (d := first) (by simp) ⟨Mid.start f s hf, fun _ h => (by cases h), fun _ h => (by cases h), rfl, Or.inr rfl⟩
  rw [m.mid.stop hd]
  have hT : ∀ x, x < n → seen s c x = true → seen s c (f x) = true := fun x hx h1 => by
    have hh : x ∈ c ∨ s x = true := by unfold seen at h1; simpa using h1
    rcases hh with h2 | h2
    · rcases m.next x h2 with h3 | h3
      · unfold seen; simp [h3]
      · rw [h3]; exact hd
    · have := hs x hx h2
      unfold seen; simp [this]
  constructor
  · intro h1
    have hh : x ∈ c ∨ s x = true := by unfold seen at h1; simpa using h1
    exact hh.imp (m.cls x) id
  · rintro (h1 | h1)
    · rw [kept_cls h hT h1]
      rcases m.has with h2 | h2
      · unfold seen; simp [h2]
      · rw [← h2]; exact hd
    · unfold seen; simp [h1]
theorem cyc_nil {s : Nat → Bool} {d : Nat} : cyc f (n + 1) s d = [] ↔ s d = true := by
  unfold cyc
  cases s d <;> simp
/-- The cycles are as many as the classes. -/
theorem cycTo_inv (h : Per f n) : ∀ i, i ≤ n → (∀ x, x < n → ((cycTo f n i).1 x = true ↔ ∃ k, k < i ∧ mergeAll (arcs f n) x = mergeAll (arcs f n) k)) ∧ (cycTo f n i).2.length = (found (mergeAll (arcs f n)) (List.range i)).length
  | 0, _ => ⟨fun x _ => by rw [cycTo_zero]; simp, rfl⟩
  | i + 1, hi => by
    obtain ⟨h1, h2⟩ := cycTo_inv h i (by omega)
    have hs : ∀ x, x < n → (cycTo f n i).1 x = true → (cycTo f n i).1 (f x) = true := fun x hx hh => by
      obtain ⟨k, hk, e⟩ := (h1 x hx).1 hh
      exact (h1 _ (h.lt x hx)).2 ⟨k, hk, by rw [← arcs_same hx]; exact e⟩
    have hc := fun x (hx : x < n) => cyc_cls h (show i < n by omega) hs hx
    rw [cycTo_succ]
    unfold cycStep
    have hii := h1 i (by omega)
    have hfm : mergeAll (arcs f n) i ∈ found (mergeAll (arcs f n)) (List.range i) ↔ (cycTo f n i).1 i = true := by
      rw [found_mem, hii]
      constructor
      · rintro ⟨m, hm, e⟩; exact ⟨m, List.mem_range.1 hm, e.symm⟩
      · rintro ⟨m, hm, e⟩; exact ⟨m, List.mem_range.2 hm, e.symm⟩
    rw [List.range_succ, found_snoc]
    unfold foundStep
    by_cases he : cyc f (n + 1) (cycTo f n i).1 i = []
    · rw [if_pos he]
      have hsi := cyc_nil.1 he
      refine ⟨fun x hx => ?_, by rw [if_pos (hfm.2 hsi)]; exact h2⟩
      rw [h1 x hx]
      constructor
      · rintro ⟨k, hk, e⟩; exact ⟨k, by omega, e⟩
      · rintro ⟨k, hk, e⟩
        rcases Nat.lt_or_ge k i with h3 | h3
        · exact ⟨k, h3, e⟩
        · obtain rfl : k = i := by omega
          obtain ⟨m, hm, e'⟩ := hii.1 hsi
          exact ⟨m, hm, e.trans e'⟩
    · rw [if_neg he]
      have hsi : ¬ (cycTo f n i).1 i = true := fun hh => he (cyc_nil.2 hh)
      refine ⟨fun x hx => ?_, by rw [if_neg (fun hh => hsi (hfm.1 hh)), List.length_append, List.length_append, h2]; rfl⟩
      show seen _ _ x = true ↔ _
      rw [hc x hx, h1 x hx]
      constructor
      · rintro (e | ⟨k, hk, e⟩)
        · exact ⟨i, by omega, e⟩
        · exact ⟨k, by omega, e⟩
      · rintro ⟨k, hk, e⟩
        rcases Nat.lt_or_ge k i with h3 | h3
        · exact Or.inr ⟨k, h3, e⟩
        · obtain rfl : k = i := by omega
          exact Or.inl e
theorem cyc_count (h : Per f n) : (cycTo f n n).2.length = cnum f n := by
  rw [(cycTo_inv h n (Nat.le_refl _)).2, cnum, num_found (Ok.all (arcs_in h))]
end
theorem cycs_len {l : List Int} (h : IsP l) : (cycs l).length = cnum (at_ l) l.length := cyc_count (per_at h)
theorem per_row {f : Nat → Nat} {n : Nat} (h : Per f n) : IsP (row f n) := isP_row h.lt h.inj
theorem genus_gen {l : List Int} (h : IsM l) : genus l = gen (at_ l) l.length := by
  have hp := per_at h.2.2.2
  have e1 : (cycs l).length = vN (at_ l) l.length := cycs_len h.2.2.2
  have e2 : (cycs (dual l)).length = fN (at_ l) l.length := by
    rw [cycs_len (dual_isM h).2.2.2, dual_len]
    unfold fN cnum
    rw [arcs_congr (f := fun k => at_ l (mate k)) (g := at_ (dual l)) fun d hd => at_of_row hd]
  have e3 : parts l = cN (at_ l) l.length := by
    unfold parts ring cN
    refine num_mem (pairsTo_lt h (Nat.le_refl _)) fun p => ?_
    rw [tied_mem]
    unfold pairsTo
    rw [List.mem_flatMap]
    constructor
    · rintro ⟨d, hd, hp⟩
      have hd := List.mem_range.1 hd
      simp only [pair1, List.mem_cons, List.not_mem_nil, or_false] at hp
      rcases hp with rfl | rfl
      · exact ⟨hd, Or.inl rfl⟩
      · exact ⟨hd, Or.inr rfl⟩
    · rintro ⟨h1, h2⟩
      refine ⟨p.1, List.mem_range.2 h1, ?_⟩
      simp only [pair1, List.mem_cons, List.not_mem_nil, or_false]
      rcases h2 with h2 | h2
      · exact Or.inl (by rw [← h2])
      · exact Or.inr (by rw [← h2])
  unfold genus gen
  rw [e1, e2, e3]
theorem genus_nonneg {l : List Int} (h : IsM l) : 0 ≤ genus l := by rw [genus_gen h]; exact gen_nonneg (per_at h.2.2.2) h.2.2.1
theorem dual_dual {l : List Int} (h : IsM l) : dual (dual l) = l := by
  conv => rhs; rw [← at_row h.2.2.2]
  unfold dual
  rw [row_len]
  unfold row
  refine List.map_congr_left fun d hd => ?_
  have hd := List.mem_range.1 hd
  show ((at_ (row (dualF l) l.length) (mate d) : Nat) : Int) = _
  rw [at_of_row (mate_lt h.2.2.1 hd)]
  unfold dualF; rw [mate_mate]
theorem genus_dual {l : List Int} (h : IsM l) : genus (dual l) = genus l := by
  rw [genus_gen (dual_isM h), genus_gen h, dual_len, ← gen_dual (per_at h.2.2.2) h.2.2.1]
  unfold gen vN fN cN tied cnum
  have e : ∀ d, d < l.length → at_ (dual l) d = at_ l (mate d) := fun d hd => at_of_row hd
  rw [arcs_congr e, arcs_congr (f := fun k => at_ l (mate (mate k))) (g := fun k => at_ (dual l) (mate k)) fun d hd => e _ (mate_lt h.2.2.1 hd)]
theorem gen_congr {f g : Nat → Nat} {n : Nat} (hn : n % 2 = 0) (h : ∀ d, d < n → g d = f d) : gen g n = gen f n := by
  unfold gen vN fN cN tied cnum
  rw [arcs_congr h, arcs_congr (f := fun k => f (mate k)) (g := fun k => g (mate k)) fun d hd => h _ (mate_lt hn hd)]
theorem mirror_at {l : List Int} (h : IsP l) {d : Nat} (hd : d < l.length) : at_ (mirror l) (at_ l d) = d := by
  unfold mirror; rw [at_of_row (at_lt h hd), invTo_at h (Nat.le_refl _) hd]
theorem mirror_isM {l : List Int} (h : IsM l) : IsM (mirror l) := by
  obtain ⟨h1, h2, h3, h4⟩ := h
  have hp := per_at h4
  have key : ∀ d, d < l.length → ∃ e, e < l.length ∧ at_ l e = d ∧ invTo l l.length d = e := fun d hd => by
    obtain ⟨e, he, rfl⟩ := hp.pre hd
    exact ⟨e, he, rfl, invTo_at h4 (Nat.le_refl _) he⟩
  refine ⟨by rw [mirror_len]; exact h1, by rw [mirror_len]; exact h2, by rw [mirror_len]; exact h3, isP_row (fun d hd => ?_) (fun d e hd he hh => ?_)⟩
  · obtain ⟨e, he, _, e2⟩ := key d hd; rw [e2]; exact he
  · obtain ⟨d', _, d1, d2⟩ := key d hd
    obtain ⟨e', _, e1, e2⟩ := key e he
    rw [d2, e2] at hh; rw [← d1, ← e1, hh]
theorem genus_mirror {l : List Int} (h : IsM l) : genus (mirror l) = genus l := by
  have hm := mirror_isM h
  have hp := per_at hm.2.2.2
  rw [mirror_len] at hp
  rw [genus_gen hm, genus_gen h, mirror_len]
  exact gen_mirror (per_at h.2.2.2) hp h.2.2.1 fun d hd => mirror_at h.2.2.2 hd
theorem mirror_mirror {l : List Int} (h : IsM l) : mirror (mirror l) = l := by
  have hm := mirror_isM h
  conv => rhs; rw [← at_row h.2.2.2]
  show row (invTo (mirror l) (mirror l).length) (mirror l).length = _
  rw [mirror_len]
  unfold row
  refine List.map_congr_left fun d hd => ?_
  have hd := List.mem_range.1 hd
  have h1 := invTo_at hm.2.2.2 (i := l.length) (d := at_ l d) (by rw [mirror_len]; exact Nat.le_refl _) (at_lt h.2.2.2 hd)
  rw [mirror_at h.2.2.2 hd] at h1
  rw [h1]

/-- An edge is left out. -/
theorem swp_out {f : Nat → Nat} {a p : Nat} (h : f p = a) : (∀ k, swp f a p k = if k = a then a else if f k = a ∧ k = p then f a else f k) := fun k => by
  by_cases h1 : k = a
  · rw [if_pos h1, h1, swp_l, h]
  · rw [if_neg h1]
    by_cases h2 : k = p
    · rw [if_pos ⟨by rw [h2, h], h2⟩, h2, swp_r]
    · rw [if_neg (fun hh => h2 hh.2), swp_o h1 h2]
theorem half_iff {e x : Nat} : x / 2 = e ↔ (x = 2 * e ∨ x = 2 * e + 1) := by omega
theorem skip_out {l : List Int} {n e pa pb y : Nat} (h : Per (at_ l) n) (ha : 2 * e + 1 < n) (hpa : pa < n) (h1 : at_ l pa = 2 * e) (h2 : swp (at_ l) (2 * e) pa pb = 2 * e + 1) (hpb : pb < n) (hy : y < n) (y1 : y ≠ 2 * e) (y2 : y ≠ 2 * e + 1) :
    swp (swp (at_ l) (2 * e) pa) (2 * e + 1) pb y = skip l e (at_ l y) := by
  have hg := h.swp (show 2 * e < n by omega) hpa
  rw [swp_out h2 y, if_neg y2]
  have o1 := fun k => swp_out h1 k
  have ypb : swp (at_ l) (2 * e) pa y = 2 * e + 1 → y = pb := fun hh => hg.inj _ _ hy hpb (by rw [hh, h2])
  have g1 : swp (at_ l) (2 * e) pa y = (if at_ l y = 2 * e then at_ l (2 * e) else at_ l y) := by
    rw [o1 y, if_neg y1]
    by_cases hh : at_ l y = 2 * e
    · rw [if_pos hh, if_pos ⟨hh, h.inj _ _ hy hpa (by rw [hh, h1])⟩]
    · rw [if_neg hh, if_neg (fun hc => hh hc.1)]
  have g2 : swp (at_ l) (2 * e) pa (2 * e + 1) = (if at_ l (2 * e + 1) = 2 * e then at_ l (2 * e) else at_ l (2 * e + 1)) := by
    rw [o1, if_neg (by omega)]
    by_cases hh : at_ l (2 * e + 1) = 2 * e
    · rw [if_pos hh, if_pos ⟨hh, h.inj _ _ ha hpa (by rw [hh, h1])⟩]
    · rw [if_neg hh, if_neg (fun hc => hh hc.1)]
  unfold skip
  by_cases c1 : at_ l y = 2 * e
  · rw [if_pos c1] at g1
    have na : at_ l (2 * e) ≠ 2 * e := fun hh => y1 (h.inj _ _ hy (by omega) (by rw [c1, hh]))
    rw [if_pos (half_iff.2 (Or.inl c1)), c1]
    by_cases c2 : at_ l (2 * e) = 2 * e + 1
    · rw [if_pos (half_iff.2 (Or.inr c2))]
      have e1 : swp (at_ l) (2 * e) pa y = 2 * e + 1 := by rw [g1, c2]
      rw [if_pos ⟨e1, ypb e1⟩, g2, c2]
      have nb : at_ l (2 * e + 1) ≠ 2 * e := fun hh => y2 (h.inj _ _ hy ha (by rw [c1, hh]))
      rw [if_neg nb]
    · rw [if_neg (fun hc => c2 (by rw [← g1]; exact hc.1)), if_neg (fun hh => by rcases half_iff.1 hh with hh | hh <;> contradiction), g1]
  · rw [if_neg c1] at g1
    by_cases c2 : at_ l y = 2 * e + 1
    · have e1 : swp (at_ l) (2 * e) pa y = 2 * e + 1 := by rw [g1, c2]
      have nb : at_ l (2 * e + 1) ≠ 2 * e + 1 := fun hh => y2 (h.inj _ _ hy ha (by rw [c2, hh]))
      rw [if_pos (half_iff.2 (Or.inr c2)), c2, if_pos ⟨e1, ypb e1⟩, g2]
      by_cases c3 : at_ l (2 * e + 1) = 2 * e
      · rw [if_pos c3, if_pos (half_iff.2 (Or.inl c3)), c3]
      · rw [if_neg c3, if_neg (fun hh => by rcases half_iff.1 hh with hh | hh <;> contradiction)]
    · rw [if_neg (fun hc => c2 (by rw [← g1]; exact hc.1)), if_neg (fun hh => by rcases half_iff.1 hh with hh | hh <;> contradiction), g1]
theorem range_but {n e : Nat} (h : 2 * e ≤ n) : (List.range (n + 2)).filter (fun d => d / 2 != e) = (List.range n).map (up2 (2 * e)) := by
  obtain ⟨r, rfl⟩ : ∃ r, n = 2 * e + r := ⟨n - 2 * e, by omega⟩
  rw [show 2 * e + r + 2 = 2 * e + (2 + r) from by omega, List.range_add, List.range_add, List.range_add, List.map_append, List.filter_append, List.filter_append, List.map_append]
  have e1 : (List.range (2 * e)).filter (fun d => d / 2 != e) = (List.range (2 * e)).map (up2 (2 * e)) := by
    rw [List.filter_eq_self.2 (fun d hd => by have := List.mem_range.1 hd; simp; omega)]
    conv => lhs; rw [← List.map_id (List.range (2 * e))]
    exact List.map_congr_left fun d hd => by have := List.mem_range.1 hd; simp [up2, this]
  have e2 : ((List.range 2).map (2 * e + ·)).filter (fun d => d / 2 != e) = [] := by
    rw [List.filter_eq_nil_iff]
    intro d hd
    obtain ⟨j, hj, rfl⟩ := List.mem_map.1 hd
    have := List.mem_range.1 hj
    simp; omega
  have e3 : (((List.range r).map (2 + ·)).map (2 * e + ·)).filter (fun d => d / 2 != e) = ((List.range r).map (2 * e + ·)).map (up2 (2 * e)) := by
    rw [List.filter_eq_self.2 (fun d hd => by
      obtain ⟨j, hj, rfl⟩ := List.mem_map.1 hd
      obtain ⟨i, _, rfl⟩ := List.mem_map.1 hj
      simp; omega)]
    rw [List.map_map, List.map_map]
    refine List.map_congr_left fun d _ => ?_
    show 2 * e + (2 + d) = up2 (2 * e) (2 * e + d)
    unfold up2; rw [if_neg (by omega)]; omega
  rw [e1, e2, e3, List.nil_append]
/-- The map without an edge, as a function. -/
def dropF (l : List Int) (e : Nat) : Nat → Nat := fun x => less e (skip l e (at_ l (up2 (2 * e) x)))
theorem drop_row {l : List Int} {e : Int} (h : DropOk l e) : drop l e = row (dropF l e.toNat) (l.length - 2) := by
  have h1 := h.1.2.2
  have h2 := h.1.1.1
  unfold drop
  rw [if_pos h]
  unfold dropN dropTo row
  obtain ⟨n, hn⟩ : ∃ n, l.length = n + 2 := ⟨l.length - 2, by omega⟩
  rw [hn, range_but (by omega), List.map_map, List.map_map, show n + 2 - 2 = n from by omega]
  rfl
theorem less_dn {e y : Nat} (h1 : y ≠ 2 * e) (h2 : y ≠ 2 * e + 1) : less e y = dn2 (2 * e) y := by unfold less dn2; split <;> split <;> omega
theorem drop_emb {l : List Int} {e : Int} (h : DropOk l e) {pa pb : Nat} (hpa : pa < l.length) (h1 : at_ l pa = 2 * e.toNat) (hpb : pb < l.length) (h2 : swp (at_ l) (2 * e.toNat) pa pb = 2 * e.toNat + 1) :
    Emb (dropF l e.toNat) (swp (swp (at_ l) (2 * e.toNat) pa) (2 * e.toNat + 1) pb) (l.length - 2) (2 * e.toNat) := by
  obtain ⟨⟨hM, h3, h4⟩, h5⟩ := h
  have hl := hM.1
  have hev := hM.2.2.1
  have hp := per_at hM.2.2.2
  generalize he : e.toNat = k at *
  obtain ⟨n, hn⟩ : ∃ n, l.length = n + 2 := ⟨l.length - 2, by omega⟩
  have hk : 2 * k + 1 < l.length := by omega
  have hg := (hp.swp (show 2 * k < l.length by omega) hpa).swp hk hpb
  have g1 : swp (swp (at_ l) (2 * k) pa) (2 * k + 1) pb (2 * k) = 2 * k := by
    rw [swp_out h2, if_neg (by omega), swp_l, h1, if_neg]
    rintro ⟨h6, _⟩; omega
  have g2 : swp (swp (at_ l) (2 * k) pa) (2 * k + 1) pb (2 * k + 1) = 2 * k + 1 := by rw [swp_l, h2]
  have up : ∀ x, x < l.length - 2 → swp (swp (at_ l) (2 * k) pa) (2 * k + 1) pb (up2 (2 * k) x) = up2 (2 * k) (dropF l k x) ∧ dropF l k x < l.length - 2 := fun x hx => by
    have hu := up_ne (a := 2 * k) (x := x)
    have hlt : up2 (2 * k) x < l.length := by have := up_lt (a := 2 * k) hx (by omega); omega
    have hs := skip_out hp hk hpa h1 h2 hpb hlt hu.1 hu.2
    have n1 : skip l k (at_ l (up2 (2 * k) x)) ≠ 2 * k := fun hh => hu.1 (hg.inj _ _ hlt (by omega) (by rw [hs, hh, g1]))
    have n2 : skip l k (at_ l (up2 (2 * k) x)) ≠ 2 * k + 1 := fun hh => hu.2 (hg.inj _ _ hlt hk (by rw [hs, hh, g2]))
    have hlt2 := hg.lt _ hlt
    rw [hs] at hlt2
    refine ⟨?_, ?_⟩
    · rw [hs]; unfold dropF; rw [less_dn n1 n2, up_dn n1 n2]
    · unfold dropF; rw [less_dn n1 n2]; unfold dn2; split <;> omega
  refine ⟨by omega, by omega, by omega, ⟨fun x hx => (up x hx).2, fun x y hx hy hh => ?_⟩, g1, g2, fun x hx => (up x hx).1⟩
  have hxl : up2 (2 * k) x < l.length := by have := up_lt (a := 2 * k) hx (by omega); omega
  have hyl : up2 (2 * k) y < l.length := by have := up_lt (a := 2 * k) hy (by omega); omega
  exact up_inj (hg.inj _ _ hxl hyl (by rw [(up x hx).1, (up y hy).1, hh]))
theorem drop_pre {l : List Int} {e : Int} (h : DropOk l e) : ∃ pa pb, pa < l.length ∧ at_ l pa = 2 * e.toNat ∧ pb < l.length ∧ swp (at_ l) (2 * e.toNat) pa pb = 2 * e.toNat + 1 := by
  obtain ⟨⟨hM, h3, h4⟩, h5⟩ := h
  have hp := per_at hM.2.2.2
  have h6 : 2 * e.toNat + 1 < l.length := by omega
  obtain ⟨pa, hpa, h1⟩ := hp.pre (show 2 * e.toNat < l.length by omega)
  obtain ⟨pb, hpb, h2⟩ := (hp.swp (show 2 * e.toNat < l.length by omega) hpa).pre h6
  exact ⟨pa, pb, hpa, h1, hpb, h2⟩
theorem drop_isM {l : List Int} {e : Int} (h : DropOk l e) : IsM (drop l e) := by
  obtain ⟨pa, pb, hpa, h1, hpb, h2⟩ := drop_pre h
  have hE := drop_emb h hpa h1 hpb h2
  have hM := h.1.1
  have := h.2; have := hM.1; have := hM.2.1; have := hM.2.2.1
  rw [drop_row h]
  exact ⟨by rw [row_len]; omega, by rw [row_len]; omega, by rw [row_len]; omega, per_row hE.perf⟩
theorem genus_drop {l : List Int} {e : Int} (h : DropOk l e) : genus (drop l e) ≤ genus l := by
  obtain ⟨pa, pb, hpa, h1, hpb, h2⟩ := drop_pre h
  have hE := drop_emb h hpa h1 hpb h2
  have hM := h.1.1
  have hp := per_at hM.2.2.2
  have hl : l.length - 2 + 2 = l.length := by have := hM.1; omega
  have h3 := h.1.2.2
  have h4 : 2 * e.toNat + 1 < l.length := by have := h.1.2.1; omega
  rw [genus_gen (drop_isM h), genus_gen hM]
  have e1 : gen (at_ (drop l e)) (drop l e).length = gen (dropF l e.toNat) (l.length - 2) := by
    rw [drop_row h, row_len]
    exact gen_congr hE.nev fun d hd => at_of_row hd
  rw [e1, ← hE.gen, hl]
  exact Int.le_trans (gen_takeOut (hp.swp (show 2 * e.toNat < l.length by omega) hpa) hM.2.2.1 h4 hpb h2) (gen_takeOut hp hM.2.2.1 (by omega) hpa h1)

section
variable {l : List Int} {a b : Nat}
theorem addF_eq (k : Nat) : addF l a b k =
    if k = (if a = b then l.length else b) then l.length + 1 else if k = l.length + 1 then behind (at_ l) l.length a (if a = b then l.length else b) else if k = a then l.length else if k = l.length then at_ l a else at_ l k := by
  unfold addF
  conv => lhs; unfold behind upd
  split
  · rfl
  · split
    · rfl
    · unfold behind upd; rfl
theorem addF_old (ha : a < l.length) (hb : b < l.length) {k : Nat} (hk : k < l.length) : addF l a b k = if k = a then l.length else if k = b then l.length + 1 else at_ l k := by
  rw [addF_eq]
  by_cases hab : a = b
  · rw [if_pos hab, if_neg (by omega), if_neg (by omega)]
    by_cases h1 : k = a
    · rw [if_pos h1, if_pos h1]
    · rw [if_neg h1, if_neg h1, if_neg (by omega), if_neg (by omega)]
  · rw [if_neg hab]
    by_cases h1 : k = b
    · rw [if_pos h1, if_neg (by omega), if_pos h1]
    · rw [if_neg h1, if_neg (by omega), if_neg (by omega : ¬ k = l.length)]
      rw [if_neg h1]
theorem addF_n (ha : a < l.length) (hb : b < l.length) : addF l a b l.length = if a = b then l.length + 1 else at_ l a := by
  rw [addF_eq]
  by_cases hab : a = b
  · rw [if_pos hab, if_pos rfl, if_pos hab]
  · rw [if_neg hab, if_neg (by omega), if_neg (by omega), if_neg (by omega), if_pos rfl, if_neg hab]
theorem addF_n1 (ha : a < l.length) (hb : b < l.length) : addF l a b (l.length + 1) = if a = b then at_ l a else at_ l b := by
  rw [addF_eq]
  by_cases hab : a = b
  · rw [if_pos hab, if_neg (by omega), if_pos rfl, if_pos hab]
    unfold behind upd
    rw [if_neg (by omega), if_pos rfl]
  · rw [if_neg hab, if_neg (by omega), if_pos rfl, if_neg hab]
    unfold behind upd
    rw [if_neg (fun h => hab h.symm), if_neg (by omega)]
theorem addF_per (h : IsP l) (ha : a < l.length) (hb : b < l.length) : Per (addF l a b) (l.length + 2) := by
  have hp := per_at h
  have hla := hp.lt a ha
  have hlb := hp.lt b hb
  have hol : ∀ k, k < l.length → at_ l k < l.length := hp.lt
  -- each image by its kind
  have val : ∀ k, k < l.length + 2 → addF l a b k < l.length + 2 := fun k hk => by
    rcases Nat.lt_or_ge k l.length with h1 | h1
    · rw [addF_old ha hb h1]; have := hol k h1; split
      · omega
      · split <;> omega
    · have : k = l.length ∨ k = l.length + 1 := by omega
      rcases this with rfl | rfl
      · rw [addF_n ha hb]; split <;> omega
      · rw [addF_n1 ha hb]; split <;> omega
  refine ⟨val, fun d e hd he hh => ?_⟩
  have inj := fun x y (hx : x < l.length) (hy : y < l.length) => hp.inj x y hx hy
  have cls : ∀ k, k < l.length + 2 → k < l.length ∧ k ≠ a ∧ (k ≠ b) ∧ addF l a b k = at_ l k ∨ k = a ∧ addF l a b k = l.length ∨ k = b ∧ a ≠ b ∧ addF l a b k = l.length + 1 ∨ k = l.length ∧ (a = b ∧ addF l a b k = l.length + 1 ∨ a ≠ b ∧ addF l a b k = at_ l a) ∨ k = l.length + 1 ∧ addF l a b k = at_ l b := fun k hk => by
    rcases Nat.lt_or_ge k l.length with h1 | h1
    · have := addF_old ha hb h1
      by_cases e1 : k = a
      · rw [if_pos e1] at this; exact Or.inr (Or.inl ⟨e1, this⟩)
      · rw [if_neg e1] at this
        by_cases e2 : k = b
        · rw [if_pos e2] at this; exact Or.inr (Or.inr (Or.inl ⟨e2, fun h => e1 (e2.trans h.symm), this⟩))
        · rw [if_neg e2] at this; exact Or.inl ⟨h1, e1, e2, this⟩
    · have : k = l.length ∨ k = l.length + 1 := by omega
      rcases this with rfl | rfl
      · have := addF_n ha hb (l := l)
        by_cases hab : a = b
        · rw [if_pos hab] at this; exact Or.inr (Or.inr (Or.inr (Or.inl ⟨rfl, Or.inl ⟨hab, this⟩⟩)))
        · rw [if_neg hab] at this; exact Or.inr (Or.inr (Or.inr (Or.inl ⟨rfl, Or.inr ⟨hab, this⟩⟩)))
      · have := addF_n1 ha hb (l := l)
        refine Or.inr (Or.inr (Or.inr (Or.inr ⟨rfl, ?_⟩)))
        rw [this]; split
        · rename_i hab; rw [hab]
        · rfl
  have hcd := cls d hd
  have hce := cls e he
  rw [hh] at hcd
  rcases hcd with ⟨d1, d2, d3, d4⟩ | ⟨d1, d4⟩ | ⟨d1, d2, d4⟩ | ⟨d1, ⟨d2, d4⟩ | ⟨d2, d4⟩⟩ | ⟨d1, d4⟩ <;> rcases hce with ⟨e1, e2, e3, e4⟩ | ⟨e1, e4⟩ | ⟨e1, e2, e4⟩ | ⟨e1, ⟨e2, e4⟩ | ⟨e2, e4⟩⟩ | ⟨e1, e4⟩ <;> rw [d4] at e4 <;>
    first
    | (have := hol d d1; omega)
    | (have := hol e e1; omega)
    | omega
    | exact inj _ _ d1 e1 e4
    | exact absurd (inj _ _ d1 ha e4) d2
    | exact absurd (inj _ _ d1 hb e4) d3
    | exact absurd (inj _ _ ha e1 e4).symm e2
    | exact absurd (inj _ _ hb e1 e4).symm e3
    | exact absurd (inj _ _ ha hb e4) d2
    | exact absurd (inj _ _ hb ha e4).symm e2
end
theorem add_isM {l : List Int} {a b : Int} (h : AddOk l a b) : IsM (add l a b) := by
  obtain ⟨⟨h1, h2, h3, h4⟩, ⟨a1, a2⟩, ⟨b1, b2⟩, hr⟩ := h
  unfold add
  rw [if_pos ⟨⟨h1, h2, h3, h4⟩, ⟨a1, a2⟩, ⟨b1, b2⟩, hr⟩]
  exact ⟨by rw [row_len]; omega, by rw [row_len]; exact hr, by rw [row_len]; omega, per_row (addF_per h4 (by omega) (by omega))⟩
theorem add_dropOk {l : List Int} {a b : Int} (h : AddOk l a b) : DropOk (add l a b) ((l.length / 2 : Nat) : Int) := by
  have hM := add_isM h
  have hlen : (add l a b).length = l.length + 2 := by unfold add; rw [if_pos h, row_len]
  have := h.1.1
  refine ⟨⟨hM, by omega, ?_⟩, by omega⟩
  rw [hlen]; omega
theorem drop_add {l : List Int} {a b : Int} (h : AddOk l a b) : drop (add l a b) ((l.length / 2 : Nat) : Int) = l := by
  have hd := add_dropOk h
  rw [drop_row hd]
  have hlen : (add l a b).length = l.length + 2 := by unfold add; rw [if_pos h, row_len]
  rw [hlen]
  obtain ⟨⟨h1, h2, h3, h4⟩, ⟨a1, a2⟩, ⟨b1, b2⟩, hr⟩ := h
  have hp := per_at h4
  have e2 : 2 * (l.length / 2) = l.length := by omega
  have hat : ∀ k, k < l.length + 2 → at_ (add l a b) k = addF l a.toNat b.toNat k := fun k hk => by
    unfold add; rw [if_pos ⟨⟨h1, h2, h3, h4⟩, ⟨a1, a2⟩, ⟨b1, b2⟩, hr⟩]; exact at_of_row hk
  have ha : a.toNat < l.length := by omega
  have hb : b.toNat < l.length := by omega
  conv => rhs; rw [← at_row h4]
  rw [show l.length + 2 - 2 = l.length from by omega]
  unfold row
  refine List.map_congr_left fun x hx => ?_
  have hx := List.mem_range.1 hx
  congr 1
  unfold dropF
  rw [Int.toNat_natCast, e2]
  have hu : up2 l.length x = x := by unfold up2; rw [if_pos hx]
  rw [hu, hat x (by omega), addF_old ha hb hx]
  have hsame : ∀ y, y < l.length → less (l.length / 2) y = y := fun y hy => by unfold less; rw [if_neg (by omega)]
  have q0 : l.length / 2 = l.length / 2 := rfl
  have q1 : (l.length + 1) / 2 = l.length / 2 := by omega
  unfold skip
  by_cases c1 : x = a.toNat
  · rw [if_pos c1, if_pos q0, hat _ (by omega), addF_n ha hb]
    by_cases hab : a.toNat = b.toNat
    · rw [if_pos hab, if_pos q1, hat _ (by omega), addF_n1 ha hb, if_pos hab, c1, hsame _ (hp.lt _ ha)]
    · have := hp.lt _ ha
      rw [if_neg hab, if_neg (by omega), c1, hsame _ (hp.lt _ ha)]
  · rw [if_neg c1]
    by_cases c2 : x = b.toNat
    · have hab : ¬ a.toNat = b.toNat := fun h => c1 (c2.trans h.symm)
      have := hp.lt _ hb
      rw [if_pos c2, if_pos q1, hat _ (by omega), addF_n1 ha hb, if_neg hab, if_neg (by omega), c2, hsame _ (hp.lt _ hb)]
    · have := hp.lt _ hx
      rw [if_neg c2, if_neg (by omega), hsame _ (hp.lt _ hx)]
theorem genus_add {l : List Int} {a b : Int} (h : AddOk l a b) : genus l ≤ genus (add l a b) := by
  have := genus_drop (add_dropOk h)
  rwa [drop_add h] at this
end Mp
end Go.Proofs.YtamgimdjnmcpaaaGreat
namespace Go.Proofs.YtamgimdjnmcpaaaGreat
open Go.RowKit

namespace Gr
/-- Two different vertices. -/
def IsE (e : List Int) : Prop := e.length = 2 ∧ (∀ x ∈ e, 0 ≤ x ∧ x ≤ 6) ∧ e.Nodup
instance (e : List Int) : Decidable (IsE e) := by unfold IsE; exact inferInstance
def IsG (L : List (List Int)) : Prop := (∀ e ∈ L, IsE e) ∧ 1 ≤ L.length ∧ L.length ≤ 10
instance (L : List (List Int)) : Decidable (IsG L) := by unfold IsG; exact inferInstance
theorem isE_iff {e : List Int} : IsE e ↔ ∃ a b, e = [a, b] ∧ 0 ≤ a ∧ a ≤ 6 ∧ 0 ≤ b ∧ b ≤ 6 ∧ a ≠ b := by
  constructor
  · rintro ⟨h1, h2, h3⟩
    match e, h1 with
    | [a, b], _ =>
      have ha := h2 a (by simp)
      have hb := h2 b (by simp)
      exact ⟨a, b, rfl, ha.1, ha.2, hb.1, hb.2, by simpa using h3⟩
  · rintro ⟨a, b, rfl, h1, h2, h3, h4, h5⟩
    refine ⟨rfl, fun x hx => ?_, by simpa using h5⟩
    simp only [List.mem_cons, List.not_mem_nil, or_false] at hx
    rcases hx with rfl | rfl <;> omega
theorem isE_two {a b : Int} : IsE [a, b] ↔ (0 ≤ a ∧ a ≤ 6 ∧ 0 ≤ b ∧ b ≤ 6 ∧ a ≠ b) := by
  rw [isE_iff]
  constructor
  · rintro ⟨x, y, e, h⟩; cases e; exact h
  · intro h; exact ⟨a, b, rfl, h⟩
theorem isE_len {e : List Int} (h : e.length ≠ 2) : ¬ IsE e := fun h' => h h'.1
theorem isG_not {L : List (List Int)} {i : Nat} {e : List Int} (h : L[i]? = some e) (he : ¬ IsE e) : ¬ IsG L := fun hg => he (hg.1 e (get_mem h))
theorem isG_sum {L : List (List Int)} (h : IsG L) : sumLen L = 2 * L.length := by
  unfold sumLen
  have : L.map List.length = L.map fun _ => 2 := List.map_congr_left fun e he => (h.1 e he).1
  rw [this, List.map_const', List.sum_replicate_nat]; omega
theorem isG_tot {L : List (List Int)} (h : IsG L) : tot L ≤ 1000000 := by
  have := isG_sum h; have := h.2.2; unfold tot; omega

/-- The vertex at a dart. -/
def vx (L : List (List Int)) (d : Nat) : Nat := (L.flatten.getD d 0).toNat
theorem flat_get : ∀ {L : List (List Int)} (_ : ∀ e ∈ L, e.length = 2) {k : Nat} {a b : Int}, L[k]? = some [a, b] → L.flatten[2 * k]? = some a ∧ L.flatten[2 * k + 1]? = some b
  | [], _, k, a, b, hk => by simp at hk
  | e :: L, h, k, a, b, hk => by
    have he := h e (by simp)
    match e, he with
    | [x, y], _ =>
      cases k with
      | zero => simp at hk; simp [hk]
      | succ k =>
        have := flat_get (L := L) (fun e he => h e (by simp [he])) (k := k) (a := a) (b := b) (by simpa using hk)
        simpa [Nat.mul_succ] using this
theorem ends {L : List (List Int)} (h : IsG L) {k : Nat} (hk : k < L.length) : L[k]? = some [((vx L (2 * k) : Nat) : Int), ((vx L (2 * k + 1) : Nat) : Int)] ∧ vx L (2 * k) < 7 ∧ vx L (2 * k + 1) < 7 ∧ vx L (2 * k) ≠ vx L (2 * k + 1) := by
  obtain ⟨a, b, e, h1, h2, h3, h4, h5⟩ := isE_iff.1 (h.1 _ (List.getElem_mem hk))
  have hg : L[k]? = some [a, b] := by rw [List.getElem?_eq_getElem hk, e]
  obtain ⟨f1, f2⟩ := flat_get (fun e he => (h.1 e he).1) hg
  have e1 : vx L (2 * k) = a.toNat := by unfold vx; rw [List.getD_eq_getElem?_getD, f1]; rfl
  have e2 : vx L (2 * k + 1) = b.toNat := by unfold vx; rw [List.getD_eq_getElem?_getD, f2]; rfl
  rw [e1, e2, hg]
  refine ⟨?_, by omega, by omega, by omega⟩
  congr 2
  · omega
  · congr 1; omega
theorem vx_lt {L : List (List Int)} (h : IsG L) {d : Nat} (hd : d < 2 * L.length) : vx L d < 7 := by
  obtain ⟨_, h1, h2, _⟩ := ends h (k := d / 2) (by omega)
  rcases (by omega : d = 2 * (d / 2) ∨ d = 2 * (d / 2) + 1) with e | e
  · rw [e]; exact h1
  · rw [e]; exact h2

/-- The darts less than i at the vertex v. -/
def at7 (u : Nat → Nat) (i v : Nat) : List Nat := (List.range i).filter fun d => u d == v
theorem at7_zero (u : Nat → Nat) (v : Nat) : at7 u 0 v = [] := rfl
theorem at7_yes {u : Nat → Nat} {i v : Nat} (h : u i = v) : at7 u (i + 1) v = at7 u i v ++ [i] := by
  unfold at7; rw [List.range_succ, List.filter_append]; simp [h]
theorem at7_no {u : Nat → Nat} {i v : Nat} (h : u i ≠ v) : at7 u (i + 1) v = at7 u i v := by
  unfold at7; rw [List.range_succ, List.filter_append]; simp [h]
theorem at7_mem {u : Nat → Nat} {i v d : Nat} : d ∈ at7 u i v ↔ d < i ∧ u d = v := by unfold at7; simp
theorem at7_nodup (u : Nat → Nat) (i v : Nat) : (at7 u i v).Nodup := List.Pairwise.filter _ List.nodup_range
theorem at7_len (u : Nat → Nat) (i v : Nat) : (at7 u i v).length ≤ i := by
  have := List.length_filter_le (fun d => u d == v) (List.range i)
  rw [List.length_range] at this; exact this
/-- How many darts there are at the vertices less than v. -/
def sumTo (u : Nat → Nat) (n : Nat) : Nat → Nat
  | 0 => 0
  | v + 1 => sumTo u n v + (at7 u n v).length
theorem sumTo_eq (u : Nat → Nat) (n : Nat) : ∀ v, sumTo u n v = ((List.range n).filter fun d => decide (u d < v)).length
  | 0 => by rw [List.filter_eq_nil_iff.2 (by simp)]; rfl
  | v + 1 => by
    unfold sumTo
    rw [sumTo_eq u n v]
    unfold at7
    induction n with
    | zero => rfl
    | succ n ih =>
      simp only [List.range_succ, List.filter_append, List.length_append]
      have : (List.filter (fun d => decide (u d < v + 1)) [n]).length = (List.filter (fun d => decide (u d < v)) [n]).length + (List.filter (fun d => u d == v) [n]).length := by
        by_cases h1 : u n < v
        · have h2 : u n < v + 1 := by omega
          have h3 : ¬ u n = v := by omega
          simp [h1, h2, h3]
        · by_cases h3 : u n = v
          · simp [h3]
          · have h2 : ¬ u n < v + 1 := by omega
            simp [h1, h2, h3]
      omega
theorem sumTo_le (u : Nat → Nat) (n v : Nat) : sumTo u n v ≤ n := by
  rw [sumTo_eq]
  have := List.length_filter_le (fun d => decide (u d < v)) (List.range n)
  rwa [List.length_range] at this
def deg (L : List (List Int)) (v : Nat) : Nat := (at7 (vx L) (2 * L.length) v).length
def degs (L : List (List Int)) : List Int := if IsG L then Cls.row (deg L) 7 else []
theorem degs_len (L : List (List Int)) : (degs L).length ≤ 7 := by unfold degs; split <;> simp [Cls.row_len]

/-- The product of the numbers to n. -/
def fac : Nat → Nat
  | 0 => 1
  | n + 1 => fac n * (n + 1)
theorem fac_pos : ∀ n, 1 ≤ fac n
  | 0 => Nat.le_refl _
  | n + 1 => by unfold fac; have := fac_pos n; exact Nat.le_trans this (Nat.le_mul_of_pos_right _ (by omega))
theorem fac_mono {m n : Nat} (h : m ≤ n) : fac m ≤ fac n := by
  induction n with
  | zero => obtain rfl : m = 0 := by omega
            exact Nat.le_refl _
  | succ n ih =>
    by_cases e : m = n + 1
    · rw [e]; exact Nat.le_refl _
    · exact Nat.le_trans (ih (by omega)) (by show fac n ≤ fac n * (n + 1); exact Nat.le_mul_of_pos_right _ (by omega))
theorem fac_add (a : Nat) : ∀ b, fac a * fac b ≤ fac (a + b)
  | 0 => by simp [fac]
  | b + 1 => by
    show fac a * (fac b * (b + 1)) ≤ fac (a + b) * (a + b + 1)
    rw [← Nat.mul_assoc]
    exact Nat.mul_le_mul (fac_add a b) (by omega)
theorem fac_20 : fac 20 = 2432902008176640000 := by decide +kernel
/-- The product of the factorials of the degrees, each less 1, over the vertices less than v. -/
def rot (u : Nat → Nat) (n : Nat) : Nat → Nat
  | 0 => 1
  | v + 1 => rot u n v * fac ((at7 u n v).length - 1)
theorem rot_le (u : Nat → Nat) (n : Nat) : ∀ v, rot u n v ≤ fac (sumTo u n v)
  | 0 => Nat.le_refl _
  | v + 1 => Nat.le_trans (Nat.mul_le_mul (rot_le u n v) (fac_mono (by omega))) (fac_add _ _)
theorem rot_pos (u : Nat → Nat) (n : Nat) : ∀ v, 1 ≤ rot u n v
  | 0 => Nat.le_refl _
  | v + 1 => Nat.le_trans (rot_pos u n v) (Nat.le_mul_of_pos_right _ (fac_pos _))
theorem rot_mid {u : Nat → Nat} {n v m : Nat} (hn : n ≤ 20) (hm : m ≤ (at7 u n v).length) : rot u n v * fac m ≤ 2432902008176640000 := by
  rw [← fac_20]
  refine Nat.le_trans (Nat.mul_le_mul (rot_le u n v) (Nat.le_refl _)) (Nat.le_trans (fac_add _ _) (fac_mono ?_))
  have := sumTo_le u n (v + 1)
  unfold sumTo at this
  omega
def rots (L : List (List Int)) : Int := if IsG L then ((rot (vx L) (2 * L.length) 7 : Nat) : Int) else -1
end Gr
end Go.Proofs.YtamgimdjnmcpaaaGreat
namespace Go.Proofs.YtamgimdjnmcpaaaGreat
open Go.RowKit

namespace Gr
open Mp (upd behind)
/-- Each is followed by the next. -/
def lnk (f : Nat → Nat) : List Nat → Prop
  | [] => True
  | [_] => True
  | a :: b :: t => f a = b ∧ lnk f (b :: t)
theorem lnk_app {f : Nat → Nat} {b : Nat} {t : List Nat} : ∀ {p : List Nat}, lnk f (p ++ b :: t) ↔ (lnk f (p ++ [b]) ∧ lnk f (b :: t))
  | [] => by simp [lnk]
  | [a] => by simp [lnk]
  | a :: c :: p => by
    have := lnk_app (f := f) (b := b) (t := t) (p := c :: p)
    simp only [List.cons_append, lnk] at this ⊢
    rw [this, and_assoc]
theorem lnk_congr {f g : Nat → Nat} {h : Nat} : ∀ {l : List Nat}, (∀ a ∈ l, g a = f a) → lnk f (l ++ [h]) → lnk g (l ++ [h])
  | [], _, _ => by simp [lnk]
  | [a], he, hl => by
    simp only [List.cons_append, List.nil_append, lnk] at hl ⊢
    exact ⟨by rw [he a (by simp)]; exact hl.1, trivial⟩
  | a :: c :: l, he, hl => by
    have ih := lnk_congr (h := h) (f := f) (g := g) (l := c :: l) (fun x hx => he x (by simp at hx ⊢; exact Or.inr hx))
    simp only [List.cons_append, lnk] at hl ih ⊢
    exact ⟨by rw [he a (by simp)]; exact hl.1, ih hl.2⟩
theorem lnk_get {f : Nat → Nat} : ∀ {l : List Nat}, lnk f l → ∀ {k a b : Nat}, l[k]? = some a → l[k + 1]? = some b → f a = b
  | [], _, k, a, b, h1, _ => by simp at h1
  | [x], _, k, a, b, h1, h2 => by simp at h2
  | x :: y :: l, h, k, a, b, h1, h2 => by
    cases k with
    | zero =>
      simp only [List.getElem?_cons_zero, Option.some.injEq, List.getElem?_cons_succ] at h1 h2
      subst h1; subst h2
      exact h.1
    | succ k => exact lnk_get h.2 (k := k) (by simpa using h1) (by simpa using h2)
/-- The darts follow each other around. -/
def Ring (f : Nat → Nat) (l : List Nat) : Prop := lnk f (l ++ l.take 1)
theorem Ring.nil (f : Nat → Nat) : Ring f [] := trivial
theorem Ring.one {f : Nat → Nat} {d : Nat} (h : f d = d) : Ring f [d] := ⟨h, trivial⟩
theorem Ring.congr {f g : Nat → Nat} {l : List Nat} (h : Ring f l) (he : ∀ a ∈ l, g a = f a) : Ring g l := by
  cases l with
  | nil => trivial
  | cons a l => exact lnk_congr (h := a) he h
theorem Ring.insert {f : Nat → Nat} {p s : List Nat} {b x : Nat} (h : Ring f (p ++ b :: s)) (hn : (p ++ b :: s).Nodup) (hx : x ∉ p ++ b :: s) : Ring (behind f x b) (p ++ b :: x :: s) := by
  obtain ⟨z, h1, h2⟩ : ∃ z, (p ++ b :: s).take 1 = [z] ∧ (p ++ b :: x :: s).take 1 = [z] := by
    cases p with
    | nil => exact ⟨b, rfl, rfl⟩
    | cons a p => exact ⟨a, rfl, rfl⟩
  unfold Ring at h ⊢
  rw [h1] at h
  rw [h2]
  rw [List.append_assoc, List.cons_append] at h ⊢
  rw [lnk_app] at h ⊢
  have hb : ∀ a ∈ p ++ s, a ≠ b ∧ a ≠ x := fun a ha => by
    rw [List.nodup_append] at hn
    constructor
    · rintro rfl
      rcases List.mem_append.1 ha with ha | ha
      · exact hn.2.2 a ha a (by simp) rfl
      · exact (List.nodup_cons.1 hn.2.1).1 ha
    · rintro rfl
      refine hx ?_
      rcases List.mem_append.1 ha with ha | ha
      · exact List.mem_append.2 (Or.inl ha)
      · exact List.mem_append.2 (Or.inr (List.mem_cons_of_mem _ ha))
  have hxb : x ≠ b := fun e => hx (by rw [e]; simp)
  have hbf : ∀ a, a ≠ b → a ≠ x → behind f x b a = f a := fun a h1 h2 => by unfold behind upd; rw [if_neg h1, if_neg h2]
  refine ⟨lnk_congr (fun a ha => hbf a (hb a (List.mem_append.2 (Or.inl ha))).1 (hb a (List.mem_append.2 (Or.inl ha))).2) h.1, ?_⟩
  have h3 := h.2
  obtain ⟨y, t, ht⟩ : ∃ y t, s ++ [z] = y :: t := by cases s with
    | nil => exact ⟨_, _, rfl⟩
    | cons a s => exact ⟨_, _, rfl⟩
  rw [ht] at h3
  rw [List.cons_append, ht]
  refine ⟨by simp [behind, upd], ?_, ?_⟩
  · have := h3.1
    unfold behind upd; rw [if_neg hxb, if_pos rfl]; exact this
  · have h4 := h3.2
    rw [← ht] at h4 ⊢
    exact lnk_congr (fun a ha => hbf a (hb a (List.mem_append.2 (Or.inr ha))).1 (hb a (List.mem_append.2 (Or.inr ha))).2) h4
theorem Ring.next {f : Nat → Nat} {l : List Nat} (h : Ring f l) {k : Nat} (hk : k < l.length) : f (l.getD k 0) = l.getD ((k + 1) % l.length) 0 := by
  have h1 : (l ++ l.take 1)[k]? = some (l.getD k 0) := by
    rw [List.getElem?_append_left hk, List.getD_eq_getElem?_getD, List.getElem?_eq_getElem hk]; rfl
  refine lnk_get h h1 ?_
  by_cases e : k + 1 = l.length
  · rw [e, Nat.mod_self, List.getElem?_append_right (by omega), Nat.sub_self]
    cases l with
    | nil => simp at hk
    | cons a l => rfl
  · rw [Nat.mod_eq_of_lt (by omega), List.getElem?_append_left (by omega), List.getD_eq_getElem?_getD, List.getElem?_eq_getElem (show k + 1 < l.length by omega)]; rfl

/-- The darts of l are made to follow each other around, the first i of them. -/
def ringTo (m : Nat → Nat) (l : List Nat) : Nat → Nat → Nat
  | 0 => m
  | i + 1 => upd (ringTo m l i) (l.getD i 0) (l.getD ((i + 1) % l.length) 0)
def ringF (m : Nat → Nat) (l : List Nat) : Nat → Nat := ringTo m l l.length
theorem ringTo_out {m : Nat → Nat} {l : List Nat} {d : Nat} (hd : d ∉ l) : ∀ {i : Nat}, i ≤ l.length → ringTo m l i d = m d
  | 0, _ => rfl
  | i + 1, h => by
    unfold ringTo upd
    have : d ≠ l.getD i 0 := by
      rintro rfl
      apply hd
      rw [List.getD_eq_getElem?_getD, List.getElem?_eq_getElem (by omega)]
      exact List.getElem_mem _
    rw [if_neg this]
    exact ringTo_out hd (by omega)
theorem nodup_getD {l : List Nat} (h : l.Nodup) {i j : Nat} (hi : i < l.length) (hj : j < l.length) (e : l.getD i 0 = l.getD j 0) : i = j := by
  rw [List.getD_eq_getElem?_getD, List.getD_eq_getElem?_getD, List.getElem?_eq_getElem hi, List.getElem?_eq_getElem hj] at e
  have e' : l[i] = l[j] := e
  have hp := List.pairwise_iff_getElem.1 (List.nodup_iff_pairwise_ne.1 h)
  rcases Nat.lt_trichotomy i j with h4 | h4 | h4
  · exact absurd e' (hp i j hi hj h4)
  · exact h4
  · exact absurd e'.symm (hp j i hj hi h4)
theorem ringTo_in {m : Nat → Nat} {l : List Nat} (hn : l.Nodup) {k : Nat} : ∀ {i : Nat}, i ≤ l.length → k < i → ringTo m l i (l.getD k 0) = l.getD ((k + 1) % l.length) 0
  | 0, _, h => by omega
  | i + 1, h, hk => by
    unfold ringTo upd
    by_cases e : k = i
    · subst e; rw [if_pos rfl]
    · rw [if_neg (fun h' => e (nodup_getD hn (by omega) (by omega) h'))]
      exact ringTo_in hn (by omega) (by omega)
theorem mem_getD {l : List Nat} {d : Nat} (h : d ∈ l) : ∃ k, k < l.length ∧ l.getD k 0 = d := by
  obtain ⟨k, hk, rfl⟩ := List.getElem_of_mem h
  exact ⟨k, hk, by rw [List.getD_eq_getElem?_getD, List.getElem?_eq_getElem hk]; rfl⟩
theorem getD_mem {l : List Nat} {k : Nat} (h : k < l.length) : l.getD k 0 ∈ l := by
  rw [List.getD_eq_getElem?_getD, List.getElem?_eq_getElem h]; exact List.getElem_mem h
/-- What makes darts follow each other around is told by their ring. -/
theorem ringF_of {f m : Nat → Nat} {l : List Nat} (hn : l.Nodup) (h : Ring f l) (ho : ∀ d, d ∉ l → f d = m d) : ringF m l = f := by
  funext d
  by_cases hd : d ∈ l
  · obtain ⟨k, hk, rfl⟩ := mem_getD hd
    rw [h.next hk]
    exact ringTo_in hn (Nat.le_refl _) hk
  · rw [ho d hd]; exact ringTo_out hd (Nat.le_refl _)
theorem ringF_out {m : Nat → Nat} {l : List Nat} {d : Nat} (hd : d ∉ l) : ringF m l d = m d := ringTo_out hd (Nat.le_refl _)
theorem ringF_in {m m' : Nat → Nat} {l : List Nat} (hn : l.Nodup) {d : Nat} (hd : d ∈ l) : ringF m l d = ringF m' l d := by
  obtain ⟨k, hk, rfl⟩ := mem_getD hd
  unfold ringF
  rw [ringTo_in hn (Nat.le_refl _) hk, ringTo_in hn (Nat.le_refl _) hk]
theorem ringF_lt {m : Nat → Nat} {l : List Nat} (hn : l.Nodup) {d n : Nat} (hl : ∀ x ∈ l, x < n) (hm : m d < n) : ringF m l d < n := by
  by_cases hd : d ∈ l
  · obtain ⟨k, hk, rfl⟩ := mem_getD hd
    unfold ringF
    rw [ringTo_in hn (Nat.le_refl _) hk]
    exact hl _ (getD_mem (Nat.mod_lt _ (by omega)))
  · rw [ringF_out hd]; exact hm

/-- A dart is laid behind another, or stays alone. -/
def ins (f : Nat → Nat) (d : Nat) : Option Nat → Nat → Nat
  | none => f
  | some b => behind f d b
/-- The first rotation of the darts less than i. -/
def fr (u : Nat → Nat) : Nat → Nat → Nat
  | 0 => id
  | i + 1 => ins (fr u i) i (at7 u i (u i)).getLast?
theorem fr_inv (u : Nat → Nat) : ∀ i, (∀ v, Ring (fr u i) (at7 u i v)) ∧ ∀ d, i ≤ d → fr u i d = d
  | 0 => ⟨fun v => trivial, fun d _ => rfl⟩
  | i + 1 => by
    obtain ⟨h1, h2⟩ := fr_inv u i
    have hmem : ∀ v, ∀ a ∈ at7 u i v, a < i := fun v a ha => (at7_mem.1 ha).1
    rcases hL : (at7 u i (u i)).getLast? with _ | b
    · have he : fr u (i + 1) = fr u i := by show ins (fr u i) i (at7 u i (u i)).getLast? = _; rw [hL]; rfl
      rw [he]
      refine ⟨fun v => ?_, fun d hd => h2 d (by omega)⟩
      by_cases hv : u i = v
      · subst hv
        rw [at7_yes rfl, List.getLast?_eq_none_iff.1 hL]
        exact Ring.one (h2 i (Nat.le_refl _))
      · rw [at7_no hv]; exact h1 v
    · have he : fr u (i + 1) = behind (fr u i) i b := by show ins (fr u i) i (at7 u i (u i)).getLast? = _; rw [hL]; rfl
      rw [he]
      obtain ⟨p, hp⟩ : ∃ p, at7 u i (u i) = p ++ [b] := List.getLast?_eq_some_iff.1 hL
      have hbm : b ∈ at7 u i (u i) := by rw [hp]; simp
      have hb := at7_mem.1 hbm
      refine ⟨fun v => ?_, fun d hd => ?_⟩
      · by_cases hv : u i = v
        · subst hv
          rw [at7_yes rfl, hp, List.append_assoc]
          refine Ring.insert (s := []) (by rw [← hp]; exact h1 _) (by rw [← hp]; exact at7_nodup _ _ _) (by rw [← hp]; intro h; have := hmem _ _ h; omega)
        · rw [at7_no hv]
          refine (h1 v).congr fun a ha => ?_
          have ha' := at7_mem.1 ha
          unfold behind upd
          rw [if_neg (by rintro rfl; exact hv (by rw [← ha'.2, hb.2])), if_neg (by omega)]
      · unfold behind upd
        rw [if_neg (by omega), if_neg (by omega)]
        exact h2 d (by omega)
/-- The model's: ring after ring. -/
def fm (u : Nat → Nat) (n : Nat) : Nat → Nat → Nat
  | 0 => fun _ => 0
  | v + 1 => ringF (fm u n v) (at7 u n v)
theorem fm_eq (u : Nat → Nat) (n : Nat) : ∀ v d, d < n → u d < v → fm u n v d = fr u n d
  | 0, d, _, h => by omega
  | v + 1, d, hd, h => by
    show ringF (fm u n v) (at7 u n v) d = _
    by_cases e : u d = v
    · have hm : d ∈ at7 u n v := at7_mem.2 ⟨hd, e⟩
      rw [ringF_in (m' := fr u n) (at7_nodup _ _ _) hm, ringF_of (f := fr u n) (at7_nodup _ _ _) ((fr_inv u n).1 v) fun _ _ => rfl]
    · rw [ringF_out (fun h => e (at7_mem.1 h).2)]
      exact fm_eq u n v d hd (by omega)
theorem fm_lt {u : Nat → Nat} {n : Nat} (hn : 0 < n) : ∀ v d, fm u n v d < n
  | 0, d => hn
  | v + 1, d => ringF_lt (at7_nodup _ _ _) (fun x hx => (at7_mem.1 hx).1) (fm_lt hn v d)
def first (L : List (List Int)) : List Int := if IsG L then Cls.row (fr (vx L) (2 * L.length)) (2 * L.length) else []
theorem first_len (L : List (List Int)) : (first L).length ≤ 20 := by
  unfold first; split
  · rename_i h; rw [Cls.row_len]; have := h.2.2; omega
  · simp
end Gr
end Go.Proofs.YtamgimdjnmcpaaaGreat
namespace Go.Proofs.YtamgimdjnmcpaaaGreat
open Go.RowKit

namespace Gr
open Mp (upd behind)
theorem perm_fun {α β : Type} {f g : α → List β} : ∀ {l : List α}, (∀ a ∈ l, (f a).Perm (g a)) → (l.flatMap f).Perm (l.flatMap g)
  | [], _ => List.Perm.refl _
  | a :: l, h => by
    rw [List.flatMap_cons, List.flatMap_cons]
    exact (h a (by simp)).append (perm_fun fun b hb => h b (by simp [hb]))
theorem fun_congr {α β : Type} {f g : α → List β} : ∀ {l : List α}, (∀ a ∈ l, f a = g a) → l.flatMap f = l.flatMap g
  | [], _ => rfl
  | a :: l, h => by rw [List.flatMap_cons, List.flatMap_cons, h a (by simp), fun_congr fun b hb => h b (by simp [hb])]
theorem perm_app {α β : Type} {f g : α → List β} : ∀ {l : List α}, (l.flatMap fun x => f x ++ g x).Perm (l.flatMap f ++ l.flatMap g)
  | [] => List.Perm.refl _
  | a :: l => by
    simp only [List.flatMap_cons]
    refine ((perm_app (f := f) (g := g) (l := l)).append_left (f a ++ g a)).trans ?_
    rw [List.append_assoc, List.append_assoc]
    refine List.Perm.append_left _ ?_
    rw [← List.append_assoc, ← List.append_assoc]
    exact List.perm_append_comm.append_right _
theorem perm_swap {α β γ : Type} {g : α → β → List γ} {l' : List β} : ∀ {l : List α}, (l.flatMap fun a => l'.flatMap fun b => g a b).Perm (l'.flatMap fun b => l.flatMap fun a => g a b)
  | [] => by
    have : (l'.flatMap fun b => ([] : List α).flatMap fun a => g a b) = [] := by simp
    rw [this]; exact List.Perm.refl _
  | a :: l => by
    simp only [List.flatMap_cons]
    exact ((perm_swap (g := g) (l' := l') (l := l)).append_left _).trans perm_app.symm

/-- The darts of a list are laid behind each of those that they may lie behind. -/
def En (ls : Nat → List Nat) : List Nat → (Nat → Nat) → List (Nat → Nat)
  | [], f => [f]
  | d :: ds, f => if ls d = [] then En ls ds f else (ls d).flatMap fun b => En ls ds (behind f d b)
theorem En_append {ls : Nat → List Nat} {ys : List Nat} : ∀ {xs : List Nat} {f : Nat → Nat}, En ls (xs ++ ys) f = (En ls xs f).flatMap (En ls ys)
  | [], f => by simp [En]
  | d :: xs, f => by
    simp only [List.cons_append, En]
    split
    · exact En_append
    · rw [List.flatMap_assoc]
      congr 1
      funext b
      exact En_append
theorem behind_comm (f : Nat → Nat) {d b e c : Nat} (h1 : d ≠ e) (h2 : d ≠ c) (h3 : b ≠ e) (h4 : b ≠ c) : behind (behind f d b) e c = behind (behind f e c) d b := by
  funext k
  unfold behind upd
  by_cases k1 : k = c
  · subst k1; simp [Ne.symm h2, Ne.symm h4]
  · by_cases k2 : k = e
    · subst k2; simp [k1, Ne.symm h2, Ne.symm h4, Ne.symm h1, Ne.symm h3]
    · by_cases k3 : k = b
      · subst k3; simp [k1, k2]
      · by_cases k4 : k = d
        · subst k4; simp [k1, k2, k3, h3, h4]
        · simp [k1, k2, k3, k4]
/-- Darts lie behind darts of their own vertex alone. -/
def Own (u : Nat → Nat) (ls : Nat → List Nat) : Prop := ∀ d, ∀ b ∈ ls d, u b = u d
theorem En_swap {u : Nat → Nat} {ls : Nat → List Nat} (ho : Own u ls) {d e : Nat} (hu : u d ≠ u e) (ds : List Nat) (f : Nat → Nat) : (En ls (d :: e :: ds) f).Perm (En ls (e :: d :: ds) f) := by
  simp only [En]
  by_cases h1 : ls d = []
  · simp [h1]
  · by_cases h2 : ls e = []
    · simp [h2]
    · simp only [h1, h2, if_false]
      have : ((ls d).flatMap fun b => (ls e).flatMap fun c => En ls ds (behind (behind f d b) e c)) = (ls d).flatMap fun b => (ls e).flatMap fun c => En ls ds (behind (behind f e c) d b) := by
        refine fun_congr fun b hb => fun_congr fun c hc => ?_
        have hb' := ho d b hb
        have hc' := ho e c hc
        rw [behind_comm f (fun h => hu (by rw [h])) (fun h => hu (by rw [h, hc'])) (fun h => hu (by rw [← hb', h])) (fun h => hu (by rw [← hb', h, hc']))]
      rw [this]
      exact perm_swap
theorem En_under {ls : Nat → List Nat} {xs ys : List Nat} (h : ∀ f, (En ls xs f).Perm (En ls ys f)) (p : List Nat) (f : Nat → Nat) : (En ls (p ++ xs) f).Perm (En ls (p ++ ys) f) := by
  rw [En_append, En_append]; exact perm_fun fun g _ => h g
theorem En_past {u : Nat → Nat} {ls : Nat → List Nat} (ho : Own u ls) {d : Nat} {ds : List Nat} : ∀ {xs : List Nat}, (∀ x ∈ xs, u d ≠ u x) → ∀ f, (En ls (d :: xs ++ ds) f).Perm (En ls (xs ++ d :: ds) f)
  | [], _, f => List.Perm.refl _
  | x :: xs, h, f => (En_swap ho (h x (by simp)) (xs ++ ds) f).trans
      (En_under (p := [x]) (fun f => En_past ho (ds := ds) (xs := xs) (fun y hy => h y (by simp [hy])) f) f)
/-- Those at a vertex may come first. -/
theorem En_part {u : Nat → Nat} {ls : Nat → List Nat} (ho : Own u ls) (v : Nat) : ∀ (l : List Nat) (f : Nat → Nat), (En ls l f).Perm (En ls (l.filter (fun d => u d == v) ++ l.filter (fun d => !(u d == v))) f)
  | [], f => List.Perm.refl _
  | d :: l, f => by
    have ih := En_under (fun f => En_part ho v l f) [d] f
    by_cases h : u d = v
    · have h1 : (d :: l).filter (fun d => u d == v) = d :: l.filter (fun d => u d == v) := by simp [h]
      have h2 : (d :: l).filter (fun d => !(u d == v)) = l.filter (fun d => !(u d == v)) := by simp [h]
      rw [h1, h2]; exact ih
    · have h1 : (d :: l).filter (fun d => u d == v) = l.filter (fun d => u d == v) := by simp [h]
      have h2 : (d :: l).filter (fun d => !(u d == v)) = d :: l.filter (fun d => !(u d == v)) := by simp [h]
      rw [h1, h2]
      exact ih.trans (En_past ho (xs := l.filter fun d => u d == v) (fun x hx => by
        have hx' : u x = v := by simpa using (List.mem_filter.1 hx).2
        rw [hx']; exact h) f)
/-- The darts at the vertices from v on. -/
def from7 (u : Nat → Nat) (n v : Nat) : List Nat := (List.range n).filter fun d => decide (v ≤ u d)
theorem from7_part {u : Nat → Nat} {ls : Nat → List Nat} (ho : Own u ls) (n v : Nat) (f : Nat → Nat) : (En ls (from7 u n v) f).Perm (En ls (at7 u n v ++ from7 u n (v + 1)) f) := by
  have h := En_part ho v (from7 u n v) f
  have h1 : (from7 u n v).filter (fun d => u d == v) = at7 u n v := by
    unfold from7 at7
    rw [List.filter_filter]
    refine List.filter_congr fun d _ => ?_
    by_cases e : u d = v
    · simp [e]
    · simp [e]
  have h2 : (from7 u n v).filter (fun d => !(u d == v)) = from7 u n (v + 1) := by
    unfold from7
    rw [List.filter_filter]
    refine List.filter_congr fun d _ => ?_
    by_cases e : v + 1 ≤ u d
    · have h3 : v ≤ u d := by omega
      have h4 : ¬ u d = v := by omega
      simp [e, h3, h4]
    · by_cases h3 : u d = v
      · simp [h3]
      · have h4 : ¬ v ≤ u d := by omega
        simp [e, h3, h4]
  rwa [h1, h2] at h

/-- All orders of a list that begin with its first element, as the model makes them. -/
def put (o : List Nat) (x i : Nat) : List Nat := o.take i ++ x :: o.drop i
def places (n k : Nat) : List Nat := ((List.range (n + 1 - min 1 k)).map fun j => n - j)
def ordStep (outs : List (List Nat)) (k x : Nat) : List (List Nat) := outs.flatMap fun o => (places o.length k).map fun i => put o x i
def ordTo (l : List Nat) : Nat → List (List Nat)
  | 0 => [[]]
  | k + 1 => ordStep (ordTo l k) k (l.getD k 0)
def orders (l : List Nat) : List (List Nat) := ordTo l l.length
theorem put_perm (o : List Nat) (x i : Nat) : (put o x i).Perm (x :: o) := by
  unfold put
  refine List.perm_middle.trans ?_
  rw [List.take_append_drop]
theorem ordTo_perm (l : List Nat) : ∀ k, k ≤ l.length → ∀ o ∈ ordTo l k, o.Perm (l.take k)
  | 0, _, o, h => by
    have : o = [] := by simpa [ordTo] using h
    subst this; exact List.Perm.refl _
  | k + 1, hk, o, h => by
    unfold ordTo ordStep at h
    obtain ⟨o', h1, h2⟩ := List.mem_flatMap.1 h
    obtain ⟨i, _, rfl⟩ := List.mem_map.1 h2
    have h3 := ordTo_perm l k (by omega) o' h1
    refine (put_perm _ _ _).trans ?_
    rw [List.take_succ_eq_append_getElem (show k < l.length by omega)]
    have e : l.getD k 0 = l[k] := by rw [List.getD_eq_getElem?_getD, List.getElem?_eq_getElem (show k < l.length by omega)]; rfl
    rw [e]
    exact (List.Perm.cons _ h3).trans (List.perm_append_comm (l₁ := [l[k]]))
theorem orders_perm {l o : List Nat} (h : o ∈ orders l) : o.Perm l := by
  have := ordTo_perm l l.length (Nat.le_refl _) o h
  rwa [List.take_of_length_le (Nat.le_refl _)] at this
theorem places_one {n : Nat} {k : Nat} (hk : 0 < k) : places n k = ((List.range n).map fun j => n - j) := by
  unfold places
  rw [show min 1 k = 1 by omega, Nat.add_sub_cancel]
theorem range_rev (n : Nat) : ((List.range n).map fun j => n - j) = ((List.range n).map fun j => j + 1).reverse := by
  apply List.ext_getElem
  · simp
  · intro i h1 h2
    simp only [List.length_map, List.length_range] at h1
    simp only [List.getElem_map, List.getElem_range, List.getElem_reverse, List.length_map, List.length_range]
    omega
theorem map_getD {β : Type} (F : Nat → β) (o : List Nat) : ((List.range o.length).map fun j => F (o.getD j 0)) = o.map F := by
  apply List.ext_getElem
  · simp
  · intro i h1 h2
    simp only [List.length_map, List.length_range] at h1
    simp [List.getD_eq_getElem?_getD, h1]
theorem put_at {o : List Nat} {j : Nat} (hj : j < o.length) (x : Nat) : o = o.take j ++ o.getD j 0 :: o.drop (j + 1) ∧ put o x (j + 1) = o.take j ++ o.getD j 0 :: x :: o.drop (j + 1) := by
  have e : o.getD j 0 = o[j] := by rw [List.getD_eq_getElem?_getD, List.getElem?_eq_getElem hj]; rfl
  rw [e]
  constructor
  · rw [← List.drop_eq_getElem_cons hj, List.take_append_drop]
  · unfold put
    rw [List.take_succ_eq_append_getElem hj, List.append_assoc]; rfl
/-- The orders of the darts of a vertex are its rings. -/
theorem En_orders {u : Nat → Nat} {n v : Nat} {f : Nat → Nat} (hf : ∀ d, u d = v → f d = d) : ∀ i, i ≤ n → (En (fun d => at7 u d (u d)) (at7 u i v) f).Perm ((orders (at7 u i v)).map (ringF f)) ∧ ∀ o ∈ orders (at7 u i v), Ring (ringF f o) o
  | 0, _ => by
    refine ⟨?_, fun o ho => ?_⟩
    · show ([f] : List (Nat → Nat)).Perm [ringF f []]
      exact List.Perm.refl _
    · have : o = [] := by simpa [orders, ordTo, at7_zero] using ho
      subst this; trivial
  | i + 1, hi => by
    obtain ⟨ih, ihr⟩ := En_orders hf (u := u) (n := n) i (by omega)
    by_cases hv : u i = v
    · have hat := at7_yes hv
      have hlen : (at7 u (i + 1) v).length = (at7 u i v).length + 1 := by rw [hat]; simp
      have hor : orders (at7 u (i + 1) v) = ordStep (orders (at7 u i v)) (at7 u i v).length i := by
        unfold orders
        rw [hlen]
        show ordStep _ _ _ = _
        have e1 : (at7 u (i + 1) v).getD (at7 u i v).length 0 = i := by rw [hat, List.getD_eq_getElem?_getD]; simp
        rw [e1]
        congr 1
        have : ∀ k, k ≤ (at7 u i v).length → ordTo (at7 u (i + 1) v) k = ordTo (at7 u i v) k := by
          intro k
          induction k with
          | zero => intro _; rfl
          | succ k ihk =>
            intro hk
            show ordStep _ _ _ = ordStep _ _ _
            rw [ihk (by omega), hat, List.getD_eq_getElem?_getD, List.getD_eq_getElem?_getD, List.getElem?_append_left (by omega)]
        exact this _ (Nat.le_refl _)
      have hring : ∀ o ∈ orders (at7 u i v), ∀ j, j < o.length → Ring (behind (ringF f o) i (o.getD j 0)) (put o i (j + 1)) ∧ behind (ringF f o) i (o.getD j 0) = ringF f (put o i (j + 1)) := by
        intro o ho j hj
        have hp := orders_perm ho
        have hno : o.Nodup := hp.nodup_iff.2 (at7_nodup _ _ _)
        have hio : i ∉ o := fun h => by have := (at7_mem.1 (hp.mem_iff.1 h)).1; omega
        obtain ⟨e1, e2⟩ := put_at hj i
        have hR := ihr o ho
        have h1 : Ring (behind (ringF f o) i (o.getD j 0)) (put o i (j + 1)) := by
          rw [e2]
          exact Ring.insert (by rw [← e1]; exact hR) (by rw [← e1]; exact hno) (by rw [← e1]; exact hio)
        refine ⟨h1, (ringF_of ((put_perm _ _ _).nodup_iff.2 (List.nodup_cons.2 ⟨hio, hno⟩)) h1 fun d hd => ?_).symm⟩
        have hd' : d ≠ i ∧ d ∉ o := by
          constructor
          · rintro rfl; exact hd ((put_perm _ _ _).mem_iff.2 (by simp))
          · intro h; exact hd ((put_perm _ _ _).mem_iff.2 (by simp [h]))
        unfold behind upd
        rw [if_neg (fun h => hd'.2 (by rw [h]; exact getD_mem hj)), if_neg hd'.1]
        exact ringF_out hd'.2
      rw [hor]
      constructor
      · rw [hat, En_append]
        refine (List.Perm.flatMap_right _ ih).trans ?_
        unfold ordStep
        rw [List.map_flatMap, List.flatMap_map]
        refine perm_fun fun o ho => ?_
        have hp := orders_perm ho
        have hls : at7 u i (u i) = at7 u i v := by rw [hv]
        rw [List.map_map]
        by_cases h0 : at7 u i v = []
        · have ho0 : o = [] := by rw [h0] at hp; exact hp.eq_nil
          subst ho0
          have e1 : En (fun d => at7 u d (u d)) [i] (ringF f []) = [f] := by
            simp only [En]
            rw [if_pos (hls.trans h0)]; rfl
          rw [e1, h0]
          have e2 : ringF f [i] = f := ringF_of (by simp) (Ring.one (hf i hv)) fun _ _ => rfl
          show [f].Perm [ringF f [i]]
          rw [e2]
        · have e1 : En (fun d => at7 u d (u d)) [i] (ringF f o) = (at7 u i v).map fun b => behind (ringF f o) i b := by
            simp only [En]
            rw [if_neg (fun h => h0 (hls.symm.trans h)), List.map_eq_flatMap]
            show (at7 u i (u i)).flatMap _ = _
            rw [hls]
          rw [e1]
          have hl0 : 0 < (at7 u i v).length := List.length_pos_iff.2 h0
          rw [places_one hl0, range_rev, List.map_reverse, List.map_map]
          refine (hp.symm.map _).trans ?_
          refine List.Perm.trans ?_ (List.reverse_perm _).symm
          have e3 : ((List.range o.length).map ((ringF f ∘ fun j => put o i j) ∘ fun j => j + 1)) = o.map fun b => behind (ringF f o) i b := by
            rw [← map_getD (fun b => behind (ringF f o) i b)]
            refine List.map_congr_left fun j hj => ?_
            exact ((hring o ho j (List.mem_range.1 hj)).2).symm
          rw [e3]
      · intro o' ho'
        unfold ordStep at ho'
        obtain ⟨o, ho, h2⟩ := List.mem_flatMap.1 ho'
        obtain ⟨q, hq, rfl⟩ := List.mem_map.1 h2
        have hp := orders_perm ho
        by_cases h0 : at7 u i v = []
        · have ho0 : o = [] := by rw [h0] at hp; exact hp.eq_nil
          subst ho0
          rw [h0] at hq
          have : put [] i q = [i] := by unfold put; simp
          rw [this]
          have e2 : ringF f [i] = f := ringF_of (by simp) (Ring.one (hf i hv)) fun _ _ => rfl
          rw [e2]; exact Ring.one (hf i hv)
        · have hl0 : 0 < (at7 u i v).length := List.length_pos_iff.2 h0
          rw [places_one hl0] at hq
          obtain ⟨j, hj, rfl⟩ := List.mem_map.1 hq
          have hj := List.mem_range.1 hj
          obtain ⟨h3, h4⟩ := hring o ho (o.length - j - 1) (by omega)
          have e : o.length - j - 1 + 1 = o.length - j := by omega
          rw [e] at h3 h4
          rw [← h4]; exact h3
    · rw [at7_no hv]; exact ⟨ih, ihr⟩

/-- The program's rotations, and the model's, vertex after vertex. -/
def byDart (u : Nat → Nat) (d k : Nat) (f : Nat → Nat) : List (Nat → Nat) := En (fun d => at7 u d (u d)) (List.range' d k) f
def byVertex (u : Nat → Nat) (n : Nat) : Nat → Nat → (Nat → Nat) → List (Nat → Nat)
  | 0, _, m => [m]
  | k + 1, v, m => (orders (at7 u n v)).flatMap fun o => byVertex u n k (v + 1) (ringF m o)
theorem own_at7 (u : Nat → Nat) : Own u fun d => at7 u d (u d) := fun _ _ hb => (at7_mem.1 hb).2
theorem byVertex_En {u : Nat → Nat} {n : Nat} {G : (Nat → Nat) → Nat} (hG : ∀ f g, (∀ d, d < n → f d = g d) → G f = G g) : ∀ (k v : Nat) (m f : Nat → Nat), (∀ d, d < n → u d < v + k) → (∀ d, d < n → u d < v → m d = f d) → (∀ d, v ≤ u d → f d = d) →
    ((byVertex u n k v m).map G).Perm ((En (fun d => at7 u d (u d)) (from7 u n v) f).map G)
  | 0, v, m, f, hu, hm, _ => by
    have h0 : from7 u n v = [] := by
      unfold from7
      rw [List.filter_eq_nil_iff]
      intro d hd
      have := hu d (List.mem_range.1 hd)
      simp only [decide_eq_true_eq]; omega
    rw [h0]
    show [G m].Perm [G f]
    rw [hG m f fun d hd => hm d hd (by have := hu d hd; omega)]
  | k + 1, v, m, f, hu, hm, hf => by
    have h1 := (from7_part (own_at7 u) n v f).map G
    rw [En_append] at h1
    refine List.Perm.trans ?_ h1.symm
    have h2 := (En_orders (u := u) (n := n) (v := v) (f := f) (fun d hd => hf d (by omega)) n (Nat.le_refl _)).1
    refine List.Perm.trans ?_ ((List.Perm.flatMap_right _ h2).map G).symm
    rw [List.flatMap_map]
    show (((orders (at7 u n v)).flatMap fun o => byVertex u n k (v + 1) (ringF m o)).map G).Perm _
    rw [List.map_flatMap, List.map_flatMap]
    refine perm_fun fun o ho => ?_
    have hp := orders_perm ho
    have hno : o.Nodup := hp.nodup_iff.2 (at7_nodup _ _ _)
    refine byVertex_En hG k (v + 1) _ _ (fun d hd => by have := hu d hd; omega) (fun d hd hdv => ?_) (fun d hd => ?_)
    · by_cases e : d ∈ o
      · exact ringF_in hno e
      · rw [ringF_out e, ringF_out e]
        refine hm d hd ?_
        rcases Nat.lt_or_ge (u d) v with h | h
        · exact h
        · exact absurd (hp.mem_iff.2 (at7_mem.2 ⟨hd, by omega⟩)) e
    · have e : d ∉ o := fun h => by have := (at7_mem.1 (hp.mem_iff.1 h)).2; omega
      rw [ringF_out e]; exact hf d (by omega)
theorem same_rotations {u : Nat → Nat} {n : Nat} {G : (Nat → Nat) → Nat} (hG : ∀ f g, (∀ d, d < n → f d = g d) → G f = G g) (hu : ∀ d, d < n → u d < 7) (m : Nat → Nat) : ((byVertex u n 7 0 m).map G).Perm ((byDart u 0 n id).map G) := by
  have h := byVertex_En hG 7 0 m id (fun d hd => by have := hu d hd; omega) (fun d _ h => by omega) (fun _ _ => rfl)
  have e : from7 u n 0 = List.range' 0 n := by
    unfold from7
    rw [← List.range_eq_range', List.filter_eq_self]
    simp
  rw [e] at h
  exact h

/-- One more of the number k is counted. -/
def count (row : List Nat) (k : Nat) : List Nat := (row ++ List.replicate (k + 1 - row.length) 0).set k ((row ++ List.replicate (k + 1 - row.length) 0).getD k 0 + 1)
def most (gs : List Nat) : Nat := gs.foldl (fun m g => max m (g + 1)) 0
def hist (gs : List Nat) : List Nat := (List.range (most gs)).map fun k => gs.count k
theorem most_snoc (gs : List Nat) (g : Nat) : most (gs ++ [g]) = max (most gs) (g + 1) := by simp [most]
theorem most_le (gs : List Nat) : ∀ g ∈ gs, g + 1 ≤ most gs := by
  have key : ∀ (gs : List Nat) (m : Nat), m ≤ gs.foldl (fun m g => max m (g + 1)) m ∧ ∀ g ∈ gs, g + 1 ≤ gs.foldl (fun m g => max m (g + 1)) m := by
    intro gs
    induction gs with
    | nil => intro m; exact ⟨Nat.le_refl _, fun _ h => by cases h⟩
    | cons a gs ih =>
      intro m
      obtain ⟨h1, h2⟩ := ih (max m (a + 1))
      simp only [List.foldl_cons]
      refine ⟨by omega, fun g hg => ?_⟩
      rcases List.mem_cons.1 hg with rfl | hg
      · omega
      · exact h2 g hg
  exact (key gs 0).2
theorem most_lt {gs : List Nat} {B : Nat} (h : ∀ g ∈ gs, g + 1 ≤ B) : most gs ≤ B := by
  have key : ∀ (gs : List Nat) (m : Nat), (∀ g ∈ gs, g + 1 ≤ B) → m ≤ B → gs.foldl (fun m g => max m (g + 1)) m ≤ B := by
    intro gs
    induction gs with
    | nil => intro m _ h; exact h
    | cons a gs ih =>
      intro m h1 h2
      exact ih _ (fun g hg => h1 g (by simp [hg])) (Nat.max_le.2 ⟨h2, h1 a (by simp)⟩)
  exact key gs 0 h (by omega)
theorem most_perm {gs hs : List Nat} (h : gs.Perm hs) : most gs = most hs := by
  refine Nat.le_antisymm (most_lt fun g hg => most_le hs g (h.mem_iff.1 hg)) (most_lt fun g hg => most_le gs g (h.mem_iff.2 hg))
theorem hist_perm {gs hs : List Nat} (h : gs.Perm hs) : hist gs = hist hs := by
  unfold hist
  rw [most_perm h]
  exact List.map_congr_left fun k _ => h.count_eq k
theorem hist_snoc (gs : List Nat) (g : Nat) : hist (gs ++ [g]) = count (hist gs) g := by
  have hl : (hist gs).length = most gs := by simp [hist]
  have hpad : (hist gs ++ List.replicate (g + 1 - (hist gs).length) 0) = (List.range (max (most gs) (g + 1))).map fun k => gs.count k := by
    apply List.ext_getElem
    · simp [hl]; omega
    · intro i h1 h2
      simp only [List.length_map, List.length_range] at h2
      by_cases hi : i < most gs
      · rw [List.getElem_append_left (by rw [hl]; exact hi)]
        simp [hist]
      · rw [List.getElem_append_right (by rw [hl]; omega)]
        simp only [List.getElem_replicate, List.getElem_map, List.getElem_range]
        rw [List.count_eq_zero.2]
        intro hm
        have := most_le gs i hm
        omega
  unfold count
  rw [hpad]
  unfold hist
  rw [most_snoc]
  apply List.ext_getElem
  · simp
  · intro i h1 h2
    simp only [List.length_map, List.length_range] at h1
    rw [List.getElem_set]
    by_cases e : g = i
    · subst e
      rw [if_pos rfl, List.getD_eq_getElem?_getD, List.getElem?_map, List.getElem?_range (by omega)]
      simp
    · rw [if_neg e]
      simp [List.count_append, e]
theorem hist_len (gs : List Nat) : (hist gs).length = most gs := by simp [hist]
theorem hist_le (gs : List Nat) : ∀ x ∈ hist gs, x ≤ gs.length := by
  intro x hx
  obtain ⟨k, _, rfl⟩ := List.mem_map.1 hx
  exact List.count_le_length
theorem En_len {ls : Nat → List Nat} (h : ∀ d, (ls d).length ≤ d) : ∀ (k d : Nat) (f : Nat → Nat), (En ls (List.range' d k) f).length * fac d ≤ fac (d + k)
  | 0, d, f => by simp [En]
  | k + 1, d, f => by
    rw [List.range'_succ]
    simp only [En]
    have ih := fun f => En_len h k (d + 1) f
    rw [show d + 1 + k = d + (k + 1) by omega] at ih
    split
    · refine Nat.le_trans (Nat.mul_le_mul (Nat.le_refl _) (fac_mono (show d ≤ d + 1 by omega))) (ih f)
    · rw [List.length_flatMap]
      have : ∀ (l : List Nat), ((l.map fun b => (En ls (List.range' (d + 1) k) (behind f d b)).length).sum) * fac (d + 1) ≤ l.length * fac (d + (k + 1)) := by
        intro l
        induction l with
        | nil => simp
        | cons b l ihl =>
          simp only [List.map_cons, List.sum_cons, List.length_cons]
          rw [Nat.add_mul, Nat.add_mul, Nat.one_mul]
          have := ih (behind f d b)
          omega
      have h1 := this (ls d)
      have h2 : (ls d).length * fac (d + (k + 1)) ≤ (d + 1) * fac (d + (k + 1)) := Nat.mul_le_mul (by have := h d; omega) (Nat.le_refl _)
      have h3 := Nat.le_trans h1 h2
      rw [show fac (d + 1) = fac d * (d + 1) from rfl, ← Nat.mul_assoc, Nat.mul_comm (d + 1)] at h3
      exact Nat.le_of_mul_le_mul_right h3 (by omega)
end Gr
end Go.Proofs.YtamgimdjnmcpaaaGreat
