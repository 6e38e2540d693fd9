/-
  The topology of gluings: circles of a scheme of sides, its letters, polygons and parts; that Euler's number is at most twice the parts less the circles, and even with them where it is two-sided.
-/
import Derived.Test.YtodgongemoabiaaBase
import Derived.Test.YtodgongemoabiaaClass
import Derived.Test.YtodgongemoabiaaTri
namespace Go.Proofs.Ytodgongemoabiaa

namespace Cls
theorem filter_less {l : List Nat} {P : Nat → Bool} {r : Nat} (hn : l.Nodup) (hr : r ∈ l) (hp : P r = true) : (l.filter fun v => P v && v != r).length + 1 = (l.filter P).length := by
  induction l with
  | nil => cases hr
  | cons x l ih =>
    rw [List.nodup_cons] at hn
    rw [List.filter_cons, List.filter_cons]
    by_cases e : x = r
    · subst e
      have : (l.filter fun v => P v && v != x) = l.filter P := List.filter_congr fun v hv => by
        have : v ≠ x := fun h => hn.1 (h ▸ hv)
        simp [this]
      simp [hp, this]
    · have hr' : r ∈ l := (List.mem_cons.1 hr).resolve_left (fun h => e h.symm)
      have := ih hn.2 hr'
      by_cases hx : P x = true
      · simp [hx, e, ← this]
      · simp [hx, this]
/-- How many classes of S there are, below N. -/
def numS (S : Nat → Bool) (N : Nat) (c : Nat → Nat) : Nat := ((List.range N).filter fun v => S v && c v == v).length
def num (N : Nat) (c : Nat → Nat) : Nat := tally c (List.range N)
theorem num_numS (N : Nat) (c : Nat → Nat) : num N c = numS (fun _ => true) N c := by simp [num, numS, tally]
theorem numS_same {S : Nat → Bool} {N : Nat} {c : Nat → Nat} {p : Nat × Nat} (h : c p.1 = c p.2) : numS S N (merge c p) = numS S N c := by
  have : merge c p = c := funext fun k => by unfold merge; split <;> simp_all
  rw [this]
theorem numS_out {S : Nat → Bool} {N : Nat} {c : Nat → Nat} (hc : Ok c N) {p : Nat × Nat} (h1 : p.1 < N) (h2 : p.2 < N) (hs : S (c p.1) = false) : numS S N (merge c p) = numS S N c := by
  unfold numS
  refine congrArg List.length (List.filter_congr fun v hv => ?_)
  have hv := List.mem_range.1 hv
  unfold merge
  by_cases hS : S v = true
  · rw [hS, Bool.true_and, Bool.true_and]
    by_cases e : c v = c p.1
    · have : c v ≠ v := fun h => by rw [← e, h, hS] at hs; cases hs
      rw [if_pos e]
      have h3 : c p.2 ≠ v := by
        intro h
        have := hc.idem _ h2
        rw [h] at this
        exact absurd this (by assumption)
      rw [beq_eq_false_iff_ne.2 this, beq_eq_false_iff_ne.2 h3]
    · rw [if_neg e]
  · simp [hS]
theorem numS_diff {S : Nat → Bool} {N : Nat} {c : Nat → Nat} (hc : Ok c N) {p : Nat × Nat} (h1 : p.1 < N) (h2 : p.2 < N) (h : c p.1 ≠ c p.2) (hs : S (c p.1) = true) : numS S N (merge c p) + 1 = numS S N c := by
  unfold numS
  rw [← filter_less (P := fun v => S v && c v == v) List.nodup_range (List.mem_range.2 (hc.lt _ h1)) (by simp [hs, hc.idem _ h1])]
  congr 1
  refine congrArg List.length (List.filter_congr fun v hv => ?_)
  have hv := List.mem_range.1 hv
  have ia := hc.idem _ h1
  have ib := hc.idem _ h2
  unfold merge
  by_cases e : c v = c p.1
  · rw [if_pos e]
    by_cases e2 : c v = v
    · have hv' : v = c p.1 := by rw [← e2]; exact e
      have : c p.2 ≠ v := fun hh => h (by rw [← hv', hh])
      rw [hv'] at this ⊢
      simp [this]
    · have : c p.2 ≠ v := fun hh => by rw [hh] at ib; exact e2 ib
      rw [beq_eq_false_iff_ne.2 this, beq_eq_false_iff_ne.2 e2]; simp
  · rw [if_neg e]
    have : v ≠ c p.1 ∨ c v ≠ v := by
      by_cases e3 : v = c p.1
      · right; intro h4; rw [e3] at h4; exact e (by rw [e3]; exact h4)
      · exact Or.inl e3
    rcases this with h5 | h5
    · simp [h5]
    · simp [h5]
theorem numS_le {S : Nat → Bool} {N : Nat} {c : Nat → Nat} (hc : Ok c N) {p : Nat × Nat} (h1 : p.1 < N) (h2 : p.2 < N) : numS S N (merge c p) ≤ numS S N c ∧ numS S N c ≤ numS S N (merge c p) + 1 := by
  by_cases h : c p.1 = c p.2
  · rw [numS_same h]; omega
  · by_cases hs : S (c p.1) = true
    · have := numS_diff hc h1 h2 h hs; omega
    · rw [numS_out hc h1 h2 (by simpa using hs)]; omega

abbrev In (N : Nat) (es : List (Nat × Nat)) : Prop := ∀ p ∈ es, p.1 < N ∧ p.2 < N
abbrev Closed (S : Nat → Bool) (es : List (Nat × Nat)) : Prop := ∀ p ∈ es, S p.1 = S p.2
theorem Closed.lab {S : Nat → Bool} {es : List (Nat × Nat)} {N : Nat} (h : Closed S es) (hN : In N es) {v : Nat} (hv : v < N) : S (mergeAll es v) = S v :=
  ker_le h ((Ok.all hN).idem _ hv)
theorem Closed.ofCls (es : List (Nat × Nat)) (r : Nat) : Closed (fun v => mergeAll es v == r) es := fun p hp => by show (mergeAll es p.1 == r) = (mergeAll es p.2 == r); rw [eq_of_mem (a := p.1) (b := p.2) hp]
theorem Closed.sub {S : Nat → Bool} {es fs : List (Nat × Nat)} (h : Closed S es) (hs : ∀ p ∈ fs, p ∈ es) : Closed S fs := fun p hp => h p (hs p hp)
theorem In.sub {N : Nat} {es fs : List (Nat × Nat)} (h : In N es) (hs : ∀ p ∈ fs, p ∈ es) : In N fs := fun p hp => h p (hs p hp)
/-- How many of the pairs lie in S. -/
def inE (S : Nat → Bool) (es : List (Nat × Nat)) : Nat := es.countP fun p => S p.1
def nodes (S : Nat → Bool) (N : Nat) : Nat := (List.range N).countP S
/-- A set of classes has no more members than classes and pairs. -/
theorem nodes_le {S : Nat → Bool} {N : Nat} {es : List (Nat × Nat)} (hc : Closed S es) (hN : In N es) : nodes S N ≤ numS S N (mergeAll es) + inE S es := by
  refine snoc_ind (p := fun es => Closed S es → In N es → nodes S N ≤ numS S N (mergeAll es) + inE S es) ?_ ?_ es hc hN
  · intro _ _
    unfold nodes numS inE
    rw [List.countP_eq_length_filter]
    simp [mergeAll]
  · intro es p ih hc hN
    have hc' : Closed S es := hc.sub fun p hp => List.mem_append.2 (Or.inl hp)
    have hN' : In N es := hN.sub fun p hp => List.mem_append.2 (Or.inl hp)
    have hp := hN p (List.mem_append.2 (Or.inr (List.mem_singleton.2 rfl)))
    have ih := ih hc' hN'
    rw [mergeAll_snoc]
    have hi : inE S (es ++ [p]) = inE S es + if S p.1 = true then 1 else 0 := by
      unfold inE; rw [List.countP_append, List.countP_singleton]
    rw [hi]
    by_cases hs : S p.1 = true
    · rw [if_pos hs]
      have := (numS_le (S := S) (Ok.all hN') hp.1 hp.2).2
      omega
    · rw [if_neg hs, numS_out (Ok.all hN') hp.1 hp.2 (by rw [hc'.lab hN' hp.1]; simpa using hs)]
      exact ih
/-- Pairs in another order have the same classes. -/
theorem ker_sub {es fs : List (Nat × Nat)} (h : ∀ p ∈ es, p ∈ fs) {x y : Nat} (e : mergeAll es x = mergeAll es y) : mergeAll fs x = mergeAll fs y :=
  ker_le (F := mergeAll fs) (fun p hp => eq_of_mem (h p hp)) e
theorem num_found {N : Nat} {c : Nat → Nat} (h : Ok c N) : num N c = (found c (List.range N)).length := tally_range h
theorem num_ker {N : Nat} {c d : Nat → Nat} (hc : Ok c N) (hd : Ok d N) (h : ∀ x, x < N → ∀ y, y < N → (c x = c y ↔ d x = d y)) : num N c = num N d := by
  rw [num_found hc, num_found hd]
  exact found_ker fun i hi j hj => h i (List.mem_range.1 hi) j (List.mem_range.1 hj)
theorem num_mem {N : Nat} {es fs : List (Nat × Nat)} (hN : In N es) (h : ∀ p, p ∈ es ↔ p ∈ fs) : num N (mergeAll es) = num N (mergeAll fs) :=
  num_ker (Ok.all hN) (Ok.all (hN.sub fun p hp => (h p).2 hp)) fun x _ y _ => ⟨ker_sub fun p hp => (h p).1 hp, ker_sub fun p hp => (h p).2 hp⟩
theorem num_same {N : Nat} {es : List (Nat × Nat)} {p : Nat × Nat} (h : mergeAll es p.1 = mergeAll es p.2) : num N (mergeAll (es ++ [p])) = num N (mergeAll es) := by
  rw [mergeAll_snoc, num_numS, num_numS, numS_same h]
theorem num_diff {N : Nat} {es : List (Nat × Nat)} {p : Nat × Nat} (hN : In N es) (h1 : p.1 < N) (h2 : p.2 < N) (h : mergeAll es p.1 ≠ mergeAll es p.2) : num N (mergeAll (es ++ [p])) + 1 = num N (mergeAll es) := by
  rw [mergeAll_snoc, num_numS, num_numS, numS_diff (Ok.all hN) h1 h2 h rfl]
theorem snoc_eq {es : List (Nat × Nat)} {p : Nat × Nat} {x y : Nat} : mergeAll (es ++ [p]) x = mergeAll (es ++ [p]) y ↔ (mergeAll es x = mergeAll es y ∨ (mergeAll es x = mergeAll es p.1 ∧ mergeAll es y = mergeAll es p.2) ∨ (mergeAll es x = mergeAll es p.2 ∧ mergeAll es y = mergeAll es p.1)) := by
  rw [mergeAll_snoc]; unfold merge
  generalize mergeAll es = c
  by_cases h1 : c x = c p.1
  · by_cases h2 : c y = c p.1
    · rw [if_pos h1, if_pos h2]
      exact ⟨fun _ => Or.inl (h1.trans h2.symm), fun _ => rfl⟩
    · rw [if_pos h1, if_neg h2]
      constructor
      · intro h; exact Or.inr (Or.inl ⟨h1, h.symm⟩)
      · rintro (h | ⟨_, h⟩ | ⟨_, h⟩)
        · exact absurd (h.symm.trans h1) h2
        · exact h.symm
        · exact absurd h h2
  · by_cases h2 : c y = c p.1
    · rw [if_neg h1, if_pos h2]
      constructor
      · intro h; exact Or.inr (Or.inr ⟨h, h2⟩)
      · rintro (h | ⟨h, _⟩ | ⟨h, _⟩)
        · exact absurd (h.trans h2) h1
        · exact absurd h h1
        · exact h
    · rw [if_neg h1, if_neg h2]
      constructor
      · intro h; exact Or.inl h
      · rintro (h | ⟨h, _⟩ | ⟨_, h⟩)
        · exact h
        · exact absurd h h1
        · exact absurd h h2
end Cls

namespace Cls
def bit (b : Bool) : Nat := if b then 1 else 0
theorem bit_le (b : Bool) : bit b ≤ 1 := by cases b <;> simp [bit]
theorem pattern {A B D E : Nat} (par : ∀ r, (bit (A == r) + bit (B == r) + bit (D == r) + bit (E == r)) % 2 = 0) :
    (A = B ∧ D = E ∧ A ≠ D) ∨ (A = D ∧ B = E ∧ A ≠ B) ∨ (A = E ∧ B = D ∧ A ≠ B) ∨ (A = B ∧ A = D ∧ A = E) := by
  have h1 := par A
  have h2 := par B
  have h3 := par D
  unfold bit at h1 h2 h3
  simp only [beq_iff_eq] at h1 h2 h3
  by_cases ab : A = B
  · by_cases ad : A = D
    · by_cases ae : A = E
      · omega
      · subst ab; subst ad
        have ea : ¬ E = A := fun h => ae h.symm
        simp [ea] at h1
    · left
      subst ab
      refine ⟨rfl, ?_, ad⟩
      by_cases de : D = E
      · exact de
      · have h4 : ¬ E = D := fun h => de h.symm
        simp [ad, h4] at h3
  · have ba : ¬ B = A := fun h => ab h.symm
    by_cases ad : A = D
    · subst ad
      right; left
      refine ⟨rfl, ?_, ab⟩
      by_cases be : B = E
      · exact be
      · have eb : ¬ E = B := fun h => be h.symm
        simp [ab, eb] at h2
    · have da : ¬ D = A := fun h => ad h.symm
      by_cases ae : A = E
      · subst ae
        right; right; left
        refine ⟨rfl, ?_, ab⟩
        by_cases bd : B = D
        · exact bd
        · have db : ¬ D = B := fun h => bd h.symm
          simp [ab, db] at h2
      · have ea : ¬ E = A := fun h => ae h.symm
        simp [ba, da, ea] at h1
/-- Four ends of paths, each class holding an even number of them. -/
structure Quad (N : Nat) (Q : List (Nat × Nat)) (a b d e : Nat) : Prop where
  inN : In N Q
  la : a < N
  lb : b < N
  ld : d < N
  le : e < N
  par : ∀ S : Nat → Bool, Closed S Q → (bit (S a) + bit (S b) + bit (S d) + bit (S e)) % 2 = 0
theorem two (Q : List (Nat × Nat)) (p q : Nat × Nat) : Q ++ [p, q] = Q ++ [p] ++ [q] := by simp
theorem In.snoc {N : Nat} {Q : List (Nat × Nat)} {p : Nat × Nat} (h : In N Q) (h1 : p.1 < N) (h2 : p.2 < N) : In N (Q ++ [p]) := fun q hq => by
  rcases List.mem_append.1 hq with hq | hq
  · exact h q hq
  · rw [List.mem_singleton.1 hq]; exact ⟨h1, h2⟩
theorem num2_ss {N : Nat} {Q : List (Nat × Nat)} {p q : Nat × Nat} (h1 : mergeAll Q p.1 = mergeAll Q p.2) (h2 : mergeAll Q q.1 = mergeAll Q q.2) : num N (mergeAll (Q ++ [p, q])) = num N (mergeAll Q) := by
  rw [two, num_same (snoc_eq.2 (Or.inl h2)), num_same h1]
theorem num2_ds {N : Nat} {Q : List (Nat × Nat)} {p q : Nat × Nat} (hN : In N Q) (hp1 : p.1 < N) (hp2 : p.2 < N) (h1 : mergeAll Q p.1 ≠ mergeAll Q p.2) (h2 : mergeAll (Q ++ [p]) q.1 = mergeAll (Q ++ [p]) q.2) : num N (mergeAll (Q ++ [p, q])) + 1 = num N (mergeAll Q) := by
  rw [two, num_same h2, num_diff hN hp1 hp2 h1]
/-- What becomes of the classes' number when two spans are replaced by two other pairs. -/
theorem Quad.cases {N : Nat} {Q : List (Nat × Nat)} {a b d e : Nat} (h : Quad N Q a b d e) :
    (mergeAll Q a = mergeAll Q b ∧ mergeAll Q d = mergeAll Q e ∧ mergeAll Q a ≠ mergeAll Q d ∧ num N (mergeAll (Q ++ [(a, d), (b, e)])) + 1 = num N (mergeAll (Q ++ [(a, b), (d, e)]))) ∨
    (mergeAll Q a = mergeAll Q d ∧ mergeAll Q b = mergeAll Q e ∧ mergeAll Q a ≠ mergeAll Q b ∧ num N (mergeAll (Q ++ [(a, d), (b, e)])) = num N (mergeAll (Q ++ [(a, b), (d, e)])) + 1) ∨
    (mergeAll Q a = mergeAll Q e ∧ mergeAll Q b = mergeAll Q d ∧ mergeAll Q a ≠ mergeAll Q b ∧ num N (mergeAll (Q ++ [(a, d), (b, e)])) = num N (mergeAll (Q ++ [(a, b), (d, e)]))) ∨
    (mergeAll Q a = mergeAll Q b ∧ mergeAll Q a = mergeAll Q d ∧ mergeAll Q a = mergeAll Q e ∧ num N (mergeAll (Q ++ [(a, d), (b, e)])) = num N (mergeAll (Q ++ [(a, b), (d, e)]))) := by
  have hp := pattern (A := mergeAll Q a) (B := mergeAll Q b) (D := mergeAll Q d) (E := mergeAll Q e) (fun r => h.par _ (Closed.ofCls Q r))
  rcases hp with ⟨h1, h2, h3⟩ | ⟨h1, h2, h3⟩ | ⟨h1, h2, h3⟩ | ⟨h1, h2, h3⟩
  · refine Or.inl ⟨h1, h2, h3, ?_⟩
    rw [num2_ss (p := (a, b)) (q := (d, e)) h1 h2, num2_ds (p := (a, d)) (q := (b, e)) h.inN h.la h.ld h3 (snoc_eq.2 (Or.inr (Or.inl ⟨h1.symm, h2.symm⟩)))]
  · refine Or.inr (Or.inl ⟨h1, h2, h3, ?_⟩)
    rw [num2_ss (p := (a, d)) (q := (b, e)) h1 h2, num2_ds (p := (a, b)) (q := (d, e)) h.inN h.la h.lb h3 (snoc_eq.2 (Or.inr (Or.inl ⟨h1.symm, h2.symm⟩)))]
  · refine Or.inr (Or.inr (Or.inl ⟨h1, h2, h3, ?_⟩))
    have e1 := num2_ds (p := (a, b)) (q := (d, e)) h.inN h.la h.lb h3 (snoc_eq.2 (Or.inr (Or.inr ⟨h2.symm, h1.symm⟩)))
    have e2 := num2_ds (p := (a, d)) (q := (b, e)) h.inN h.la h.ld (fun hh => h3 (hh.trans h2.symm)) (snoc_eq.2 (Or.inr (Or.inr ⟨h2, h1.symm⟩)))
    omega
  · refine Or.inr (Or.inr (Or.inr ⟨h1, h2, h3, ?_⟩))
    rw [num2_ss (p := (a, b)) (q := (d, e)) h1 (h2.symm.trans h3), num2_ss (p := (a, d)) (q := (b, e)) h2 (h1.symm.trans h3)]
theorem Quad.le1 {N : Nat} {Q : List (Nat × Nat)} {a b d e : Nat} (h : Quad N Q a b d e) : num N (mergeAll (Q ++ [(a, d), (b, e)])) ≤ num N (mergeAll (Q ++ [(a, b), (d, e)])) + 1 := by
  rcases h.cases with ⟨_, _, _, h⟩ | ⟨_, _, _, h⟩ | ⟨_, _, _, h⟩ | ⟨_, _, _, h⟩ <;> omega
theorem Quad.sep {N : Nat} {Q : List (Nat × Nat)} {a b d e : Nat} (h : Quad N Q a b d e) {S : Nat → Bool} (hS : Closed S Q) (ha : S a = true) (hb : S b = true) (hd : S d = false) (he : S e = false) :
    num N (mergeAll (Q ++ [(a, d), (b, e)])) + 1 = num N (mergeAll (Q ++ [(a, b), (d, e)])) := by
  have k : ∀ {x y}, mergeAll Q x = mergeAll Q y → S x = S y := fun hh => ker_le hS hh
  rcases h.cases with ⟨_, _, _, h⟩ | ⟨h1, _, _, _⟩ | ⟨h1, _, _, _⟩ | ⟨_, h1, _, _⟩
  · exact h
  · have := k h1; rw [ha, hd] at this; cases this
  · have := k h1; rw [ha, he] at this; cases this
  · have := k h1; rw [ha, hd] at this; cases this
/-- Where beginnings and ends are as many in each class (a, e: beginnings; b, d: ends), and no class holds all four. -/
theorem Quad.odd {N : Nat} {Q : List (Nat × Nat)} {a b d e : Nat} (h : Quad N Q a b d e) (ho : ∀ S : Nat → Bool, Closed S Q → bit (S a) + bit (S e) = bit (S b) + bit (S d))
    (h4 : ¬ (mergeAll Q a = mergeAll Q b ∧ mergeAll Q a = mergeAll Q d ∧ mergeAll Q a = mergeAll Q e)) : (num N (mergeAll (Q ++ [(a, d), (b, e)])) + num N (mergeAll (Q ++ [(a, b), (d, e)]))) % 2 = 1 := by
  rcases h.cases with ⟨_, _, _, h⟩ | ⟨_, _, _, h⟩ | ⟨h1, h2, h3, _⟩ | ⟨h1, h2, h3, _⟩
  · omega
  · omega
  · have := ho _ (Closed.ofCls Q (mergeAll Q a))
    have hb : ¬ mergeAll Q b = mergeAll Q a := fun hh => h3 hh.symm
    simp [bit, ← h1, ← h2, hb] at this
  · exact absurd ⟨h1, h2, h3⟩ h4
end Cls

namespace Cls
/-- A gluing as a scheme: n sides, each with a beginning (2 i) and an end (2 i + 1); nx: the next side of its polygon. -/
def corners (nx : Nat → Nat) (n : Nat) : List (Nat × Nat) := (List.range n).map fun i => (2 * i + 1, 2 * nx i)
def span (x : Nat) : List (Nat × Nat) := [(2 * x, 2 * x + 1)]
/-- Two sides are glued: beginning to beginning, or (b) beginning to end. -/
def glue (t : Nat × Nat × Bool) : List (Nat × Nat) := if t.2.2 then [(2 * t.1, 2 * t.2.1 + 1), (2 * t.1 + 1, 2 * t.2.1)] else [(2 * t.1, 2 * t.2.1), (2 * t.1 + 1, 2 * t.2.1 + 1)]
def spans2 (t : Nat × Nat × Bool) : List (Nat × Nat) := [(2 * t.1, 2 * t.1 + 1), (if t.2.2 then (2 * t.2.1 + 1, 2 * t.2.1) else (2 * t.2.1, 2 * t.2.1 + 1))]
def sidesOf (T : List (Nat × Nat × Bool)) : List Nat := T.flatMap fun t => [t.1, t.2.1]
/-- The weight of a side: how many of its ends lie in S. -/
def wt (S : Nat → Bool) (x : Nat) : Nat := bit (S (2 * x)) + bit (S (2 * x + 1))
/-- The ends of pairs that lie in S. -/
def endsIn (S : Nat → Bool) (es : List (Nat × Nat)) : Nat := (es.map fun p => bit (S p.1) + bit (S p.2)).sum
theorem endsIn_append (S : Nat → Bool) (es fs : List (Nat × Nat)) : endsIn S (es ++ fs) = endsIn S es + endsIn S fs := by simp [endsIn]
theorem endsIn_closed {S : Nat → Bool} {es : List (Nat × Nat)} (h : Closed S es) : endsIn S es = 2 * inE S es := by
  induction es with
  | nil => rfl
  | cons p es ih =>
    have ih := ih (h.sub fun q hq => List.mem_cons_of_mem _ hq)
    have hp := h p (List.mem_cons_self ..)
    unfold endsIn inE at *
    rw [List.map_cons, List.sum_cons, ih, List.countP_cons, ← hp]
    cases S p.1 <;> simp [bit] <;> omega
theorem glue_ends (S : Nat → Bool) (t : Nat × Nat × Bool) : endsIn S (glue t) = wt S t.1 + wt S t.2.1 := by
  unfold glue endsIn wt
  split <;> simp <;> omega
theorem spans2_ends (S : Nat → Bool) (t : Nat × Nat × Bool) : endsIn S (spans2 t) = wt S t.1 + wt S t.2.1 := by
  unfold spans2 endsIn wt; split <;> simp <;> omega
theorem span_ends (S : Nat → Bool) (x : Nat) : endsIn S (span x) = wt S x := by unfold span endsIn wt; simp
theorem flat_ends {α : Type} (S : Nat → Bool) (f : α → List (Nat × Nat)) (l : List α) : endsIn S (l.flatMap f) = (l.map fun t => endsIn S (f t)).sum := by
  induction l with
  | nil => rfl
  | cons t l ih => rw [List.flatMap_cons, endsIn_append, ih, List.map_cons, List.sum_cons]
theorem sum_sides (w : Nat → Nat) (T : List (Nat × Nat × Bool)) : ((sidesOf T).map w).sum = (T.map fun t => w t.1 + w t.2.1).sum := by
  induction T with
  | nil => rfl
  | cons t T ih =>
    show (([t.1, t.2.1] ++ sidesOf T).map w).sum = _
    rw [List.map_append, List.sum_append, ih, List.map_cons, List.sum_cons]; simp
theorem sum_two (f g : Nat → Nat) (l : List Nat) : (l.map fun x => f x + g x).sum = (l.map f).sum + (l.map g).sum := by
  induction l with
  | nil => rfl
  | cons x l ih => simp only [List.map_cons, List.sum_cons, ih]; omega
theorem nodes_wt (S : Nat → Bool) (n : Nat) : nodes S (2 * n) = ((List.range n).map (wt S)).sum := by
  induction n with
  | zero => rfl
  | succ n ih =>
    rw [List.range_succ, List.map_append, List.sum_append, ← ih]
    show nodes S (2 * n + 2) = _
    unfold nodes
    rw [List.range_succ, List.range_succ, List.append_assoc, List.countP_append]
    simp [List.countP_cons, wt, bit]
    cases S (2 * n) <;> cases S (2 * n + 1) <;> simp
/-- nx is a permutation of the sides. -/
abbrev Perm (nx : Nat → Nat) (n : Nat) : Prop := ((List.range n).map nx).Perm (List.range n)
theorem perm_sum {nx : Nat → Nat} {n : Nat} (h : Perm nx n) (f : Nat → Nat) : ((List.range n).map fun i => f (nx i)).sum = ((List.range n).map f).sum := by
  have := (h.map f).sum_nat
  rwa [List.map_map] at this
theorem corners_ends {nx : Nat → Nat} {n : Nat} (h : Perm nx n) (S : Nat → Bool) : endsIn S (corners nx n) = nodes S (2 * n) := by
  rw [nodes_wt]
  unfold endsIn corners wt
  rw [List.map_map]
  show ((List.range n).map fun i => bit (S (2 * i + 1)) + bit (S (2 * nx i))).sum = _
  rw [sum_two, perm_sum h (fun i => bit (S (2 * i))), sum_two]; omega
theorem corners_in {nx : Nat → Nat} {n : Nat} (h : Perm nx n) : In (2 * n) (corners nx n) := by
  intro p hp
  unfold corners at hp
  obtain ⟨i, hi, rfl⟩ := List.mem_map.1 hp
  have hi := List.mem_range.1 hi
  have : nx i ∈ List.range n := h.mem_iff.1 (List.mem_map.2 ⟨i, List.mem_range.2 hi, rfl⟩)
  have := List.mem_range.1 this
  exact ⟨by show 2 * i + 1 < 2 * n; omega, by show 2 * nx i < 2 * n; omega⟩
/-- Beginnings and ends are as many in each set that the corners keep. -/
theorem corners_even {nx : Nat → Nat} {n : Nat} (h : Perm nx n) {S : Nat → Bool} (hS : Closed S (corners nx n)) : ((List.range n).map fun i => bit (S (2 * i))).sum = ((List.range n).map fun i => bit (S (2 * i + 1))).sum := by
  rw [← perm_sum h (fun i => bit (S (2 * i)))]
  refine congrArg List.sum (List.map_congr_left fun i hi => ?_)
  have := hS (2 * i + 1, 2 * nx i) (List.mem_map.2 ⟨i, hi, rfl⟩)
  show bit (S (2 * nx i)) = bit (S (2 * i + 1))
  rw [show S (2 * i + 1) = S (2 * nx i) from this]

/-- The scheme: sides, which are glued, which not. -/
structure Scheme where
  n : Nat
  nx : Nat → Nat
  T : List (Nat × Nat × Bool)
  Fr : List Nat
namespace Scheme
structure Ok (s : Scheme) : Prop where
  perm : Perm s.nx s.n
  sides : (sidesOf s.T ++ s.Fr).Perm (List.range s.n)
/-- The first letters are glued, the others not yet. -/
def part (s : Scheme) (A B : List (Nat × Nat × Bool)) : List (Nat × Nat) := corners s.nx s.n ++ (A.flatMap glue ++ (B.flatMap spans2 ++ s.Fr.flatMap span))
/-- What hangs together. -/
def tied (s : Scheme) (A : List (Nat × Nat × Bool)) : List (Nat × Nat) := (corners s.nx s.n ++ (List.range s.n).flatMap span) ++ A.map fun t => (2 * t.1, 2 * t.2.1)
end Scheme
end Cls

namespace Cls
namespace Scheme
variable {s : Scheme}
theorem Ok.lt (h : Ok s) {x : Nat} (hx : x ∈ sidesOf s.T ++ s.Fr) : x < s.n := List.mem_range.1 (h.sides.mem_iff.1 hx)
theorem Ok.sum (h : Ok s) (f : Nat → Nat) : ((sidesOf s.T).map f).sum + (s.Fr.map f).sum = ((List.range s.n).map f).sum := by
  have := (h.sides.map f).sum_nat
  rwa [List.map_append, List.sum_append] at this
theorem sides_append (A B : List (Nat × Nat × Bool)) : sidesOf (A ++ B) = sidesOf A ++ sidesOf B := by unfold sidesOf; rw [List.flatMap_append]
theorem sides_mem {T : List (Nat × Nat × Bool)} {t : Nat × Nat × Bool} (h : t ∈ T) : t.1 ∈ sidesOf T ∧ t.2.1 ∈ sidesOf T := by
  unfold sidesOf
  exact ⟨List.mem_flatMap.2 ⟨t, h, by simp⟩, List.mem_flatMap.2 ⟨t, h, by simp⟩⟩
theorem Ok.lt2 (h : Ok s) {t : Nat × Nat × Bool} (ht : t ∈ s.T) : t.1 < s.n ∧ t.2.1 < s.n :=
  ⟨h.lt (List.mem_append.2 (Or.inl (sides_mem ht).1)), h.lt (List.mem_append.2 (Or.inl (sides_mem ht).2))⟩
theorem Ok.ltF (h : Ok s) {x : Nat} (hx : x ∈ s.Fr) : x < s.n := h.lt (List.mem_append.2 (Or.inr hx))
theorem glue_in {t : Nat × Nat × Bool} {n : Nat} (h1 : t.1 < n) (h2 : t.2.1 < n) : In (2 * n) (glue t) := by
  intro p hp
  unfold glue at hp
  split at hp <;> simp only [List.mem_cons, List.not_mem_nil, or_false] at hp <;> rcases hp with rfl | rfl <;> exact ⟨by simp; omega, by simp; omega⟩
theorem spans2_in {t : Nat × Nat × Bool} {n : Nat} (h1 : t.1 < n) (h2 : t.2.1 < n) : In (2 * n) (spans2 t) := by
  intro p hp
  unfold spans2 at hp
  simp only [List.mem_cons, List.not_mem_nil, or_false] at hp
  rcases hp with rfl | rfl
  · exact ⟨by simp; omega, by simp; omega⟩
  · split <;> exact ⟨by simp; omega, by simp; omega⟩
theorem part_mem {A B : List (Nat × Nat × Bool)} {p : Nat × Nat} : p ∈ s.part A B ↔ p ∈ corners s.nx s.n ∨ (∃ t ∈ A, p ∈ glue t) ∨ (∃ t ∈ B, p ∈ spans2 t) ∨ ∃ x ∈ s.Fr, p ∈ span x := by
  unfold part
  simp only [List.mem_append, List.mem_flatMap]
theorem Ok.partIn (h : Ok s) {A B : List (Nat × Nat × Bool)} (hA : ∀ t ∈ A, t ∈ s.T) (hB : ∀ t ∈ B, t ∈ s.T) : In (2 * s.n) (s.part A B) := by
  intro p hp
  rcases part_mem.1 hp with hp | ⟨t, ht, hp⟩ | ⟨t, ht, hp⟩ | ⟨x, hx, hp⟩
  · exact corners_in h.perm p hp
  · exact glue_in (h.lt2 (hA t ht)).1 (h.lt2 (hA t ht)).2 p hp
  · exact spans2_in (h.lt2 (hB t ht)).1 (h.lt2 (hB t ht)).2 p hp
  · have := h.ltF hx
    rw [List.mem_singleton.1 hp]
    exact ⟨by simp; omega, by simp; omega⟩
theorem part_ends (S : Nat → Bool) (h : Ok s) (A B : List (Nat × Nat × Bool)) : endsIn S (s.part A B) = nodes S (2 * s.n) + (((sidesOf A).map (wt S)).sum + ((sidesOf B).map (wt S)).sum + (s.Fr.map (wt S)).sum) := by
  unfold part
  rw [endsIn_append, endsIn_append, endsIn_append, corners_ends h.perm, flat_ends, flat_ends, flat_ends, sum_sides, sum_sides]
  simp only [glue_ends, spans2_ends, span_ends]
  have e : (List.map (fun t => wt S t) s.Fr).sum = (List.map (wt S) s.Fr).sum := rfl
  omega
/-- Two ends more, of the letter that is not glued yet. -/
def endD (t : Nat × Nat × Bool) : Nat := if t.2.2 then 2 * t.2.1 + 1 else 2 * t.2.1
def endE (t : Nat × Nat × Bool) : Nat := if t.2.2 then 2 * t.2.1 else 2 * t.2.1 + 1
theorem glue_eq (t : Nat × Nat × Bool) : glue t = [(2 * t.1, endD t), (2 * t.1 + 1, endE t)] := by unfold glue endD endE; split <;> rfl
theorem spans2_eq (t : Nat × Nat × Bool) : spans2 t = [(2 * t.1, 2 * t.1 + 1), (endD t, endE t)] := by unfold spans2 endD endE; split <;> rfl
theorem wt_ends (S : Nat → Bool) (t : Nat × Nat × Bool) : wt S t.2.1 = bit (S (endD t)) + bit (S (endE t)) := by unfold wt endD endE; split <;> omega
theorem Ok.sum3 (h : Ok s) {A B : List (Nat × Nat × Bool)} {t : Nat × Nat × Bool} (hT : s.T = A ++ t :: B) (f : Nat → Nat) :
    ((sidesOf A).map f).sum + ((sidesOf B).map f).sum + (s.Fr.map f).sum + (f t.1 + f t.2.1) = ((List.range s.n).map f).sum := by
  have := h.sum f
  rw [hT, sides_append, show sidesOf (t :: B) = [t.1, t.2.1] ++ sidesOf B from rfl, List.map_append, List.map_append, List.sum_append, List.sum_append] at this
  simp at this
  omega
theorem Ok.quad (h : Ok s) {A B : List (Nat × Nat × Bool)} {t : Nat × Nat × Bool} (hT : s.T = A ++ t :: B) : Quad (2 * s.n) (s.part A B) (2 * t.1) (2 * t.1 + 1) (endD t) (endE t) := by
  have ht : t ∈ s.T := by rw [hT]; simp
  have h2 := h.lt2 ht
  refine ⟨h.partIn (fun u hu => by rw [hT]; simp [hu]) (fun u hu => by rw [hT]; simp [hu]), by omega, by omega, by unfold endD; split <;> omega, by unfold endE; split <;> omega, fun S hS => ?_⟩
  have h3 := endsIn_closed hS
  rw [part_ends S h] at h3
  have h4 := h.sum3 hT (wt S)
  rw [← nodes_wt, wt_ends] at h4
  unfold wt at h4
  unfold wt at h3
  omega
theorem part_spans (A B : List (Nat × Nat × Bool)) (t : Nat × Nat × Bool) (h : Ok s) (hA : ∀ u ∈ A, u ∈ s.T) (hB : ∀ u ∈ t :: B, u ∈ s.T) : num (2 * s.n) (mergeAll (s.part A (t :: B))) = num (2 * s.n) (mergeAll (s.part A B ++ [(2 * t.1, 2 * t.1 + 1), (endD t, endE t)])) := by
  refine num_mem (h.partIn hA hB) fun p => ?_
  rw [← spans2_eq, List.mem_append, part_mem, part_mem]
  constructor
  · rintro (hp | hp | ⟨u, hu, hp⟩ | hp)
    · exact Or.inl (Or.inl hp)
    · exact Or.inl (Or.inr (Or.inl hp))
    · rcases List.mem_cons.1 hu with rfl | hu
      · exact Or.inr hp
      · exact Or.inl (Or.inr (Or.inr (Or.inl ⟨u, hu, hp⟩)))
    · exact Or.inl (Or.inr (Or.inr (Or.inr hp)))
  · rintro ((hp | hp | ⟨u, hu, hp⟩ | hp) | hp)
    · exact Or.inl hp
    · exact Or.inr (Or.inl hp)
    · exact Or.inr (Or.inr (Or.inl ⟨u, List.mem_cons_of_mem _ hu, hp⟩))
    · exact Or.inr (Or.inr (Or.inr hp))
    · exact Or.inr (Or.inr (Or.inl ⟨t, List.mem_cons_self .., hp⟩))
theorem part_glue (A B : List (Nat × Nat × Bool)) (t : Nat × Nat × Bool) (h : Ok s) (hA : ∀ u ∈ A ++ [t], u ∈ s.T) (hB : ∀ u ∈ B, u ∈ s.T) : num (2 * s.n) (mergeAll (s.part (A ++ [t]) B)) = num (2 * s.n) (mergeAll (s.part A B ++ [(2 * t.1, endD t), (2 * t.1 + 1, endE t)])) := by
  refine num_mem (h.partIn hA hB) fun p => ?_
  rw [← glue_eq, List.mem_append, part_mem, part_mem]
  constructor
  · rintro (hp | ⟨u, hu, hp⟩ | hp | hp)
    · exact Or.inl (Or.inl hp)
    · rcases List.mem_append.1 hu with hu | hu
      · exact Or.inl (Or.inr (Or.inl ⟨u, hu, hp⟩))
      · rw [List.mem_singleton.1 hu] at hp; exact Or.inr hp
    · exact Or.inl (Or.inr (Or.inr (Or.inl hp)))
    · exact Or.inl (Or.inr (Or.inr (Or.inr hp)))
  · rintro ((hp | ⟨u, hu, hp⟩ | hp | hp) | hp)
    · exact Or.inl hp
    · exact Or.inr (Or.inl ⟨u, List.mem_append.2 (Or.inl hu), hp⟩)
    · exact Or.inr (Or.inr (Or.inl hp))
    · exact Or.inr (Or.inr (Or.inr hp))
    · exact Or.inr (Or.inl ⟨t, List.mem_append.2 (Or.inr (List.mem_singleton.2 rfl)), hp⟩)
/-- The tied sets. -/
theorem tied_span {A : List (Nat × Nat × Bool)} {x : Nat} (hx : x < s.n) : mergeAll (s.tied A) (2 * x) = mergeAll (s.tied A) (2 * x + 1) :=
  eq_of_mem (List.mem_append.2 (Or.inl (List.mem_append.2 (Or.inr (List.mem_flatMap.2 ⟨x, List.mem_range.2 hx, by simp [span]⟩)))))
theorem tied_link {A : List (Nat × Nat × Bool)} {t : Nat × Nat × Bool} (ht : t ∈ A) : mergeAll (s.tied A) (2 * t.1) = mergeAll (s.tied A) (2 * t.2.1) :=
  eq_of_mem (List.mem_append.2 (Or.inr (List.mem_map.2 ⟨t, ht, rfl⟩)))
theorem tied_corner {A : List (Nat × Nat × Bool)} {p : Nat × Nat} (hp : p ∈ corners s.nx s.n) : mergeAll (s.tied A) p.1 = mergeAll (s.tied A) p.2 :=
  eq_of_mem (List.mem_append.2 (Or.inl (List.mem_append.2 (Or.inl hp))))
theorem tied_endD {A : List (Nat × Nat × Bool)} {t : Nat × Nat × Bool} (h2 : t.2.1 < s.n) : mergeAll (s.tied A) (endD t) = mergeAll (s.tied A) (2 * t.2.1) ∧ mergeAll (s.tied A) (endE t) = mergeAll (s.tied A) (2 * t.2.1) := by
  unfold endD endE
  split
  · exact ⟨(tied_span h2).symm, rfl⟩
  · exact ⟨rfl, (tied_span h2).symm⟩
theorem Ok.tied_part (h : Ok s) {A B : List (Nat × Nat × Bool)} (hA : ∀ t ∈ A, t ∈ s.T) (hB : ∀ t ∈ B, t ∈ s.T) (r : Nat) : Closed (fun v => mergeAll (s.tied A) v == r) (s.part A B) := by
  intro p hp
  show (mergeAll (s.tied A) p.1 == r) = (mergeAll (s.tied A) p.2 == r)
  have key : mergeAll (s.tied A) p.1 = mergeAll (s.tied A) p.2 := by
    rcases part_mem.1 hp with hp | ⟨t, ht, hp⟩ | ⟨t, ht, hp⟩ | ⟨x, hx, hp⟩
    · exact tied_corner hp
    · have h2 := h.lt2 (hA t ht)
      have e := tied_endD (A := A) h2.2
      rw [glue_eq] at hp
      simp only [List.mem_cons, List.not_mem_nil, or_false] at hp
      rcases hp with rfl | rfl
      · exact (tied_link ht).trans e.1.symm
      · exact (tied_span h2.1).symm.trans ((tied_link ht).trans e.2.symm)
    · have h2 := h.lt2 (hB t ht)
      have e := tied_endD (A := A) h2.2
      rw [spans2_eq] at hp
      simp only [List.mem_cons, List.not_mem_nil, or_false] at hp
      rcases hp with rfl | rfl
      · exact tied_span h2.1
      · exact e.1.trans e.2.symm
    · rw [List.mem_singleton.1 hp]; exact tied_span (h.ltF hx)
  rw [key]
theorem Ok.tiedIn (h : Ok s) {A : List (Nat × Nat × Bool)} (hA : ∀ t ∈ A, t ∈ s.T) : In (2 * s.n) (s.tied A) := by
  intro p hp
  rcases List.mem_append.1 hp with hp | hp
  · rcases List.mem_append.1 hp with hp | hp
    · exact corners_in h.perm p hp
    · obtain ⟨x, hx, hp⟩ := List.mem_flatMap.1 hp
      have := List.mem_range.1 hx
      rw [List.mem_singleton.1 hp]
      exact ⟨by simp; omega, by simp; omega⟩
  · obtain ⟨t, ht, rfl⟩ := List.mem_map.1 hp
    have := h.lt2 (hA t ht)
    exact ⟨by simp; omega, by simp; omega⟩
/-- At the start: the polygons. -/
theorem Ok.start (h : Ok s) : num (2 * s.n) (mergeAll (s.part [] s.T)) = num (2 * s.n) (mergeAll (s.tied [])) := by
  refine num_ker (Cls.Ok.all (h.partIn (fun _ ht => by cases ht) (fun _ ht => ht))) (Cls.Ok.all (h.tiedIn (fun _ ht => by cases ht))) fun x _ y _ => ⟨fun e => ?_, fun e => ?_⟩
  · have := ker_le (F := mergeAll (s.tied [])) (l := s.part [] s.T) (fun p hp => by
      have := h.tied_part (A := []) (B := s.T) (fun _ ht => by cases ht) (fun _ ht => ht) (mergeAll (s.tied []) p.1) p hp
      simp only [beq_self_eq_true] at this
      exact (beq_iff_eq.1 this.symm).symm) e
    exact this
  · refine ker_le (F := mergeAll (s.part [] s.T)) (l := s.tied []) (fun p hp => ?_) e
    rcases List.mem_append.1 hp with hp | hp
    · rcases List.mem_append.1 hp with hp | hp
      · exact eq_of_mem (part_mem.2 (Or.inl hp))
      · obtain ⟨x, hx, hp⟩ := List.mem_flatMap.1 hp
        rw [List.mem_singleton.1 hp]
        rcases List.mem_append.1 (h.sides.mem_iff.2 hx) with hx | hx
        · unfold sidesOf at hx
          obtain ⟨t, ht, hx⟩ := List.mem_flatMap.1 hx
          simp only [List.mem_cons, List.not_mem_nil, or_false] at hx
          have hs : ∀ p ∈ spans2 t, mergeAll (s.part [] s.T) p.1 = mergeAll (s.part [] s.T) p.2 := fun p hp => eq_of_mem (part_mem.2 (Or.inr (Or.inr (Or.inl ⟨t, ht, hp⟩))))
          rcases hx with rfl | rfl
          · exact hs (2 * t.1, 2 * t.1 + 1) (by simp [spans2])
          · by_cases hf : t.2.2 = true
            · exact (hs (2 * t.2.1 + 1, 2 * t.2.1) (by simp [spans2, hf])).symm
            · exact hs (2 * t.2.1, 2 * t.2.1 + 1) (by simp [spans2, hf])
        · exact eq_of_mem (part_mem.2 (Or.inr (Or.inr (Or.inr ⟨x, hx, by simp [span]⟩))))
    · cases hp
theorem tied_snoc (A : List (Nat × Nat × Bool)) (t : Nat × Nat × Bool) : s.tied (A ++ [t]) = s.tied A ++ [(2 * t.1, 2 * t.2.1)] := by unfold tied; simp
/-- Circles, letters, polygons and parts. -/
theorem Ok.le (h : Ok s) : ∀ A B, s.T = A ++ B → num (2 * s.n) (mergeAll (s.part A B)) + num (2 * s.n) (mergeAll (s.part [] s.T)) ≤ 2 * num (2 * s.n) (mergeAll (s.tied A)) + A.length := by
  intro A
  refine snoc_ind (p := fun A => ∀ B, s.T = A ++ B → num (2 * s.n) (mergeAll (s.part A B)) + num (2 * s.n) (mergeAll (s.part [] s.T)) ≤ 2 * num (2 * s.n) (mergeAll (s.tied A)) + A.length) ?_ ?_ A
  · intro B hB
    rw [show s.part [] B = s.part [] s.T from by rw [hB]; rfl, h.start]
    simp; omega
  · intro A t ih B hT
    have hT' : s.T = A ++ t :: B := by rw [hT]; simp
    have ih := ih (t :: B) hT'
    have hA : ∀ u ∈ A, u ∈ s.T := fun u hu => by rw [hT']; simp [hu]
    have hA' : ∀ u ∈ A ++ [t], u ∈ s.T := fun u hu => by rw [hT]; exact List.mem_append.2 (Or.inl hu)
    have hB' : ∀ u ∈ t :: B, u ∈ s.T := fun u hu => by rw [hT']; exact List.mem_append.2 (Or.inr hu)
    have hB : ∀ u ∈ B, u ∈ s.T := fun u hu => hB' u (List.mem_cons_of_mem _ hu)
    have h2 := h.lt2 (hB' t (List.mem_cons_self ..))
    have q := h.quad hT'
    rw [part_spans A B t h hA hB'] at ih
    rw [part_glue A B t h hA' hB, tied_snoc, List.length_append, List.length_singleton]
    by_cases e : mergeAll (s.tied A) (2 * t.1) = mergeAll (s.tied A) (2 * t.2.1)
    · have h1 := q.le1
      rw [num_same (p := (2 * t.1, 2 * t.2.1)) e]
      omega
    · have hd := tied_endD (A := A) h2.2
      have e' : ¬ mergeAll (s.tied A) (2 * t.2.1) = mergeAll (s.tied A) (2 * t.1) := fun hh => e hh.symm
      have h1 := q.sep (h.tied_part hA hB (mergeAll (s.tied A) (2 * t.1))) (by simp) (by simp [← tied_span (A := A) h2.1]) (by simp [hd.1, e']) (by simp [hd.2, e'])
      have h3 := num_diff (p := (2 * t.1, 2 * t.2.1)) (h.tiedIn hA) (by show 2 * t.1 < 2 * s.n; omega) (by show 2 * t.2.1 < 2 * s.n; omega) e
      omega
end Scheme
end Cls

namespace Cls
theorem nodup_one {l : List Nat} {r : Nat} (hn : l.Nodup) (h : ∀ x ∈ l, x = r) : l.length ≤ 1 := by
  cases l with
  | nil => simp
  | cons x l =>
    cases l with
    | nil => simp
    | cons y l =>
      rw [List.nodup_cons] at hn
      have h1 := h x (by simp)
      have h2 := h y (by simp)
      exact absurd (show x ∈ y :: l by rw [h1, ← h2]; simp) hn.1
/-- One class is one class. -/
theorem numS_cls (c : Nat → Nat) (r N : Nat) : numS (fun v => c v == r) N c ≤ 1 := by
  unfold numS
  refine nodup_one (r := r) (List.nodup_range.filter _) fun x hx => ?_
  have := (List.mem_filter.1 hx).2
  simp only [Bool.and_eq_true, beq_iff_eq] at this
  omega
theorem le_sum {l : List Nat} {x : Nat} (h : x ∈ l) : x ≤ l.sum := by
  induction l with
  | nil => cases h
  | cons y l ih =>
    rw [List.sum_cons]
    rcases List.mem_cons.1 h with rfl | h
    · omega
    · have := ih h; omega
theorem bit_one (b : Bool) : bit b = 1 ↔ b = true := by cases b <;> simp [bit]
namespace Scheme
variable {s : Scheme}
/-- The polygons can be turned so that every letter is glued beginning to end. -/
def Turned (s : Scheme) : Prop := ∃ fl : Nat → Bool, (∀ i, i < s.n → fl (s.nx i) = fl i) ∧ ∀ t ∈ s.T, t.2.2 = (fl t.1 == fl t.2.1)
theorem sum_bits (f : Nat → Nat) (T : List (Nat × Nat × Bool)) : ((sidesOf T).map f).sum = (T.map fun t => f t.1 + f t.2.1).sum := sum_sides f T
theorem sum_eq {α : Type} {f g : α → Nat} {l : List α} (h : ∀ x ∈ l, f x = g x) : (l.map f).sum = (l.map g).sum := by rw [List.map_congr_left h]
/-- The ends of a side, by colour. -/
def nt (fl : Nat → Bool) (x : Nat) : Nat := if fl x then 2 * x else 2 * x + 1
def nf (fl : Nat → Bool) (x : Nat) : Nat := if fl x then 2 * x + 1 else 2 * x
theorem corners_col {nx : Nat → Nat} {n : Nat} (h : Perm nx n) {fl : Nat → Bool} (hf : ∀ i, i < n → fl (nx i) = fl i) {S : Nat → Bool} (hS : Closed S (corners nx n)) :
    ((List.range n).map fun i => bit (S (nt fl i))).sum = ((List.range n).map fun i => bit (S (nf fl i))).sum := by
  have hc : ∀ i ∈ List.range n, S (2 * i + 1) = S (2 * nx i) := fun i hi => hS (2 * i + 1, 2 * nx i) (List.mem_map.2 ⟨i, hi, rfl⟩)
  have e1 : ((List.range n).map fun i => if fl i then bit (S (nf fl i)) else 0).sum = ((List.range n).map fun i => if fl i then bit (S (nt fl i)) else 0).sum := by
    rw [← perm_sum h (fun i => if fl i then bit (S (nt fl i)) else 0)]
    refine sum_eq fun i hi => ?_
    rw [hf i (List.mem_range.1 hi)]
    by_cases e : fl i = true
    · have e' := hf i (List.mem_range.1 hi)
      rw [if_pos e, if_pos e]
      unfold nf nt
      rw [if_pos e, if_pos (by rw [e']; exact e), hc i hi]
    · rw [if_neg e, if_neg e]
  have e2 : ((List.range n).map fun i => if fl i then 0 else bit (S (nt fl i))).sum = ((List.range n).map fun i => if fl i then 0 else bit (S (nf fl i))).sum := by
    rw [← perm_sum h (fun i => if fl i then 0 else bit (S (nf fl i)))]
    refine sum_eq fun i hi => ?_
    rw [hf i (List.mem_range.1 hi)]
    by_cases e : fl i = true
    · rw [if_pos e, if_pos e]
    · have e' := hf i (List.mem_range.1 hi)
      rw [if_neg e, if_neg e]
      unfold nf nt
      rw [if_neg e, if_neg (by rw [e']; exact e), hc i hi]
  have e3 : ∀ g : Nat → Nat, ((List.range n).map g).sum = ((List.range n).map fun i => if fl i then g i else 0).sum + ((List.range n).map fun i => if fl i then 0 else g i).sum := fun g => by
    rw [← sum_two]
    exact sum_eq fun i _ => by by_cases e : fl i = true <;> simp [e]
  rw [e3 (fun i => bit (S (nt fl i))), e3 (fun i => bit (S (nf fl i))), e1, e2]
theorem Ok.odd (h : Ok s) (ht : Turned s) {A B : List (Nat × Nat × Bool)} {t : Nat × Nat × Bool} (hT : s.T = A ++ t :: B) :
    (num (2 * s.n) (mergeAll (s.part A B ++ [(2 * t.1, endD t), (2 * t.1 + 1, endE t)])) + num (2 * s.n) (mergeAll (s.part A B ++ [(2 * t.1, 2 * t.1 + 1), (endD t, endE t)]))) % 2 = 1 := by
  obtain ⟨fl, hfl, htt⟩ := ht
  have htT : t ∈ s.T := by rw [hT]; simp
  have hA : ∀ u ∈ A, u ∈ s.T := fun u hu => by rw [hT]; simp [hu]
  have hB : ∀ u ∈ B, u ∈ s.T := fun u hu => by rw [hT]; simp [hu]
  have q := h.quad hT
  refine q.odd (fun S hS => ?_) (fun hh => ?_)
  · have h1 := corners_col h.perm hfl (S := S) (hS.sub fun p hp => part_mem.2 (Or.inl hp))
    rw [← h.sum3 hT (fun i => bit (S (nt fl i))), ← h.sum3 hT (fun i => bit (S (nf fl i)))] at h1
    have hgl : ∀ u ∈ A, bit (S (nt fl u.1)) + bit (S (nt fl u.2.1)) = bit (S (nf fl u.1)) + bit (S (nf fl u.2.1)) := fun u hu => by
      have hg : ∀ p ∈ glue u, S p.1 = S p.2 := fun p hp => hS p (part_mem.2 (Or.inr (Or.inl ⟨u, hu, hp⟩)))
      have hu' := htt u (hA u hu)
      unfold glue at hg
      unfold nt nf
      cases e1 : fl u.1 <;> cases e2 : fl u.2.1 <;> rw [e1, e2] at hu' <;> simp [hu'] at hg <;> simp [hg] <;> omega
    have hsp : ∀ u ∈ B, bit (S (nt fl u.1)) + bit (S (nt fl u.2.1)) = bit (S (nf fl u.1)) + bit (S (nf fl u.2.1)) := fun u hu => by
      have hg : ∀ p ∈ spans2 u, S p.1 = S p.2 := fun p hp => hS p (part_mem.2 (Or.inr (Or.inr (Or.inl ⟨u, hu, hp⟩))))
      have e1 := hg (2 * u.1, 2 * u.1 + 1) (by simp [spans2])
      have e2 : S (2 * u.2.1) = S (2 * u.2.1 + 1) := by
        by_cases hf : u.2.2 = true
        · exact (hg (2 * u.2.1 + 1, 2 * u.2.1) (by simp [spans2, hf])).symm
        · exact hg (2 * u.2.1, 2 * u.2.1 + 1) (by simp [spans2, hf])
      simp only at e1
      unfold nt nf
      cases fl u.1 <;> cases fl u.2.1 <;> simp [e1, e2]
    have hfr : ∀ x ∈ s.Fr, bit (S (nt fl x)) = bit (S (nf fl x)) := fun x hx => by
      have e1 := hS (2 * x, 2 * x + 1) (part_mem.2 (Or.inr (Or.inr (Or.inr ⟨x, hx, by simp [span]⟩))))
      simp only at e1
      unfold nt nf
      cases fl x <;> simp [e1]
    rw [sum_bits, sum_bits, sum_bits, sum_bits, sum_eq hgl, sum_eq hsp, sum_eq hfr] at h1
    have hu' := htt t htT
    have h2 : bit (S (nt fl t.1)) + bit (S (nt fl t.2.1)) = bit (S (nf fl t.1)) + bit (S (nf fl t.2.1)) := by omega
    unfold nt nf at h2
    unfold endD endE
    cases e1 : fl t.1 <;> cases e2 : fl t.2.1 <;> rw [e1, e2] at hu' <;> simp [e1, e2] at h2 <;> simp [hu'] <;> omega
  · have hc := Closed.ofCls (s.part A B) (mergeAll (s.part A B) (2 * t.1))
    have h3 := endsIn_closed hc
    rw [part_ends _ h] at h3
    have h4 := h.sum3 hT (wt (fun v => mergeAll (s.part A B) v == mergeAll (s.part A B) (2 * t.1)))
    rw [← nodes_wt, wt_ends] at h4
    have h5 := nodes_le hc q.inN
    have h6 := numS_cls (mergeAll (s.part A B)) (mergeAll (s.part A B) (2 * t.1)) (2 * s.n)
    have h7 : wt (fun v => mergeAll (s.part A B) v == mergeAll (s.part A B) (2 * t.1)) t.1 = 2 := by
      unfold wt; simp [bit, ← hh.1]
    have h8 : bit (mergeAll (s.part A B) (endD t) == mergeAll (s.part A B) (2 * t.1)) = 1 := by rw [← hh.2.1]; simp [bit]
    have h9 : bit (mergeAll (s.part A B) (endE t) == mergeAll (s.part A B) (2 * t.1)) = 1 := by rw [← hh.2.2]; simp [bit]
    rw [h7, h8, h9] at h4
    omega
/-- Two-sided: circles, letters and polygons. -/
theorem Ok.even (h : Ok s) (ht : Turned s) : ∀ A B, s.T = A ++ B → (num (2 * s.n) (mergeAll (s.part A B)) + num (2 * s.n) (mergeAll (s.part [] s.T)) + A.length) % 2 = 0 := by
  intro A
  refine snoc_ind (p := fun A => ∀ B, s.T = A ++ B → (num (2 * s.n) (mergeAll (s.part A B)) + num (2 * s.n) (mergeAll (s.part [] s.T)) + A.length) % 2 = 0) ?_ ?_ A
  · intro B hB
    rw [show s.part [] B = s.part [] s.T from by rw [hB]; rfl]
    simp; omega
  · intro A t ih B hT
    have hT' : s.T = A ++ t :: B := by rw [hT]; simp
    have ih := ih (t :: B) hT'
    have hA : ∀ u ∈ A, u ∈ s.T := fun u hu => by rw [hT']; simp [hu]
    have hA' : ∀ u ∈ A ++ [t], u ∈ s.T := fun u hu => by rw [hT]; exact List.mem_append.2 (Or.inl hu)
    have hB' : ∀ u ∈ t :: B, u ∈ s.T := fun u hu => by rw [hT']; exact List.mem_append.2 (Or.inr hu)
    have hB : ∀ u ∈ B, u ∈ s.T := fun u hu => hB' u (List.mem_cons_of_mem _ hu)
    have q := h.odd ht hT'
    rw [part_spans A B t h hA hB'] at ih
    rw [part_glue A B t h hA' hB, List.length_append, List.length_singleton]
    omega

/-- All letters glued, the free sides left open. -/
def glued (s : Scheme) : List (Nat × Nat) := corners s.nx s.n ++ s.T.flatMap glue
def closed (s : Scheme) : List (Nat × Nat) := s.glued ++ s.Fr.flatMap span
theorem closed_part : s.closed = s.part s.T [] := by unfold closed glued part; simp
/-- How many circles the boundary has. -/
def circles (s : Scheme) : Nat := (found (mergeAll s.closed) (s.Fr.map fun x => 2 * x)).length
theorem Ok.gluedIn (h : Ok s) : In (2 * s.n) s.glued := (h.partIn (A := s.T) (B := []) (fun _ ht => ht) (fun _ ht => by cases ht)).sub fun p hp => by
  rw [← closed_part]; exact List.mem_append.2 (Or.inl hp)
theorem Ok.closedIn (h : Ok s) : In (2 * s.n) s.closed := by rw [closed_part]; exact h.partIn (fun _ ht => ht) (fun _ ht => by cases ht)
theorem numS_split (S : Nat → Bool) (N : Nat) (c : Nat → Nat) : num N c = numS S N c + numS (fun v => !S v) N c := by
  unfold num tally numS
  generalize List.range N = l
  induction l with
  | nil => rfl
  | cons x l ih =>
    simp only [List.filter_cons]
    cases S x <;> cases (c x == x) <;> simp [ih] <;> omega
/-- Pairs outside S leave its classes alone. -/
theorem numS_more {S : Nat → Bool} {N : Nat} {es : List (Nat × Nat)} (fs : List (Nat × Nat)) : Closed S (es ++ fs) → In N (es ++ fs) → (∀ p ∈ fs, S p.1 = false) → numS S N (mergeAll (es ++ fs)) = numS S N (mergeAll es) := by
  refine snoc_ind (p := fun fs => Closed S (es ++ fs) → In N (es ++ fs) → (∀ p ∈ fs, S p.1 = false) → numS S N (mergeAll (es ++ fs)) = numS S N (mergeAll es)) ?_ ?_ fs
  · intro _ _ _; rw [List.append_nil]
  · intro fs p ih hS hN hf
    have hs : ∀ q ∈ es ++ fs, q ∈ es ++ (fs ++ [p]) := fun q hq => by rw [← List.append_assoc]; exact List.mem_append.2 (Or.inl hq)
    have hp := hN p (by simp)
    rw [← List.append_assoc, mergeAll_snoc, numS_out (Ok.all (hN.sub hs)) hp.1 hp.2 (by rw [(hS.sub hs).lab (hN.sub hs) hp.1]; exact hf p (by simp))]
    exact ih (hS.sub hs) (hN.sub hs) (fun q hq => hf q (by simp [hq]))
theorem sum_count (c : Nat → Nat) (W : List Nat) : ∀ R : List Nat, R.Nodup → (R.map fun r => W.countP fun w => c w == r).sum = W.countP fun w => decide (c w ∈ R) := by
  intro R
  induction R with
  | nil => intro _; simp
  | cons r R ih =>
    intro hn
    rw [List.nodup_cons] at hn
    rw [List.map_cons, List.sum_cons, ih hn.2]
    clear ih
    induction W with
    | nil => rfl
    | cons w W ih =>
      rw [List.countP_cons, List.countP_cons, List.countP_cons]
      by_cases e : c w = r
      · have : ¬ c w ∈ R := by rw [e]; exact hn.1
        simp [e, hn.1] ; simp [List.mem_cons] at ih; omega
      · simp only [beq_iff_eq, e, if_false, List.mem_cons, false_or, decide_eq_true_eq]
        simp only [List.mem_cons] at ih
        omega
theorem sum_all2 {l : List Nat} {f : Nat → Nat} (h : ∀ x ∈ l, f x = 2) : (l.map f).sum = 2 * l.length := by
  induction l with
  | nil => rfl
  | cons x l ih => rw [List.map_cons, List.sum_cons, ih (fun y hy => h y (List.mem_cons_of_mem _ hy)), h x (List.mem_cons_self ..), List.length_cons]; omega
/-- Both ends of sides. -/
def both (l : List Nat) : List Nat := l.flatMap fun x => [2 * x, 2 * x + 1]
theorem both_len (l : List Nat) : (both l).length = 2 * l.length := by
  induction l with
  | nil => rfl
  | cons x l ih => show ([2 * x, 2 * x + 1] ++ both l).length = _; rw [List.length_append, ih, List.length_cons]; simp; omega
theorem both_count (S : Nat → Bool) (l : List Nat) : (both l).countP S = (l.map (wt S)).sum := by
  induction l with
  | nil => rfl
  | cons x l ih =>
    show ([2 * x, 2 * x + 1] ++ both l).countP S = _
    rw [List.countP_append, ih, List.map_cons, List.sum_cons]
    unfold wt bit
    simp only [List.countP_cons, List.countP_nil]
    omega
/-- Vertices, circles and free sides: each path of corners has two ends. -/
theorem Ok.circles (h : Ok s) : num (2 * s.n) (mergeAll s.glued) + s.circles = num (2 * s.n) (mergeAll s.closed) + s.Fr.length := by
  let S : Nat → Bool := fun v => s.Fr.any fun f => mergeAll s.closed (2 * f) == mergeAll s.closed v
  have hSc : Closed S s.closed := fun p hp => by
    show (s.Fr.any fun f => mergeAll s.closed (2 * f) == mergeAll s.closed p.1) = (s.Fr.any fun f => mergeAll s.closed (2 * f) == mergeAll s.closed p.2)
    rw [eq_of_mem (a := p.1) (b := p.2) hp]
  have hgc : ∀ p ∈ s.glued, p ∈ s.closed := fun p hp => List.mem_append.2 (Or.inl hp)
  have hSg : Closed S s.glued := hSc.sub hgc
  have hN : Closed (fun v => !S v) s.closed := fun p hp => by show (!S p.1) = (!S p.2); rw [hSc p hp]
  rw [numS_split S, numS_split S (2 * s.n) (mergeAll s.closed)]
  have h1 : numS (fun v => !S v) (2 * s.n) (mergeAll s.closed) = numS (fun v => !S v) (2 * s.n) (mergeAll s.glued) :=
    numS_more (s.Fr.flatMap span) hN h.closedIn (fun p hp => by
      obtain ⟨x, hx, hp⟩ := List.mem_flatMap.1 hp
      rw [List.mem_singleton.1 hp]
      show (!(s.Fr.any fun f => mergeAll s.closed (2 * f) == mergeAll s.closed (2 * x))) = false
      rw [Bool.not_eq_false']
      exact List.any_eq_true.2 ⟨x, hx, by simp⟩)
  have h2 : numS S (2 * s.n) (mergeAll s.closed) = s.circles := by
    unfold numS Scheme.circles
    refine List.Perm.length_eq ((List.perm_ext_iff_of_nodup (List.nodup_range.filter _) (found_nodup _ _)).2 fun x => ?_)
    rw [found_mem, List.mem_filter, List.mem_range, Bool.and_eq_true, beq_iff_eq]
    constructor
    · rintro ⟨_, hx, hx2⟩
      obtain ⟨f, hf, e⟩ := List.any_eq_true.1 hx
      exact ⟨2 * f, List.mem_map.2 ⟨f, hf, rfl⟩, (beq_iff_eq.1 e).trans hx2⟩
    · rintro ⟨m, hm, rfl⟩
      obtain ⟨f, hf, rfl⟩ := List.mem_map.1 hm
      have hlt : 2 * f < 2 * s.n := by have := h.ltF hf; omega
      have hid := (Cls.Ok.all h.closedIn).idem _ hlt
      exact ⟨(Cls.Ok.all h.closedIn).lt _ hlt, List.any_eq_true.2 ⟨f, hf, by rw [beq_iff_eq]; exact hid.symm⟩, hid⟩
  have h3 : 2 * numS S (2 * s.n) (mergeAll s.glued) = 2 * s.Fr.length := by
    have hgo := Cls.Ok.all h.gluedIn
    have hR := sum_count (mergeAll s.glued) (both s.Fr) ((List.range (2 * s.n)).filter fun v => S v && mergeAll s.glued v == v) (List.nodup_range.filter _)
    rw [sum_all2 (fun r hr => ?_)] at hR
    · show 2 * ((List.range (2 * s.n)).filter fun v => S v && mergeAll s.glued v == v).length = _
      rw [hR, ← both_len, List.countP_eq_length]
      intro x hx
      unfold both at hx
      obtain ⟨f, hf, hx⟩ := List.mem_flatMap.1 hx
      have hSf : S x = true := by
        have : mergeAll s.closed (2 * f) = mergeAll s.closed (2 * f + 1) := eq_of_mem (List.mem_append.2 (Or.inr (List.mem_flatMap.2 ⟨f, hf, by simp [span]⟩)))
        simp only [List.mem_cons, List.not_mem_nil, or_false] at hx
        rcases hx with rfl | rfl
        · exact List.any_eq_true.2 ⟨f, hf, by simp⟩
        · exact List.any_eq_true.2 ⟨f, hf, by simp [this]⟩
      have hlt : x < 2 * s.n := by
        have := h.ltF hf
        simp only [List.mem_cons, List.not_mem_nil, or_false] at hx
        omega
      rw [decide_eq_true_eq, List.mem_filter, List.mem_range, Bool.and_eq_true, beq_iff_eq]
      exact ⟨hgo.lt _ hlt, by rw [hSg.lab h.gluedIn hlt]; exact hSf, hgo.idem _ hlt⟩
    · obtain ⟨hr1, hr2⟩ := List.mem_filter.1 hr
      have hr1 := List.mem_range.1 hr1
      rw [Bool.and_eq_true, beq_iff_eq] at hr2
      show (both s.Fr).countP (fun w => mergeAll s.glued w == r) = 2
      rw [both_count]
      have hc := Closed.ofCls s.glued r
      have e1 := endsIn_closed hc
      unfold glued at e1
      rw [endsIn_append, corners_ends h.perm, flat_ends] at e1
      simp only [glue_ends] at e1
      rw [← sum_sides] at e1
      have e2 := h.sum (wt (fun v => mergeAll (corners s.nx s.n ++ s.T.flatMap glue) v == r))
      rw [← nodes_wt] at e2
      have e3 := nodes_le hc h.gluedIn
      have e4 := numS_cls (mergeAll s.glued) r (2 * s.n)
      unfold glued at e3 e4 ⊢
      have e5 : (s.Fr.map (wt (fun v => mergeAll (corners s.nx s.n ++ s.T.flatMap glue) v == r))).sum ≠ 0 := by
        intro h0
        have hz : ∀ f ∈ s.Fr, wt (fun v => mergeAll s.glued v == r) f = 0 := fun f hf => by
          rcases Nat.eq_zero_or_pos (wt (fun v => mergeAll s.glued v == r) f) with hw | hw
          · exact hw
          · have hm : wt (fun v => mergeAll s.glued v == r) f ∈ s.Fr.map (wt (fun v => mergeAll s.glued v == r)) := List.mem_map.2 ⟨f, hf, rfl⟩
            have := le_sum hm
            unfold glued at this hw ⊢
            omega
        have hcl : Closed (fun v => mergeAll s.glued v == r) s.closed := fun p hp => by
          rcases List.mem_append.1 hp with hp | hp
          · exact hc p hp
          · obtain ⟨x, hx, hp⟩ := List.mem_flatMap.1 hp
            rw [List.mem_singleton.1 hp]
            have hw := hz x hx
            unfold wt bit at hw
            show (mergeAll s.glued (2 * x) == r) = (mergeAll s.glued (2 * x + 1) == r)
            cases h1 : (mergeAll s.glued (2 * x) == r) <;> cases h2 : (mergeAll s.glued (2 * x + 1) == r) <;> simp [h1, h2] at hw <;> rfl
        obtain ⟨f, hf, e⟩ := List.any_eq_true.1 hr2.1
        have hfr := ker_le (F := fun v => mergeAll s.glued v == r) hcl (beq_iff_eq.1 e)
        have hw := hz f hf
        simp only [hr2.2, beq_self_eq_true] at hfr
        unfold wt bit at hw
        simp [hfr] at hw
      omega
  omega
/-- Euler's number is at most twice the parts less the circles. -/
theorem Ok.bound (h : Ok s) : num (2 * s.n) (mergeAll s.glued) + num (2 * s.n) (mergeAll (s.tied [])) + s.circles ≤ 2 * num (2 * s.n) (mergeAll (s.tied s.T)) + s.T.length + s.Fr.length := by
  have h1 := h.le s.T [] (by simp)
  have h2 := h.circles
  rw [← closed_part, h.start] at h1
  omega
theorem Ok.parity (h : Ok s) (ht : Turned s) : (num (2 * s.n) (mergeAll s.glued) + num (2 * s.n) (mergeAll (s.tied [])) + s.circles + s.T.length + s.Fr.length) % 2 = 0 := by
  have h1 := h.even ht s.T [] (by simp)
  have h2 := h.circles
  rw [← closed_part, h.start] at h1
  omega
end Scheme
end Cls
end Go.Proofs.Ytodgongemoabiaa
