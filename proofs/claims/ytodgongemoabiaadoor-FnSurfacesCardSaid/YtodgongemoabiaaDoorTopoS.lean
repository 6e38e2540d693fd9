/-
  The topology of gluings: circles of a scheme of sides, its letters, polygons and parts; that Euler's number is at most twice the parts less the circles, and even with them where it is two-sided. A gluing as a scheme of sides: its Euler number, circles, parts and sides agree. Gluings: Euler's number, circles, parts and sides in numbers; the surface of a gluing is one; standard gluings have the surface that was asked for.
-/
import Derived.Test.YtodgongemoabiaaDoorBase
import Derived.Test.YtodgongemoabiaaDoorClass
import Derived.Test.YtodgongemoabiaaDoorTri
import Derived.Test.YtodgongemoabiaaDoorWord
import Derived.Test.YtodgongemoabiaaDoorGrid
import Derived.Test.YtodgongemoabiaaDoorGlue
import Derived.Test.YtodgongemoabiaaDoorEnds
import Derived.Test.YtodgongemoabiaaDoorVert
import Derived.Test.YtodgongemoabiaaDoorParts
import Derived.Test.YtodgongemoabiaaDoorBorders
import Derived.Test.YtodgongemoabiaaDoorTwo
import Derived.Test.YtodgongemoabiaaDoorSurf
import Derived.Test.YtodgongemoabiaaDoorSurfOf
import Derived.Test.YtodgongemoabiaaDoorStd
namespace Go.Proofs.YtodgongemoabiaaDoor

namespace Cls
theorem filter_less {l : List Nat} {P : Nat → Bool} {r : Nat} (hn : l.Nodup) (hr : r ∈ l) (hp : P r = true) : (l.filter fun v => P v && v != r).length + 1 = (l.filter P).length := by
  induction l with
  | nil => cases hr
  | cons x l ih =>
    rw [List.nodup_cons] at hn
    rw [List.filter_cons, List.filter_cons]
    by_cases e : x = r
    · subst e
      have : (l.filter fun v => P v && v != x) = l.filter P := List.filter_congr fun v hv => by
        have : v ≠ x := fun h => hn.1 (h ▸ hv)
        simp [this]
      simp [hp, this]
    · have hr' : r ∈ l := (List.mem_cons.1 hr).resolve_left (fun h => e h.symm)
      have := ih hn.2 hr'
      by_cases hx : P x = true
      · simp [hx, e, ← this]
      · simp [hx, this]
/-- How many classes of S there are, below N. -/
def numS (S : Nat → Bool) (N : Nat) (c : Nat → Nat) : Nat := ((List.range N).filter fun v => S v && c v == v).length
def num (N : Nat) (c : Nat → Nat) : Nat := tally c (List.range N)
theorem num_numS (N : Nat) (c : Nat → Nat) : num N c = numS (fun _ => true) N c := by simp [num, numS, tally]
theorem numS_same {S : Nat → Bool} {N : Nat} {c : Nat → Nat} {p : Nat × Nat} (h : c p.1 = c p.2) : numS S N (merge c p) = numS S N c := by
  have : merge c p = c := funext fun k => by unfold merge; split <;> simp_all
  rw [this]
theorem numS_out {S : Nat → Bool} {N : Nat} {c : Nat → Nat} (hc : Ok c N) {p : Nat × Nat} (h1 : p.1 < N) (h2 : p.2 < N) (hs : S (c p.1) = false) : numS S N (merge c p) = numS S N c := by
  unfold numS
  refine congrArg List.length (List.filter_congr fun v hv => ?_)
  have hv := List.mem_range.1 hv
  unfold merge
  by_cases hS : S v = true
  · rw [hS, Bool.true_and, Bool.true_and]
    by_cases e : c v = c p.1
    · have : c v ≠ v := fun h => by rw [← e, h, hS] at hs; cases hs
      rw [if_pos e]
      have h3 : c p.2 ≠ v := by
        intro h
        have := hc.idem _ h2
        rw [h] at this
        exact absurd this (by assumption)
      rw [beq_eq_false_iff_ne.2 this, beq_eq_false_iff_ne.2 h3]
    · rw [if_neg e]
  · simp [hS]
theorem numS_diff {S : Nat → Bool} {N : Nat} {c : Nat → Nat} (hc : Ok c N) {p : Nat × Nat} (h1 : p.1 < N) (h2 : p.2 < N) (h : c p.1 ≠ c p.2) (hs : S (c p.1) = true) : numS S N (merge c p) + 1 = numS S N c := by
  unfold numS
  rw [← filter_less (P := fun v => S v && c v == v) List.nodup_range (List.mem_range.2 (hc.lt _ h1)) (by simp [hs, hc.idem _ h1])]
  congr 1
  refine congrArg List.length (List.filter_congr fun v hv => ?_)
  have hv := List.mem_range.1 hv
  have ia := hc.idem _ h1
  have ib := hc.idem _ h2
  unfold merge
  by_cases e : c v = c p.1
  · rw [if_pos e]
    by_cases e2 : c v = v
    · have hv' : v = c p.1 := by rw [← e2]; exact e
      have : c p.2 ≠ v := fun hh => h (by rw [← hv', hh])
      rw [hv'] at this ⊢
      simp [this]
    · have : c p.2 ≠ v := fun hh => by rw [hh] at ib; exact e2 ib
      rw [beq_eq_false_iff_ne.2 this, beq_eq_false_iff_ne.2 e2]; simp
  · rw [if_neg e]
    have : v ≠ c p.1 ∨ c v ≠ v := by
      by_cases e3 : v = c p.1
      · right; intro h4; rw [e3] at h4; exact e (by rw [e3]; exact h4)
      · exact Or.inl e3
    rcases this with h5 | h5
    · simp [h5]
    · simp [h5]
theorem numS_le {S : Nat → Bool} {N : Nat} {c : Nat → Nat} (hc : Ok c N) {p : Nat × Nat} (h1 : p.1 < N) (h2 : p.2 < N) : numS S N (merge c p) ≤ numS S N c ∧ numS S N c ≤ numS S N (merge c p) + 1 := by
  by_cases h : c p.1 = c p.2
  · rw [numS_same h]; omega
  · by_cases hs : S (c p.1) = true
    · have := numS_diff hc h1 h2 h hs; omega
    · rw [numS_out hc h1 h2 (by simpa using hs)]; omega

abbrev In (N : Nat) (es : List (Nat × Nat)) : Prop := ∀ p ∈ es, p.1 < N ∧ p.2 < N
abbrev Closed (S : Nat → Bool) (es : List (Nat × Nat)) : Prop := ∀ p ∈ es, S p.1 = S p.2
theorem Closed.lab {S : Nat → Bool} {es : List (Nat × Nat)} {N : Nat} (h : Closed S es) (hN : In N es) {v : Nat} (hv : v < N) : S (mergeAll es v) = S v :=
  ker_le h ((Ok.all hN).idem _ hv)
theorem Closed.ofCls (es : List (Nat × Nat)) (r : Nat) : Closed (fun v => mergeAll es v == r) es := fun p hp => by show (mergeAll es p.1 == r) = (mergeAll es p.2 == r); rw [eq_of_mem (a := p.1) (b := p.2) hp]
theorem Closed.sub {S : Nat → Bool} {es fs : List (Nat × Nat)} (h : Closed S es) (hs : ∀ p ∈ fs, p ∈ es) : Closed S fs := fun p hp => h p (hs p hp)
theorem In.sub {N : Nat} {es fs : List (Nat × Nat)} (h : In N es) (hs : ∀ p ∈ fs, p ∈ es) : In N fs := fun p hp => h p (hs p hp)
/-- How many of the pairs lie in S. -/
def inE (S : Nat → Bool) (es : List (Nat × Nat)) : Nat := es.countP fun p => S p.1
def nodes (S : Nat → Bool) (N : Nat) : Nat := (List.range N).countP S
/-- A set of classes has no more members than classes and pairs. -/
theorem nodes_le {S : Nat → Bool} {N : Nat} {es : List (Nat × Nat)} (hc : Closed S es) (hN : In N es) : nodes S N ≤ numS S N (mergeAll es) + inE S es := by
  refine snoc_ind (p := fun es => Closed S es → In N es → nodes S N ≤ numS S N (mergeAll es) + inE S es) ?_ ?_ es hc hN
  · intro _ _
    unfold nodes numS inE
    rw [List.countP_eq_length_filter]
    simp [mergeAll]
  · intro es p ih hc hN
    have hc' : Closed S es := hc.sub fun p hp => List.mem_append.2 (Or.inl hp)
    have hN' : In N es := hN.sub fun p hp => List.mem_append.2 (Or.inl hp)
    have hp := hN p (List.mem_append.2 (Or.inr (List.mem_singleton.2 rfl)))
    have ih := ih hc' hN'
    rw [mergeAll_snoc]
    have hi : inE S (es ++ [p]) = inE S es + if S p.1 = true then 1 else 0 := by
      unfold inE; rw [List.countP_append, List.countP_singleton]
    rw [hi]
    by_cases hs : S p.1 = true
    · rw [if_pos hs]
      have := (numS_le (S := S) (Ok.all hN') hp.1 hp.2).2
      omega
    · rw [if_neg hs, numS_out (Ok.all hN') hp.1 hp.2 (by rw [hc'.lab hN' hp.1]; simpa using hs)]
      exact ih
/-- Pairs in another order have the same classes. -/
theorem ker_sub {es fs : List (Nat × Nat)} (h : ∀ p ∈ es, p ∈ fs) {x y : Nat} (e : mergeAll es x = mergeAll es y) : mergeAll fs x = mergeAll fs y :=
  ker_le (F := mergeAll fs) (fun p hp => eq_of_mem (h p hp)) e
theorem num_found {N : Nat} {c : Nat → Nat} (h : Ok c N) : num N c = (found c (List.range N)).length := tally_range h
theorem num_ker {N : Nat} {c d : Nat → Nat} (hc : Ok c N) (hd : Ok d N) (h : ∀ x, x < N → ∀ y, y < N → (c x = c y ↔ d x = d y)) : num N c = num N d := by
  rw [num_found hc, num_found hd]
  exact found_ker fun i hi j hj => h i (List.mem_range.1 hi) j (List.mem_range.1 hj)
theorem num_mem {N : Nat} {es fs : List (Nat × Nat)} (hN : In N es) (h : ∀ p, p ∈ es ↔ p ∈ fs) : num N (mergeAll es) = num N (mergeAll fs) :=
  num_ker (Ok.all hN) (Ok.all (hN.sub fun p hp => (h p).2 hp)) fun x _ y _ => ⟨ker_sub fun p hp => (h p).1 hp, ker_sub fun p hp => (h p).2 hp⟩
theorem num_same {N : Nat} {es : List (Nat × Nat)} {p : Nat × Nat} (h : mergeAll es p.1 = mergeAll es p.2) : num N (mergeAll (es ++ [p])) = num N (mergeAll es) := by
  rw [mergeAll_snoc, num_numS, num_numS, numS_same h]
theorem num_diff {N : Nat} {es : List (Nat × Nat)} {p : Nat × Nat} (hN : In N es) (h1 : p.1 < N) (h2 : p.2 < N) (h : mergeAll es p.1 ≠ mergeAll es p.2) : num N (mergeAll (es ++ [p])) + 1 = num N (mergeAll es) := by
  rw [mergeAll_snoc, num_numS, num_numS, numS_diff (Ok.all hN) h1 h2 h rfl]
theorem snoc_eq {es : List (Nat × Nat)} {p : Nat × Nat} {x y : Nat} : mergeAll (es ++ [p]) x = mergeAll (es ++ [p]) y ↔ (mergeAll es x = mergeAll es y ∨ (mergeAll es x = mergeAll es p.1 ∧ mergeAll es y = mergeAll es p.2) ∨ (mergeAll es x = mergeAll es p.2 ∧ mergeAll es y = mergeAll es p.1)) := by
  rw [mergeAll_snoc]; unfold merge
  generalize mergeAll es = c
  by_cases h1 : c x = c p.1
  · by_cases h2 : c y = c p.1
    · rw [if_pos h1, if_pos h2]
      exact ⟨fun _ => Or.inl (h1.trans h2.symm), fun _ => rfl⟩
    · rw [if_pos h1, if_neg h2]
      constructor
      · intro h; exact Or.inr (Or.inl ⟨h1, h.symm⟩)
      · rintro (h | ⟨_, h⟩ | ⟨_, h⟩)
        · exact absurd (h.symm.trans h1) h2
        · exact h.symm
        · exact absurd h h2
  · by_cases h2 : c y = c p.1
    · rw [if_neg h1, if_pos h2]
      constructor
      · intro h; exact Or.inr (Or.inr ⟨h, h2⟩)
      · rintro (h | ⟨h, _⟩ | ⟨h, _⟩)
        · exact absurd (h.trans h2) h1
        · exact absurd h h1
        · exact h
    · rw [if_neg h1, if_neg h2]
      constructor
      · intro h; exact Or.inl h
      · rintro (h | ⟨h, _⟩ | ⟨_, h⟩)
        · exact h
        · exact absurd h h1
        · exact absurd h h2
end Cls

namespace Cls
def bit (b : Bool) : Nat := if b then 1 else 0
theorem bit_le (b : Bool) : bit b ≤ 1 := by cases b <;> simp [bit]
theorem pattern {A B D E : Nat} (par : ∀ r, (bit (A == r) + bit (B == r) + bit (D == r) + bit (E == r)) % 2 = 0) :
    (A = B ∧ D = E ∧ A ≠ D) ∨ (A = D ∧ B = E ∧ A ≠ B) ∨ (A = E ∧ B = D ∧ A ≠ B) ∨ (A = B ∧ A = D ∧ A = E) := by
  have h1 := par A
  have h2 := par B
  have h3 := par D
  unfold bit at h1 h2 h3
  simp only [beq_iff_eq] at h1 h2 h3
  by_cases ab : A = B
  · by_cases ad : A = D
    · by_cases ae : A = E
      · omega
      · subst ab; subst ad
        have ea : ¬ E = A := fun h => ae h.symm
        simp [ea] at h1
    · left
      subst ab
      refine ⟨rfl, ?_, ad⟩
      by_cases de : D = E
      · exact de
      · have h4 : ¬ E = D := fun h => de h.symm
        simp [ad, h4] at h3
  · have ba : ¬ B = A := fun h => ab h.symm
    by_cases ad : A = D
    · subst ad
      right; left
      refine ⟨rfl, ?_, ab⟩
      by_cases be : B = E
      · exact be
      · have eb : ¬ E = B := fun h => be h.symm
        simp [ab, eb] at h2
    · have da : ¬ D = A := fun h => ad h.symm
      by_cases ae : A = E
      · subst ae
        right; right; left
        refine ⟨rfl, ?_, ab⟩
        by_cases bd : B = D
        · exact bd
        · have db : ¬ D = B := fun h => bd h.symm
          simp [ab, db] at h2
      · have ea : ¬ E = A := fun h => ae h.symm
        simp [ba, da, ea] at h1
/-- Four ends of paths, each class holding an even number of them. -/
structure Quad (N : Nat) (Q : List (Nat × Nat)) (a b d e : Nat) : Prop where
  inN : In N Q
  la : a < N
  lb : b < N
  ld : d < N
  le : e < N
  par : ∀ S : Nat → Bool, Closed S Q → (bit (S a) + bit (S b) + bit (S d) + bit (S e)) % 2 = 0
theorem two (Q : List (Nat × Nat)) (p q : Nat × Nat) : Q ++ [p, q] = Q ++ [p] ++ [q] := by simp
theorem In.snoc {N : Nat} {Q : List (Nat × Nat)} {p : Nat × Nat} (h : In N Q) (h1 : p.1 < N) (h2 : p.2 < N) : In N (Q ++ [p]) := fun q hq => by
  rcases List.mem_append.1 hq with hq | hq
  · exact h q hq
  · rw [List.mem_singleton.1 hq]; exact ⟨h1, h2⟩
theorem num2_ss {N : Nat} {Q : List (Nat × Nat)} {p q : Nat × Nat} (h1 : mergeAll Q p.1 = mergeAll Q p.2) (h2 : mergeAll Q q.1 = mergeAll Q q.2) : num N (mergeAll (Q ++ [p, q])) = num N (mergeAll Q) := by
  rw [two, num_same (snoc_eq.2 (Or.inl h2)), num_same h1]
theorem num2_ds {N : Nat} {Q : List (Nat × Nat)} {p q : Nat × Nat} (hN : In N Q) (hp1 : p.1 < N) (hp2 : p.2 < N) (h1 : mergeAll Q p.1 ≠ mergeAll Q p.2) (h2 : mergeAll (Q ++ [p]) q.1 = mergeAll (Q ++ [p]) q.2) : num N (mergeAll (Q ++ [p, q])) + 1 = num N (mergeAll Q) := by
  rw [two, num_same h2, num_diff hN hp1 hp2 h1]
/-- What becomes of the classes' number when two spans are replaced by two other pairs. -/
theorem Quad.cases {N : Nat} {Q : List (Nat × Nat)} {a b d e : Nat} (h : Quad N Q a b d e) :
    (mergeAll Q a = mergeAll Q b ∧ mergeAll Q d = mergeAll Q e ∧ mergeAll Q a ≠ mergeAll Q d ∧ num N (mergeAll (Q ++ [(a, d), (b, e)])) + 1 = num N (mergeAll (Q ++ [(a, b), (d, e)]))) ∨
    (mergeAll Q a = mergeAll Q d ∧ mergeAll Q b = mergeAll Q e ∧ mergeAll Q a ≠ mergeAll Q b ∧ num N (mergeAll (Q ++ [(a, d), (b, e)])) = num N (mergeAll (Q ++ [(a, b), (d, e)])) + 1) ∨
    (mergeAll Q a = mergeAll Q e ∧ mergeAll Q b = mergeAll Q d ∧ mergeAll Q a ≠ mergeAll Q b ∧ num N (mergeAll (Q ++ [(a, d), (b, e)])) = num N (mergeAll (Q ++ [(a, b), (d, e)]))) ∨
    (mergeAll Q a = mergeAll Q b ∧ mergeAll Q a = mergeAll Q d ∧ mergeAll Q a = mergeAll Q e ∧ num N (mergeAll (Q ++ [(a, d), (b, e)])) = num N (mergeAll (Q ++ [(a, b), (d, e)]))) := by
  have hp := pattern (A := mergeAll Q a) (B := mergeAll Q b) (D := mergeAll Q d) (E := mergeAll Q e) (fun r => h.par _ (Closed.ofCls Q r))
  rcases hp with ⟨h1, h2, h3⟩ | ⟨h1, h2, h3⟩ | ⟨h1, h2, h3⟩ | ⟨h1, h2, h3⟩
  · refine Or.inl ⟨h1, h2, h3, ?_⟩
    rw [num2_ss (p := (a, b)) (q := (d, e)) h1 h2, num2_ds (p := (a, d)) (q := (b, e)) h.inN h.la h.ld h3 (snoc_eq.2 (Or.inr (Or.inl ⟨h1.symm, h2.symm⟩)))]
  · refine Or.inr (Or.inl ⟨h1, h2, h3, ?_⟩)
    rw [num2_ss (p := (a, d)) (q := (b, e)) h1 h2, num2_ds (p := (a, b)) (q := (d, e)) h.inN h.la h.lb h3 (snoc_eq.2 (Or.inr (Or.inl ⟨h1.symm, h2.symm⟩)))]
  · refine Or.inr (Or.inr (Or.inl ⟨h1, h2, h3, ?_⟩))
    have e1 := num2_ds (p := (a, b)) (q := (d, e)) h.inN h.la h.lb h3 (snoc_eq.2 (Or.inr (Or.inr ⟨h2.symm, h1.symm⟩)))
    have e2 := num2_ds (p := (a, d)) (q := (b, e)) h.inN h.la h.ld (fun hh => h3 (hh.trans h2.symm)) (snoc_eq.2 (Or.inr (Or.inr ⟨h2, h1.symm⟩)))
    omega
  · refine Or.inr (Or.inr (Or.inr ⟨h1, h2, h3, ?_⟩))
    rw [num2_ss (p := (a, b)) (q := (d, e)) h1 (h2.symm.trans h3), num2_ss (p := (a, d)) (q := (b, e)) h2 (h1.symm.trans h3)]
theorem Quad.le1 {N : Nat} {Q : List (Nat × Nat)} {a b d e : Nat} (h : Quad N Q a b d e) : num N (mergeAll (Q ++ [(a, d), (b, e)])) ≤ num N (mergeAll (Q ++ [(a, b), (d, e)])) + 1 := by
  rcases h.cases with ⟨_, _, _, h⟩ | ⟨_, _, _, h⟩ | ⟨_, _, _, h⟩ | ⟨_, _, _, h⟩ <;> omega
theorem Quad.sep {N : Nat} {Q : List (Nat × Nat)} {a b d e : Nat} (h : Quad N Q a b d e) {S : Nat → Bool} (hS : Closed S Q) (ha : S a = true) (hb : S b = true) (hd : S d = false) (he : S e = false) :
    num N (mergeAll (Q ++ [(a, d), (b, e)])) + 1 = num N (mergeAll (Q ++ [(a, b), (d, e)])) := by
  have k : ∀ {x y}, mergeAll Q x = mergeAll Q y → S x = S y := fun hh => ker_le hS hh
  rcases h.cases with ⟨_, _, _, h⟩ | ⟨h1, _, _, _⟩ | ⟨h1, _, _, _⟩ | ⟨_, h1, _, _⟩
  · exact h
  · have := k h1; rw [ha, hd] at this; cases this
  · have := k h1; rw [ha, he] at this; cases this
  · have := k h1; rw [ha, hd] at this; cases this
/-- Where beginnings and ends are as many in each class (a, e: beginnings; b, d: ends), and no class holds all four. -/
theorem Quad.odd {N : Nat} {Q : List (Nat × Nat)} {a b d e : Nat} (h : Quad N Q a b d e) (ho : ∀ S : Nat → Bool, Closed S Q → bit (S a) + bit (S e) = bit (S b) + bit (S d))
    (h4 : ¬ (mergeAll Q a = mergeAll Q b ∧ mergeAll Q a = mergeAll Q d ∧ mergeAll Q a = mergeAll Q e)) : (num N (mergeAll (Q ++ [(a, d), (b, e)])) + num N (mergeAll (Q ++ [(a, b), (d, e)]))) % 2 = 1 := by
  rcases h.cases with ⟨_, _, _, h⟩ | ⟨_, _, _, h⟩ | ⟨h1, h2, h3, _⟩ | ⟨h1, h2, h3, _⟩
  · omega
  · omega
  · have := ho _ (Closed.ofCls Q (mergeAll Q a))
    have hb : ¬ mergeAll Q b = mergeAll Q a := fun hh => h3 hh.symm
    simp [bit, ← h1, ← h2, hb] at this
  · exact absurd ⟨h1, h2, h3⟩ h4
end Cls

namespace Cls
/-- A gluing as a scheme: n sides, each with a beginning (2 i) and an end (2 i + 1); nx: the next side of its polygon. -/
def corners (nx : Nat → Nat) (n : Nat) : List (Nat × Nat) := (List.range n).map fun i => (2 * i + 1, 2 * nx i)
def span (x : Nat) : List (Nat × Nat) := [(2 * x, 2 * x + 1)]
/-- Two sides are glued: beginning to beginning, or (b) beginning to end. -/
def glue (t : Nat × Nat × Bool) : List (Nat × Nat) := if t.2.2 then [(2 * t.1, 2 * t.2.1 + 1), (2 * t.1 + 1, 2 * t.2.1)] else [(2 * t.1, 2 * t.2.1), (2 * t.1 + 1, 2 * t.2.1 + 1)]
def spans2 (t : Nat × Nat × Bool) : List (Nat × Nat) := [(2 * t.1, 2 * t.1 + 1), (if t.2.2 then (2 * t.2.1 + 1, 2 * t.2.1) else (2 * t.2.1, 2 * t.2.1 + 1))]
def sidesOf (T : List (Nat × Nat × Bool)) : List Nat := T.flatMap fun t => [t.1, t.2.1]
/-- The weight of a side: how many of its ends lie in S. -/
def wt (S : Nat → Bool) (x : Nat) : Nat := bit (S (2 * x)) + bit (S (2 * x + 1))
/-- The ends of pairs that lie in S. -/
def endsIn (S : Nat → Bool) (es : List (Nat × Nat)) : Nat := (es.map fun p => bit (S p.1) + bit (S p.2)).sum
theorem endsIn_append (S : Nat → Bool) (es fs : List (Nat × Nat)) : endsIn S (es ++ fs) = endsIn S es + endsIn S fs := by simp [endsIn]
theorem endsIn_closed {S : Nat → Bool} {es : List (Nat × Nat)} (h : Closed S es) : endsIn S es = 2 * inE S es := by
  induction es with
  | nil => rfl
  | cons p es ih =>
    have ih := ih (h.sub fun q hq => List.mem_cons_of_mem _ hq)
    have hp := h p (List.mem_cons_self ..)
    unfold endsIn inE at *
    rw [List.map_cons, List.sum_cons, ih, List.countP_cons, ← hp]
    cases S p.1 <;> simp [bit] <;> omega
theorem glue_ends (S : Nat → Bool) (t : Nat × Nat × Bool) : endsIn S (glue t) = wt S t.1 + wt S t.2.1 := by
  unfold glue endsIn wt
  split <;> simp <;> omega
theorem spans2_ends (S : Nat → Bool) (t : Nat × Nat × Bool) : endsIn S (spans2 t) = wt S t.1 + wt S t.2.1 := by
  unfold spans2 endsIn wt; split <;> simp <;> omega
theorem span_ends (S : Nat → Bool) (x : Nat) : endsIn S (span x) = wt S x := by unfold span endsIn wt; simp
theorem flat_ends {α : Type} (S : Nat → Bool) (f : α → List (Nat × Nat)) (l : List α) : endsIn S (l.flatMap f) = (l.map fun t => endsIn S (f t)).sum := by
  induction l with
  | nil => rfl
  | cons t l ih => rw [List.flatMap_cons, endsIn_append, ih, List.map_cons, List.sum_cons]
theorem sum_sides (w : Nat → Nat) (T : List (Nat × Nat × Bool)) : ((sidesOf T).map w).sum = (T.map fun t => w t.1 + w t.2.1).sum := by
  induction T with
  | nil => rfl
  | cons t T ih =>
    show (([t.1, t.2.1] ++ sidesOf T).map w).sum = _
    rw [List.map_append, List.sum_append, ih, List.map_cons, List.sum_cons]; simp
theorem sum_two (f g : Nat → Nat) (l : List Nat) : (l.map fun x => f x + g x).sum = (l.map f).sum + (l.map g).sum := by
  induction l with
  | nil => rfl
  | cons x l ih => simp only [List.map_cons, List.sum_cons, ih]; omega
theorem nodes_wt (S : Nat → Bool) (n : Nat) : nodes S (2 * n) = ((List.range n).map (wt S)).sum := by
  induction n with
  | zero => rfl
  | succ n ih =>
    rw [List.range_succ, List.map_append, List.sum_append, ← ih]
    show nodes S (2 * n + 2) = _
    unfold nodes
    rw [List.range_succ, List.range_succ, List.append_assoc, List.countP_append]
    simp [List.countP_cons, wt, bit]
    cases S (2 * n) <;> cases S (2 * n + 1) <;> simp
/-- nx is a permutation of the sides. -/
abbrev Perm (nx : Nat → Nat) (n : Nat) : Prop := ((List.range n).map nx).Perm (List.range n)
theorem perm_sum {nx : Nat → Nat} {n : Nat} (h : Perm nx n) (f : Nat → Nat) : ((List.range n).map fun i => f (nx i)).sum = ((List.range n).map f).sum := by
  have := (h.map f).sum_nat
  rwa [List.map_map] at this
theorem corners_ends {nx : Nat → Nat} {n : Nat} (h : Perm nx n) (S : Nat → Bool) : endsIn S (corners nx n) = nodes S (2 * n) := by
  rw [nodes_wt]
  unfold endsIn corners wt
  rw [List.map_map]
  show ((List.range n).map fun i => bit (S (2 * i + 1)) + bit (S (2 * nx i))).sum = _
  rw [sum_two, perm_sum h (fun i => bit (S (2 * i))), sum_two]; omega
theorem corners_in {nx : Nat → Nat} {n : Nat} (h : Perm nx n) : In (2 * n) (corners nx n) := by
  intro p hp
  unfold corners at hp
  obtain ⟨i, hi, rfl⟩ := List.mem_map.1 hp
  have hi := List.mem_range.1 hi
  have : nx i ∈ List.range n := h.mem_iff.1 (List.mem_map.2 ⟨i, List.mem_range.2 hi, rfl⟩)
  have := List.mem_range.1 this
  exact ⟨by show 2 * i + 1 < 2 * n; omega, by show 2 * nx i < 2 * n; omega⟩
/-- Beginnings and ends are as many in each set that the corners keep. -/
theorem corners_even {nx : Nat → Nat} {n : Nat} (h : Perm nx n) {S : Nat → Bool} (hS : Closed S (corners nx n)) : ((List.range n).map fun i => bit (S (2 * i))).sum = ((List.range n).map fun i => bit (S (2 * i + 1))).sum := by
  rw [← perm_sum h (fun i => bit (S (2 * i)))]
  refine congrArg List.sum (List.map_congr_left fun i hi => ?_)
  have := hS (2 * i + 1, 2 * nx i) (List.mem_map.2 ⟨i, hi, rfl⟩)
  show bit (S (2 * nx i)) = bit (S (2 * i + 1))
  rw [show S (2 * i + 1) = S (2 * nx i) from this]

/-- The scheme: sides, which are glued, which not. -/
structure Scheme where
  n : Nat
  nx : Nat → Nat
  T : List (Nat × Nat × Bool)
  Fr : List Nat
namespace Scheme
structure Ok (s : Scheme) : Prop where
  perm : Perm s.nx s.n
  sides : (sidesOf s.T ++ s.Fr).Perm (List.range s.n)
/-- The first letters are glued, the others not yet. -/
def part (s : Scheme) (A B : List (Nat × Nat × Bool)) : List (Nat × Nat) := corners s.nx s.n ++ (A.flatMap glue ++ (B.flatMap spans2 ++ s.Fr.flatMap span))
/-- What hangs together. -/
def tied (s : Scheme) (A : List (Nat × Nat × Bool)) : List (Nat × Nat) := (corners s.nx s.n ++ (List.range s.n).flatMap span) ++ A.map fun t => (2 * t.1, 2 * t.2.1)
end Scheme
end Cls

namespace Cls
namespace Scheme
variable {s : Scheme}
theorem Ok.lt (h : Ok s) {x : Nat} (hx : x ∈ sidesOf s.T ++ s.Fr) : x < s.n := List.mem_range.1 (h.sides.mem_iff.1 hx)
theorem Ok.sum (h : Ok s) (f : Nat → Nat) : ((sidesOf s.T).map f).sum + (s.Fr.map f).sum = ((List.range s.n).map f).sum := by
  have := (h.sides.map f).sum_nat
  rwa [List.map_append, List.sum_append] at this
theorem sides_append (A B : List (Nat × Nat × Bool)) : sidesOf (A ++ B) = sidesOf A ++ sidesOf B := by unfold sidesOf; rw [List.flatMap_append]
theorem sides_mem {T : List (Nat × Nat × Bool)} {t : Nat × Nat × Bool} (h : t ∈ T) : t.1 ∈ sidesOf T ∧ t.2.1 ∈ sidesOf T := by
  unfold sidesOf
  exact ⟨List.mem_flatMap.2 ⟨t, h, by simp⟩, List.mem_flatMap.2 ⟨t, h, by simp⟩⟩
theorem Ok.lt2 (h : Ok s) {t : Nat × Nat × Bool} (ht : t ∈ s.T) : t.1 < s.n ∧ t.2.1 < s.n :=
  ⟨h.lt (List.mem_append.2 (Or.inl (sides_mem ht).1)), h.lt (List.mem_append.2 (Or.inl (sides_mem ht).2))⟩
theorem Ok.ltF (h : Ok s) {x : Nat} (hx : x ∈ s.Fr) : x < s.n := h.lt (List.mem_append.2 (Or.inr hx))
theorem glue_in {t : Nat × Nat × Bool} {n : Nat} (h1 : t.1 < n) (h2 : t.2.1 < n) : In (2 * n) (glue t) := by
  intro p hp
  unfold glue at hp
  split at hp <;> simp only [List.mem_cons, List.not_mem_nil, or_false] at hp <;> rcases hp with rfl | rfl <;> exact ⟨by simp; omega, by simp; omega⟩
theorem spans2_in {t : Nat × Nat × Bool} {n : Nat} (h1 : t.1 < n) (h2 : t.2.1 < n) : In (2 * n) (spans2 t) := by
  intro p hp
  unfold spans2 at hp
  simp only [List.mem_cons, List.not_mem_nil, or_false] at hp
  rcases hp with rfl | rfl
  · exact ⟨by simp; omega, by simp; omega⟩
  · split <;> exact ⟨by simp; omega, by simp; omega⟩
theorem part_mem {A B : List (Nat × Nat × Bool)} {p : Nat × Nat} : p ∈ s.part A B ↔ p ∈ corners s.nx s.n ∨ (∃ t ∈ A, p ∈ glue t) ∨ (∃ t ∈ B, p ∈ spans2 t) ∨ ∃ x ∈ s.Fr, p ∈ span x := by
  unfold part
  simp only [List.mem_append, List.mem_flatMap]
theorem Ok.partIn (h : Ok s) {A B : List (Nat × Nat × Bool)} (hA : ∀ t ∈ A, t ∈ s.T) (hB : ∀ t ∈ B, t ∈ s.T) : In (2 * s.n) (s.part A B) := by
  intro p hp
  rcases part_mem.1 hp with hp | ⟨t, ht, hp⟩ | ⟨t, ht, hp⟩ | ⟨x, hx, hp⟩
  · exact corners_in h.perm p hp
  · exact glue_in (h.lt2 (hA t ht)).1 (h.lt2 (hA t ht)).2 p hp
  · exact spans2_in (h.lt2 (hB t ht)).1 (h.lt2 (hB t ht)).2 p hp
  · have := h.ltF hx
    rw [List.mem_singleton.1 hp]
    exact ⟨by simp; omega, by simp; omega⟩
theorem part_ends (S : Nat → Bool) (h : Ok s) (A B : List (Nat × Nat × Bool)) : endsIn S (s.part A B) = nodes S (2 * s.n) + (((sidesOf A).map (wt S)).sum + ((sidesOf B).map (wt S)).sum + (s.Fr.map (wt S)).sum) := by
  unfold part
  rw [endsIn_append, endsIn_append, endsIn_append, corners_ends h.perm, flat_ends, flat_ends, flat_ends, sum_sides, sum_sides]
  simp only [glue_ends, spans2_ends, span_ends]
  have e : (List.map (fun t => wt S t) s.Fr).sum = (List.map (wt S) s.Fr).sum := rfl
  omega
/-- Two ends more, of the letter that is not glued yet. -/
def endD (t : Nat × Nat × Bool) : Nat := if t.2.2 then 2 * t.2.1 + 1 else 2 * t.2.1
def endE (t : Nat × Nat × Bool) : Nat := if t.2.2 then 2 * t.2.1 else 2 * t.2.1 + 1
theorem glue_eq (t : Nat × Nat × Bool) : glue t = [(2 * t.1, endD t), (2 * t.1 + 1, endE t)] := by unfold glue endD endE; split <;> rfl
theorem spans2_eq (t : Nat × Nat × Bool) : spans2 t = [(2 * t.1, 2 * t.1 + 1), (endD t, endE t)] := by unfold spans2 endD endE; split <;> rfl
theorem wt_ends (S : Nat → Bool) (t : Nat × Nat × Bool) : wt S t.2.1 = bit (S (endD t)) + bit (S (endE t)) := by unfold wt endD endE; split <;> omega
theorem Ok.sum3 (h : Ok s) {A B : List (Nat × Nat × Bool)} {t : Nat × Nat × Bool} (hT : s.T = A ++ t :: B) (f : Nat → Nat) :
    ((sidesOf A).map f).sum + ((sidesOf B).map f).sum + (s.Fr.map f).sum + (f t.1 + f t.2.1) = ((List.range s.n).map f).sum := by
  have := h.sum f
  rw [hT, sides_append, show sidesOf (t :: B) = [t.1, t.2.1] ++ sidesOf B from rfl, List.map_append, List.map_append, List.sum_append, List.sum_append] at this
  simp at this
  omega
theorem Ok.quad (h : Ok s) {A B : List (Nat × Nat × Bool)} {t : Nat × Nat × Bool} (hT : s.T = A ++ t :: B) : Quad (2 * s.n) (s.part A B) (2 * t.1) (2 * t.1 + 1) (endD t) (endE t) := by
  have ht : t ∈ s.T := by rw [hT]; simp
  have h2 := h.lt2 ht
  refine ⟨h.partIn (fun u hu => by rw [hT]; simp [hu]) (fun u hu => by rw [hT]; simp [hu]), by omega, by omega, by unfold endD; split <;> omega, by unfold endE; split <;> omega, fun S hS => ?_⟩
  have h3 := endsIn_closed hS
  rw [part_ends S h] at h3
  have h4 := h.sum3 hT (wt S)
  rw [← nodes_wt, wt_ends] at h4
  unfold wt at h4
  unfold wt at h3
  omega
theorem part_spans (A B : List (Nat × Nat × Bool)) (t : Nat × Nat × Bool) (h : Ok s) (hA : ∀ u ∈ A, u ∈ s.T) (hB : ∀ u ∈ t :: B, u ∈ s.T) : num (2 * s.n) (mergeAll (s.part A (t :: B))) = num (2 * s.n) (mergeAll (s.part A B ++ [(2 * t.1, 2 * t.1 + 1), (endD t, endE t)])) := by
  refine num_mem (h.partIn hA hB) fun p => ?_
  rw [← spans2_eq, List.mem_append, part_mem, part_mem]
  constructor
  · rintro (hp | hp | ⟨u, hu, hp⟩ | hp)
    · exact Or.inl (Or.inl hp)
    · exact Or.inl (Or.inr (Or.inl hp))
    · rcases List.mem_cons.1 hu with rfl | hu
      · exact Or.inr hp
      · exact Or.inl (Or.inr (Or.inr (Or.inl ⟨u, hu, hp⟩)))
    · exact Or.inl (Or.inr (Or.inr (Or.inr hp)))
  · rintro ((hp | hp | ⟨u, hu, hp⟩ | hp) | hp)
    · exact Or.inl hp
    · exact Or.inr (Or.inl hp)
    · exact Or.inr (Or.inr (Or.inl ⟨u, List.mem_cons_of_mem _ hu, hp⟩))
    · exact Or.inr (Or.inr (Or.inr hp))
    · exact Or.inr (Or.inr (Or.inl ⟨t, List.mem_cons_self .., hp⟩))
theorem part_glue (A B : List (Nat × Nat × Bool)) (t : Nat × Nat × Bool) (h : Ok s) (hA : ∀ u ∈ A ++ [t], u ∈ s.T) (hB : ∀ u ∈ B, u ∈ s.T) : num (2 * s.n) (mergeAll (s.part (A ++ [t]) B)) = num (2 * s.n) (mergeAll (s.part A B ++ [(2 * t.1, endD t), (2 * t.1 + 1, endE t)])) := by
  refine num_mem (h.partIn hA hB) fun p => ?_
  rw [← glue_eq, List.mem_append, part_mem, part_mem]
  constructor
  · rintro (hp | ⟨u, hu, hp⟩ | hp | hp)
    · exact Or.inl (Or.inl hp)
    · rcases List.mem_append.1 hu with hu | hu
      · exact Or.inl (Or.inr (Or.inl ⟨u, hu, hp⟩))
      · rw [List.mem_singleton.1 hu] at hp; exact Or.inr hp
    · exact Or.inl (Or.inr (Or.inr (Or.inl hp)))
    · exact Or.inl (Or.inr (Or.inr (Or.inr hp)))
  · rintro ((hp | ⟨u, hu, hp⟩ | hp | hp) | hp)
    · exact Or.inl hp
    · exact Or.inr (Or.inl ⟨u, List.mem_append.2 (Or.inl hu), hp⟩)
    · exact Or.inr (Or.inr (Or.inl hp))
    · exact Or.inr (Or.inr (Or.inr hp))
    · exact Or.inr (Or.inl ⟨t, List.mem_append.2 (Or.inr (List.mem_singleton.2 rfl)), hp⟩)
/-- The tied sets. -/
theorem tied_span {A : List (Nat × Nat × Bool)} {x : Nat} (hx : x < s.n) : mergeAll (s.tied A) (2 * x) = mergeAll (s.tied A) (2 * x + 1) :=
  eq_of_mem (List.mem_append.2 (Or.inl (List.mem_append.2 (Or.inr (List.mem_flatMap.2 ⟨x, List.mem_range.2 hx, by simp [span]⟩)))))
theorem tied_link {A : List (Nat × Nat × Bool)} {t : Nat × Nat × Bool} (ht : t ∈ A) : mergeAll (s.tied A) (2 * t.1) = mergeAll (s.tied A) (2 * t.2.1) :=
  eq_of_mem (List.mem_append.2 (Or.inr (List.mem_map.2 ⟨t, ht, rfl⟩)))
theorem tied_corner {A : List (Nat × Nat × Bool)} {p : Nat × Nat} (hp : p ∈ corners s.nx s.n) : mergeAll (s.tied A) p.1 = mergeAll (s.tied A) p.2 :=
  eq_of_mem (List.mem_append.2 (Or.inl (List.mem_append.2 (Or.inl hp))))
theorem tied_endD {A : List (Nat × Nat × Bool)} {t : Nat × Nat × Bool} (h2 : t.2.1 < s.n) : mergeAll (s.tied A) (endD t) = mergeAll (s.tied A) (2 * t.2.1) ∧ mergeAll (s.tied A) (endE t) = mergeAll (s.tied A) (2 * t.2.1) := by
  unfold endD endE
  split
  · exact ⟨(tied_span h2).symm, rfl⟩
  · exact ⟨rfl, (tied_span h2).symm⟩
theorem Ok.tied_part (h : Ok s) {A B : List (Nat × Nat × Bool)} (hA : ∀ t ∈ A, t ∈ s.T) (hB : ∀ t ∈ B, t ∈ s.T) (r : Nat) : Closed (fun v => mergeAll (s.tied A) v == r) (s.part A B) := by
  intro p hp
  show (mergeAll (s.tied A) p.1 == r) = (mergeAll (s.tied A) p.2 == r)
  have key : mergeAll (s.tied A) p.1 = mergeAll (s.tied A) p.2 := by
    rcases part_mem.1 hp with hp | ⟨t, ht, hp⟩ | ⟨t, ht, hp⟩ | ⟨x, hx, hp⟩
    · exact tied_corner hp
    · have h2 := h.lt2 (hA t ht)
      have e := tied_endD (A := A) h2.2
      rw [glue_eq] at hp
      simp only [List.mem_cons, List.not_mem_nil, or_false] at hp
      rcases hp with rfl | rfl
      · exact (tied_link ht).trans e.1.symm
      · exact (tied_span h2.1).symm.trans ((tied_link ht).trans e.2.symm)
    · have h2 := h.lt2 (hB t ht)
      have e := tied_endD (A := A) h2.2
      rw [spans2_eq] at hp
      simp only [List.mem_cons, List.not_mem_nil, or_false] at hp
      rcases hp with rfl | rfl
      · exact tied_span h2.1
      · exact e.1.trans e.2.symm
    · rw [List.mem_singleton.1 hp]; exact tied_span (h.ltF hx)
  rw [key]
theorem Ok.tiedIn (h : Ok s) {A : List (Nat × Nat × Bool)} (hA : ∀ t ∈ A, t ∈ s.T) : In (2 * s.n) (s.tied A) := by
  intro p hp
  rcases List.mem_append.1 hp with hp | hp
  · rcases List.mem_append.1 hp with hp | hp
    · exact corners_in h.perm p hp
    · obtain ⟨x, hx, hp⟩ := List.mem_flatMap.1 hp
      have := List.mem_range.1 hx
      rw [List.mem_singleton.1 hp]
      exact ⟨by simp; omega, by simp; omega⟩
  · obtain ⟨t, ht, rfl⟩ := List.mem_map.1 hp
    have := h.lt2 (hA t ht)
    exact ⟨by simp; omega, by simp; omega⟩
/-- At the start: the polygons. -/
theorem Ok.start (h : Ok s) : num (2 * s.n) (mergeAll (s.part [] s.T)) = num (2 * s.n) (mergeAll (s.tied [])) := by
  refine num_ker (Cls.Ok.all (h.partIn (fun _ ht => by cases ht) (fun _ ht => ht))) (Cls.Ok.all (h.tiedIn (fun _ ht => by cases ht))) fun x _ y _ => ⟨fun e => ?_, fun e => ?_⟩
  · have := ker_le (F := mergeAll (s.tied [])) (l := s.part [] s.T) (fun p hp => by
      have := h.tied_part (A := []) (B := s.T) (fun _ ht => by cases ht) (fun _ ht => ht) (mergeAll (s.tied []) p.1) p hp
      simp only [beq_self_eq_true] at this
      exact (beq_iff_eq.1 this.symm).symm) e
    exact this
  · refine ker_le (F := mergeAll (s.part [] s.T)) (l := s.tied []) (fun p hp => ?_) e
    rcases List.mem_append.1 hp with hp | hp
    · rcases List.mem_append.1 hp with hp | hp
      · exact eq_of_mem (part_mem.2 (Or.inl hp))
      · obtain ⟨x, hx, hp⟩ := List.mem_flatMap.1 hp
        rw [List.mem_singleton.1 hp]
        rcases List.mem_append.1 (h.sides.mem_iff.2 hx) with hx | hx
        · unfold sidesOf at hx
          obtain ⟨t, ht, hx⟩ := List.mem_flatMap.1 hx
          simp only [List.mem_cons, List.not_mem_nil, or_false] at hx
          have hs : ∀ p ∈ spans2 t, mergeAll (s.part [] s.T) p.1 = mergeAll (s.part [] s.T) p.2 := fun p hp => eq_of_mem (part_mem.2 (Or.inr (Or.inr (Or.inl ⟨t, ht, hp⟩))))
          rcases hx with rfl | rfl
          · exact hs (2 * t.1, 2 * t.1 + 1) (by simp [spans2])
          · by_cases hf : t.2.2 = true
            · exact (hs (2 * t.2.1 + 1, 2 * t.2.1) (by simp [spans2, hf])).symm
            · exact hs (2 * t.2.1, 2 * t.2.1 + 1) (by simp [spans2, hf])
        · exact eq_of_mem (part_mem.2 (Or.inr (Or.inr (Or.inr ⟨x, hx, by simp [span]⟩))))
    · cases hp
theorem tied_snoc (A : List (Nat × Nat × Bool)) (t : Nat × Nat × Bool) : s.tied (A ++ [t]) = s.tied A ++ [(2 * t.1, 2 * t.2.1)] := by unfold tied; simp
/-- Circles, letters, polygons and parts. -/
theorem Ok.le (h : Ok s) : ∀ A B, s.T = A ++ B → num (2 * s.n) (mergeAll (s.part A B)) + num (2 * s.n) (mergeAll (s.part [] s.T)) ≤ 2 * num (2 * s.n) (mergeAll (s.tied A)) + A.length := by
  intro A
  refine snoc_ind (p := fun A => ∀ B, s.T = A ++ B → num (2 * s.n) (mergeAll (s.part A B)) + num (2 * s.n) (mergeAll (s.part [] s.T)) ≤ 2 * num (2 * s.n) (mergeAll (s.tied A)) + A.length) ?_ ?_ A
  · intro B hB
    rw [show s.part [] B = s.part [] s.T from by rw [hB]; rfl, h.start]
    simp; omega
  · intro A t ih B hT
    have hT' : s.T = A ++ t :: B := by rw [hT]; simp
    have ih := ih (t :: B) hT'
    have hA : ∀ u ∈ A, u ∈ s.T := fun u hu => by rw [hT']; simp [hu]
    have hA' : ∀ u ∈ A ++ [t], u ∈ s.T := fun u hu => by rw [hT]; exact List.mem_append.2 (Or.inl hu)
    have hB' : ∀ u ∈ t :: B, u ∈ s.T := fun u hu => by rw [hT']; exact List.mem_append.2 (Or.inr hu)
    have hB : ∀ u ∈ B, u ∈ s.T := fun u hu => hB' u (List.mem_cons_of_mem _ hu)
    have h2 := h.lt2 (hB' t (List.mem_cons_self ..))
    have q := h.quad hT'
    rw [part_spans A B t h hA hB'] at ih
    rw [part_glue A B t h hA' hB, tied_snoc, List.length_append, List.length_singleton]
    by_cases e : mergeAll (s.tied A) (2 * t.1) = mergeAll (s.tied A) (2 * t.2.1)
    · have h1 := q.le1
      rw [num_same (p := (2 * t.1, 2 * t.2.1)) e]
      omega
    · have hd := tied_endD (A := A) h2.2
      have e' : ¬ mergeAll (s.tied A) (2 * t.2.1) = mergeAll (s.tied A) (2 * t.1) := fun hh => e hh.symm
      have h1 := q.sep (h.tied_part hA hB (mergeAll (s.tied A) (2 * t.1))) (by simp) (by simp [← tied_span (A := A) h2.1]) (by simp [hd.1, e']) (by simp [hd.2, e'])
      have h3 := num_diff (p := (2 * t.1, 2 * t.2.1)) (h.tiedIn hA) (by show 2 * t.1 < 2 * s.n; omega) (by show 2 * t.2.1 < 2 * s.n; omega) e
      omega
end Scheme
end Cls

namespace Cls
theorem nodup_one {l : List Nat} {r : Nat} (hn : l.Nodup) (h : ∀ x ∈ l, x = r) : l.length ≤ 1 := by
  cases l with
  | nil => simp
  | cons x l =>
    cases l with
    | nil => simp
    | cons y l =>
      rw [List.nodup_cons] at hn
      have h1 := h x (by simp)
      have h2 := h y (by simp)
      exact absurd (show x ∈ y :: l by rw [h1, ← h2]; simp) hn.1
/-- One class is one class. -/
theorem numS_cls (c : Nat → Nat) (r N : Nat) : numS (fun v => c v == r) N c ≤ 1 := by
  unfold numS
  refine nodup_one (r := r) (List.nodup_range.filter _) fun x hx => ?_
  have := (List.mem_filter.1 hx).2
  simp only [Bool.and_eq_true, beq_iff_eq] at this
  omega
theorem le_sum {l : List Nat} {x : Nat} (h : x ∈ l) : x ≤ l.sum := by
  induction l with
  | nil => cases h
  | cons y l ih =>
    rw [List.sum_cons]
    rcases List.mem_cons.1 h with rfl | h
    · omega
    · have := ih h; omega
theorem bit_one (b : Bool) : bit b = 1 ↔ b = true := by cases b <;> simp [bit]
namespace Scheme
variable {s : Scheme}
/-- The polygons can be turned so that every letter is glued beginning to end. -/
def Turned (s : Scheme) : Prop := ∃ fl : Nat → Bool, (∀ i, i < s.n → fl (s.nx i) = fl i) ∧ ∀ t ∈ s.T, t.2.2 = (fl t.1 == fl t.2.1)
theorem sum_bits (f : Nat → Nat) (T : List (Nat × Nat × Bool)) : ((sidesOf T).map f).sum = (T.map fun t => f t.1 + f t.2.1).sum := sum_sides f T
theorem sum_eq {α : Type} {f g : α → Nat} {l : List α} (h : ∀ x ∈ l, f x = g x) : (l.map f).sum = (l.map g).sum := by rw [List.map_congr_left h]
/-- The ends of a side, by colour. -/
def nt (fl : Nat → Bool) (x : Nat) : Nat := if fl x then 2 * x else 2 * x + 1
def nf (fl : Nat → Bool) (x : Nat) : Nat := if fl x then 2 * x + 1 else 2 * x
theorem corners_col {nx : Nat → Nat} {n : Nat} (h : Perm nx n) {fl : Nat → Bool} (hf : ∀ i, i < n → fl (nx i) = fl i) {S : Nat → Bool} (hS : Closed S (corners nx n)) :
    ((List.range n).map fun i => bit (S (nt fl i))).sum = ((List.range n).map fun i => bit (S (nf fl i))).sum := by
  have hc : ∀ i ∈ List.range n, S (2 * i + 1) = S (2 * nx i) := fun i hi => hS (2 * i + 1, 2 * nx i) (List.mem_map.2 ⟨i, hi, rfl⟩)
  have e1 : ((List.range n).map fun i => if fl i then bit (S (nf fl i)) else 0).sum = ((List.range n).map fun i => if fl i then bit (S (nt fl i)) else 0).sum := by
    rw [← perm_sum h (fun i => if fl i then bit (S (nt fl i)) else 0)]
    refine sum_eq fun i hi => ?_
    rw [hf i (List.mem_range.1 hi)]
    by_cases e : fl i = true
    · have e' := hf i (List.mem_range.1 hi)
      rw [if_pos e, if_pos e]
      unfold nf nt
      rw [if_pos e, if_pos (by rw [e']; exact e), hc i hi]
    · rw [if_neg e, if_neg e]
  have e2 : ((List.range n).map fun i => if fl i then 0 else bit (S (nt fl i))).sum = ((List.range n).map fun i => if fl i then 0 else bit (S (nf fl i))).sum := by
    rw [← perm_sum h (fun i => if fl i then 0 else bit (S (nf fl i)))]
    refine sum_eq fun i hi => ?_
    rw [hf i (List.mem_range.1 hi)]
    by_cases e : fl i = true
    · rw [if_pos e, if_pos e]
    · have e' := hf i (List.mem_range.1 hi)
      rw [if_neg e, if_neg e]
      unfold nf nt
      rw [if_neg e, if_neg (by rw [e']; exact e), hc i hi]
  have e3 : ∀ g : Nat → Nat, ((List.range n).map g).sum = ((List.range n).map fun i => if fl i then g i else 0).sum + ((List.range n).map fun i => if fl i then 0 else g i).sum := fun g => by
    rw [← sum_two]
    exact sum_eq fun i _ => by by_cases e : fl i = true <;> simp [e]
  rw [e3 (fun i => bit (S (nt fl i))), e3 (fun i => bit (S (nf fl i))), e1, e2]
theorem Ok.odd (h : Ok s) (ht : Turned s) {A B : List (Nat × Nat × Bool)} {t : Nat × Nat × Bool} (hT : s.T = A ++ t :: B) :
    (num (2 * s.n) (mergeAll (s.part A B ++ [(2 * t.1, endD t), (2 * t.1 + 1, endE t)])) + num (2 * s.n) (mergeAll (s.part A B ++ [(2 * t.1, 2 * t.1 + 1), (endD t, endE t)]))) % 2 = 1 := by
  obtain ⟨fl, hfl, htt⟩ := ht
  have htT : t ∈ s.T := by rw [hT]; simp
  have hA : ∀ u ∈ A, u ∈ s.T := fun u hu => by rw [hT]; simp [hu]
  have hB : ∀ u ∈ B, u ∈ s.T := fun u hu => by rw [hT]; simp [hu]
  have q := h.quad hT
  refine q.odd (fun S hS => ?_) (fun hh => ?_)
  · have h1 := corners_col h.perm hfl (S := S) (hS.sub fun p hp => part_mem.2 (Or.inl hp))
    rw [← h.sum3 hT (fun i => bit (S (nt fl i))), ← h.sum3 hT (fun i => bit (S (nf fl i)))] at h1
    have hgl : ∀ u ∈ A, bit (S (nt fl u.1)) + bit (S (nt fl u.2.1)) = bit (S (nf fl u.1)) + bit (S (nf fl u.2.1)) := fun u hu => by
      have hg : ∀ p ∈ glue u, S p.1 = S p.2 := fun p hp => hS p (part_mem.2 (Or.inr (Or.inl ⟨u, hu, hp⟩)))
      have hu' := htt u (hA u hu)
      unfold glue at hg
      unfold nt nf
      cases e1 : fl u.1 <;> cases e2 : fl u.2.1 <;> rw [e1, e2] at hu' <;> simp [hu'] at hg <;> simp [hg] <;> omega
    have hsp : ∀ u ∈ B, bit (S (nt fl u.1)) + bit (S (nt fl u.2.1)) = bit (S (nf fl u.1)) + bit (S (nf fl u.2.1)) := fun u hu => by
      have hg : ∀ p ∈ spans2 u, S p.1 = S p.2 := fun p hp => hS p (part_mem.2 (Or.inr (Or.inr (Or.inl ⟨u, hu, hp⟩))))
      have e1 := hg (2 * u.1, 2 * u.1 + 1) (by simp [spans2])
      have e2 : S (2 * u.2.1) = S (2 * u.2.1 + 1) := by
        by_cases hf : u.2.2 = true
        · exact (hg (2 * u.2.1 + 1, 2 * u.2.1) (by simp [spans2, hf])).symm
        · exact hg (2 * u.2.1, 2 * u.2.1 + 1) (by simp [spans2, hf])
      simp only at e1
      unfold nt nf
      cases fl u.1 <;> cases fl u.2.1 <;> simp [e1, e2]
    have hfr : ∀ x ∈ s.Fr, bit (S (nt fl x)) = bit (S (nf fl x)) := fun x hx => by
      have e1 := hS (2 * x, 2 * x + 1) (part_mem.2 (Or.inr (Or.inr (Or.inr ⟨x, hx, by simp [span]⟩))))
      simp only at e1
      unfold nt nf
      cases fl x <;> simp [e1]
    rw [sum_bits, sum_bits, sum_bits, sum_bits, sum_eq hgl, sum_eq hsp, sum_eq hfr] at h1
    have hu' := htt t htT
    have h2 : bit (S (nt fl t.1)) + bit (S (nt fl t.2.1)) = bit (S (nf fl t.1)) + bit (S (nf fl t.2.1)) := by omega
    unfold nt nf at h2
    unfold endD endE
    cases e1 : fl t.1 <;> cases e2 : fl t.2.1 <;> rw [e1, e2] at hu' <;> simp [e1, e2] at h2 <;> simp [hu'] <;> omega
  · have hc := Closed.ofCls (s.part A B) (mergeAll (s.part A B) (2 * t.1))
    have h3 := endsIn_closed hc
    rw [part_ends _ h] at h3
    have h4 := h.sum3 hT (wt (fun v => mergeAll (s.part A B) v == mergeAll (s.part A B) (2 * t.1)))
    rw [← nodes_wt, wt_ends] at h4
    have h5 := nodes_le hc q.inN
    have h6 := numS_cls (mergeAll (s.part A B)) (mergeAll (s.part A B) (2 * t.1)) (2 * s.n)
    have h7 : wt (fun v => mergeAll (s.part A B) v == mergeAll (s.part A B) (2 * t.1)) t.1 = 2 := by
      unfold wt; simp [bit, ← hh.1]
    have h8 : bit (mergeAll (s.part A B) (endD t) == mergeAll (s.part A B) (2 * t.1)) = 1 := by rw [← hh.2.1]; simp [bit]
    have h9 : bit (mergeAll (s.part A B) (endE t) == mergeAll (s.part A B) (2 * t.1)) = 1 := by rw [← hh.2.2]; simp [bit]
    rw [h7, h8, h9] at h4
    omega
/-- Two-sided: circles, letters and polygons. -/
theorem Ok.even (h : Ok s) (ht : Turned s) : ∀ A B, s.T = A ++ B → (num (2 * s.n) (mergeAll (s.part A B)) + num (2 * s.n) (mergeAll (s.part [] s.T)) + A.length) % 2 = 0 := by
  intro A
  refine snoc_ind (p := fun A => ∀ B, s.T = A ++ B → (num (2 * s.n) (mergeAll (s.part A B)) + num (2 * s.n) (mergeAll (s.part [] s.T)) + A.length) % 2 = 0) ?_ ?_ A
  · intro B hB
    rw [show s.part [] B = s.part [] s.T from by rw [hB]; rfl]
    simp; omega
  · intro A t ih B hT
    have hT' : s.T = A ++ t :: B := by rw [hT]; simp
    have ih := ih (t :: B) hT'
    have hA : ∀ u ∈ A, u ∈ s.T := fun u hu => by rw [hT']; simp [hu]
    have hA' : ∀ u ∈ A ++ [t], u ∈ s.T := fun u hu => by rw [hT]; exact List.mem_append.2 (Or.inl hu)
    have hB' : ∀ u ∈ t :: B, u ∈ s.T := fun u hu => by rw [hT']; exact List.mem_append.2 (Or.inr hu)
    have hB : ∀ u ∈ B, u ∈ s.T := fun u hu => hB' u (List.mem_cons_of_mem _ hu)
    have q := h.odd ht hT'
    rw [part_spans A B t h hA hB'] at ih
    rw [part_glue A B t h hA' hB, List.length_append, List.length_singleton]
    omega

/-- All letters glued, the free sides left open. -/
def glued (s : Scheme) : List (Nat × Nat) := corners s.nx s.n ++ s.T.flatMap glue
def closed (s : Scheme) : List (Nat × Nat) := s.glued ++ s.Fr.flatMap span
theorem closed_part : s.closed = s.part s.T [] := by unfold closed glued part; simp
/-- How many circles the boundary has. -/
def circles (s : Scheme) : Nat := (found (mergeAll s.closed) (s.Fr.map fun x => 2 * x)).length
theorem Ok.gluedIn (h : Ok s) : In (2 * s.n) s.glued := (h.partIn (A := s.T) (B := []) (fun _ ht => ht) (fun _ ht => by cases ht)).sub fun p hp => by
  rw [← closed_part]; exact List.mem_append.2 (Or.inl hp)
theorem Ok.closedIn (h : Ok s) : In (2 * s.n) s.closed := by rw [closed_part]; exact h.partIn (fun _ ht => ht) (fun _ ht => by cases ht)
theorem numS_split (S : Nat → Bool) (N : Nat) (c : Nat → Nat) : num N c = numS S N c + numS (fun v => !S v) N c := by
  unfold num tally numS
  generalize List.range N = l
  induction l with
  | nil => rfl
  | cons x l ih =>
    simp only [List.filter_cons]
    cases S x <;> cases (c x == x) <;> simp [ih] <;> omega
/-- Pairs outside S leave its classes alone. -/
theorem numS_more {S : Nat → Bool} {N : Nat} {es : List (Nat × Nat)} (fs : List (Nat × Nat)) : Closed S (es ++ fs) → In N (es ++ fs) → (∀ p ∈ fs, S p.1 = false) → numS S N (mergeAll (es ++ fs)) = numS S N (mergeAll es) := by
  refine snoc_ind (p := fun fs => Closed S (es ++ fs) → In N (es ++ fs) → (∀ p ∈ fs, S p.1 = false) → numS S N (mergeAll (es ++ fs)) = numS S N (mergeAll es)) ?_ ?_ fs
  · intro _ _ _; rw [List.append_nil]
  · intro fs p ih hS hN hf
    have hs : ∀ q ∈ es ++ fs, q ∈ es ++ (fs ++ [p]) := fun q hq => by rw [← List.append_assoc]; exact List.mem_append.2 (Or.inl hq)
    have hp := hN p (by simp)
    rw [← List.append_assoc, mergeAll_snoc, numS_out (Ok.all (hN.sub hs)) hp.1 hp.2 (by rw [(hS.sub hs).lab (hN.sub hs) hp.1]; exact hf p (by simp))]
    exact ih (hS.sub hs) (hN.sub hs) (fun q hq => hf q (by simp [hq]))
theorem sum_count (c : Nat → Nat) (W : List Nat) : ∀ R : List Nat, R.Nodup → (R.map fun r => W.countP fun w => c w == r).sum = W.countP fun w => decide (c w ∈ R) := by
  intro R
  induction R with
  | nil => intro _; simp
  | cons r R ih =>
    intro hn
    rw [List.nodup_cons] at hn
    rw [List.map_cons, List.sum_cons, ih hn.2]
    clear ih
    induction W with
    | nil => rfl
    | cons w W ih =>
      rw [List.countP_cons, List.countP_cons, List.countP_cons]
      by_cases e : c w = r
      · have : ¬ c w ∈ R := by rw [e]; exact hn.1
        simp [e, hn.1] ; simp [List.mem_cons] at ih; omega
      · simp only [beq_iff_eq, e, if_false, List.mem_cons, false_or, decide_eq_true_eq]
        simp only [List.mem_cons] at ih
        omega
theorem sum_all2 {l : List Nat} {f : Nat → Nat} (h : ∀ x ∈ l, f x = 2) : (l.map f).sum = 2 * l.length := by
  induction l with
  | nil => rfl
  | cons x l ih => rw [List.map_cons, List.sum_cons, ih (fun y hy => h y (List.mem_cons_of_mem _ hy)), h x (List.mem_cons_self ..), List.length_cons]; omega
/-- Both ends of sides. -/
def both (l : List Nat) : List Nat := l.flatMap fun x => [2 * x, 2 * x + 1]
theorem both_len (l : List Nat) : (both l).length = 2 * l.length := by
  induction l with
  | nil => rfl
  | cons x l ih => show ([2 * x, 2 * x + 1] ++ both l).length = _; rw [List.length_append, ih, List.length_cons]; simp; omega
theorem both_count (S : Nat → Bool) (l : List Nat) : (both l).countP S = (l.map (wt S)).sum := by
  induction l with
  | nil => rfl
  | cons x l ih =>
    show ([2 * x, 2 * x + 1] ++ both l).countP S = _
    rw [List.countP_append, ih, List.map_cons, List.sum_cons]
    unfold wt bit
    simp only [List.countP_cons, List.countP_nil]
    omega
/-- Vertices, circles and free sides: each path of corners has two ends. -/
theorem Ok.circles (h : Ok s) : num (2 * s.n) (mergeAll s.glued) + s.circles = num (2 * s.n) (mergeAll s.closed) + s.Fr.length := by
  let S : Nat → Bool := fun v => s.Fr.any fun f => mergeAll s.closed (2 * f) == mergeAll s.closed v
  have hSc : Closed S s.closed := fun p hp => by
    show (s.Fr.any fun f => mergeAll s.closed (2 * f) == mergeAll s.closed p.1) = (s.Fr.any fun f => mergeAll s.closed (2 * f) == mergeAll s.closed p.2)
    rw [eq_of_mem (a := p.1) (b := p.2) hp]
  have hgc : ∀ p ∈ s.glued, p ∈ s.closed := fun p hp => List.mem_append.2 (Or.inl hp)
  have hSg : Closed S s.glued := hSc.sub hgc
  have hN : Closed (fun v => !S v) s.closed := fun p hp => by show (!S p.1) = (!S p.2); rw [hSc p hp]
  rw [numS_split S, numS_split S (2 * s.n) (mergeAll s.closed)]
  have h1 : numS (fun v => !S v) (2 * s.n) (mergeAll s.closed) = numS (fun v => !S v) (2 * s.n) (mergeAll s.glued) :=
    numS_more (s.Fr.flatMap span) hN h.closedIn (fun p hp => by
      obtain ⟨x, hx, hp⟩ := List.mem_flatMap.1 hp
      rw [List.mem_singleton.1 hp]
      show (!(s.Fr.any fun f => mergeAll s.closed (2 * f) == mergeAll s.closed (2 * x))) = false
      rw [Bool.not_eq_false']
      exact List.any_eq_true.2 ⟨x, hx, by simp⟩)
  have h2 : numS S (2 * s.n) (mergeAll s.closed) = s.circles := by
    unfold numS Scheme.circles
    refine List.Perm.length_eq ((List.perm_ext_iff_of_nodup (List.nodup_range.filter _) (found_nodup _ _)).2 fun x => ?_)
    rw [found_mem, List.mem_filter, List.mem_range, Bool.and_eq_true, beq_iff_eq]
    constructor
    · rintro ⟨_, hx, hx2⟩
      obtain ⟨f, hf, e⟩ := List.any_eq_true.1 hx
      exact ⟨2 * f, List.mem_map.2 ⟨f, hf, rfl⟩, (beq_iff_eq.1 e).trans hx2⟩
    · rintro ⟨m, hm, rfl⟩
      obtain ⟨f, hf, rfl⟩ := List.mem_map.1 hm
      have hlt : 2 * f < 2 * s.n := by have := h.ltF hf; omega
      have hid := (Cls.Ok.all h.closedIn).idem _ hlt
      exact ⟨(Cls.Ok.all h.closedIn).lt _ hlt, List.any_eq_true.2 ⟨f, hf, by rw [beq_iff_eq]; exact hid.symm⟩, hid⟩
  have h3 : 2 * numS S (2 * s.n) (mergeAll s.glued) = 2 * s.Fr.length := by
    have hgo := Cls.Ok.all h.gluedIn
    have hR := sum_count (mergeAll s.glued) (both s.Fr) ((List.range (2 * s.n)).filter fun v => S v && mergeAll s.glued v == v) (List.nodup_range.filter _)
    rw [sum_all2 (fun r hr => ?_)] at hR
    · show 2 * ((List.range (2 * s.n)).filter fun v => S v && mergeAll s.glued v == v).length = _
      rw [hR, ← both_len, List.countP_eq_length]
      intro x hx
      unfold both at hx
      obtain ⟨f, hf, hx⟩ := List.mem_flatMap.1 hx
      have hSf : S x = true := by
        have : mergeAll s.closed (2 * f) = mergeAll s.closed (2 * f + 1) := eq_of_mem (List.mem_append.2 (Or.inr (List.mem_flatMap.2 ⟨f, hf, by simp [span]⟩)))
        simp only [List.mem_cons, List.not_mem_nil, or_false] at hx
        rcases hx with rfl | rfl
        · exact List.any_eq_true.2 ⟨f, hf, by simp⟩
        · exact List.any_eq_true.2 ⟨f, hf, by simp [this]⟩
      have hlt : x < 2 * s.n := by
        have := h.ltF hf
        simp only [List.mem_cons, List.not_mem_nil, or_false] at hx
        omega
      rw [decide_eq_true_eq, List.mem_filter, List.mem_range, Bool.and_eq_true, beq_iff_eq]
      exact ⟨hgo.lt _ hlt, by rw [hSg.lab h.gluedIn hlt]; exact hSf, hgo.idem _ hlt⟩
    · obtain ⟨hr1, hr2⟩ := List.mem_filter.1 hr
      have hr1 := List.mem_range.1 hr1
      rw [Bool.and_eq_true, beq_iff_eq] at hr2
      show (both s.Fr).countP (fun w => mergeAll s.glued w == r) = 2
      rw [both_count]
      have hc := Closed.ofCls s.glued r
      have e1 := endsIn_closed hc
      unfold glued at e1
      rw [endsIn_append, corners_ends h.perm, flat_ends] at e1
      simp only [glue_ends] at e1
      rw [← sum_sides] at e1
      have e2 := h.sum (wt (fun v => mergeAll (corners s.nx s.n ++ s.T.flatMap glue) v == r))
      rw [← nodes_wt] at e2
      have e3 := nodes_le hc h.gluedIn
      have e4 := numS_cls (mergeAll s.glued) r (2 * s.n)
      unfold glued at e3 e4 ⊢
      have e5 : (s.Fr.map (wt (fun v => mergeAll (corners s.nx s.n ++ s.T.flatMap glue) v == r))).sum ≠ 0 := by
        intro h0
        have hz : ∀ f ∈ s.Fr, wt (fun v => mergeAll s.glued v == r) f = 0 := fun f hf => by
          rcases Nat.eq_zero_or_pos (wt (fun v => mergeAll s.glued v == r) f) with hw | hw
          · exact hw
          · have hm : wt (fun v => mergeAll s.glued v == r) f ∈ s.Fr.map (wt (fun v => mergeAll s.glued v == r)) := List.mem_map.2 ⟨f, hf, rfl⟩
            have := le_sum hm
            unfold glued at this hw ⊢
            omega
        have hcl : Closed (fun v => mergeAll s.glued v == r) s.closed := fun p hp => by
          rcases List.mem_append.1 hp with hp | hp
          · exact hc p hp
          · obtain ⟨x, hx, hp⟩ := List.mem_flatMap.1 hp
            rw [List.mem_singleton.1 hp]
            have hw := hz x hx
            unfold wt bit at hw
            show (mergeAll s.glued (2 * x) == r) = (mergeAll s.glued (2 * x + 1) == r)
            cases h1 : (mergeAll s.glued (2 * x) == r) <;> cases h2 : (mergeAll s.glued (2 * x + 1) == r) <;> simp [h1, h2] at hw <;> rfl
        obtain ⟨f, hf, e⟩ := List.any_eq_true.1 hr2.1
        have hfr := ker_le (F := fun v => mergeAll s.glued v == r) hcl (beq_iff_eq.1 e)
        have hw := hz f hf
        simp only [hr2.2, beq_self_eq_true] at hfr
        unfold wt bit at hw
        simp [hfr] at hw
      omega
  omega
/-- Euler's number is at most twice the parts less the circles. -/
theorem Ok.bound (h : Ok s) : num (2 * s.n) (mergeAll s.glued) + num (2 * s.n) (mergeAll (s.tied [])) + s.circles ≤ 2 * num (2 * s.n) (mergeAll (s.tied s.T)) + s.T.length + s.Fr.length := by
  have h1 := h.le s.T [] (by simp)
  have h2 := h.circles
  rw [← closed_part, h.start] at h1
  omega
theorem Ok.parity (h : Ok s) (ht : Turned s) : (num (2 * s.n) (mergeAll s.glued) + num (2 * s.n) (mergeAll (s.tied [])) + s.circles + s.T.length + s.Fr.length) % 2 = 0 := by
  have h1 := h.even ht s.T [] (by simp)
  have h2 := h.circles
  rw [← closed_part, h.start] at h1
  omega
end Scheme
end Cls
end Go.Proofs.YtodgongemoabiaaDoor
namespace Go.Proofs.YtodgongemoabiaaDoor

namespace Glue
/-- The next side of the same polygon. -/
def nxt : List (List Int) → Nat → Nat
  | [], i => i
  | r :: L, i => if i < r.length then (i + 1) % r.length else r.length + nxt L (i - r.length)
/-- The polygon of a side. -/
def pol : List (List Int) → Nat → Nat
  | [], _ => 0
  | r :: L, i => if i < r.length then 0 else pol L (i - r.length) + 1
theorem nxt_in {r : List Int} {L : List (List Int)} {i : Nat} (h : i < r.length) : nxt (r :: L) i = (i + 1) % r.length := by simp only [nxt]; rw [if_pos h]
theorem nxt_out (r : List Int) (L : List (List Int)) (i : Nat) : nxt (r :: L) (r.length + i) = r.length + nxt L i := by simp only [nxt]; rw [if_neg (by omega), Nat.add_sub_cancel_left]
theorem pol_in {r : List Int} {L : List (List Int)} {i : Nat} (h : i < r.length) : pol (r :: L) i = 0 := by simp only [pol]; rw [if_pos h]
theorem pol_out (r : List Int) (L : List (List Int)) (i : Nat) : pol (r :: L) (r.length + i) = pol L i + 1 := by simp only [pol]; rw [if_neg (by omega), Nat.add_sub_cancel_left]
theorem rot_perm (m : Nat) : ((List.range m).map fun i => (i + 1) % m).Perm (List.range m) := by
  cases m with
  | zero => simp
  | succ k =>
    have e : (List.range (k + 1)).map (fun i => (i + 1) % (k + 1)) = (List.range k).map (· + 1) ++ [0] := by
      rw [List.range_succ, List.map_append]
      congr 1
      · exact List.map_congr_left fun i hi => Nat.mod_eq_of_lt (by have := List.mem_range.1 hi; omega)
      · simp
    rw [e, List.range_succ_eq_map]
    exact List.perm_append_comm
theorem range_split (a b : Nat) : List.range (a + b) = List.range a ++ (List.range b).map (a + ·) := List.range_add ..
theorem nxt_perm (L : List (List Int)) : ((List.range L.flatten.length).map (nxt L)).Perm (List.range L.flatten.length) := by
  induction L with
  | nil => simp
  | cons r L ih =>
    rw [List.flatten_cons, List.length_append, range_split, List.map_append, List.map_map]
    refine List.Perm.append ?_ ?_
    · have e : (List.range r.length).map (nxt (r :: L)) = (List.range r.length).map fun i => (i + 1) % r.length :=
        List.map_congr_left fun i hi => by simp only [nxt]; rw [if_pos (List.mem_range.1 hi)]
      rw [e]; exact rot_perm _
    · have e : (List.range L.flatten.length).map (nxt (r :: L) ∘ (r.length + ·)) = ((List.range L.flatten.length).map (nxt L)).map (r.length + ·) := by
        rw [List.map_map]
        refine List.map_congr_left fun i hi => ?_
        show nxt (r :: L) (r.length + i) = r.length + nxt L i
        simp only [nxt]; rw [if_neg (by omega), Nat.add_sub_cancel_left]
      rw [e]; exact ih.map _
theorem nxt_lt {L : List (List Int)} {i : Nat} (h : i < L.flatten.length) : nxt L i < L.flatten.length :=
  List.mem_range.1 ((nxt_perm L).mem_iff.1 (List.mem_map.2 ⟨i, List.mem_range.2 h, rfl⟩))
theorem flat_left {r : List Int} {L : List (List Int)} {i : Nat} (h : i < r.length) : (r :: L).flatten.getD i 0 = r.getD i 0 := by
  rw [List.flatten_cons, List.getD_eq_getElem?_getD, List.getD_eq_getElem?_getD, List.getElem?_append_left h]
theorem flat_right {r : List Int} {L : List (List Int)} {i : Nat} : (r :: L).flatten.getD (r.length + i) 0 = L.flatten.getD i 0 := by
  rw [List.flatten_cons, List.getD_eq_getElem?_getD, List.getD_eq_getElem?_getD, List.getElem?_append_right (by omega), Nat.add_sub_cancel_left]
/-- The corners, by sides. -/
theorem corners_sides (L : List (List Int)) : corners L = (List.range L.flatten.length).map fun i => (endN (L.flatten.getD i 0), begN (L.flatten.getD (nxt L i) 0)) := by
  induction L with
  | nil => rfl
  | cons r L ih =>
    show (r :: L).flatMap (fun r => (List.range r.length).map (corner r)) = _
    rw [List.flatMap_cons, List.flatten_cons, List.length_append, range_split, List.map_append, List.map_map]
    congr 1
    · refine List.map_congr_left fun i hi => ?_
      have hi := List.mem_range.1 hi
      have h2 : (i + 1) % r.length < r.length := Nat.mod_lt _ (by omega)
      rw [show (r ++ L.flatten) = (r :: L).flatten from rfl, show nxt (r :: L) i = (i + 1) % r.length from by simp only [nxt]; rw [if_pos hi], flat_left hi, flat_left h2]
      rfl
    · rw [show L.flatMap (fun r => (List.range r.length).map (corner r)) = corners L from rfl, ih]
      refine List.map_congr_left fun i hi => ?_
      show _ = (endN ((r ++ L.flatten).getD (r.length + i) 0), begN ((r ++ L.flatten).getD (nxt (r :: L) (r.length + i)) 0))
      rw [show (r ++ L.flatten) = (r :: L).flatten from rfl, show nxt (r :: L) (r.length + i) = r.length + nxt L i from by simp only [nxt]; rw [if_neg (by omega), Nat.add_sub_cancel_left], flat_right, flat_right]
theorem pol_nxt {L : List (List Int)} {i : Nat} (h : i < L.flatten.length) : pol L (nxt L i) = pol L i := by
  induction L generalizing i with
  | nil => rfl
  | cons r L ih =>
    by_cases hi : i < r.length
    · rw [nxt_in hi, pol_in hi, pol_in (Nat.mod_lt _ (by omega))]
    · obtain ⟨k, rfl⟩ : ∃ k, i = r.length + k := ⟨i - r.length, by omega⟩
      rw [List.flatten_cons, List.length_append] at h
      rw [nxt_out, pol_out, pol_out, ih (by omega)]
theorem pol_lt {L : List (List Int)} {i : Nat} (h : i < L.flatten.length) : pol L i < L.length := by
  induction L generalizing i with
  | nil => simp at h
  | cons r L ih =>
    simp only [pol]
    rw [List.flatten_cons, List.length_append] at h
    split
    · simp
    · have := ih (i := i - r.length) (by omega); simp; omega
theorem pol_mem {L : List (List Int)} {i : Nat} (h : i < L.flatten.length) : L.flatten.getD i 0 ∈ L.getD (pol L i) [] := by
  induction L generalizing i with
  | nil => simp at h
  | cons r L ih =>
    rw [List.flatten_cons, List.length_append] at h
    simp only [pol]
    by_cases hi : i < r.length
    · rw [if_pos hi, flat_left hi]
      simp [List.getD_eq_getElem?_getD, hi]
    · rw [if_neg hi]
      have e : i = r.length + (i - r.length) := by omega
      rw [e, flat_right, Nat.add_sub_cancel_left]
      have := ih (i := i - r.length) (by omega)
      simpa using this
theorem pol_side {L : List (List Int)} {p : Nat} {x : Int} (hp : p < L.length) (hx : x ∈ L.getD p []) : ∃ i, i < L.flatten.length ∧ pol L i = p ∧ L.flatten.getD i 0 = x := by
  induction L generalizing p with
  | nil => simp at hp
  | cons r L ih =>
    cases p with
    | zero =>
      obtain ⟨i, hi, rfl⟩ := List.mem_iff_getElem.1 (show x ∈ r by simpa using hx)
      refine ⟨i, by rw [List.flatten_cons, List.length_append]; omega, by simp only [pol]; rw [if_pos hi], ?_⟩
      rw [flat_left hi]; simp [List.getD_eq_getElem?_getD, hi]
    | succ p =>
      obtain ⟨i, hi, h1, h2⟩ := ih (p := p) (by simpa using hp) (by simpa using hx)
      refine ⟨r.length + i, by rw [List.flatten_cons, List.length_append]; omega, ?_, by rw [flat_right]; exact h2⟩
      simp only [pol]; rw [if_neg (by omega), Nat.add_sub_cancel_left, h1]
/-- What passes from each side to the next is the same on a polygon. -/
theorem pol_chain {L : List (List Int)} {g : Nat → Nat} (hg : ∀ i, i < L.flatten.length → g (nxt L i) = g i) {i j : Nat} (hi : i < L.flatten.length) (hj : j < L.flatten.length) (e : pol L i = pol L j) : g i = g j := by
  induction L generalizing g i j with
  | nil => simp at hi
  | cons r L ih =>
    rw [List.flatten_cons, List.length_append] at hi hj
    have base : ∀ k, k < r.length → g k = g 0 := by
      intro k
      induction k with
      | zero => intro _; rfl
      | succ k ihk =>
        intro hk
        have h1 := hg k (by rw [List.flatten_cons, List.length_append]; omega)
        simp only [nxt] at h1
        rw [if_pos (by omega), Nat.mod_eq_of_lt hk] at h1
        rw [h1]; exact ihk (by omega)
    simp only [pol] at e
    by_cases h1 : i < r.length
    · by_cases h2 : j < r.length
      · rw [base i h1, base j h2]
      · rw [if_pos h1, if_neg h2] at e; omega
    · by_cases h2 : j < r.length
      · rw [if_neg h1, if_pos h2] at e; omega
      · rw [if_neg h1, if_neg h2] at e
        have := ih (g := fun k => g (r.length + k)) (fun k hk => by
          have h3 := hg (r.length + k) (by rw [List.flatten_cons, List.length_append]; omega)
          simp only [nxt] at h3
          rw [if_neg (by omega), Nat.add_sub_cancel_left] at h3
          exact h3) (i := i - r.length) (j := j - r.length) (by omega) (by omega) (by omega)
        rw [show r.length + (i - r.length) = i by omega, show r.length + (j - r.length) = j by omega] at this
        exact this

/-- The letter's end where a side's end lies. -/
def phi (L : List (List Int)) (v : Nat) : Nat := if v % 2 = 0 then begN (L.flatten.getD (v / 2) 0) else endN (L.flatten.getD (v / 2) 0)
theorem phi_even (L : List (List Int)) (i : Nat) : phi L (2 * i) = begN (L.flatten.getD i 0) := by unfold phi; rw [if_pos (by omega), show 2 * i / 2 = i by omega]
theorem phi_odd (L : List (List Int)) (i : Nat) : phi L (2 * i + 1) = endN (L.flatten.getD i 0) := by unfold phi; rw [if_neg (by omega), show (2 * i + 1) / 2 = i by omega]
theorem phi_half (L : List (List Int)) (v : Nat) : phi L v / 2 = (L.flatten.getD (v / 2) 0).natAbs := by unfold phi; split; exact begN_half _; exact endN_half _
/-- The sides of a letter. -/
def pos (L : List (List Int)) (k : Nat) : List Nat := (List.range L.flatten.length).filter fun i => (L.flatten.getD i 0).natAbs == k
theorem range_get (l : List Int) : (List.range l.length).map (fun i => l.getD i 0) = l := by
  apply List.ext_getElem?
  intro i
  by_cases h : i < l.length
  · simp [h, List.getD_eq_getElem?_getD]
  · rw [List.getElem?_eq_none (by simp; omega), List.getElem?_eq_none (by omega)]
theorem pos_len {L : List (List Int)} {k : Nat} (hk : k < 9) : ((pos L k).length : Int) = (uses L).getD k 0 := by
  unfold uses
  rw [count_get _ _ hk]
  have : (L.flatten.filter fun x => x.natAbs == k) = (pos L k).map (fun i => L.flatten.getD i 0) := by
    conv => lhs; rw [← range_get L.flatten, List.filter_map]
    rfl
  rw [this, List.length_map]
theorem pos_mem {L : List (List Int)} {k i : Nat} : i ∈ pos L k ↔ i < L.flatten.length ∧ (L.flatten.getD i 0).natAbs = k := by
  unfold pos; rw [List.mem_filter, List.mem_range, beq_iff_eq]
theorem pos_nodup (L : List (List Int)) (k : Nat) : (pos L k).Nodup := List.nodup_range.filter _
def sideA (L : List (List Int)) (k : Nat) : Nat := (pos L k).getD 0 0
def sideB (L : List (List Int)) (k : Nat) : Nat := (pos L k).getD 1 0
theorem pos_one {L : List (List Int)} {k : Nat} (h : k ∈ lettersN L 1 1) : pos L k = [sideA L k] := by
  unfold lettersN at h
  obtain ⟨h1, h2⟩ := List.mem_filter.1 h
  have h3 := of_decide_eq_true h2
  have hl := pos_len (L := L) (List.mem_range.1 h1)
  have hl : (pos L k).length = 1 := by omega
  unfold sideA
  obtain ⟨a, ha⟩ := List.length_eq_one_iff.1 hl
  rw [ha]; rfl
theorem pos_two {L : List (List Int)} {k : Nat} (h : k ∈ lettersN L 2 2) : pos L k = [sideA L k, sideB L k] := by
  unfold lettersN at h
  obtain ⟨h1, h2⟩ := List.mem_filter.1 h
  have h3 := of_decide_eq_true h2
  have hl := pos_len (L := L) (List.mem_range.1 h1)
  have hl : (pos L k).length = 2 := by omega
  unfold sideA sideB
  generalize pos L k = l at *
  match l, hl with
  | [a, b], _ => rfl
theorem flat_filter {ks : List Nat} {f : Nat → Nat} : ∀ l : List Nat, ks.Nodup → (∀ i ∈ l, f i ∈ ks) → (ks.flatMap fun k => l.filter fun i => f i == k).Perm l := by
  induction ks with
  | nil =>
    intro l _ h
    cases l with
    | nil => simp
    | cons x l => exact absurd (h x (by simp)) (by simp)
  | cons k ks ih =>
    intro l hn h
    rw [List.nodup_cons] at hn
    rw [List.flatMap_cons]
    have hp := List.filter_append_perm (fun i => f i == k) l
    refine List.Perm.trans ?_ hp
    refine List.Perm.append_left _ ?_
    have h2 := ih (l.filter fun i => !(f i == k)) hn.2 (fun i hi => by
      obtain ⟨h1, h2⟩ := List.mem_filter.1 hi
      have := h i h1
      rcases List.mem_cons.1 this with e | e
      · simp [e] at h2
      · exact e)
    have e : ks.flatMap (fun k => l.filter fun i => f i == k) = ks.flatMap (fun k' => (l.filter fun i => !(f i == k)).filter fun i => f i == k') := by
      have key : ∀ ms : List Nat, (∀ m ∈ ms, m ≠ k) → ms.flatMap (fun k => l.filter fun i => f i == k) = ms.flatMap (fun k' => (l.filter fun i => !(f i == k)).filter fun i => f i == k') := by
        intro ms
        induction ms with
        | nil => intro _; rfl
        | cons m ms ihm =>
          intro hm
          rw [List.flatMap_cons, List.flatMap_cons, ihm (fun x hx => hm x (List.mem_cons_of_mem _ hx))]
          congr 1
          rw [List.filter_filter]
          refine List.filter_congr fun i _ => ?_
          have hmk := hm m (List.mem_cons_self ..)
          by_cases hf : f i = m
          · have : ¬ m = k := hmk
            simp [hf, this]
          · simp [hf]
      exact key ks (fun m hm hmk => hn.1 (hmk ▸ hm))
    rw [e]; exact h2
end Glue

namespace Glue
variable {L : List (List Int)}
/-- The letter's two sides are glued beginning to end. -/
def flagOf (L : List (List Int)) (k : Nat) : Bool := decide (L.flatten.getD (sideA L k) 0 = - L.flatten.getD (sideB L k) 0)
def scheme (L : List (List Int)) : Cls.Scheme where
  n := L.flatten.length
  nx := nxt L
  T := (lettersN L 2 2).map fun k => (sideA L k, sideB L k, flagOf L k)
  Fr := (lettersN L 1 1).map (sideA L)
theorem use_of (h : IsG L) {i : Nat} (hi : i < L.flatten.length) : (L.flatten.getD i 0).natAbs ∈ lettersN L 2 2 ++ lettersN L 1 1 := by
  have hx := pol_mem hi
  have hp := pol_lt hi
  have hr : L.getD (pol L i) [] ∈ L := by
    rw [List.getD_eq_getElem?_getD, List.getElem?_eq_getElem hp]; exact List.getElem_mem hp
  have := occurs h hr hx
  unfold lettersN at this ⊢
  obtain ⟨h1, h2⟩ := List.mem_filter.1 this
  have h2 := of_decide_eq_true h2
  rw [List.mem_append, List.mem_filter, List.mem_filter]
  by_cases e : (uses L).getD (L.flatten.getD i 0).natAbs 0 = 1
  · exact Or.inr ⟨h1, decide_eq_true (by omega)⟩
  · exact Or.inl ⟨h1, decide_eq_true (by omega)⟩
theorem letters_nodup : (lettersN L 2 2 ++ lettersN L 1 1).Nodup := by
  rw [List.nodup_append]
  refine ⟨lettersN_nodup _ _ _, lettersN_nodup _ _ _, fun x hx y hy => ?_⟩
  rintro rfl
  unfold lettersN at hx hy
  have h1 := of_decide_eq_true (List.mem_filter.1 hx).2
  have h2 := of_decide_eq_true (List.mem_filter.1 hy).2
  omega
theorem sides_eq : Cls.sidesOf (scheme L).T ++ (scheme L).Fr = (lettersN L 2 2 ++ lettersN L 1 1).flatMap (pos L) := by
  rw [List.flatMap_append]
  congr 1
  · show Cls.sidesOf ((lettersN L 2 2).map fun k => (sideA L k, sideB L k, flagOf L k)) = _
    unfold Cls.sidesOf
    rw [List.flatMap_map]
    have key : ∀ ms : List Nat, (∀ m ∈ ms, m ∈ lettersN L 2 2) → ms.flatMap (fun k => [sideA L k, sideB L k]) = ms.flatMap (pos L) := by
      intro ms
      induction ms with
      | nil => intro _; rfl
      | cons m ms ih => intro hm; rw [List.flatMap_cons, List.flatMap_cons, ih (fun x hx => hm x (List.mem_cons_of_mem _ hx)), pos_two (hm m (List.mem_cons_self ..))]
    exact key _ (fun _ h => h)
  · show (lettersN L 1 1).map (sideA L) = _
    have key : ∀ ms : List Nat, (∀ m ∈ ms, m ∈ lettersN L 1 1) → ms.map (sideA L) = ms.flatMap (pos L) := by
      intro ms
      induction ms with
      | nil => intro _; rfl
      | cons m ms ih => intro hm; rw [List.map_cons, List.flatMap_cons, ih (fun x hx => hm x (List.mem_cons_of_mem _ hx)), pos_one (hm m (List.mem_cons_self ..))]; rfl
    exact key _ (fun _ h => h)
theorem scheme_ok (h : IsG L) : (scheme L).Ok := ⟨nxt_perm L, by
  rw [sides_eq]
  exact flat_filter (f := fun i => (L.flatten.getD i 0).natAbs) _ letters_nodup (fun i hi => use_of h (List.mem_range.1 hi))⟩
/-- Two different sides of one letter are its first and its second one. -/
theorem pair_of (h : IsG L) {i j : Nat} (hi : i < L.flatten.length) (hj : j < L.flatten.length) (hij : i ≠ j) (e : (L.flatten.getD i 0).natAbs = (L.flatten.getD j 0).natAbs) :
    (L.flatten.getD i 0).natAbs ∈ lettersN L 2 2 ∧ ((i = sideA L (L.flatten.getD i 0).natAbs ∧ j = sideB L (L.flatten.getD i 0).natAbs) ∨ (j = sideA L (L.flatten.getD i 0).natAbs ∧ i = sideB L (L.flatten.getD i 0).natAbs)) := by
  have h1 : i ∈ pos L (L.flatten.getD i 0).natAbs := pos_mem.2 ⟨hi, rfl⟩
  have h2 : j ∈ pos L (L.flatten.getD i 0).natAbs := pos_mem.2 ⟨hj, e.symm⟩
  rcases List.mem_append.1 (use_of h hi) with hu | hu
  · refine ⟨hu, ?_⟩
    rw [pos_two hu] at h1 h2
    simp only [List.mem_cons, List.not_mem_nil, or_false] at h1 h2
    omega
  · rw [pos_one hu] at h1 h2
    simp only [List.mem_singleton] at h1 h2
    omega
theorem beg_ne_end {x : Int} (hx : x ≠ 0) : begN x ≠ endN x := by unfold endN begN; split <;> split <;> omega
theorem beg_end {x : Int} (hx : x ≠ 0) : (begN x = 2 * x.natAbs ∧ endN x = 2 * x.natAbs + 1) ∨ (begN x = 2 * x.natAbs + 1 ∧ endN x = 2 * x.natAbs) := by
  unfold endN begN
  rcases (show x < 0 ∨ 0 < x by omega) with h | h
  · right; rw [if_pos h, if_neg (by omega)]; omega
  · left; rw [if_neg (by omega), if_pos (by omega)]; omega
theorem getD_ne (h : IsG L) {i : Nat} (hi : i < L.flatten.length) : L.flatten.getD i 0 ≠ 0 := by
  have := letters_of h.w _ (show L.flatten.getD i 0 ∈ L.flatten by
    rw [List.getD_eq_getElem?_getD, List.getElem?_eq_getElem hi]; exact List.getElem_mem hi)
  exact this.1
theorem side_lt (h : IsG L) {k : Nat} (hk : k ∈ lettersN L 2 2) : sideA L k < L.flatten.length ∧ sideB L k < L.flatten.length ∧ (L.flatten.getD (sideA L k) 0).natAbs = k ∧ (L.flatten.getD (sideB L k) 0).natAbs = k := by
  have hp := pos_two hk
  have h1 : sideA L k ∈ pos L k := by rw [hp]; simp
  have h2 : sideB L k ∈ pos L k := by rw [hp]; simp
  exact ⟨(pos_mem.1 h1).1, (pos_mem.1 h2).1, (pos_mem.1 h1).2, (pos_mem.1 h2).2⟩
theorem side_lt1 {k : Nat} (hk : k ∈ lettersN L 1 1) : sideA L k < L.flatten.length ∧ (L.flatten.getD (sideA L k) 0).natAbs = k := by
  have hp := pos_one hk
  exact pos_mem.1 (show sideA L k ∈ pos L k by rw [hp]; simp)
theorem glue_phi (h : IsG L) {k : Nat} (hk : k ∈ lettersN L 2 2) : ∀ p ∈ Cls.glue (sideA L k, sideB L k, flagOf L k), phi L p.1 = phi L p.2 := by
  obtain ⟨_, _, h1, h2⟩ := side_lt h hk
  intro p hp
  unfold Cls.glue flagOf at hp
  by_cases e : L.flatten.getD (sideA L k) 0 = - L.flatten.getD (sideB L k) 0
  · rw [if_pos (by simpa using e)] at hp
    simp only [List.mem_cons, List.not_mem_nil, or_false] at hp
    rcases hp with rfl | rfl
    · show phi L (2 * sideA L k) = phi L (2 * sideB L k + 1); rw [phi_even, phi_odd, e]; rfl
    · show phi L (2 * sideA L k + 1) = phi L (2 * sideB L k); rw [phi_even, phi_odd, e]; unfold endN; rw [Int.neg_neg]
  · have e2 : L.flatten.getD (sideA L k) 0 = L.flatten.getD (sideB L k) 0 := by omega
    rw [if_neg (by simpa using e)] at hp
    simp only [List.mem_cons, List.not_mem_nil, or_false] at hp
    rcases hp with rfl | rfl
    · show phi L (2 * sideA L k) = phi L (2 * sideB L k); rw [phi_even, phi_even, e2]
    · show phi L (2 * sideA L k + 1) = phi L (2 * sideB L k + 1); rw [phi_odd, phi_odd, e2]
/-- Sides' ends that lie at the same letter's end are glued. -/
theorem phi_glue (h : IsG L) {es : List (Nat × Nat)} (hes : ∀ k ∈ lettersN L 2 2, ∀ p ∈ Cls.glue (sideA L k, sideB L k, flagOf L k), Cls.mergeAll es p.1 = Cls.mergeAll es p.2)
    {u v : Nat} (hu : u < 2 * L.flatten.length) (hv : v < 2 * L.flatten.length) (e : phi L u = phi L v) : Cls.mergeAll es u = Cls.mergeAll es v := by
  have eh : (L.flatten.getD (u / 2) 0).natAbs = (L.flatten.getD (v / 2) 0).natAbs := by rw [← phi_half, ← phi_half, e]
  have key : ∀ u v, u < 2 * L.flatten.length → v < 2 * L.flatten.length → phi L u = phi L v → ∀ k, k ∈ lettersN L 2 2 → u / 2 = sideA L k → v / 2 = sideB L k → Cls.mergeAll es u = Cls.mergeAll es v := by
    intro u v hu hv e k hk ea eb
    obtain ⟨hA, hB, h1, h2⟩ := side_lt h hk
    have hg := hes k hk
    have nA := beg_ne_end (getD_ne h hA)
    have nB := beg_ne_end (getD_ne h hB)
    unfold Cls.glue flagOf at hg
    have hu2 : u = 2 * sideA L k ∨ u = 2 * sideA L k + 1 := by omega
    have hv2 : v = 2 * sideB L k ∨ v = 2 * sideB L k + 1 := by omega
    by_cases ef : L.flatten.getD (sideA L k) 0 = - L.flatten.getD (sideB L k) 0
    · rw [if_pos (by simpa using ef)] at hg
      rcases hu2 with rfl | rfl <;> rcases hv2 with rfl | rfl
      · rw [phi_even, phi_even, ef] at e; exact absurd e.symm nB
      · exact hg (2 * sideA L k, 2 * sideB L k + 1) (by simp)
      · exact hg (2 * sideA L k + 1, 2 * sideB L k) (by simp)
      · rw [phi_odd, phi_odd, ef] at e; unfold endN at e; rw [Int.neg_neg] at e; exact absurd e nB
    · have e2 : L.flatten.getD (sideA L k) 0 = L.flatten.getD (sideB L k) 0 := by omega
      rw [if_neg (by simpa using ef)] at hg
      rcases hu2 with rfl | rfl <;> rcases hv2 with rfl | rfl
      · exact hg (2 * sideA L k, 2 * sideB L k) (by simp)
      · rw [phi_even, phi_odd, e2] at e; exact absurd e nB
      · rw [phi_even, phi_odd, e2] at e; exact absurd e.symm nB
      · exact hg (2 * sideA L k + 1, 2 * sideB L k + 1) (by simp)
  by_cases hs : u / 2 = v / 2
  · by_cases huv : u = v
    · rw [huv]
    · exfalso
      have nU := beg_ne_end (getD_ne h (show u / 2 < L.flatten.length by omega))
      rcases (show (u = 2 * (u / 2) ∧ v = 2 * (u / 2) + 1) ∨ (u = 2 * (u / 2) + 1 ∧ v = 2 * (u / 2)) by omega) with ⟨h1, h2⟩ | ⟨h1, h2⟩
      · rw [h1, h2, phi_even, phi_odd] at e; exact nU (by have := e; simpa using this)
      · rw [h1, h2, phi_even, phi_odd] at e; exact nU (by have := e.symm; simpa using this)
  · obtain ⟨hk, hc⟩ := pair_of h (show u / 2 < L.flatten.length by omega) (show v / 2 < L.flatten.length by omega) hs eh
    rcases hc with ⟨ha, hb⟩ | ⟨ha, hb⟩
    · exact key u v hu hv e _ hk ha hb
    · exact (key v u hv hu e.symm _ hk ha hb).symm
/-- Classes of sides' ends and of letters' ends are the same. -/
theorem bridge (h : IsG L) {es ms : List (Nat × Nat)} (hes : ∀ k ∈ lettersN L 2 2, ∀ p ∈ Cls.glue (sideA L k, sideB L k, flagOf L k), Cls.mergeAll es p.1 = Cls.mergeAll es p.2)
    (h1 : ∀ p ∈ es, Cls.mergeAll ms (phi L p.1) = Cls.mergeAll ms (phi L p.2))
    (h2 : ∀ p ∈ ms, ∃ u v, u < 2 * L.flatten.length ∧ v < 2 * L.flatten.length ∧ p = (phi L u, phi L v) ∧ Cls.mergeAll es u = Cls.mergeAll es v)
    {u v : Nat} (hu : u < 2 * L.flatten.length) (hv : v < 2 * L.flatten.length) : Cls.mergeAll es u = Cls.mergeAll es v ↔ Cls.mergeAll ms (phi L u) = Cls.mergeAll ms (phi L v) := by
  constructor
  · intro e; exact Cls.ker_le (F := fun x => Cls.mergeAll ms (phi L x)) h1 e
  · intro e
    classical
    let G : Nat → Nat := fun m => if hx : ∃ x, x < 2 * L.flatten.length ∧ phi L x = m then Cls.mergeAll es (Classical.choose hx) else 0
    have hG : ∀ x, x < 2 * L.flatten.length → G (phi L x) = Cls.mergeAll es x := fun x hx => by
      have hex : ∃ y, y < 2 * L.flatten.length ∧ phi L y = phi L x := ⟨x, hx, rfl⟩
      show (if hx : ∃ y, y < 2 * L.flatten.length ∧ phi L y = phi L x then Cls.mergeAll es (Classical.choose hx) else 0) = _
      rw [dif_pos hex]
      obtain ⟨h3, h4⟩ := Classical.choose_spec hex
      exact phi_glue h hes h3 hx h4
    have := Cls.ker_le (F := G) (l := ms) (fun p hp => by
      obtain ⟨a, b, ha, hb, rfl, hab⟩ := h2 p hp
      show G (phi L a) = G (phi L b)
      rw [hG a ha, hG b hb, hab]) e
    rwa [hG u hu, hG v hv] at this
theorem glue_mem {k : Nat} (hk : k ∈ lettersN L 2 2) {p : Nat × Nat} (hp : p ∈ Cls.glue (sideA L k, sideB L k, flagOf L k)) : p ∈ (scheme L).glued :=
  List.mem_append.2 (Or.inr (List.mem_flatMap.2 ⟨_, List.mem_map.2 ⟨k, hk, rfl⟩, hp⟩))
theorem corner_mem {i : Nat} (hi : i < L.flatten.length) : (2 * i + 1, 2 * nxt L i) ∈ (scheme L).glued :=
  List.mem_append.2 (Or.inl (List.mem_map.2 ⟨i, List.mem_range.2 hi, rfl⟩))
theorem glued_cases {p : Nat × Nat} (hp : p ∈ (scheme L).glued) : (∃ i, i < L.flatten.length ∧ p = (2 * i + 1, 2 * nxt L i)) ∨ ∃ k ∈ lettersN L 2 2, p ∈ Cls.glue (sideA L k, sideB L k, flagOf L k) := by
  rcases List.mem_append.1 hp with hp | hp
  · obtain ⟨i, hi, rfl⟩ := List.mem_map.1 hp
    exact Or.inl ⟨i, List.mem_range.1 hi, rfl⟩
  · obtain ⟨t, ht, hp⟩ := List.mem_flatMap.1 hp
    obtain ⟨k, hk, rfl⟩ := List.mem_map.1 ht
    exact Or.inr ⟨k, hk, hp⟩
theorem corner_side {i : Nat} (hi : i < L.flatten.length) : (phi L (2 * i + 1), phi L (2 * nxt L i)) ∈ corners L := by
  rw [corners_sides, phi_odd, phi_even]
  exact List.mem_map.2 ⟨i, List.mem_range.2 hi, rfl⟩
theorem corners_cases {p : Nat × Nat} (hp : p ∈ corners L) : ∃ i, i < L.flatten.length ∧ p = (phi L (2 * i + 1), phi L (2 * nxt L i)) := by
  rw [corners_sides] at hp
  obtain ⟨i, hi, rfl⟩ := List.mem_map.1 hp
  exact ⟨i, List.mem_range.1 hi, by rw [phi_odd, phi_even]⟩
theorem ker_cor (h : IsG L) {u v : Nat} (hu : u < 2 * L.flatten.length) (hv : v < 2 * L.flatten.length) : Cls.mergeAll (scheme L).glued u = Cls.mergeAll (scheme L).glued v ↔ cor L (phi L u) = cor L (phi L v) := by
  refine bridge h (fun k hk p hp => Cls.eq_of_mem (glue_mem hk hp)) (fun p hp => ?_) (fun p hp => ?_) hu hv
  · rcases glued_cases hp with ⟨i, hi, rfl⟩ | ⟨k, hk, hp⟩
    · exact Cls.eq_of_mem (corner_side hi)
    · rw [glue_phi h hk p hp]
  · obtain ⟨i, hi, rfl⟩ := corners_cases hp
    have := nxt_lt hi
    exact ⟨_, _, by omega, by omega, rfl, Cls.eq_of_mem (corner_mem hi)⟩
theorem span_phi (h : IsG L) {k : Nat} (hk : k ∈ lettersN L 1 1) : (phi L (2 * sideA L k) = 2 * k ∧ phi L (2 * sideA L k + 1) = 2 * k + 1) ∨ (phi L (2 * sideA L k) = 2 * k + 1 ∧ phi L (2 * sideA L k + 1) = 2 * k) := by
  obtain ⟨h1, h2⟩ := side_lt1 hk
  rw [phi_even, phi_odd]
  have := beg_end (getD_ne h h1)
  rw [h2] at this
  exact this
theorem ker_sewn (h : IsG L) {u v : Nat} (hu : u < 2 * L.flatten.length) (hv : v < 2 * L.flatten.length) : Cls.mergeAll (scheme L).closed u = Cls.mergeAll (scheme L).closed v ↔ sewn L (phi L u) = sewn L (phi L v) := by
  have hcl : ∀ p, p ∈ (scheme L).glued → p ∈ (scheme L).closed := fun p hp => List.mem_append.2 (Or.inl hp)
  have hsp : ∀ k ∈ lettersN L 1 1, Cls.mergeAll (scheme L).closed (2 * sideA L k) = Cls.mergeAll (scheme L).closed (2 * sideA L k + 1) := fun k hk =>
    Cls.eq_of_mem (List.mem_append.2 (Or.inr (List.mem_flatMap.2 ⟨_, List.mem_map.2 ⟨k, hk, rfl⟩, by simp [Cls.span]⟩)))
  have hsw : ∀ k ∈ lettersN L 1 1, sewn L (2 * k) = sewn L (2 * k + 1) := fun k hk =>
    Cls.eq_of_mem (List.mem_append.2 (Or.inr (List.mem_map.2 ⟨k, hk, rfl⟩)))
  refine bridge h (fun k hk p hp => Cls.eq_of_mem (hcl _ (glue_mem hk hp))) (fun p hp => ?_) (fun p hp => ?_) hu hv
  · rcases List.mem_append.1 hp with hp | hp
    · rcases glued_cases hp with ⟨i, hi, rfl⟩ | ⟨k, hk, hp⟩
      · exact Cls.eq_of_mem (List.mem_append.2 (Or.inl (corner_side hi)))
      · rw [glue_phi h hk p hp]
    · obtain ⟨x, hx, hp⟩ := List.mem_flatMap.1 hp
      obtain ⟨k, hk, rfl⟩ := List.mem_map.1 hx
      rw [List.mem_singleton.1 hp]
      have := hsw k hk
      rcases span_phi h hk with ⟨e1, e2⟩ | ⟨e1, e2⟩
      · show sewn L (phi L (2 * sideA L k)) = sewn L (phi L (2 * sideA L k + 1)); rw [e1, e2]; exact this
      · show sewn L (phi L (2 * sideA L k)) = sewn L (phi L (2 * sideA L k + 1)); rw [e1, e2]; exact this.symm
  · rcases List.mem_append.1 hp with hp | hp
    · obtain ⟨i, hi, rfl⟩ := corners_cases hp
      have := nxt_lt hi
      exact ⟨_, _, by omega, by omega, rfl, Cls.eq_of_mem (hcl _ (corner_mem hi))⟩
    · obtain ⟨k, hk, rfl⟩ := List.mem_map.1 hp
      have hA := (side_lt1 hk).1
      rcases span_phi h hk with ⟨e1, e2⟩ | ⟨e1, e2⟩
      · exact ⟨2 * sideA L k, 2 * sideA L k + 1, by omega, by omega, by rw [e1, e2], hsp k hk⟩
      · exact ⟨2 * sideA L k + 1, 2 * sideA L k, by omega, by omega, by rw [e1, e2], (hsp k hk).symm⟩
theorem phi_ends (h : IsG L) {m : Nat} : (∃ u ∈ List.range (2 * L.flatten.length), phi L u = m) ↔ m ∈ ends (lettersN L 1 2) := by
  rw [ends_mem]
  constructor
  · rintro ⟨u, hu, rfl⟩
    rw [phi_half]
    have hi : u / 2 < L.flatten.length := by have := List.mem_range.1 hu; omega
    have hr : L.getD (pol L (u / 2)) [] ∈ L := by
      rw [List.getD_eq_getElem?_getD, List.getElem?_eq_getElem (pol_lt hi)]; exact List.getElem_mem _
    exact occurs h hr (pol_mem hi)
  · intro hm
    obtain ⟨p, hp, hx⟩ := letter_has hm
    obtain ⟨y, hy, e⟩ := has_iff.1 hx
    obtain ⟨i, hi, _, rfl⟩ := pol_side hp hy
    rcases (show begN (L.flatten.getD i 0) = m ∨ endN (L.flatten.getD i 0) = m by have := beg_end (getD_ne h hi); omega) with e2 | e2
    · exact ⟨2 * i, List.mem_range.2 (by omega), by rw [phi_even]; exact e2⟩
    · exact ⟨2 * i + 1, List.mem_range.2 (by omega), by rw [phi_odd]; exact e2⟩
theorem num_cor (h : IsG L) : Cls.num (2 * L.flatten.length) (Cls.mergeAll (scheme L).glued) = vertices L := by
  rw [Cls.num_found (N := 2 * L.flatten.length) (Cls.Ok.all (show Cls.In (2 * L.flatten.length) _ from (scheme_ok h).gluedIn)), ← vertices_found h]
  rw [Cls.found_ker (g := fun u => cor L (phi L u)) (fun i hi j hj => ker_cor h (List.mem_range.1 hi) (List.mem_range.1 hj))]
  refine Cls.found_same fun x => ?_
  constructor
  · rintro ⟨u, hu, rfl⟩; exact ⟨phi L u, (phi_ends h).1 ⟨u, hu, rfl⟩, rfl⟩
  · rintro ⟨m, hm, rfl⟩
    obtain ⟨u, hu, rfl⟩ := (phi_ends h).2 hm
    exact ⟨u, hu, rfl⟩
theorem circles_borders (h : IsG L) : (scheme L).circles = borders L := by
  rw [← borders_found]
  unfold Cls.Scheme.circles
  show (Cls.found (Cls.mergeAll (scheme L).closed) (((lettersN L 1 1).map (sideA L)).map fun x => 2 * x)).length = _
  unfold begins
  rw [List.map_map, Cls.found_map, Cls.found_map]
  refine Cls.found_ker fun i hi j hj => ?_
  have hA := (side_lt1 hi).1
  have hB := (side_lt1 hj).1
  show Cls.mergeAll (scheme L).closed (2 * sideA L i) = Cls.mergeAll (scheme L).closed (2 * sideA L j) ↔ sewn L (2 * i) = sewn L (2 * j)
  rw [ker_sewn h (by omega) (by omega)]
  have key : ∀ k ∈ lettersN L 1 1, sewn L (phi L (2 * sideA L k)) = sewn L (2 * k) := fun k hk => by
    have : sewn L (2 * k) = sewn L (2 * k + 1) := Cls.eq_of_mem (List.mem_append.2 (Or.inr (List.mem_map.2 ⟨k, hk, rfl⟩)))
    rcases span_phi h hk with ⟨e1, _⟩ | ⟨e1, _⟩
    · rw [e1]
    · rw [e1, this]
  rw [key i hi, key j hj]
theorem tied_pol {A : List (Nat × Nat × Bool)} {i j : Nat} (hi : i < L.flatten.length) (hj : j < L.flatten.length) (e : pol L i = pol L j) : Cls.mergeAll ((scheme L).tied A) (2 * i) = Cls.mergeAll ((scheme L).tied A) (2 * j) := by
  refine pol_chain (g := fun i => Cls.mergeAll ((scheme L).tied A) (2 * i)) (fun i hi => ?_) hi hj e
  have h1 := Cls.Scheme.tied_span (s := scheme L) (A := A) (x := i) hi
  have h2 := Cls.Scheme.tied_corner (s := scheme L) (A := A) (p := (2 * i + 1, 2 * nxt L i)) (List.mem_map.2 ⟨i, List.mem_range.2 hi, rfl⟩)
  exact (h1.trans h2).symm
theorem tied_half {A : List (Nat × Nat × Bool)} {u : Nat} (hu : u < 2 * L.flatten.length) : Cls.mergeAll ((scheme L).tied A) u = Cls.mergeAll ((scheme L).tied A) (2 * (u / 2)) := by
  rcases (show u = 2 * (u / 2) ∨ u = 2 * (u / 2) + 1 by omega) with e | e
  · rw [← e]
  · conv => lhs; rw [e]
    exact (Cls.Scheme.tied_span (s := scheme L) (A := A) (x := u / 2) (show u / 2 < L.flatten.length by omega)).symm
/-- The pairs of what hangs together, by polygons. -/
theorem tied_cases {A : List (Nat × Nat × Bool)} {p : Nat × Nat} (hp : p ∈ (scheme L).tied A) : (p.1 / 2 < L.flatten.length ∧ p.2 / 2 < L.flatten.length ∧ pol L (p.1 / 2) = pol L (p.2 / 2)) ∨ ∃ t ∈ A, p = (2 * t.1, 2 * t.2.1) := by
  rcases List.mem_append.1 hp with hp | hp
  · left
    rcases List.mem_append.1 hp with hp | hp
    · obtain ⟨i, hi, rfl⟩ := List.mem_map.1 hp
      have hi := List.mem_range.1 hi
      refine ⟨?_, ?_, ?_⟩
      · show (2 * i + 1) / 2 < _; rw [show (2 * i + 1) / 2 = i by omega]; exact hi
      · show (2 * nxt L i) / 2 < _; rw [show 2 * nxt L i / 2 = nxt L i by omega]; exact nxt_lt hi
      · show pol L ((2 * i + 1) / 2) = pol L ((2 * nxt L i) / 2); rw [show (2 * i + 1) / 2 = i by omega, show 2 * nxt L i / 2 = nxt L i by omega, pol_nxt hi]
    · obtain ⟨x, hx, hp⟩ := List.mem_flatMap.1 hp
      have hx := List.mem_range.1 hx
      rw [List.mem_singleton.1 hp]
      refine ⟨?_, ?_, ?_⟩
      · show 2 * x / 2 < _; rw [show 2 * x / 2 = x by omega]; exact hx
      · show (2 * x + 1) / 2 < _; rw [show (2 * x + 1) / 2 = x by omega]; exact hx
      · show pol L (2 * x / 2) = pol L ((2 * x + 1) / 2); rw [show 2 * x / 2 = x by omega, show (2 * x + 1) / 2 = x by omega]
  · obtain ⟨t, ht, rfl⟩ := List.mem_map.1 hp
    exact Or.inr ⟨t, ht, rfl⟩
theorem pol_all (h : IsG L) {x : Nat} : (∃ u ∈ List.range (2 * L.flatten.length), pol L (u / 2) = x) ↔ x < L.length := by
  constructor
  · rintro ⟨u, hu, rfl⟩
    exact pol_lt (by have := List.mem_range.1 hu; omega)
  · intro hx
    have hne : L.getD x [] ≠ [] := by
      rw [List.getD_eq_getElem?_getD, List.getElem?_eq_getElem hx]; exact (h.2.2.1 _ (List.getElem_mem hx)).1
    obtain ⟨y, hy⟩ := List.exists_mem_of_ne_nil _ hne
    obtain ⟨i, hi, e, _⟩ := pol_side hx hy
    exact ⟨2 * i, List.mem_range.2 (by omega), by rw [show 2 * i / 2 = i by omega]; exact e⟩
theorem num_polys (h : IsG L) : Cls.num (2 * L.flatten.length) (Cls.mergeAll ((scheme L).tied [])) = L.length := by
  rw [Cls.num_found (N := 2 * L.flatten.length) (Cls.Ok.all (show Cls.In (2 * L.flatten.length) _ from (scheme_ok h).tiedIn (fun _ ht => by cases ht)))]
  rw [Cls.found_ker (g := fun u => pol L (u / 2)) (fun i hi j hj => ?_)]
  · have : (Cls.found id (List.range L.length)).length = L.length := by
      rw [← Cls.tally_found (c := id) List.nodup_range (fun m hm => hm) (fun _ _ => rfl)]; unfold Cls.tally; rw [List.filter_eq_self.2 (fun a _ => by simp), List.length_range]
    conv => rhs; rw [← this]
    refine Cls.found_same fun x => ?_
    rw [pol_all h]
    exact ⟨fun hx => ⟨x, List.mem_range.2 hx, rfl⟩, fun ⟨n, hn, e⟩ => by rw [← e]; exact List.mem_range.1 hn⟩
  · have hi := List.mem_range.1 hi
    have hj := List.mem_range.1 hj
    constructor
    · intro e
      refine Cls.ker_le (F := fun u => pol L (u / 2)) (fun p hp => ?_) e
      rcases tied_cases hp with ⟨_, _, e⟩ | ⟨t, ht, _⟩
      · exact e
      · cases ht
    · intro e
      rw [tied_half hi, tied_half hj]
      exact tied_pol (by omega) (by omega) e
theorem num_parts (h : IsG L) : Cls.num (2 * L.flatten.length) (Cls.mergeAll ((scheme L).tied (scheme L).T)) = parts L := by
  rw [Cls.num_found (N := 2 * L.flatten.length) (Cls.Ok.all (show Cls.In (2 * L.flatten.length) _ from (scheme_ok h).tiedIn (fun _ ht => ht)))]
  rw [Cls.found_ker (g := fun u => ring L (pol L (u / 2))) (fun i hi j hj => ?_)]
  · unfold parts
    rw [Cls.tally_range (ring_ok L)]
    refine Cls.found_same fun x => ?_
    constructor
    · rintro ⟨u, hu, rfl⟩
      exact ⟨pol L (u / 2), List.mem_range.2 ((pol_all h).1 ⟨u, hu, rfl⟩), rfl⟩
    · rintro ⟨p, hp, rfl⟩
      obtain ⟨u, hu, e⟩ := (pol_all h).2 (List.mem_range.1 hp)
      exact ⟨u, hu, by simp only [e]⟩
  · have hi := List.mem_range.1 hi
    have hj := List.mem_range.1 hj
    constructor
    · intro e
      refine Cls.ker_le (F := fun u => ring L (pol L (u / 2))) (fun p hp => ?_) e
      rcases tied_cases hp with ⟨_, _, e⟩ | ⟨t, ht, rfl⟩
      · show ring L (pol L (p.1 / 2)) = ring L (pol L (p.2 / 2)); rw [e]
      · obtain ⟨k, hk, rfl⟩ := List.mem_map.1 ht
        obtain ⟨hA, hB, h1, h2⟩ := side_lt h hk
        show ring L (pol L (2 * sideA L k / 2)) = ring L (pol L (2 * sideB L k / 2))
        rw [show 2 * sideA L k / 2 = sideA L k by omega, show 2 * sideB L k / 2 = sideB L k by omega]
        exact ring_share h.w (x := k) (has_iff.2 ⟨_, pol_mem hA, h1⟩) (has_iff.2 ⟨_, pol_mem hB, h2⟩)
    · intro e
      classical
      let G : Nat → Nat := fun q => if hx : ∃ i, i < L.flatten.length ∧ pol L i = q then Cls.mergeAll ((scheme L).tied (scheme L).T) (2 * Classical.choose hx) else 0
      have hG : ∀ i, i < L.flatten.length → G (pol L i) = Cls.mergeAll ((scheme L).tied (scheme L).T) (2 * i) := fun i hi => by
        have hex : ∃ i', i' < L.flatten.length ∧ pol L i' = pol L i := ⟨i, hi, rfl⟩
        show (if hx : ∃ i', i' < L.flatten.length ∧ pol L i' = pol L i then Cls.mergeAll ((scheme L).tied (scheme L).T) (2 * Classical.choose hx) else 0) = _
        rw [dif_pos hex]
        obtain ⟨h3, h4⟩ := Classical.choose_spec hex
        exact tied_pol h3 hi h4
      have := Cls.ker_le (F := G) (l := Cls.tri (share L) 9 L.length 0 0) (fun p hp => by
        obtain ⟨hp1, hp2, x, hx, hs⟩ := Cls.tri_mem.1 hp
        unfold share at hs
        rw [Bool.and_eq_true] at hs
        obtain ⟨y, hy, ey⟩ := has_iff.1 hs.1
        obtain ⟨z, hz, ez⟩ := has_iff.1 hs.2
        obtain ⟨a, ha, pa, rfl⟩ := pol_side hp1 hy
        obtain ⟨b, hb, pb, rfl⟩ := pol_side (show p.2 < L.length by omega) hz
        rw [← pa, ← pb, hG a ha, hG b hb]
        have hab : a ≠ b := fun e => by rw [e, pb] at pa; omega
        obtain ⟨hk, hc⟩ := pair_of h ha hb hab (ey.trans ez.symm)
        have hl := Cls.Scheme.tied_link (s := scheme L) (A := (scheme L).T) (t := (sideA L (L.flatten.getD a 0).natAbs, sideB L (L.flatten.getD a 0).natAbs, flagOf L (L.flatten.getD a 0).natAbs)) (List.mem_map.2 ⟨_, hk, rfl⟩)
        rcases hc with ⟨e1, e2⟩ | ⟨e1, e2⟩
        · rw [← e1, ← e2] at hl; exact hl
        · rw [← e1, ← e2] at hl; exact hl.symm) e
      rw [hG _ (by omega), hG _ (by omega)] at this
      rw [tied_half hi, tied_half hj]; exact this
theorem letters_len (h : IsG L) : (lettersN L 1 2).length = (scheme L).T.length + (scheme L).Fr.length := by
  show _ = ((lettersN L 2 2).map _).length + ((lettersN L 1 1).map _).length
  rw [List.length_map, List.length_map, ← List.length_append]
  refine List.Perm.length_eq ((List.perm_ext_iff_of_nodup (lettersN_nodup _ _ _) letters_nodup).2 fun x => ?_)
  unfold lettersN
  simp only [List.mem_append, List.mem_filter, List.mem_range, decide_eq_true_eq]
  omega
/-- Euler's number is at most twice the parts less the circles of the boundary. -/
theorem euler_le (h : IsG L) : vertices L + L.length + borders L ≤ 2 * parts L + (lettersN L 1 2).length := by
  have := (scheme_ok h).bound
  rw [letters_len h, ← num_cor h, ← num_parts h, ← circles_borders h]
  have h2 := num_polys h
  show Cls.num (2 * L.flatten.length) (Cls.mergeAll (scheme L).glued) + L.length + (scheme L).circles ≤ 2 * Cls.num (2 * L.flatten.length) (Cls.mergeAll ((scheme L).tied (scheme L).T)) + ((scheme L).T.length + (scheme L).Fr.length)
  rw [show Cls.num (2 * (scheme L).n) = Cls.num (2 * L.flatten.length) from rfl, h2] at this
  omega
/-- Turned polygons, by sides. -/
theorem tur_flat (f : Nat → Int → Int) (L : List (List Int)) : ((List.range L.length).map fun p => (L.getD p []).map (f p)).flatten = (List.range L.flatten.length).map fun i => f (pol L i) (L.flatten.getD i 0) := by
  induction L generalizing f with
  | nil => rfl
  | cons r L ih =>
    rw [List.length_cons, List.range_succ_eq_map, List.map_cons, List.flatten_cons, List.map_map]
    have h1 := ih (fun p => f (p + 1))
    rw [show ((List.range L.length).map ((fun p => ((r :: L).getD p []).map (f p)) ∘ Nat.succ)) = (List.range L.length).map fun p => (L.getD p []).map (f (p + 1)) from List.map_congr_left fun p _ => by simp, h1]
    rw [List.flatten_cons, List.length_append, range_split, List.map_append, List.map_map]
    congr 1
    · show r.map (f 0) = _
      conv => lhs; rw [← range_get r, List.map_map]
      refine List.map_congr_left fun i hi => ?_
      have hi := List.mem_range.1 hi
      show f 0 (r.getD i 0) = f (pol (r :: L) i) ((r :: L).flatten.getD i 0)
      rw [pol_in hi, flat_left hi]
    · refine List.map_congr_left fun i hi => ?_
      show f (pol L i + 1) (L.flatten.getD i 0) = f (pol (r :: L) (r.length + i)) ((r :: L).flatten.getD (r.length + i) 0)
      rw [pol_out, flat_right]
theorem tur_sides (set : Nat) (L : List (List Int)) : (tur set L).flatten = (List.range L.flatten.length).map fun i => flip set (pol L i) (L.flatten.getD i 0) := by
  rw [← tur_flat (flip set)]
  unfold tur
  congr 1
  refine List.map_congr_left fun p _ => ?_
  unfold turRow
  by_cases hb : bitOf set p = true
  · rw [if_pos hb]
    refine List.map_congr_left fun x _ => ?_
    unfold flip; rw [if_pos hb]
  · rw [if_neg hb]
    have : flip set p = id := funext fun x => by unfold flip; rw [if_neg hb]; rfl
    rw [this, List.map_id]
theorem scheme_turned (h : Two L) : (scheme L).Turned := by
  obtain ⟨hg, set, _, hc⟩ := h
  refine ⟨fun i => bitOf set (pol L i), fun i hi => by show bitOf set (pol L (nxt L i)) = _; rw [pol_nxt hi], fun t ht => ?_⟩
  obtain ⟨k, hk, rfl⟩ := List.mem_map.1 ht
  obtain ⟨hA, hB, h1, h2⟩ := side_lt hg hk
  have h0 := getD_ne hg hA
  have h9 : k < 9 := lettersN_lt hk
  have hs := hc k (by omega) (by omega)
  unfold signs at hs
  have hl : (L.flatten.filter fun y => y.natAbs == k) = (pos L k).map fun i => L.flatten.getD i 0 := by
    conv => lhs; rw [← range_get L.flatten, List.filter_map]
    rfl
  rw [hl, pos_two hk, if_neg (by simp)] at hs
  have hf : ((tur set L).flatten.filter fun y => y.natAbs == k) = (pos L k).map fun i => flip set (pol L i) (L.flatten.getD i 0) := by
    rw [tur_sides, List.filter_map]
    congr 1
    unfold pos
    refine List.filter_congr fun i _ => ?_
    show ((flip set (pol L i) (L.flatten.getD i 0)).natAbs == k) = _
    rw [flip_abs]
  unfold sg at hs
  rw [hf, pos_two hk] at hs
  simp only [List.map_cons, List.map_nil, List.sum_cons, List.sum_nil, Int.add_zero] at hs
  show flagOf L k = (bitOf set (pol L (sideA L k)) == bitOf set (pol L (sideB L k)))
  unfold flagOf
  unfold sgn flip at hs
  generalize L.flatten.getD (sideA L k) 0 = a at *
  generalize L.flatten.getD (sideB L k) 0 = b at *
  generalize bitOf set (pol L (sideA L k)) = p at *
  generalize bitOf set (pol L (sideB L k)) = q at *
  cases p <;> cases q <;> simp at hs ⊢ <;> split at hs <;> split at hs <;> omega
/-- Where a gluing is two-sided, Euler's number and the circles together are even. -/
theorem euler_even (h : Two L) : (vertices L + L.length + borders L + (lettersN L 1 2).length) % 2 = 0 := by
  have hg := h.1
  have := (scheme_ok hg).parity (scheme_turned h)
  rw [letters_len hg, ← num_cor hg, ← circles_borders hg]
  have h2 := num_polys hg
  rw [show Cls.num (2 * (scheme L).n) = Cls.num (2 * L.flatten.length) from rfl, h2] at this
  omega
end Glue
end Go.Proofs.YtodgongemoabiaaDoor
namespace Go.Proofs.YtodgongemoabiaaDoor

namespace Glue
variable {L : List (List Int)}
theorem borders_zero : borders L = 0 ↔ (lettersN L 1 1).length = 0 := by
  unfold borders
  constructor
  · intro h
    rcases Nat.eq_zero_or_pos (lettersN L 1 1).length with h0 | h0
    · exact h0
    · exfalso
      have ok := circ_ok L
      have h1 := ok.lt 0 h0
      have h2 := ok.idem 0 h0
      unfold Cls.tally at h
      rw [List.length_eq_zero_iff, List.filter_eq_nil_iff] at h
      exact h (circ L 0) (List.mem_range.2 h1) (by simp [h2])
  · intro h; rw [h]; rfl
theorem numEuler_le (h : IsG L) : numEuler L ≤ 2 * numParts L - numBorders L := by
  have := euler_le h
  unfold numEuler numParts numBorders
  rw [if_pos h, if_pos h, if_pos h]
  omega
theorem numEuler_even (h : twoB L = true) : (numEuler L + numBorders L) % 2 = 0 := by
  have h2 := (twoB_iff L).1 h
  have := euler_even h2
  unfold numEuler numBorders
  rw [if_pos h2.1, if_pos h2.1]
  omega
theorem tmod_even {x : Int} (h : x % 2 = 0) : Int.tmod x 2 = 0 := by
  exact Int.tmod_eq_zero_of_dvd (Int.dvd_of_emod_eq_zero h)
end Glue
namespace Surf
/-- The surface of a connected gluing is one, with its Euler number. -/
theorem ofS_is {L : List (List Int)} (hp : Glue.numParts L = 1) : Is (ofS L).1 (ofS L).2.1 (ofS L).2.2 ∧ euler (ofS L).1 (ofS L).2.1 (ofS L).2.2 = Glue.numEuler L := by
  have hg := of_g hp
  have h1 := Glue.numEuler_le hg
  obtain ⟨b0, b1⟩ := borders_bd hg
  obtain ⟨e0, e1⟩ := euler_bd hg
  rw [hp] at h1
  have hr : rest L = 2 - Glue.numBorders L - Glue.numEuler L := rfl
  have key : Is (ofS L).1 (ofS L).2.1 (ofS L).2.2 ∧ 2 * (ofS L).1 + (ofS L).2.1 = rest L ∧ (ofS L).2.2 = Glue.numBorders L := by
    unfold ofS
    rw [if_pos hp]
    by_cases ht : Glue.twoB L = true
    · rw [if_pos ht]
      have he := Glue.numEuler_even ht
      have hd : Int.tdiv (rest L) 2 = rest L / 2 := Int.tdiv_eq_ediv_of_nonneg (by omega)
      refine ⟨⟨⟨?_, ?_⟩, ⟨?_, ?_⟩, ⟨?_, ?_⟩, Or.inr rfl⟩, ?_, rfl⟩ <;> simp only [hd] <;> omega
    · rw [if_neg ht]
      refine ⟨⟨⟨?_, ?_⟩, ⟨?_, ?_⟩, ⟨?_, ?_⟩, Or.inl rfl⟩, ?_, rfl⟩ <;> simp only [] <;> omega
  refine ⟨key.1, ?_⟩
  unfold euler
  rw [if_pos key.1]
  have := key.2.1
  have := key.2.2
  omega
end Surf

namespace Cls
/-- The labels as a table. -/
def tabStep (t : List Nat) (p : Nat × Nat) : List Nat := t.map fun v => if v = t.getD p.1 0 then t.getD p.2 0 else v
def tabAll (n : Nat) (l : List (Nat × Nat)) : List Nat := l.foldl tabStep (List.range n)
theorem tab_get {n : Nat} {l : List (Nat × Nat)} (h : ∀ p ∈ l, p.1 < n ∧ p.2 < n) : (tabAll n l).length = n ∧ ∀ k, k < n → (tabAll n l).getD k 0 = mergeAll l k := by
  have key : ∀ (m : List (Nat × Nat)) (c : Nat → Nat) (t : List Nat), (∀ p ∈ m, p.1 < n ∧ p.2 < n) → t.length = n → (∀ k, k < n → t.getD k 0 = c k) → (m.foldl tabStep t).length = n ∧ ∀ k, k < n → (m.foldl tabStep t).getD k 0 = m.foldl merge c k := by
    intro m
    induction m with
    | nil => intro c t _ hl ht; exact ⟨hl, ht⟩
    | cons p m ih =>
      intro c t hm hl ht
      have hp := hm p (List.mem_cons_self ..)
      rw [List.foldl_cons, List.foldl_cons]
      refine ih (merge c p) (tabStep t p) (fun q hq => hm q (List.mem_cons_of_mem _ hq)) (by unfold tabStep; rw [List.length_map, hl]) (fun k hk => ?_)
      unfold tabStep merge
      rw [ht p.1 hp.1, ht p.2 hp.2]
      have hk' := ht k hk
      rw [List.getD_eq_getElem?_getD] at hk' ⊢
      rw [List.getElem?_map]
      rw [List.getElem?_eq_getElem (by omega)] at hk' ⊢
      simp only [Option.getD_some, Option.map_some] at hk' ⊢
      rw [hk']
  exact key l id (List.range n) h (List.length_range) (fun k hk => by simp [List.getD_eq_getElem?_getD, hk])
theorem tally_tab {n : Nat} {l : List (Nat × Nat)} (h : ∀ p ∈ l, p.1 < n ∧ p.2 < n) {ms : List Nat} (hm : ∀ m ∈ ms, m < n) : tally (mergeAll l) ms = (ms.filter fun m => (tabAll n l).getD m 0 == m).length := by
  unfold tally
  refine congrArg List.length (List.filter_congr fun m hx => ?_)
  rw [(tab_get h).2 m (hm m hx)]
end Cls
namespace Glue
/-- The same numbers, reckoned by tables. -/
def corT (L : List (List Int)) : List Nat := Cls.tabAll 18 (corners L)
def verticesT (L : List (List Int)) : Nat := ((ends (lettersN L 1 2)).filter fun m => (corT L).getD m 0 == m).length
def touchT (L : List (List Int)) (t : List Nat) (i j e : Nat) : Bool := t.getD (2 * free L i + e % 2) 0 == t.getD (2 * free L j + e / 2) 0
def bordersT (L : List (List Int)) : Nat := ((List.range (lettersN L 1 1).length).filter fun m => (Cls.tabAll (lettersN L 1 1).length (Cls.tri (touchT L (corT L)) 4 (lettersN L 1 1).length 0 0)).getD m 0 == m).length
def partsT (L : List (List Int)) : Nat := ((List.range L.length).filter fun m => (Cls.tabAll L.length (Cls.tri (share L) 9 L.length 0 0)).getD m 0 == m).length
theorem ends_lt {L : List (List Int)} {lo hi : Int} : ∀ m ∈ ends (lettersN L lo hi), m < 18 := fun m hm => by
  have := lettersN_lt (ends_mem.1 hm); omega
theorem vertices_T {L : List (List Int)} (h : IsG L) : vertices L = verticesT L := Cls.tally_tab (corners_lt h.w) ends_lt
theorem parts_T (L : List (List Int)) : parts L = partsT L := Cls.tally_tab Cls.tri_lt (fun m hm => List.mem_range.1 hm)
theorem free_lt {L : List (List Int)} {i : Nat} (hi : i < (lettersN L 1 1).length) : free L i < 9 := by
  rw [free_at (List.getElem?_eq_getElem hi)]; exact lettersN_lt (List.getElem_mem hi)
theorem tri_congr {S S' : Nat → Nat → Nat → Bool} {m n : Nat} (h : ∀ a b e, a < n → b < n → e < m → S a b e = S' a b e) : Cls.tri S m n 0 0 = Cls.tri S' m n 0 0 := by
  unfold Cls.tri Cls.lineTo Cls.oneTo
  simp only [List.range_zero, List.flatMap_nil, List.filter_nil, List.map_nil, List.append_nil]
  have key : ∀ l : List Nat, (∀ a ∈ l, a < n) → (l.flatMap fun a => (List.range a).flatMap fun b => ((List.range m).filter (S a b)).map fun _ => (a, b)) = l.flatMap fun a => (List.range a).flatMap fun b => ((List.range m).filter (S' a b)).map fun _ => (a, b) := by
    intro l
    induction l with
    | nil => intro _; rfl
    | cons a l ih =>
      intro hl
      rw [List.flatMap_cons, List.flatMap_cons, ih (fun x hx => hl x (List.mem_cons_of_mem _ hx))]
      congr 1
      have ha := hl a (List.mem_cons_self ..)
      have key2 : ∀ k : List Nat, (∀ b ∈ k, b < a) → (k.flatMap fun b => ((List.range m).filter (S a b)).map fun _ => (a, b)) = k.flatMap fun b => ((List.range m).filter (S' a b)).map fun _ => (a, b) := by
        intro k
        induction k with
        | nil => intro _; rfl
        | cons b k ihk =>
          intro hk
          rw [List.flatMap_cons, List.flatMap_cons, ihk (fun x hx => hk x (List.mem_cons_of_mem _ hx))]
          congr 2
          have hb := hk b (List.mem_cons_self ..)
          exact List.filter_congr fun e he => h a b e ha (by omega) (List.mem_range.1 he)
      exact key2 _ (fun b hb => List.mem_range.1 hb)
  exact key _ (fun a ha => List.mem_range.1 ha)
theorem borders_T {L : List (List Int)} (h : IsG L) : borders L = bordersT L := by
  have ht : Cls.tri (touch L) 4 (lettersN L 1 1).length 0 0 = Cls.tri (touchT L (corT L)) 4 (lettersN L 1 1).length 0 0 := tri_congr fun a b e ha hb he => by
    unfold touch touchT corT
    have h1 := free_lt ha
    have h2 := free_lt hb
    rw [(Cls.tab_get (corners_lt h.w)).2 _ (by omega), (Cls.tab_get (corners_lt h.w)).2 _ (by omega)]
    rfl
  unfold borders circ
  rw [Cls.tally_tab Cls.tri_lt (fun m hm => List.mem_range.1 hm), ht]; rfl
end Glue
namespace Surf
def stdT (h c b : Nat) : Bool :=
  let L := [side h c b]
  decide (Glue.IsG L) && (Glue.partsT L == 1) && (Glue.bordersT L == b) && ((Glue.verticesT L : Int) - ((Glue.lettersN L 1 2).length : Int) + 1 == 2 - 2 * (h : Int) - (c : Int) - (b : Int)) && (Glue.twoB L == (c == 0))
theorem std_all : ((List.range 5).all fun h => (List.range 9).all fun c => (List.range 5).all fun b => !(h == 0 || c == 0) || !(decide (2 * h + c + 2 * b ≤ 8)) || stdT h c b) = true := by decide +kernel
/-- The surface of a standard gluing is the one that was asked for. -/
theorem ofS_std {x y z : Int} (hok : stdOk x y z) : Glue.IsG (std x y z) ∧ Glue.numParts (std x y z) = 1 ∧ ofS (std x y z) = (x, y, z) := by
  obtain ⟨⟨⟨h1, h2⟩, ⟨h3, h4⟩, ⟨h5, h6⟩, h7⟩, h8⟩ := id hok
  have hs : std x y z = [side x.toNat y.toNat z.toNat] := if_pos hok
  have := List.all_eq_true.1 (List.all_eq_true.1 (List.all_eq_true.1 std_all x.toNat (List.mem_range.2 (by omega))) y.toNat (List.mem_range.2 (by omega))) z.toNat (List.mem_range.2 (by omega))
  have ht : stdT x.toNat y.toNat z.toNat = true := by
    simp only [Bool.or_eq_true, Bool.not_eq_true', Bool.or_eq_false_iff, beq_eq_false_iff_ne, decide_eq_false_iff_not] at this
    rcases this with (⟨h3, h4⟩ | h3) | h3
    · omega
    · omega
    · exact h3
  unfold stdT at ht
  simp only [Bool.and_eq_true, decide_eq_true_eq, beq_iff_eq] at ht
  obtain ⟨⟨⟨⟨hg, hp⟩, hb⟩, he⟩, htw⟩ := ht
  rw [hs]
  have hnp : Glue.numParts [side x.toNat y.toNat z.toNat] = 1 := by unfold Glue.numParts; rw [if_pos hg, Glue.parts_T, hp]; rfl
  have hnb : Glue.numBorders [side x.toNat y.toNat z.toNat] = z := by unfold Glue.numBorders; rw [if_pos hg, Glue.borders_T hg, hb]; omega
  have hne : Glue.numEuler [side x.toNat y.toNat z.toNat] = 2 - 2 * x - y - z := by
    unfold Glue.numEuler; rw [if_pos hg, Glue.vertices_T hg]
    simp only [List.length_singleton]
    omega
  refine ⟨hg, hnp, ?_⟩
  unfold ofS rest
  rw [if_pos hnp, hnb, hne, htw]
  by_cases hy : y = 0
  · subst hy
    rw [if_pos (by simp)]
    rw [show (2 : Int) - z - (2 - 2 * x - 0 - z) = 2 * x by omega, show Int.tdiv (2 * x) 2 = x by rw [Int.tdiv_eq_ediv_of_nonneg (by omega)]; omega]
  · rw [if_neg (by simp; omega)]
    have hx : x = 0 := by omega
    subst hx
    rw [show (2 : Int) - z - (2 - 2 * 0 - y - z) = y by omega]
end Surf
end Go.Proofs.YtodgongemoabiaaDoor
