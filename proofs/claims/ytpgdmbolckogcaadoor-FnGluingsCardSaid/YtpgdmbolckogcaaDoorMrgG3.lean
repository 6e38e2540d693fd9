/-
  The topology of gluings: circles of a scheme of sides, its letters, polygons and parts; that Euler's number is at most twice the parts less the circles, and even with them where it is two-sided. A gluing as a scheme of sides: its Euler number, circles, parts and sides agree. Surfaces, as three numbers; the walks of the laws' helpers over them. Surfaces: the walks of the program's IsSurface, EulerNumber and sums. Sums of surfaces: what the document says, and the walks of the program's and the model's SumSurface. The surface of a gluing: what the document says, and the walks of the program's and the model's SurfaceOf. Standard gluings: what the document says, and the walks of the program's and the model's StandardGluing. Gluings: Euler's number, circles, parts and sides in numbers; the surface of a gluing is one; standard gluings have the surface that was asked for. The walk of spec.Join: the texts with the separator between them. Contracts of the library functions that the program calls, laid over this translation. The program's Join, by the library's. Rows of bytes of the call's own, and the texts made of them. The walks of the program's and the model's WordText. The walks of the program's and the model's GluingText. The walk of spec.FormatInt: it returns the decimal numeral of its argument. Splitting at a byte: the library's pieces and the model's pieces are the same. Contracts of the library functions that the program calls, laid over this translation.
-/
import Derived.Test.YtpgdmbolckogcaaDoorMrgG1
import Derived.Test.YtpgdmbolckogcaaDoorMrgG2
import Derived.Laws.Rows
import Derived.Deep.RegionHeld3
import Derived.Lib.AppendStr
import Derived.Lib.Join
import Derived.Shelf.Strings.Builder1
import Derived.Shelf.Strings.Builder2
import Derived.Shelf.Strings.OnBuilder
import Derived.Shelf.Utf8.RuneCount
import Derived.Shelf.Strconv.Itoa0
import Derived.Shelf.Strconv.Itoa1
import Derived.Shelf.LaysM
import Derived.Shelf.Strconv.Itoa2
import Derived.Shelf.Strconv.Itoa3
import Derived.Shelf.Strings.Search1
import Derived.Shelf.Strings.Search2
import Derived.Shelf.Strings.Search3
import Derived.Shelf.Strings.Count
import Derived.Shelf.Strings.Shaped
import Derived.Shelf.Strings.Split
import Derived.Shelf.Strings.SplitShaped
import Derived.Shelf.Unicode.DecodeSlow
import Derived.Test.YtpgdmbolckogcaaDoorProg
import Derived.Deep.QuietTactic
import Derived.BigQuiet
import Derived.Test.YtpgdmbolckogcaaDoorRows
import Derived.WalkKit
import Derived.WalkSpells
import Derived.WalkLawsBesides
import Derived.Lib.ItoaNum
import Derived.Lib.Hide
import Derived.Lib.Split
import Derived.Lib.SplitLaws
import Derived.Lib.IndexBytes
namespace Go.Proofs.YtpgdmbolckogcaaDoor

namespace Cls
theorem filter_less {l : List Nat} {P : Nat → Bool} {r : Nat} (hn : l.Nodup) (hr : r ∈ l) (hp : P r = true) : (l.filter fun v => P v && v != r).length + 1 = (l.filter P).length := by
  induction l with
  | nil => cases hr
  | cons x l ih =>
    rw [List.nodup_cons] at hn
    rw [List.filter_cons, List.filter_cons]
    by_cases e : x = r
    · subst e
      have : (l.filter fun v => P v && v != x) = l.filter P := List.filter_congr fun v hv => by
        have : v ≠ x := fun h => hn.1 (h ▸ hv)
        simp [this]
      simp [hp, this]
    · have hr' : r ∈ l := (List.mem_cons.1 hr).resolve_left (fun h => e h.symm)
      have := ih hn.2 hr'
      by_cases hx : P x = true
      · simp [hx, e, ← this]
      · simp [hx, this]
/-- How many classes of S there are, below N. -/
def numS (S : Nat → Bool) (N : Nat) (c : Nat → Nat) : Nat := ((List.range N).filter fun v => S v && c v == v).length
def num (N : Nat) (c : Nat → Nat) : Nat := tally c (List.range N)
theorem num_numS (N : Nat) (c : Nat → Nat) : num N c = numS (fun _ => true) N c := by simp [num, numS, tally]
theorem numS_same {S : Nat → Bool} {N : Nat} {c : Nat → Nat} {p : Nat × Nat} (h : c p.1 = c p.2) : numS S N (merge c p) = numS S N c := by
  have : merge c p = c := funext fun k => by unfold merge; split <;> simp_all
  rw [this]
theorem numS_out {S : Nat → Bool} {N : Nat} {c : Nat → Nat} (hc : Ok c N) {p : Nat × Nat} (h1 : p.1 < N) (h2 : p.2 < N) (hs : S (c p.1) = false) : numS S N (merge c p) = numS S N c := by
  unfold numS
  refine congrArg List.length (List.filter_congr fun v hv => ?_)
  have hv := List.mem_range.1 hv
  unfold merge
  by_cases hS : S v = true
  · rw [hS, Bool.true_and, Bool.true_and]
    by_cases e : c v = c p.1
    · have : c v ≠ v := fun h => by rw [← e, h, hS] at hs; cases hs
      rw [if_pos e]
      have h3 : c p.2 ≠ v := by
        intro h
        have := hc.idem _ h2
        rw [h] at this
        exact absurd this (by assumption)
      rw [beq_eq_false_iff_ne.2 this, beq_eq_false_iff_ne.2 h3]
    · rw [if_neg e]
  · simp [hS]
theorem numS_diff {S : Nat → Bool} {N : Nat} {c : Nat → Nat} (hc : Ok c N) {p : Nat × Nat} (h1 : p.1 < N) (h2 : p.2 < N) (h : c p.1 ≠ c p.2) (hs : S (c p.1) = true) : numS S N (merge c p) + 1 = numS S N c := by
  unfold numS
  rw [← filter_less (P := fun v => S v && c v == v) List.nodup_range (List.mem_range.2 (hc.lt _ h1)) (by simp [hs, hc.idem _ h1])]
  congr 1
  refine congrArg List.length (List.filter_congr fun v hv => ?_)
  have hv := List.mem_range.1 hv
  have ia := hc.idem _ h1
  have ib := hc.idem _ h2
  unfold merge
  by_cases e : c v = c p.1
  · rw [if_pos e]
    by_cases e2 : c v = v
    · have hv' : v = c p.1 := by rw [← e2]; exact e
      have : c p.2 ≠ v := fun hh => h (by rw [← hv', hh])
      rw [hv'] at this ⊢
      simp [this]
    · have : c p.2 ≠ v := fun hh => by rw [hh] at ib; exact e2 ib
      rw [beq_eq_false_iff_ne.2 this, beq_eq_false_iff_ne.2 e2]; simp
  · rw [if_neg e]
    have : v ≠ c p.1 ∨ c v ≠ v := by
      by_cases e3 : v = c p.1
      · right; intro h4; rw [e3] at h4; exact e (by rw [e3]; exact h4)
      · exact Or.inl e3
    rcases this with h5 | h5
    · simp [h5]
    · simp [h5]
theorem numS_le {S : Nat → Bool} {N : Nat} {c : Nat → Nat} (hc : Ok c N) {p : Nat × Nat} (h1 : p.1 < N) (h2 : p.2 < N) : numS S N (merge c p) ≤ numS S N c ∧ numS S N c ≤ numS S N (merge c p) + 1 := by
  by_cases h : c p.1 = c p.2
  · rw [numS_same h]; omega
  · by_cases hs : S (c p.1) = true
    · have := numS_diff hc h1 h2 h hs; omega
    · rw [numS_out hc h1 h2 (by simpa using hs)]; omega

abbrev In (N : Nat) (es : List (Nat × Nat)) : Prop := ∀ p ∈ es, p.1 < N ∧ p.2 < N
abbrev Closed (S : Nat → Bool) (es : List (Nat × Nat)) : Prop := ∀ p ∈ es, S p.1 = S p.2
theorem Closed.lab {S : Nat → Bool} {es : List (Nat × Nat)} {N : Nat} (h : Closed S es) (hN : In N es) {v : Nat} (hv : v < N) : S (mergeAll es v) = S v :=
  ker_le h ((Ok.all hN).idem _ hv)
theorem Closed.ofCls (es : List (Nat × Nat)) (r : Nat) : Closed (fun v => mergeAll es v == r) es := fun p hp => by show (mergeAll es p.1 == r) = (mergeAll es p.2 == r); rw [eq_of_mem (a := p.1) (b := p.2) hp]
theorem Closed.sub {S : Nat → Bool} {es fs : List (Nat × Nat)} (h : Closed S es) (hs : ∀ p ∈ fs, p ∈ es) : Closed S fs := fun p hp => h p (hs p hp)
theorem In.sub {N : Nat} {es fs : List (Nat × Nat)} (h : In N es) (hs : ∀ p ∈ fs, p ∈ es) : In N fs := fun p hp => h p (hs p hp)
/-- How many of the pairs lie in S. -/
def inE (S : Nat → Bool) (es : List (Nat × Nat)) : Nat := es.countP fun p => S p.1
def nodes (S : Nat → Bool) (N : Nat) : Nat := (List.range N).countP S
/-- A set of classes has no more members than classes and pairs. -/
theorem nodes_le {S : Nat → Bool} {N : Nat} {es : List (Nat × Nat)} (hc : Closed S es) (hN : In N es) : nodes S N ≤ numS S N (mergeAll es) + inE S es := by
  refine snoc_ind (p := fun es => Closed S es → In N es → nodes S N ≤ numS S N (mergeAll es) + inE S es) ?_ ?_ es hc hN
  · intro _ _
    unfold nodes numS inE
    rw [List.countP_eq_length_filter]
    simp [mergeAll]
  · intro es p ih hc hN
    have hc' : Closed S es := hc.sub fun p hp => List.mem_append.2 (Or.inl hp)
    have hN' : In N es := hN.sub fun p hp => List.mem_append.2 (Or.inl hp)
    have hp := hN p (List.mem_append.2 (Or.inr (List.mem_singleton.2 rfl)))
    have ih := ih hc' hN'
    rw [mergeAll_snoc]
    have hi : inE S (es ++ [p]) = inE S es + if S p.1 = true then 1 else 0 := by
      unfold inE; rw [List.countP_append, List.countP_singleton]
    rw [hi]
    by_cases hs : S p.1 = true
    · rw [if_pos hs]
      have := (numS_le (S := S) (Ok.all hN') hp.1 hp.2).2
      omega
    · rw [if_neg hs, numS_out (Ok.all hN') hp.1 hp.2 (by rw [hc'.lab hN' hp.1]; simpa using hs)]
      exact ih
/-- Pairs in another order have the same classes. -/
theorem ker_sub {es fs : List (Nat × Nat)} (h : ∀ p ∈ es, p ∈ fs) {x y : Nat} (e : mergeAll es x = mergeAll es y) : mergeAll fs x = mergeAll fs y :=
  ker_le (F := mergeAll fs) (fun p hp => eq_of_mem (h p hp)) e
theorem num_found {N : Nat} {c : Nat → Nat} (h : Ok c N) : num N c = (found c (List.range N)).length := tally_range h
theorem num_ker {N : Nat} {c d : Nat → Nat} (hc : Ok c N) (hd : Ok d N) (h : ∀ x, x < N → ∀ y, y < N → (c x = c y ↔ d x = d y)) : num N c = num N d := by
  rw [num_found hc, num_found hd]
  exact found_ker fun i hi j hj => h i (List.mem_range.1 hi) j (List.mem_range.1 hj)
theorem num_mem {N : Nat} {es fs : List (Nat × Nat)} (hN : In N es) (h : ∀ p, p ∈ es ↔ p ∈ fs) : num N (mergeAll es) = num N (mergeAll fs) :=
  num_ker (Ok.all hN) (Ok.all (hN.sub fun p hp => (h p).2 hp)) fun x _ y _ => ⟨ker_sub fun p hp => (h p).1 hp, ker_sub fun p hp => (h p).2 hp⟩
theorem num_same {N : Nat} {es : List (Nat × Nat)} {p : Nat × Nat} (h : mergeAll es p.1 = mergeAll es p.2) : num N (mergeAll (es ++ [p])) = num N (mergeAll es) := by
  rw [mergeAll_snoc, num_numS, num_numS, numS_same h]
theorem num_diff {N : Nat} {es : List (Nat × Nat)} {p : Nat × Nat} (hN : In N es) (h1 : p.1 < N) (h2 : p.2 < N) (h : mergeAll es p.1 ≠ mergeAll es p.2) : num N (mergeAll (es ++ [p])) + 1 = num N (mergeAll es) := by
  rw [mergeAll_snoc, num_numS, num_numS, numS_diff (Ok.all hN) h1 h2 h rfl]
theorem snoc_eq {es : List (Nat × Nat)} {p : Nat × Nat} {x y : Nat} : mergeAll (es ++ [p]) x = mergeAll (es ++ [p]) y ↔ (mergeAll es x = mergeAll es y ∨ (mergeAll es x = mergeAll es p.1 ∧ mergeAll es y = mergeAll es p.2) ∨ (mergeAll es x = mergeAll es p.2 ∧ mergeAll es y = mergeAll es p.1)) := by
  rw [mergeAll_snoc]; unfold merge
  generalize mergeAll es = c
  by_cases h1 : c x = c p.1
  · by_cases h2 : c y = c p.1
    · rw [if_pos h1, if_pos h2]
      exact ⟨fun _ => Or.inl (h1.trans h2.symm), fun _ => rfl⟩
    · rw [if_pos h1, if_neg h2]
      constructor
      · intro h; exact Or.inr (Or.inl ⟨h1, h.symm⟩)
      · rintro (h | ⟨_, h⟩ | ⟨_, h⟩)
        · exact absurd (h.symm.trans h1) h2
        · exact h.symm
        · exact absurd h h2
  · by_cases h2 : c y = c p.1
    · rw [if_neg h1, if_pos h2]
      constructor
      · intro h; exact Or.inr (Or.inr ⟨h, h2⟩)
      · rintro (h | ⟨h, _⟩ | ⟨h, _⟩)
        · exact absurd (h.trans h2) h1
        · exact absurd h h1
        · exact h
    · rw [if_neg h1, if_neg h2]
      constructor
      · intro h; exact Or.inl h
      · rintro (h | ⟨h, _⟩ | ⟨_, h⟩)
        · exact h
        · exact absurd h h1
        · exact absurd h h2
end Cls

namespace Cls
def bit (b : Bool) : Nat := if b then 1 else 0
theorem bit_le (b : Bool) : bit b ≤ 1 := by cases b <;> simp [bit]
theorem pattern {A B D E : Nat} (par : ∀ r, (bit (A == r) + bit (B == r) + bit (D == r) + bit (E == r)) % 2 = 0) :
    (A = B ∧ D = E ∧ A ≠ D) ∨ (A = D ∧ B = E ∧ A ≠ B) ∨ (A = E ∧ B = D ∧ A ≠ B) ∨ (A = B ∧ A = D ∧ A = E) := by
  have h1 := par A
  have h2 := par B
  have h3 := par D
  unfold bit at h1 h2 h3
  simp only [beq_iff_eq] at h1 h2 h3
  by_cases ab : A = B
  · by_cases ad : A = D
    · by_cases ae : A = E
      · omega
      · subst ab; subst ad
        have ea : ¬ E = A := fun h => ae h.symm
        simp [ea] at h1
    · left
      subst ab
      refine ⟨rfl, ?_, ad⟩
      by_cases de : D = E
      · exact de
      · have h4 : ¬ E = D := fun h => de h.symm
        simp [ad, h4] at h3
  · have ba : ¬ B = A := fun h => ab h.symm
    by_cases ad : A = D
    · subst ad
      right; left
      refine ⟨rfl, ?_, ab⟩
      by_cases be : B = E
      · exact be
      · have eb : ¬ E = B := fun h => be h.symm
        simp [ab, eb] at h2
    · have da : ¬ D = A := fun h => ad h.symm
      by_cases ae : A = E
      · subst ae
        right; right; left
        refine ⟨rfl, ?_, ab⟩
        by_cases bd : B = D
        · exact bd
        · have db : ¬ D = B := fun h => bd h.symm
          simp [ab, db] at h2
      · have ea : ¬ E = A := fun h => ae h.symm
        simp [ba, da, ea] at h1
/-- Four ends of paths, each class holding an even number of them. -/
structure Quad (N : Nat) (Q : List (Nat × Nat)) (a b d e : Nat) : Prop where
  inN : In N Q
  la : a < N
  lb : b < N
  ld : d < N
  le : e < N
  par : ∀ S : Nat → Bool, Closed S Q → (bit (S a) + bit (S b) + bit (S d) + bit (S e)) % 2 = 0
theorem two (Q : List (Nat × Nat)) (p q : Nat × Nat) : Q ++ [p, q] = Q ++ [p] ++ [q] := by simp
theorem In.snoc {N : Nat} {Q : List (Nat × Nat)} {p : Nat × Nat} (h : In N Q) (h1 : p.1 < N) (h2 : p.2 < N) : In N (Q ++ [p]) := fun q hq => by
  rcases List.mem_append.1 hq with hq | hq
  · exact h q hq
  · rw [List.mem_singleton.1 hq]; exact ⟨h1, h2⟩
theorem num2_ss {N : Nat} {Q : List (Nat × Nat)} {p q : Nat × Nat} (h1 : mergeAll Q p.1 = mergeAll Q p.2) (h2 : mergeAll Q q.1 = mergeAll Q q.2) : num N (mergeAll (Q ++ [p, q])) = num N (mergeAll Q) := by
  rw [two, num_same (snoc_eq.2 (Or.inl h2)), num_same h1]
theorem num2_ds {N : Nat} {Q : List (Nat × Nat)} {p q : Nat × Nat} (hN : In N Q) (hp1 : p.1 < N) (hp2 : p.2 < N) (h1 : mergeAll Q p.1 ≠ mergeAll Q p.2) (h2 : mergeAll (Q ++ [p]) q.1 = mergeAll (Q ++ [p]) q.2) : num N (mergeAll (Q ++ [p, q])) + 1 = num N (mergeAll Q) := by
  rw [two, num_same h2, num_diff hN hp1 hp2 h1]
/-- What becomes of the classes' number when two spans are replaced by two other pairs. -/
theorem Quad.cases {N : Nat} {Q : List (Nat × Nat)} {a b d e : Nat} (h : Quad N Q a b d e) :
    (mergeAll Q a = mergeAll Q b ∧ mergeAll Q d = mergeAll Q e ∧ mergeAll Q a ≠ mergeAll Q d ∧ num N (mergeAll (Q ++ [(a, d), (b, e)])) + 1 = num N (mergeAll (Q ++ [(a, b), (d, e)]))) ∨
    (mergeAll Q a = mergeAll Q d ∧ mergeAll Q b = mergeAll Q e ∧ mergeAll Q a ≠ mergeAll Q b ∧ num N (mergeAll (Q ++ [(a, d), (b, e)])) = num N (mergeAll (Q ++ [(a, b), (d, e)])) + 1) ∨
    (mergeAll Q a = mergeAll Q e ∧ mergeAll Q b = mergeAll Q d ∧ mergeAll Q a ≠ mergeAll Q b ∧ num N (mergeAll (Q ++ [(a, d), (b, e)])) = num N (mergeAll (Q ++ [(a, b), (d, e)]))) ∨
    (mergeAll Q a = mergeAll Q b ∧ mergeAll Q a = mergeAll Q d ∧ mergeAll Q a = mergeAll Q e ∧ num N (mergeAll (Q ++ [(a, d), (b, e)])) = num N (mergeAll (Q ++ [(a, b), (d, e)]))) := by
  have hp := pattern (A := mergeAll Q a) (B := mergeAll Q b) (D := mergeAll Q d) (E := mergeAll Q e) (fun r => h.par _ (Closed.ofCls Q r))
  rcases hp with ⟨h1, h2, h3⟩ | ⟨h1, h2, h3⟩ | ⟨h1, h2, h3⟩ | ⟨h1, h2, h3⟩
  · refine Or.inl ⟨h1, h2, h3, ?_⟩
    rw [num2_ss (p := (a, b)) (q := (d, e)) h1 h2, num2_ds (p := (a, d)) (q := (b, e)) h.inN h.la h.ld h3 (snoc_eq.2 (Or.inr (Or.inl ⟨h1.symm, h2.symm⟩)))]
  · refine Or.inr (Or.inl ⟨h1, h2, h3, ?_⟩)
    rw [num2_ss (p := (a, d)) (q := (b, e)) h1 h2, num2_ds (p := (a, b)) (q := (d, e)) h.inN h.la h.lb h3 (snoc_eq.2 (Or.inr (Or.inl ⟨h1.symm, h2.symm⟩)))]
  · refine Or.inr (Or.inr (Or.inl ⟨h1, h2, h3, ?_⟩))
    have e1 := num2_ds (p := (a, b)) (q := (d, e)) h.inN h.la h.lb h3 (snoc_eq.2 (Or.inr (Or.inr ⟨h2.symm, h1.symm⟩)))
    have e2 := num2_ds (p := (a, d)) (q := (b, e)) h.inN h.la h.ld (fun hh => h3 (hh.trans h2.symm)) (snoc_eq.2 (Or.inr (Or.inr ⟨h2, h1.symm⟩)))
    omega
  · refine Or.inr (Or.inr (Or.inr ⟨h1, h2, h3, ?_⟩))
    rw [num2_ss (p := (a, b)) (q := (d, e)) h1 (h2.symm.trans h3), num2_ss (p := (a, d)) (q := (b, e)) h2 (h1.symm.trans h3)]
theorem Quad.le1 {N : Nat} {Q : List (Nat × Nat)} {a b d e : Nat} (h : Quad N Q a b d e) : num N (mergeAll (Q ++ [(a, d), (b, e)])) ≤ num N (mergeAll (Q ++ [(a, b), (d, e)])) + 1 := by
  rcases h.cases with ⟨_, _, _, h⟩ | ⟨_, _, _, h⟩ | ⟨_, _, _, h⟩ | ⟨_, _, _, h⟩ <;> omega
theorem Quad.sep {N : Nat} {Q : List (Nat × Nat)} {a b d e : Nat} (h : Quad N Q a b d e) {S : Nat → Bool} (hS : Closed S Q) (ha : S a = true) (hb : S b = true) (hd : S d = false) (he : S e = false) :
    num N (mergeAll (Q ++ [(a, d), (b, e)])) + 1 = num N (mergeAll (Q ++ [(a, b), (d, e)])) := by
  have k : ∀ {x y}, mergeAll Q x = mergeAll Q y → S x = S y := fun hh => ker_le hS hh
  rcases h.cases with ⟨_, _, _, h⟩ | ⟨h1, _, _, _⟩ | ⟨h1, _, _, _⟩ | ⟨_, h1, _, _⟩
  · exact h
  · have := k h1; rw [ha, hd] at this; cases this
  · have := k h1; rw [ha, he] at this; cases this
  · have := k h1; rw [ha, hd] at this; cases this
/-- Where beginnings and ends are as many in each class (a, e: beginnings; b, d: ends), and no class holds all four. -/
theorem Quad.odd {N : Nat} {Q : List (Nat × Nat)} {a b d e : Nat} (h : Quad N Q a b d e) (ho : ∀ S : Nat → Bool, Closed S Q → bit (S a) + bit (S e) = bit (S b) + bit (S d))
    (h4 : ¬ (mergeAll Q a = mergeAll Q b ∧ mergeAll Q a = mergeAll Q d ∧ mergeAll Q a = mergeAll Q e)) : (num N (mergeAll (Q ++ [(a, d), (b, e)])) + num N (mergeAll (Q ++ [(a, b), (d, e)]))) % 2 = 1 := by
  rcases h.cases with ⟨_, _, _, h⟩ | ⟨_, _, _, h⟩ | ⟨h1, h2, h3, _⟩ | ⟨h1, h2, h3, _⟩
  · omega
  · omega
  · have := ho _ (Closed.ofCls Q (mergeAll Q a))
    have hb : ¬ mergeAll Q b = mergeAll Q a := fun hh => h3 hh.symm
    simp [bit, ← h1, ← h2, hb] at this
  · exact absurd ⟨h1, h2, h3⟩ h4
end Cls

namespace Cls
/-- A gluing as a scheme: n sides, each with a beginning (2 i) and an end (2 i + 1); nx: the next side of its polygon. -/
def corners (nx : Nat → Nat) (n : Nat) : List (Nat × Nat) := (List.range n).map fun i => (2 * i + 1, 2 * nx i)
def span (x : Nat) : List (Nat × Nat) := [(2 * x, 2 * x + 1)]
/-- Two sides are glued: beginning to beginning, or (b) beginning to end. -/
def glue (t : Nat × Nat × Bool) : List (Nat × Nat) := if t.2.2 then [(2 * t.1, 2 * t.2.1 + 1), (2 * t.1 + 1, 2 * t.2.1)] else [(2 * t.1, 2 * t.2.1), (2 * t.1 + 1, 2 * t.2.1 + 1)]
def spans2 (t : Nat × Nat × Bool) : List (Nat × Nat) := [(2 * t.1, 2 * t.1 + 1), (if t.2.2 then (2 * t.2.1 + 1, 2 * t.2.1) else (2 * t.2.1, 2 * t.2.1 + 1))]
def sidesOf (T : List (Nat × Nat × Bool)) : List Nat := T.flatMap fun t => [t.1, t.2.1]
/-- The weight of a side: how many of its ends lie in S. -/
def wt (S : Nat → Bool) (x : Nat) : Nat := bit (S (2 * x)) + bit (S (2 * x + 1))
/-- The ends of pairs that lie in S. -/
def endsIn (S : Nat → Bool) (es : List (Nat × Nat)) : Nat := (es.map fun p => bit (S p.1) + bit (S p.2)).sum
theorem endsIn_append (S : Nat → Bool) (es fs : List (Nat × Nat)) : endsIn S (es ++ fs) = endsIn S es + endsIn S fs := by simp [endsIn]
theorem endsIn_closed {S : Nat → Bool} {es : List (Nat × Nat)} (h : Closed S es) : endsIn S es = 2 * inE S es := by
  induction es with
  | nil => rfl
  | cons p es ih =>
    have ih := ih (h.sub fun q hq => List.mem_cons_of_mem _ hq)
    have hp := h p (List.mem_cons_self ..)
    unfold endsIn inE at *
    rw [List.map_cons, List.sum_cons, ih, List.countP_cons, ← hp]
    cases S p.1 <;> simp [bit] <;> omega
theorem glue_ends (S : Nat → Bool) (t : Nat × Nat × Bool) : endsIn S (glue t) = wt S t.1 + wt S t.2.1 := by
  unfold glue endsIn wt
  split <;> simp <;> omega
theorem spans2_ends (S : Nat → Bool) (t : Nat × Nat × Bool) : endsIn S (spans2 t) = wt S t.1 + wt S t.2.1 := by
  unfold spans2 endsIn wt; split <;> simp <;> omega
theorem span_ends (S : Nat → Bool) (x : Nat) : endsIn S (span x) = wt S x := by unfold span endsIn wt; simp
theorem flat_ends {α : Type} (S : Nat → Bool) (f : α → List (Nat × Nat)) (l : List α) : endsIn S (l.flatMap f) = (l.map fun t => endsIn S (f t)).sum := by
  induction l with
  | nil => rfl
  | cons t l ih => rw [List.flatMap_cons, endsIn_append, ih, List.map_cons, List.sum_cons]
theorem sum_sides (w : Nat → Nat) (T : List (Nat × Nat × Bool)) : ((sidesOf T).map w).sum = (T.map fun t => w t.1 + w t.2.1).sum := by
  induction T with
  | nil => rfl
  | cons t T ih =>
    show (([t.1, t.2.1] ++ sidesOf T).map w).sum = _
    rw [List.map_append, List.sum_append, ih, List.map_cons, List.sum_cons]; simp
theorem sum_two (f g : Nat → Nat) (l : List Nat) : (l.map fun x => f x + g x).sum = (l.map f).sum + (l.map g).sum := by
  induction l with
  | nil => rfl
  | cons x l ih => simp only [List.map_cons, List.sum_cons, ih]; omega
theorem nodes_wt (S : Nat → Bool) (n : Nat) : nodes S (2 * n) = ((List.range n).map (wt S)).sum := by
  induction n with
  | zero => rfl
  | succ n ih =>
    rw [List.range_succ, List.map_append, List.sum_append, ← ih]
    show nodes S (2 * n + 2) = _
    unfold nodes
    rw [List.range_succ, List.range_succ, List.append_assoc, List.countP_append]
    simp [List.countP_cons, wt, bit]
    cases S (2 * n) <;> cases S (2 * n + 1) <;> simp
/-- nx is a permutation of the sides. -/
abbrev Perm (nx : Nat → Nat) (n : Nat) : Prop := ((List.range n).map nx).Perm (List.range n)
theorem perm_sum {nx : Nat → Nat} {n : Nat} (h : Perm nx n) (f : Nat → Nat) : ((List.range n).map fun i => f (nx i)).sum = ((List.range n).map f).sum := by
  have := (h.map f).sum_nat
  rwa [List.map_map] at this
theorem corners_ends {nx : Nat → Nat} {n : Nat} (h : Perm nx n) (S : Nat → Bool) : endsIn S (corners nx n) = nodes S (2 * n) := by
  rw [nodes_wt]
  unfold endsIn corners wt
  rw [List.map_map]
  show ((List.range n).map fun i => bit (S (2 * i + 1)) + bit (S (2 * nx i))).sum = _
  rw [sum_two, perm_sum h (fun i => bit (S (2 * i))), sum_two]; omega
theorem corners_in {nx : Nat → Nat} {n : Nat} (h : Perm nx n) : In (2 * n) (corners nx n) := by
  intro p hp
  unfold corners at hp
  obtain ⟨i, hi, rfl⟩ := List.mem_map.1 hp
  have hi := List.mem_range.1 hi
  have : nx i ∈ List.range n := h.mem_iff.1 (List.mem_map.2 ⟨i, List.mem_range.2 hi, rfl⟩)
  have := List.mem_range.1 this
  exact ⟨by show 2 * i + 1 < 2 * n; omega, by show 2 * nx i < 2 * n; omega⟩
/-- Beginnings and ends are as many in each set that the corners keep. -/
theorem corners_even {nx : Nat → Nat} {n : Nat} (h : Perm nx n) {S : Nat → Bool} (hS : Closed S (corners nx n)) : ((List.range n).map fun i => bit (S (2 * i))).sum = ((List.range n).map fun i => bit (S (2 * i + 1))).sum := by
  rw [← perm_sum h (fun i => bit (S (2 * i)))]
  refine congrArg List.sum (List.map_congr_left fun i hi => ?_)
  have := hS (2 * i + 1, 2 * nx i) (List.mem_map.2 ⟨i, hi, rfl⟩)
  show bit (S (2 * nx i)) = bit (S (2 * i + 1))
  rw [show S (2 * i + 1) = S (2 * nx i) from this]

/-- The scheme: sides, which are glued, which not. -/
structure Scheme where
  n : Nat
  nx : Nat → Nat
  T : List (Nat × Nat × Bool)
  Fr : List Nat
namespace Scheme
structure Ok (s : Scheme) : Prop where
  perm : Perm s.nx s.n
  sides : (sidesOf s.T ++ s.Fr).Perm (List.range s.n)
/-- The first letters are glued, the others not yet. -/
def part (s : Scheme) (A B : List (Nat × Nat × Bool)) : List (Nat × Nat) := corners s.nx s.n ++ (A.flatMap glue ++ (B.flatMap spans2 ++ s.Fr.flatMap span))
/-- What hangs together. -/
def tied (s : Scheme) (A : List (Nat × Nat × Bool)) : List (Nat × Nat) := (corners s.nx s.n ++ (List.range s.n).flatMap span) ++ A.map fun t => (2 * t.1, 2 * t.2.1)
end Scheme
end Cls

namespace Cls
namespace Scheme
variable {s : Scheme}
theorem Ok.lt (h : Ok s) {x : Nat} (hx : x ∈ sidesOf s.T ++ s.Fr) : x < s.n := List.mem_range.1 (h.sides.mem_iff.1 hx)
theorem Ok.sum (h : Ok s) (f : Nat → Nat) : ((sidesOf s.T).map f).sum + (s.Fr.map f).sum = ((List.range s.n).map f).sum := by
  have := (h.sides.map f).sum_nat
  rwa [List.map_append, List.sum_append] at this
theorem sides_append (A B : List (Nat × Nat × Bool)) : sidesOf (A ++ B) = sidesOf A ++ sidesOf B := by unfold sidesOf; rw [List.flatMap_append]
theorem sides_mem {T : List (Nat × Nat × Bool)} {t : Nat × Nat × Bool} (h : t ∈ T) : t.1 ∈ sidesOf T ∧ t.2.1 ∈ sidesOf T := by
  unfold sidesOf
  exact ⟨List.mem_flatMap.2 ⟨t, h, by simp⟩, List.mem_flatMap.2 ⟨t, h, by simp⟩⟩
theorem Ok.lt2 (h : Ok s) {t : Nat × Nat × Bool} (ht : t ∈ s.T) : t.1 < s.n ∧ t.2.1 < s.n :=
  ⟨h.lt (List.mem_append.2 (Or.inl (sides_mem ht).1)), h.lt (List.mem_append.2 (Or.inl (sides_mem ht).2))⟩
theorem Ok.ltF (h : Ok s) {x : Nat} (hx : x ∈ s.Fr) : x < s.n := h.lt (List.mem_append.2 (Or.inr hx))
theorem glue_in {t : Nat × Nat × Bool} {n : Nat} (h1 : t.1 < n) (h2 : t.2.1 < n) : In (2 * n) (glue t) := by
  intro p hp
  unfold glue at hp
  split at hp <;> simp only [List.mem_cons, List.not_mem_nil, or_false] at hp <;> rcases hp with rfl | rfl <;> exact ⟨by simp; omega, by simp; omega⟩
theorem spans2_in {t : Nat × Nat × Bool} {n : Nat} (h1 : t.1 < n) (h2 : t.2.1 < n) : In (2 * n) (spans2 t) := by
  intro p hp
  unfold spans2 at hp
  simp only [List.mem_cons, List.not_mem_nil, or_false] at hp
  rcases hp with rfl | rfl
  · exact ⟨by simp; omega, by simp; omega⟩
  · split <;> exact ⟨by simp; omega, by simp; omega⟩
theorem part_mem {A B : List (Nat × Nat × Bool)} {p : Nat × Nat} : p ∈ s.part A B ↔ p ∈ corners s.nx s.n ∨ (∃ t ∈ A, p ∈ glue t) ∨ (∃ t ∈ B, p ∈ spans2 t) ∨ ∃ x ∈ s.Fr, p ∈ span x := by
  unfold part
  simp only [List.mem_append, List.mem_flatMap]
theorem Ok.partIn (h : Ok s) {A B : List (Nat × Nat × Bool)} (hA : ∀ t ∈ A, t ∈ s.T) (hB : ∀ t ∈ B, t ∈ s.T) : In (2 * s.n) (s.part A B) := by
  intro p hp
  rcases part_mem.1 hp with hp | ⟨t, ht, hp⟩ | ⟨t, ht, hp⟩ | ⟨x, hx, hp⟩
  · exact corners_in h.perm p hp
  · exact glue_in (h.lt2 (hA t ht)).1 (h.lt2 (hA t ht)).2 p hp
  · exact spans2_in (h.lt2 (hB t ht)).1 (h.lt2 (hB t ht)).2 p hp
  · have := h.ltF hx
    rw [List.mem_singleton.1 hp]
    exact ⟨by simp; omega, by simp; omega⟩
theorem part_ends (S : Nat → Bool) (h : Ok s) (A B : List (Nat × Nat × Bool)) : endsIn S (s.part A B) = nodes S (2 * s.n) + (((sidesOf A).map (wt S)).sum + ((sidesOf B).map (wt S)).sum + (s.Fr.map (wt S)).sum) := by
  unfold part
  rw [endsIn_append, endsIn_append, endsIn_append, corners_ends h.perm, flat_ends, flat_ends, flat_ends, sum_sides, sum_sides]
  simp only [glue_ends, spans2_ends, span_ends]
  have e : (List.map (fun t => wt S t) s.Fr).sum = (List.map (wt S) s.Fr).sum := rfl
  omega
/-- Two ends more, of the letter that is not glued yet. -/
def endD (t : Nat × Nat × Bool) : Nat := if t.2.2 then 2 * t.2.1 + 1 else 2 * t.2.1
def endE (t : Nat × Nat × Bool) : Nat := if t.2.2 then 2 * t.2.1 else 2 * t.2.1 + 1
theorem glue_eq (t : Nat × Nat × Bool) : glue t = [(2 * t.1, endD t), (2 * t.1 + 1, endE t)] := by unfold glue endD endE; split <;> rfl
theorem spans2_eq (t : Nat × Nat × Bool) : spans2 t = [(2 * t.1, 2 * t.1 + 1), (endD t, endE t)] := by unfold spans2 endD endE; split <;> rfl
theorem wt_ends (S : Nat → Bool) (t : Nat × Nat × Bool) : wt S t.2.1 = bit (S (endD t)) + bit (S (endE t)) := by unfold wt endD endE; split <;> omega
theorem Ok.sum3 (h : Ok s) {A B : List (Nat × Nat × Bool)} {t : Nat × Nat × Bool} (hT : s.T = A ++ t :: B) (f : Nat → Nat) :
    ((sidesOf A).map f).sum + ((sidesOf B).map f).sum + (s.Fr.map f).sum + (f t.1 + f t.2.1) = ((List.range s.n).map f).sum := by
  have := h.sum f
  rw [hT, sides_append, show sidesOf (t :: B) = [t.1, t.2.1] ++ sidesOf B from rfl, List.map_append, List.map_append, List.sum_append, List.sum_append] at this
  simp at this
  omega
theorem Ok.quad (h : Ok s) {A B : List (Nat × Nat × Bool)} {t : Nat × Nat × Bool} (hT : s.T = A ++ t :: B) : Quad (2 * s.n) (s.part A B) (2 * t.1) (2 * t.1 + 1) (endD t) (endE t) := by
  have ht : t ∈ s.T := by rw [hT]; simp
  have h2 := h.lt2 ht
  refine ⟨h.partIn (fun u hu => by rw [hT]; simp [hu]) (fun u hu => by rw [hT]; simp [hu]), by omega, by omega, by unfold endD; split <;> omega, by unfold endE; split <;> omega, fun S hS => ?_⟩
  have h3 := endsIn_closed hS
  rw [part_ends S h] at h3
  have h4 := h.sum3 hT (wt S)
  rw [← nodes_wt, wt_ends] at h4
  unfold wt at h4
  unfold wt at h3
  omega
theorem part_spans (A B : List (Nat × Nat × Bool)) (t : Nat × Nat × Bool) (h : Ok s) (hA : ∀ u ∈ A, u ∈ s.T) (hB : ∀ u ∈ t :: B, u ∈ s.T) : num (2 * s.n) (mergeAll (s.part A (t :: B))) = num (2 * s.n) (mergeAll (s.part A B ++ [(2 * t.1, 2 * t.1 + 1), (endD t, endE t)])) := by
  refine num_mem (h.partIn hA hB) fun p => ?_
  rw [← spans2_eq, List.mem_append, part_mem, part_mem]
  constructor
  · rintro (hp | hp | ⟨u, hu, hp⟩ | hp)
    · exact Or.inl (Or.inl hp)
    · exact Or.inl (Or.inr (Or.inl hp))
    · rcases List.mem_cons.1 hu with rfl | hu
      · exact Or.inr hp
      · exact Or.inl (Or.inr (Or.inr (Or.inl ⟨u, hu, hp⟩)))
    · exact Or.inl (Or.inr (Or.inr (Or.inr hp)))
  · rintro ((hp | hp | ⟨u, hu, hp⟩ | hp) | hp)
    · exact Or.inl hp
    · exact Or.inr (Or.inl hp)
    · exact Or.inr (Or.inr (Or.inl ⟨u, List.mem_cons_of_mem _ hu, hp⟩))
    · exact Or.inr (Or.inr (Or.inr hp))
    · exact Or.inr (Or.inr (Or.inl ⟨t, List.mem_cons_self .., hp⟩))
theorem part_glue (A B : List (Nat × Nat × Bool)) (t : Nat × Nat × Bool) (h : Ok s) (hA : ∀ u ∈ A ++ [t], u ∈ s.T) (hB : ∀ u ∈ B, u ∈ s.T) : num (2 * s.n) (mergeAll (s.part (A ++ [t]) B)) = num (2 * s.n) (mergeAll (s.part A B ++ [(2 * t.1, endD t), (2 * t.1 + 1, endE t)])) := by
  refine num_mem (h.partIn hA hB) fun p => ?_
  rw [← glue_eq, List.mem_append, part_mem, part_mem]
  constructor
  · rintro (hp | ⟨u, hu, hp⟩ | hp | hp)
    · exact Or.inl (Or.inl hp)
    · rcases List.mem_append.1 hu with hu | hu
      · exact Or.inl (Or.inr (Or.inl ⟨u, hu, hp⟩))
      · rw [List.mem_singleton.1 hu] at hp; exact Or.inr hp
    · exact Or.inl (Or.inr (Or.inr (Or.inl hp)))
    · exact Or.inl (Or.inr (Or.inr (Or.inr hp)))
  · rintro ((hp | ⟨u, hu, hp⟩ | hp | hp) | hp)
    · exact Or.inl hp
    · exact Or.inr (Or.inl ⟨u, List.mem_append.2 (Or.inl hu), hp⟩)
    · exact Or.inr (Or.inr (Or.inl hp))
    · exact Or.inr (Or.inr (Or.inr hp))
    · exact Or.inr (Or.inl ⟨t, List.mem_append.2 (Or.inr (List.mem_singleton.2 rfl)), hp⟩)
/-- The tied sets. -/
theorem tied_span {A : List (Nat × Nat × Bool)} {x : Nat} (hx : x < s.n) : mergeAll (s.tied A) (2 * x) = mergeAll (s.tied A) (2 * x + 1) :=
  eq_of_mem (List.mem_append.2 (Or.inl (List.mem_append.2 (Or.inr (List.mem_flatMap.2 ⟨x, List.mem_range.2 hx, by simp [span]⟩)))))
theorem tied_link {A : List (Nat × Nat × Bool)} {t : Nat × Nat × Bool} (ht : t ∈ A) : mergeAll (s.tied A) (2 * t.1) = mergeAll (s.tied A) (2 * t.2.1) :=
  eq_of_mem (List.mem_append.2 (Or.inr (List.mem_map.2 ⟨t, ht, rfl⟩)))
theorem tied_corner {A : List (Nat × Nat × Bool)} {p : Nat × Nat} (hp : p ∈ corners s.nx s.n) : mergeAll (s.tied A) p.1 = mergeAll (s.tied A) p.2 :=
  eq_of_mem (List.mem_append.2 (Or.inl (List.mem_append.2 (Or.inl hp))))
theorem tied_endD {A : List (Nat × Nat × Bool)} {t : Nat × Nat × Bool} (h2 : t.2.1 < s.n) : mergeAll (s.tied A) (endD t) = mergeAll (s.tied A) (2 * t.2.1) ∧ mergeAll (s.tied A) (endE t) = mergeAll (s.tied A) (2 * t.2.1) := by
  unfold endD endE
  split
  · exact ⟨(tied_span h2).symm, rfl⟩
  · exact ⟨rfl, (tied_span h2).symm⟩
theorem Ok.tied_part (h : Ok s) {A B : List (Nat × Nat × Bool)} (hA : ∀ t ∈ A, t ∈ s.T) (hB : ∀ t ∈ B, t ∈ s.T) (r : Nat) : Closed (fun v => mergeAll (s.tied A) v == r) (s.part A B) := by
  intro p hp
  show (mergeAll (s.tied A) p.1 == r) = (mergeAll (s.tied A) p.2 == r)
  have key : mergeAll (s.tied A) p.1 = mergeAll (s.tied A) p.2 := by
    rcases part_mem.1 hp with hp | ⟨t, ht, hp⟩ | ⟨t, ht, hp⟩ | ⟨x, hx, hp⟩
    · exact tied_corner hp
    · have h2 := h.lt2 (hA t ht)
      have e := tied_endD (A := A) h2.2
      rw [glue_eq] at hp
      simp only [List.mem_cons, List.not_mem_nil, or_false] at hp
      rcases hp with rfl | rfl
      · exact (tied_link ht).trans e.1.symm
      · exact (tied_span h2.1).symm.trans ((tied_link ht).trans e.2.symm)
    · have h2 := h.lt2 (hB t ht)
      have e := tied_endD (A := A) h2.2
      rw [spans2_eq] at hp
      simp only [List.mem_cons, List.not_mem_nil, or_false] at hp
      rcases hp with rfl | rfl
      · exact tied_span h2.1
      · exact e.1.trans e.2.symm
    · rw [List.mem_singleton.1 hp]; exact tied_span (h.ltF hx)
  rw [key]
theorem Ok.tiedIn (h : Ok s) {A : List (Nat × Nat × Bool)} (hA : ∀ t ∈ A, t ∈ s.T) : In (2 * s.n) (s.tied A) := by
  intro p hp
  rcases List.mem_append.1 hp with hp | hp
  · rcases List.mem_append.1 hp with hp | hp
    · exact corners_in h.perm p hp
    · obtain ⟨x, hx, hp⟩ := List.mem_flatMap.1 hp
      have := List.mem_range.1 hx
      rw [List.mem_singleton.1 hp]
      exact ⟨by simp; omega, by simp; omega⟩
  · obtain ⟨t, ht, rfl⟩ := List.mem_map.1 hp
    have := h.lt2 (hA t ht)
    exact ⟨by simp; omega, by simp; omega⟩
/-- At the start: the polygons. -/
theorem Ok.start (h : Ok s) : num (2 * s.n) (mergeAll (s.part [] s.T)) = num (2 * s.n) (mergeAll (s.tied [])) := by
  refine num_ker (Cls.Ok.all (h.partIn (fun _ ht => by cases ht) (fun _ ht => ht))) (Cls.Ok.all (h.tiedIn (fun _ ht => by cases ht))) fun x _ y _ => ⟨fun e => ?_, fun e => ?_⟩
  · have := ker_le (F := mergeAll (s.tied [])) (l := s.part [] s.T) (fun p hp => by
      have := h.tied_part (A := []) (B := s.T) (fun _ ht => by cases ht) (fun _ ht => ht) (mergeAll (s.tied []) p.1) p hp
      simp only [beq_self_eq_true] at this
      exact (beq_iff_eq.1 this.symm).symm) e
    exact this
  · refine ker_le (F := mergeAll (s.part [] s.T)) (l := s.tied []) (fun p hp => ?_) e
    rcases List.mem_append.1 hp with hp | hp
    · rcases List.mem_append.1 hp with hp | hp
      · exact eq_of_mem (part_mem.2 (Or.inl hp))
      · obtain ⟨x, hx, hp⟩ := List.mem_flatMap.1 hp
        rw [List.mem_singleton.1 hp]
        rcases List.mem_append.1 (h.sides.mem_iff.2 hx) with hx | hx
        · unfold sidesOf at hx
          obtain ⟨t, ht, hx⟩ := List.mem_flatMap.1 hx
          simp only [List.mem_cons, List.not_mem_nil, or_false] at hx
          have hs : ∀ p ∈ spans2 t, mergeAll (s.part [] s.T) p.1 = mergeAll (s.part [] s.T) p.2 := fun p hp => eq_of_mem (part_mem.2 (Or.inr (Or.inr (Or.inl ⟨t, ht, hp⟩))))
          rcases hx with rfl | rfl
          · exact hs (2 * t.1, 2 * t.1 + 1) (by simp [spans2])
          · by_cases hf : t.2.2 = true
            · exact (hs (2 * t.2.1 + 1, 2 * t.2.1) (by simp [spans2, hf])).symm
            · exact hs (2 * t.2.1, 2 * t.2.1 + 1) (by simp [spans2, hf])
        · exact eq_of_mem (part_mem.2 (Or.inr (Or.inr (Or.inr ⟨x, hx, by simp [span]⟩))))
    · cases hp
theorem tied_snoc (A : List (Nat × Nat × Bool)) (t : Nat × Nat × Bool) : s.tied (A ++ [t]) = s.tied A ++ [(2 * t.1, 2 * t.2.1)] := by unfold tied; simp
/-- Circles, letters, polygons and parts. -/
theorem Ok.le (h : Ok s) : ∀ A B, s.T = A ++ B → num (2 * s.n) (mergeAll (s.part A B)) + num (2 * s.n) (mergeAll (s.part [] s.T)) ≤ 2 * num (2 * s.n) (mergeAll (s.tied A)) + A.length := by
  intro A
  refine snoc_ind (p := fun A => ∀ B, s.T = A ++ B → num (2 * s.n) (mergeAll (s.part A B)) + num (2 * s.n) (mergeAll (s.part [] s.T)) ≤ 2 * num (2 * s.n) (mergeAll (s.tied A)) + A.length) ?_ ?_ A
  · intro B hB
    rw [show s.part [] B = s.part [] s.T from by rw [hB]; rfl, h.start]
    simp; omega
  · intro A t ih B hT
    have hT' : s.T = A ++ t :: B := by rw [hT]; simp
    have ih := ih (t :: B) hT'
    have hA : ∀ u ∈ A, u ∈ s.T := fun u hu => by rw [hT']; simp [hu]
    have hA' : ∀ u ∈ A ++ [t], u ∈ s.T := fun u hu => by rw [hT]; exact List.mem_append.2 (Or.inl hu)
    have hB' : ∀ u ∈ t :: B, u ∈ s.T := fun u hu => by rw [hT']; exact List.mem_append.2 (Or.inr hu)
    have hB : ∀ u ∈ B, u ∈ s.T := fun u hu => hB' u (List.mem_cons_of_mem _ hu)
    have h2 := h.lt2 (hB' t (List.mem_cons_self ..))
    have q := h.quad hT'
    rw [part_spans A B t h hA hB'] at ih
    rw [part_glue A B t h hA' hB, tied_snoc, List.length_append, List.length_singleton]
    by_cases e : mergeAll (s.tied A) (2 * t.1) = mergeAll (s.tied A) (2 * t.2.1)
    · have h1 := q.le1
      rw [num_same (p := (2 * t.1, 2 * t.2.1)) e]
      omega
    · have hd := tied_endD (A := A) h2.2
      have e' : ¬ mergeAll (s.tied A) (2 * t.2.1) = mergeAll (s.tied A) (2 * t.1) := fun hh => e hh.symm
      have h1 := q.sep (h.tied_part hA hB (mergeAll (s.tied A) (2 * t.1))) (by simp) (by simp [← tied_span (A := A) h2.1]) (by simp [hd.1, e']) (by simp [hd.2, e'])
      have h3 := num_diff (p := (2 * t.1, 2 * t.2.1)) (h.tiedIn hA) (by show 2 * t.1 < 2 * s.n; omega) (by show 2 * t.2.1 < 2 * s.n; omega) e
      omega
end Scheme
end Cls

namespace Cls
theorem nodup_one {l : List Nat} {r : Nat} (hn : l.Nodup) (h : ∀ x ∈ l, x = r) : l.length ≤ 1 := by
  cases l with
  | nil => simp
  | cons x l =>
    cases l with
    | nil => simp
    | cons y l =>
      rw [List.nodup_cons] at hn
      have h1 := h x (by simp)
      have h2 := h y (by simp)
      exact absurd (show x ∈ y :: l by rw [h1, ← h2]; simp) hn.1
/-- One class is one class. -/
theorem numS_cls (c : Nat → Nat) (r N : Nat) : numS (fun v => c v == r) N c ≤ 1 := by
  unfold numS
  refine nodup_one (r := r) (List.nodup_range.filter _) fun x hx => ?_
  have := (List.mem_filter.1 hx).2
  simp only [Bool.and_eq_true, beq_iff_eq] at this
  omega
theorem le_sum {l : List Nat} {x : Nat} (h : x ∈ l) : x ≤ l.sum := by
  induction l with
  | nil => cases h
  | cons y l ih =>
    rw [List.sum_cons]
    rcases List.mem_cons.1 h with rfl | h
    · omega
    · have := ih h; omega
theorem bit_one (b : Bool) : bit b = 1 ↔ b = true := by cases b <;> simp [bit]
namespace Scheme
variable {s : Scheme}
/-- The polygons can be turned so that every letter is glued beginning to end. -/
def Turned (s : Scheme) : Prop := ∃ fl : Nat → Bool, (∀ i, i < s.n → fl (s.nx i) = fl i) ∧ ∀ t ∈ s.T, t.2.2 = (fl t.1 == fl t.2.1)
theorem sum_bits (f : Nat → Nat) (T : List (Nat × Nat × Bool)) : ((sidesOf T).map f).sum = (T.map fun t => f t.1 + f t.2.1).sum := sum_sides f T
theorem sum_eq {α : Type} {f g : α → Nat} {l : List α} (h : ∀ x ∈ l, f x = g x) : (l.map f).sum = (l.map g).sum := by rw [List.map_congr_left h]
/-- The ends of a side, by colour. -/
def nt (fl : Nat → Bool) (x : Nat) : Nat := if fl x then 2 * x else 2 * x + 1
def nf (fl : Nat → Bool) (x : Nat) : Nat := if fl x then 2 * x + 1 else 2 * x
theorem corners_col {nx : Nat → Nat} {n : Nat} (h : Perm nx n) {fl : Nat → Bool} (hf : ∀ i, i < n → fl (nx i) = fl i) {S : Nat → Bool} (hS : Closed S (corners nx n)) :
    ((List.range n).map fun i => bit (S (nt fl i))).sum = ((List.range n).map fun i => bit (S (nf fl i))).sum := by
  have hc : ∀ i ∈ List.range n, S (2 * i + 1) = S (2 * nx i) := fun i hi => hS (2 * i + 1, 2 * nx i) (List.mem_map.2 ⟨i, hi, rfl⟩)
  have e1 : ((List.range n).map fun i => if fl i then bit (S (nf fl i)) else 0).sum = ((List.range n).map fun i => if fl i then bit (S (nt fl i)) else 0).sum := by
    rw [← perm_sum h (fun i => if fl i then bit (S (nt fl i)) else 0)]
    refine sum_eq fun i hi => ?_
    rw [hf i (List.mem_range.1 hi)]
    by_cases e : fl i = true
    · have e' := hf i (List.mem_range.1 hi)
      rw [if_pos e, if_pos e]
      unfold nf nt
      rw [if_pos e, if_pos (by rw [e']; exact e), hc i hi]
    · rw [if_neg e, if_neg e]
  have e2 : ((List.range n).map fun i => if fl i then 0 else bit (S (nt fl i))).sum = ((List.range n).map fun i => if fl i then 0 else bit (S (nf fl i))).sum := by
    rw [← perm_sum h (fun i => if fl i then 0 else bit (S (nf fl i)))]
    refine sum_eq fun i hi => ?_
    rw [hf i (List.mem_range.1 hi)]
    by_cases e : fl i = true
    · rw [if_pos e, if_pos e]
    · have e' := hf i (List.mem_range.1 hi)
      rw [if_neg e, if_neg e]
      unfold nf nt
      rw [if_neg e, if_neg (by rw [e']; exact e), hc i hi]
  have e3 : ∀ g : Nat → Nat, ((List.range n).map g).sum = ((List.range n).map fun i => if fl i then g i else 0).sum + ((List.range n).map fun i => if fl i then 0 else g i).sum := fun g => by
    rw [← sum_two]
    exact sum_eq fun i _ => by by_cases e : fl i = true <;> simp [e]
  rw [e3 (fun i => bit (S (nt fl i))), e3 (fun i => bit (S (nf fl i))), e1, e2]
theorem Ok.odd (h : Ok s) (ht : Turned s) {A B : List (Nat × Nat × Bool)} {t : Nat × Nat × Bool} (hT : s.T = A ++ t :: B) :
    (num (2 * s.n) (mergeAll (s.part A B ++ [(2 * t.1, endD t), (2 * t.1 + 1, endE t)])) + num (2 * s.n) (mergeAll (s.part A B ++ [(2 * t.1, 2 * t.1 + 1), (endD t, endE t)]))) % 2 = 1 := by
  obtain ⟨fl, hfl, htt⟩ := ht
  have htT : t ∈ s.T := by rw [hT]; simp
  have hA : ∀ u ∈ A, u ∈ s.T := fun u hu => by rw [hT]; simp [hu]
  have hB : ∀ u ∈ B, u ∈ s.T := fun u hu => by rw [hT]; simp [hu]
  have q := h.quad hT
  refine q.odd (fun S hS => ?_) (fun hh => ?_)
  · have h1 := corners_col h.perm hfl (S := S) (hS.sub fun p hp => part_mem.2 (Or.inl hp))
    rw [← h.sum3 hT (fun i => bit (S (nt fl i))), ← h.sum3 hT (fun i => bit (S (nf fl i)))] at h1
    have hgl : ∀ u ∈ A, bit (S (nt fl u.1)) + bit (S (nt fl u.2.1)) = bit (S (nf fl u.1)) + bit (S (nf fl u.2.1)) := fun u hu => by
      have hg : ∀ p ∈ glue u, S p.1 = S p.2 := fun p hp => hS p (part_mem.2 (Or.inr (Or.inl ⟨u, hu, hp⟩)))
      have hu' := htt u (hA u hu)
      unfold glue at hg
      unfold nt nf
      cases e1 : fl u.1 <;> cases e2 : fl u.2.1 <;> rw [e1, e2] at hu' <;> simp [hu'] at hg <;> simp [hg] <;> omega
    have hsp : ∀ u ∈ B, bit (S (nt fl u.1)) + bit (S (nt fl u.2.1)) = bit (S (nf fl u.1)) + bit (S (nf fl u.2.1)) := fun u hu => by
      have hg : ∀ p ∈ spans2 u, S p.1 = S p.2 := fun p hp => hS p (part_mem.2 (Or.inr (Or.inr (Or.inl ⟨u, hu, hp⟩))))
      have e1 := hg (2 * u.1, 2 * u.1 + 1) (by simp [spans2])
      have e2 : S (2 * u.2.1) = S (2 * u.2.1 + 1) := by
        by_cases hf : u.2.2 = true
        · exact (hg (2 * u.2.1 + 1, 2 * u.2.1) (by simp [spans2, hf])).symm
        · exact hg (2 * u.2.1, 2 * u.2.1 + 1) (by simp [spans2, hf])
      simp only at e1
      unfold nt nf
      cases fl u.1 <;> cases fl u.2.1 <;> simp [e1, e2]
    have hfr : ∀ x ∈ s.Fr, bit (S (nt fl x)) = bit (S (nf fl x)) := fun x hx => by
      have e1 := hS (2 * x, 2 * x + 1) (part_mem.2 (Or.inr (Or.inr (Or.inr ⟨x, hx, by simp [span]⟩))))
      simp only at e1
      unfold nt nf
      cases fl x <;> simp [e1]
    rw [sum_bits, sum_bits, sum_bits, sum_bits, sum_eq hgl, sum_eq hsp, sum_eq hfr] at h1
    have hu' := htt t htT
    have h2 : bit (S (nt fl t.1)) + bit (S (nt fl t.2.1)) = bit (S (nf fl t.1)) + bit (S (nf fl t.2.1)) := by omega
    unfold nt nf at h2
    unfold endD endE
    cases e1 : fl t.1 <;> cases e2 : fl t.2.1 <;> rw [e1, e2] at hu' <;> simp [e1, e2] at h2 <;> simp [hu'] <;> omega
  · have hc := Closed.ofCls (s.part A B) (mergeAll (s.part A B) (2 * t.1))
    have h3 := endsIn_closed hc
    rw [part_ends _ h] at h3
    have h4 := h.sum3 hT (wt (fun v => mergeAll (s.part A B) v == mergeAll (s.part A B) (2 * t.1)))
    rw [← nodes_wt, wt_ends] at h4
    have h5 := nodes_le hc q.inN
    have h6 := numS_cls (mergeAll (s.part A B)) (mergeAll (s.part A B) (2 * t.1)) (2 * s.n)
    have h7 : wt (fun v => mergeAll (s.part A B) v == mergeAll (s.part A B) (2 * t.1)) t.1 = 2 := by
      unfold wt; simp [bit, ← hh.1]
    have h8 : bit (mergeAll (s.part A B) (endD t) == mergeAll (s.part A B) (2 * t.1)) = 1 := by rw [← hh.2.1]; simp [bit]
    have h9 : bit (mergeAll (s.part A B) (endE t) == mergeAll (s.part A B) (2 * t.1)) = 1 := by rw [← hh.2.2]; simp [bit]
    rw [h7, h8, h9] at h4
    omega
/-- Two-sided: circles, letters and polygons. -/
theorem Ok.even (h : Ok s) (ht : Turned s) : ∀ A B, s.T = A ++ B → (num (2 * s.n) (mergeAll (s.part A B)) + num (2 * s.n) (mergeAll (s.part [] s.T)) + A.length) % 2 = 0 := by
  intro A
  refine snoc_ind (p := fun A => ∀ B, s.T = A ++ B → (num (2 * s.n) (mergeAll (s.part A B)) + num (2 * s.n) (mergeAll (s.part [] s.T)) + A.length) % 2 = 0) ?_ ?_ A
  · intro B hB
    rw [show s.part [] B = s.part [] s.T from by rw [hB]; rfl]
    simp; omega
  · intro A t ih B hT
    have hT' : s.T = A ++ t :: B := by rw [hT]; simp
    have ih := ih (t :: B) hT'
    have hA : ∀ u ∈ A, u ∈ s.T := fun u hu => by rw [hT']; simp [hu]
    have hA' : ∀ u ∈ A ++ [t], u ∈ s.T := fun u hu => by rw [hT]; exact List.mem_append.2 (Or.inl hu)
    have hB' : ∀ u ∈ t :: B, u ∈ s.T := fun u hu => by rw [hT']; exact List.mem_append.2 (Or.inr hu)
    have hB : ∀ u ∈ B, u ∈ s.T := fun u hu => hB' u (List.mem_cons_of_mem _ hu)
    have q := h.odd ht hT'
    rw [part_spans A B t h hA hB'] at ih
    rw [part_glue A B t h hA' hB, List.length_append, List.length_singleton]
    omega

/-- All letters glued, the free sides left open. -/
def glued (s : Scheme) : List (Nat × Nat) := corners s.nx s.n ++ s.T.flatMap glue
def closed (s : Scheme) : List (Nat × Nat) := s.glued ++ s.Fr.flatMap span
theorem closed_part : s.closed = s.part s.T [] := by unfold closed glued part; simp
/-- How many circles the boundary has. -/
def circles (s : Scheme) : Nat := (found (mergeAll s.closed) (s.Fr.map fun x => 2 * x)).length
theorem Ok.gluedIn (h : Ok s) : In (2 * s.n) s.glued := (h.partIn (A := s.T) (B := []) (fun _ ht => ht) (fun _ ht => by cases ht)).sub fun p hp => by
  rw [← closed_part]; exact List.mem_append.2 (Or.inl hp)
theorem Ok.closedIn (h : Ok s) : In (2 * s.n) s.closed := by rw [closed_part]; exact h.partIn (fun _ ht => ht) (fun _ ht => by cases ht)
theorem numS_split (S : Nat → Bool) (N : Nat) (c : Nat → Nat) : num N c = numS S N c + numS (fun v => !S v) N c := by
  unfold num tally numS
  generalize List.range N = l
  induction l with
  | nil => rfl
  | cons x l ih =>
    simp only [List.filter_cons]
    cases S x <;> cases (c x == x) <;> simp [ih] <;> omega
/-- Pairs outside S leave its classes alone. -/
theorem numS_more {S : Nat → Bool} {N : Nat} {es : List (Nat × Nat)} (fs : List (Nat × Nat)) : Closed S (es ++ fs) → In N (es ++ fs) → (∀ p ∈ fs, S p.1 = false) → numS S N (mergeAll (es ++ fs)) = numS S N (mergeAll es) := by
  refine snoc_ind (p := fun fs => Closed S (es ++ fs) → In N (es ++ fs) → (∀ p ∈ fs, S p.1 = false) → numS S N (mergeAll (es ++ fs)) = numS S N (mergeAll es)) ?_ ?_ fs
  · intro _ _ _; rw [List.append_nil]
  · intro fs p ih hS hN hf
    have hs : ∀ q ∈ es ++ fs, q ∈ es ++ (fs ++ [p]) := fun q hq => by rw [← List.append_assoc]; exact List.mem_append.2 (Or.inl hq)
    have hp := hN p (by simp)
    rw [← List.append_assoc, mergeAll_snoc, numS_out (Ok.all (hN.sub hs)) hp.1 hp.2 (by rw [(hS.sub hs).lab (hN.sub hs) hp.1]; exact hf p (by simp))]
    exact ih (hS.sub hs) (hN.sub hs) (fun q hq => hf q (by simp [hq]))
theorem sum_count (c : Nat → Nat) (W : List Nat) : ∀ R : List Nat, R.Nodup → (R.map fun r => W.countP fun w => c w == r).sum = W.countP fun w => decide (c w ∈ R) := by
  intro R
  induction R with
  | nil => intro _; simp
  | cons r R ih =>
    intro hn
    rw [List.nodup_cons] at hn
    rw [List.map_cons, List.sum_cons, ih hn.2]
    clear ih
    induction W with
    | nil => rfl
    | cons w W ih =>
      rw [List.countP_cons, List.countP_cons, List.countP_cons]
      by_cases e : c w = r
      · have : ¬ c w ∈ R := by rw [e]; exact hn.1
        simp [e, hn.1] ; simp [List.mem_cons] at ih; omega
      · simp only [beq_iff_eq, e, if_false, List.mem_cons, false_or, decide_eq_true_eq]
        simp only [List.mem_cons] at ih
        omega
theorem sum_all2 {l : List Nat} {f : Nat → Nat} (h : ∀ x ∈ l, f x = 2) : (l.map f).sum = 2 * l.length := by
  induction l with
  | nil => rfl
  | cons x l ih => rw [List.map_cons, List.sum_cons, ih (fun y hy => h y (List.mem_cons_of_mem _ hy)), h x (List.mem_cons_self ..), List.length_cons]; omega
/-- Both ends of sides. -/
def both (l : List Nat) : List Nat := l.flatMap fun x => [2 * x, 2 * x + 1]
theorem both_len (l : List Nat) : (both l).length = 2 * l.length := by
  induction l with
  | nil => rfl
  | cons x l ih => show ([2 * x, 2 * x + 1] ++ both l).length = _; rw [List.length_append, ih, List.length_cons]; simp; omega
theorem both_count (S : Nat → Bool) (l : List Nat) : (both l).countP S = (l.map (wt S)).sum := by
  induction l with
  | nil => rfl
  | cons x l ih =>
    show ([2 * x, 2 * x + 1] ++ both l).countP S = _
    rw [List.countP_append, ih, List.map_cons, List.sum_cons]
    unfold wt bit
    simp only [List.countP_cons, List.countP_nil]
    omega
/-- Vertices, circles and free sides: each path of corners has two ends. -/
theorem Ok.circles (h : Ok s) : num (2 * s.n) (mergeAll s.glued) + s.circles = num (2 * s.n) (mergeAll s.closed) + s.Fr.length := by
  let S : Nat → Bool := fun v => s.Fr.any fun f => mergeAll s.closed (2 * f) == mergeAll s.closed v
  have hSc : Closed S s.closed := fun p hp => by
    show (s.Fr.any fun f => mergeAll s.closed (2 * f) == mergeAll s.closed p.1) = (s.Fr.any fun f => mergeAll s.closed (2 * f) == mergeAll s.closed p.2)
    rw [eq_of_mem (a := p.1) (b := p.2) hp]
  have hgc : ∀ p ∈ s.glued, p ∈ s.closed := fun p hp => List.mem_append.2 (Or.inl hp)
  have hSg : Closed S s.glued := hSc.sub hgc
  have hN : Closed (fun v => !S v) s.closed := fun p hp => by show (!S p.1) = (!S p.2); rw [hSc p hp]
  rw [numS_split S, numS_split S (2 * s.n) (mergeAll s.closed)]
  have h1 : numS (fun v => !S v) (2 * s.n) (mergeAll s.closed) = numS (fun v => !S v) (2 * s.n) (mergeAll s.glued) :=
    numS_more (s.Fr.flatMap span) hN h.closedIn (fun p hp => by
      obtain ⟨x, hx, hp⟩ := List.mem_flatMap.1 hp
      rw [List.mem_singleton.1 hp]
      show (!(s.Fr.any fun f => mergeAll s.closed (2 * f) == mergeAll s.closed (2 * x))) = false
      rw [Bool.not_eq_false']
      exact List.any_eq_true.2 ⟨x, hx, by simp⟩)
  have h2 : numS S (2 * s.n) (mergeAll s.closed) = s.circles := by
    unfold numS Scheme.circles
    refine List.Perm.length_eq ((List.perm_ext_iff_of_nodup (List.nodup_range.filter _) (found_nodup _ _)).2 fun x => ?_)
    rw [found_mem, List.mem_filter, List.mem_range, Bool.and_eq_true, beq_iff_eq]
    constructor
    · rintro ⟨_, hx, hx2⟩
      obtain ⟨f, hf, e⟩ := List.any_eq_true.1 hx
      exact ⟨2 * f, List.mem_map.2 ⟨f, hf, rfl⟩, (beq_iff_eq.1 e).trans hx2⟩
    · rintro ⟨m, hm, rfl⟩
      obtain ⟨f, hf, rfl⟩ := List.mem_map.1 hm
      have hlt : 2 * f < 2 * s.n := by have := h.ltF hf; omega
      have hid := (Cls.Ok.all h.closedIn).idem _ hlt
      exact ⟨(Cls.Ok.all h.closedIn).lt _ hlt, List.any_eq_true.2 ⟨f, hf, by rw [beq_iff_eq]; exact hid.symm⟩, hid⟩
  have h3 : 2 * numS S (2 * s.n) (mergeAll s.glued) = 2 * s.Fr.length := by
    have hgo := Cls.Ok.all h.gluedIn
    have hR := sum_count (mergeAll s.glued) (both s.Fr) ((List.range (2 * s.n)).filter fun v => S v && mergeAll s.glued v == v) (List.nodup_range.filter _)
    rw [sum_all2 (fun r hr => ?_)] at hR
    · show 2 * ((List.range (2 * s.n)).filter fun v => S v && mergeAll s.glued v == v).length = _
      rw [hR, ← both_len, List.countP_eq_length]
      intro x hx
      unfold both at hx
      obtain ⟨f, hf, hx⟩ := List.mem_flatMap.1 hx
      have hSf : S x = true := by
        have : mergeAll s.closed (2 * f) = mergeAll s.closed (2 * f + 1) := eq_of_mem (List.mem_append.2 (Or.inr (List.mem_flatMap.2 ⟨f, hf, by simp [span]⟩)))
        simp only [List.mem_cons, List.not_mem_nil, or_false] at hx
        rcases hx with rfl | rfl
        · exact List.any_eq_true.2 ⟨f, hf, by simp⟩
        · exact List.any_eq_true.2 ⟨f, hf, by simp [this]⟩
      have hlt : x < 2 * s.n := by
        have := h.ltF hf
        simp only [List.mem_cons, List.not_mem_nil, or_false] at hx
        omega
      rw [decide_eq_true_eq, List.mem_filter, List.mem_range, Bool.and_eq_true, beq_iff_eq]
      exact ⟨hgo.lt _ hlt, by rw [hSg.lab h.gluedIn hlt]; exact hSf, hgo.idem _ hlt⟩
    · obtain ⟨hr1, hr2⟩ := List.mem_filter.1 hr
      have hr1 := List.mem_range.1 hr1
      rw [Bool.and_eq_true, beq_iff_eq] at hr2
      show (both s.Fr).countP (fun w => mergeAll s.glued w == r) = 2
      rw [both_count]
      have hc := Closed.ofCls s.glued r
      have e1 := endsIn_closed hc
      unfold glued at e1
      rw [endsIn_append, corners_ends h.perm, flat_ends] at e1
      simp only [glue_ends] at e1
      rw [← sum_sides] at e1
      have e2 := h.sum (wt (fun v => mergeAll (corners s.nx s.n ++ s.T.flatMap glue) v == r))
      rw [← nodes_wt] at e2
      have e3 := nodes_le hc h.gluedIn
      have e4 := numS_cls (mergeAll s.glued) r (2 * s.n)
      unfold glued at e3 e4 ⊢
      have e5 : (s.Fr.map (wt (fun v => mergeAll (corners s.nx s.n ++ s.T.flatMap glue) v == r))).sum ≠ 0 := by
        intro h0
        have hz : ∀ f ∈ s.Fr, wt (fun v => mergeAll s.glued v == r) f = 0 := fun f hf => by
          rcases Nat.eq_zero_or_pos (wt (fun v => mergeAll s.glued v == r) f) with hw | hw
          · exact hw
          · have hm : wt (fun v => mergeAll s.glued v == r) f ∈ s.Fr.map (wt (fun v => mergeAll s.glued v == r)) := List.mem_map.2 ⟨f, hf, rfl⟩
            have := le_sum hm
            unfold glued at this hw ⊢
            omega
        have hcl : Closed (fun v => mergeAll s.glued v == r) s.closed := fun p hp => by
          rcases List.mem_append.1 hp with hp | hp
          · exact hc p hp
          · obtain ⟨x, hx, hp⟩ := List.mem_flatMap.1 hp
            rw [List.mem_singleton.1 hp]
            have hw := hz x hx
            unfold wt bit at hw
            show (mergeAll s.glued (2 * x) == r) = (mergeAll s.glued (2 * x + 1) == r)
            cases h1 : (mergeAll s.glued (2 * x) == r) <;> cases h2 : (mergeAll s.glued (2 * x + 1) == r) <;> simp [h1, h2] at hw <;> rfl
        obtain ⟨f, hf, e⟩ := List.any_eq_true.1 hr2.1
        have hfr := ker_le (F := fun v => mergeAll s.glued v == r) hcl (beq_iff_eq.1 e)
        have hw := hz f hf
        simp only [hr2.2, beq_self_eq_true] at hfr
        unfold wt bit at hw
        simp [hfr] at hw
      omega
  omega
/-- Euler's number is at most twice the parts less the circles. -/
theorem Ok.bound (h : Ok s) : num (2 * s.n) (mergeAll s.glued) + num (2 * s.n) (mergeAll (s.tied [])) + s.circles ≤ 2 * num (2 * s.n) (mergeAll (s.tied s.T)) + s.T.length + s.Fr.length := by
  have h1 := h.le s.T [] (by simp)
  have h2 := h.circles
  rw [← closed_part, h.start] at h1
  omega
theorem Ok.parity (h : Ok s) (ht : Turned s) : (num (2 * s.n) (mergeAll s.glued) + num (2 * s.n) (mergeAll (s.tied [])) + s.circles + s.T.length + s.Fr.length) % 2 = 0 := by
  have h1 := h.even ht s.T [] (by simp)
  have h2 := h.circles
  rw [← closed_part, h.start] at h1
  omega
end Scheme
end Cls
end Go.Proofs.YtpgdmbolckogcaaDoor
namespace Go.Proofs.YtpgdmbolckogcaaDoor

namespace Glue
/-- The next side of the same polygon. -/
def nxt : List (List Int) → Nat → Nat
  | [], i => i
  | r :: L, i => if i < r.length then (i + 1) % r.length else r.length + nxt L (i - r.length)
/-- The polygon of a side. -/
def pol : List (List Int) → Nat → Nat
  | [], _ => 0
  | r :: L, i => if i < r.length then 0 else pol L (i - r.length) + 1
theorem nxt_in {r : List Int} {L : List (List Int)} {i : Nat} (h : i < r.length) : nxt (r :: L) i = (i + 1) % r.length := by simp only [nxt]; rw [if_pos h]
theorem nxt_out (r : List Int) (L : List (List Int)) (i : Nat) : nxt (r :: L) (r.length + i) = r.length + nxt L i := by simp only [nxt]; rw [if_neg (by omega), Nat.add_sub_cancel_left]
theorem pol_in {r : List Int} {L : List (List Int)} {i : Nat} (h : i < r.length) : pol (r :: L) i = 0 := by simp only [pol]; rw [if_pos h]
theorem pol_out (r : List Int) (L : List (List Int)) (i : Nat) : pol (r :: L) (r.length + i) = pol L i + 1 := by simp only [pol]; rw [if_neg (by omega), Nat.add_sub_cancel_left]
theorem rot_perm (m : Nat) : ((List.range m).map fun i => (i + 1) % m).Perm (List.range m) := by
  cases m with
  | zero => simp
  | succ k =>
    have e : (List.range (k + 1)).map (fun i => (i + 1) % (k + 1)) = (List.range k).map (· + 1) ++ [0] := by
      rw [List.range_succ, List.map_append]
      congr 1
      · exact List.map_congr_left fun i hi => Nat.mod_eq_of_lt (by have := List.mem_range.1 hi; omega)
      · simp
    rw [e, List.range_succ_eq_map]
    exact List.perm_append_comm
theorem range_split (a b : Nat) : List.range (a + b) = List.range a ++ (List.range b).map (a + ·) := List.range_add ..
theorem nxt_perm (L : List (List Int)) : ((List.range L.flatten.length).map (nxt L)).Perm (List.range L.flatten.length) := by
  induction L with
  | nil => simp
  | cons r L ih =>
    rw [List.flatten_cons, List.length_append, range_split, List.map_append, List.map_map]
    refine List.Perm.append ?_ ?_
    · have e : (List.range r.length).map (nxt (r :: L)) = (List.range r.length).map fun i => (i + 1) % r.length :=
        List.map_congr_left fun i hi => by simp only [nxt]; rw [if_pos (List.mem_range.1 hi)]
      rw [e]; exact rot_perm _
    · have e : (List.range L.flatten.length).map (nxt (r :: L) ∘ (r.length + ·)) = ((List.range L.flatten.length).map (nxt L)).map (r.length + ·) := by
        rw [List.map_map]
        refine List.map_congr_left fun i hi => ?_
        show nxt (r :: L) (r.length + i) = r.length + nxt L i
        simp only [nxt]; rw [if_neg (by omega), Nat.add_sub_cancel_left]
      rw [e]; exact ih.map _
theorem nxt_lt {L : List (List Int)} {i : Nat} (h : i < L.flatten.length) : nxt L i < L.flatten.length :=
  List.mem_range.1 ((nxt_perm L).mem_iff.1 (List.mem_map.2 ⟨i, List.mem_range.2 h, rfl⟩))
theorem flat_left {r : List Int} {L : List (List Int)} {i : Nat} (h : i < r.length) : (r :: L).flatten.getD i 0 = r.getD i 0 := by
  rw [List.flatten_cons, List.getD_eq_getElem?_getD, List.getD_eq_getElem?_getD, List.getElem?_append_left h]
theorem flat_right {r : List Int} {L : List (List Int)} {i : Nat} : (r :: L).flatten.getD (r.length + i) 0 = L.flatten.getD i 0 := by
  rw [List.flatten_cons, List.getD_eq_getElem?_getD, List.getD_eq_getElem?_getD, List.getElem?_append_right (by omega), Nat.add_sub_cancel_left]
/-- The corners, by sides. -/
theorem corners_sides (L : List (List Int)) : corners L = (List.range L.flatten.length).map fun i => (endN (L.flatten.getD i 0), begN (L.flatten.getD (nxt L i) 0)) := by
  induction L with
  | nil => rfl
  | cons r L ih =>
    show (r :: L).flatMap (fun r => (List.range r.length).map (corner r)) = _
    rw [List.flatMap_cons, List.flatten_cons, List.length_append, range_split, List.map_append, List.map_map]
    congr 1
    · refine List.map_congr_left fun i hi => ?_
      have hi := List.mem_range.1 hi
      have h2 : (i + 1) % r.length < r.length := Nat.mod_lt _ (by omega)
      rw [show (r ++ L.flatten) = (r :: L).flatten from rfl, show nxt (r :: L) i = (i + 1) % r.length from by simp only [nxt]; rw [if_pos hi], flat_left hi, flat_left h2]
      rfl
    · rw [show L.flatMap (fun r => (List.range r.length).map (corner r)) = corners L from rfl, ih]
      refine List.map_congr_left fun i hi => ?_
      show _ = (endN ((r ++ L.flatten).getD (r.length + i) 0), begN ((r ++ L.flatten).getD (nxt (r :: L) (r.length + i)) 0))
      rw [show (r ++ L.flatten) = (r :: L).flatten from rfl, show nxt (r :: L) (r.length + i) = r.length + nxt L i from by simp only [nxt]; rw [if_neg (by omega), Nat.add_sub_cancel_left], flat_right, flat_right]
theorem pol_nxt {L : List (List Int)} {i : Nat} (h : i < L.flatten.length) : pol L (nxt L i) = pol L i := by
  induction L generalizing i with
  | nil => rfl
  | cons r L ih =>
    by_cases hi : i < r.length
    · rw [nxt_in hi, pol_in hi, pol_in (Nat.mod_lt _ (by omega))]
    · obtain ⟨k, rfl⟩ : ∃ k, i = r.length + k := ⟨i - r.length, by omega⟩
      rw [List.flatten_cons, List.length_append] at h
      rw [nxt_out, pol_out, pol_out, ih (by omega)]
theorem pol_lt {L : List (List Int)} {i : Nat} (h : i < L.flatten.length) : pol L i < L.length := by
  induction L generalizing i with
  | nil => simp at h
  | cons r L ih =>
    simp only [pol]
    rw [List.flatten_cons, List.length_append] at h
    split
    · simp
    · have := ih (i := i - r.length) (by omega); simp; omega
theorem pol_mem {L : List (List Int)} {i : Nat} (h : i < L.flatten.length) : L.flatten.getD i 0 ∈ L.getD (pol L i) [] := by
  induction L generalizing i with
  | nil => simp at h
  | cons r L ih =>
    rw [List.flatten_cons, List.length_append] at h
    simp only [pol]
    by_cases hi : i < r.length
    · rw [if_pos hi, flat_left hi]
      simp [List.getD_eq_getElem?_getD, hi]
    · rw [if_neg hi]
      have e : i = r.length + (i - r.length) := by omega
      rw [e, flat_right, Nat.add_sub_cancel_left]
      have := ih (i := i - r.length) (by omega)
      simpa using this
theorem pol_side {L : List (List Int)} {p : Nat} {x : Int} (hp : p < L.length) (hx : x ∈ L.getD p []) : ∃ i, i < L.flatten.length ∧ pol L i = p ∧ L.flatten.getD i 0 = x := by
  induction L generalizing p with
  | nil => simp at hp
  | cons r L ih =>
    cases p with
    | zero =>
      obtain ⟨i, hi, rfl⟩ := List.mem_iff_getElem.1 (show x ∈ r by simpa using hx)
      refine ⟨i, by rw [List.flatten_cons, List.length_append]; omega, by simp only [pol]; rw [if_pos hi], ?_⟩
      rw [flat_left hi]; simp [List.getD_eq_getElem?_getD, hi]
    | succ p =>
      obtain ⟨i, hi, h1, h2⟩ := ih (p := p) (by simpa using hp) (by simpa using hx)
      refine ⟨r.length + i, by rw [List.flatten_cons, List.length_append]; omega, ?_, by rw [flat_right]; exact h2⟩
      simp only [pol]; rw [if_neg (by omega), Nat.add_sub_cancel_left, h1]
/-- What passes from each side to the next is the same on a polygon. -/
theorem pol_chain {L : List (List Int)} {g : Nat → Nat} (hg : ∀ i, i < L.flatten.length → g (nxt L i) = g i) {i j : Nat} (hi : i < L.flatten.length) (hj : j < L.flatten.length) (e : pol L i = pol L j) : g i = g j := by
  induction L generalizing g i j with
  | nil => simp at hi
  | cons r L ih =>
    rw [List.flatten_cons, List.length_append] at hi hj
    have base : ∀ k, k < r.length → g k = g 0 := by
      intro k
      induction k with
      | zero => intro _; rfl
      | succ k ihk =>
        intro hk
        have h1 := hg k (by rw [List.flatten_cons, List.length_append]; omega)
        simp only [nxt] at h1
        rw [if_pos (by omega), Nat.mod_eq_of_lt hk] at h1
        rw [h1]; exact ihk (by omega)
    simp only [pol] at e
    by_cases h1 : i < r.length
    · by_cases h2 : j < r.length
      · rw [base i h1, base j h2]
      · rw [if_pos h1, if_neg h2] at e; omega
    · by_cases h2 : j < r.length
      · rw [if_neg h1, if_pos h2] at e; omega
      · rw [if_neg h1, if_neg h2] at e
        have := ih (g := fun k => g (r.length + k)) (fun k hk => by
          have h3 := hg (r.length + k) (by rw [List.flatten_cons, List.length_append]; omega)
          simp only [nxt] at h3
          rw [if_neg (by omega), Nat.add_sub_cancel_left] at h3
          exact h3) (i := i - r.length) (j := j - r.length) (by omega) (by omega) (by omega)
        rw [show r.length + (i - r.length) = i by omega, show r.length + (j - r.length) = j by omega] at this
        exact this

/-- The letter's end where a side's end lies. -/
def phi (L : List (List Int)) (v : Nat) : Nat := if v % 2 = 0 then begN (L.flatten.getD (v / 2) 0) else endN (L.flatten.getD (v / 2) 0)
theorem phi_even (L : List (List Int)) (i : Nat) : phi L (2 * i) = begN (L.flatten.getD i 0) := by unfold phi; rw [if_pos (by omega), show 2 * i / 2 = i by omega]
theorem phi_odd (L : List (List Int)) (i : Nat) : phi L (2 * i + 1) = endN (L.flatten.getD i 0) := by unfold phi; rw [if_neg (by omega), show (2 * i + 1) / 2 = i by omega]
theorem phi_half (L : List (List Int)) (v : Nat) : phi L v / 2 = (L.flatten.getD (v / 2) 0).natAbs := by unfold phi; split; exact begN_half _; exact endN_half _
/-- The sides of a letter. -/
def pos (L : List (List Int)) (k : Nat) : List Nat := (List.range L.flatten.length).filter fun i => (L.flatten.getD i 0).natAbs == k
theorem range_get (l : List Int) : (List.range l.length).map (fun i => l.getD i 0) = l := by
  apply List.ext_getElem?
  intro i
  by_cases h : i < l.length
  · simp [h, List.getD_eq_getElem?_getD]
  · rw [List.getElem?_eq_none (by simp; omega), List.getElem?_eq_none (by omega)]
theorem pos_len {L : List (List Int)} {k : Nat} (hk : k < 9) : ((pos L k).length : Int) = (uses L).getD k 0 := by
  unfold uses
  rw [count_get _ _ hk]
  have : (L.flatten.filter fun x => x.natAbs == k) = (pos L k).map (fun i => L.flatten.getD i 0) := by
    conv => lhs; rw [← range_get L.flatten, List.filter_map]
    rfl
  rw [this, List.length_map]
theorem pos_mem {L : List (List Int)} {k i : Nat} : i ∈ pos L k ↔ i < L.flatten.length ∧ (L.flatten.getD i 0).natAbs = k := by
  unfold pos; rw [List.mem_filter, List.mem_range, beq_iff_eq]
theorem pos_nodup (L : List (List Int)) (k : Nat) : (pos L k).Nodup := List.nodup_range.filter _
def sideA (L : List (List Int)) (k : Nat) : Nat := (pos L k).getD 0 0
def sideB (L : List (List Int)) (k : Nat) : Nat := (pos L k).getD 1 0
theorem pos_one {L : List (List Int)} {k : Nat} (h : k ∈ lettersN L 1 1) : pos L k = [sideA L k] := by
  unfold lettersN at h
  obtain ⟨h1, h2⟩ := List.mem_filter.1 h
  have h3 := of_decide_eq_true h2
  have hl := pos_len (L := L) (List.mem_range.1 h1)
  have hl : (pos L k).length = 1 := by omega
  unfold sideA
  obtain ⟨a, ha⟩ := List.length_eq_one_iff.1 hl
  rw [ha]; rfl
theorem pos_two {L : List (List Int)} {k : Nat} (h : k ∈ lettersN L 2 2) : pos L k = [sideA L k, sideB L k] := by
  unfold lettersN at h
  obtain ⟨h1, h2⟩ := List.mem_filter.1 h
  have h3 := of_decide_eq_true h2
  have hl := pos_len (L := L) (List.mem_range.1 h1)
  have hl : (pos L k).length = 2 := by omega
  unfold sideA sideB
  generalize pos L k = l at *
  match l, hl with
  | [a, b], _ => rfl
theorem flat_filter {ks : List Nat} {f : Nat → Nat} : ∀ l : List Nat, ks.Nodup → (∀ i ∈ l, f i ∈ ks) → (ks.flatMap fun k => l.filter fun i => f i == k).Perm l := by
  induction ks with
  | nil =>
    intro l _ h
    cases l with
    | nil => simp
    | cons x l => exact absurd (h x (by simp)) (by simp)
  | cons k ks ih =>
    intro l hn h
    rw [List.nodup_cons] at hn
    rw [List.flatMap_cons]
    have hp := List.filter_append_perm (fun i => f i == k) l
    refine List.Perm.trans ?_ hp
    refine List.Perm.append_left _ ?_
    have h2 := ih (l.filter fun i => !(f i == k)) hn.2 (fun i hi => by
      obtain ⟨h1, h2⟩ := List.mem_filter.1 hi
      have := h i h1
      rcases List.mem_cons.1 this with e | e
      · simp [e] at h2
      · exact e)
    have e : ks.flatMap (fun k => l.filter fun i => f i == k) = ks.flatMap (fun k' => (l.filter fun i => !(f i == k)).filter fun i => f i == k') := by
      have key : ∀ ms : List Nat, (∀ m ∈ ms, m ≠ k) → ms.flatMap (fun k => l.filter fun i => f i == k) = ms.flatMap (fun k' => (l.filter fun i => !(f i == k)).filter fun i => f i == k') := by
        intro ms
        induction ms with
        | nil => intro _; rfl
        | cons m ms ihm =>
          intro hm
          rw [List.flatMap_cons, List.flatMap_cons, ihm (fun x hx => hm x (List.mem_cons_of_mem _ hx))]
          congr 1
          rw [List.filter_filter]
          refine List.filter_congr fun i _ => ?_
          have hmk := hm m (List.mem_cons_self ..)
          by_cases hf : f i = m
          · have : ¬ m = k := hmk
            simp [hf, this]
          · simp [hf]
      exact key ks (fun m hm hmk => hn.1 (hmk ▸ hm))
    rw [e]; exact h2
end Glue

namespace Glue
variable {L : List (List Int)}
/-- The letter's two sides are glued beginning to end. -/
def flagOf (L : List (List Int)) (k : Nat) : Bool := decide (L.flatten.getD (sideA L k) 0 = - L.flatten.getD (sideB L k) 0)
def scheme (L : List (List Int)) : Cls.Scheme where
  n := L.flatten.length
  nx := nxt L
  T := (lettersN L 2 2).map fun k => (sideA L k, sideB L k, flagOf L k)
  Fr := (lettersN L 1 1).map (sideA L)
theorem use_of (h : IsG L) {i : Nat} (hi : i < L.flatten.length) : (L.flatten.getD i 0).natAbs ∈ lettersN L 2 2 ++ lettersN L 1 1 := by
  have hx := pol_mem hi
  have hp := pol_lt hi
  have hr : L.getD (pol L i) [] ∈ L := by
    rw [List.getD_eq_getElem?_getD, List.getElem?_eq_getElem hp]; exact List.getElem_mem hp
  have := occurs h hr hx
  unfold lettersN at this ⊢
  obtain ⟨h1, h2⟩ := List.mem_filter.1 this
  have h2 := of_decide_eq_true h2
  rw [List.mem_append, List.mem_filter, List.mem_filter]
  by_cases e : (uses L).getD (L.flatten.getD i 0).natAbs 0 = 1
  · exact Or.inr ⟨h1, decide_eq_true (by omega)⟩
  · exact Or.inl ⟨h1, decide_eq_true (by omega)⟩
theorem letters_nodup : (lettersN L 2 2 ++ lettersN L 1 1).Nodup := by
  rw [List.nodup_append]
  refine ⟨lettersN_nodup _ _ _, lettersN_nodup _ _ _, fun x hx y hy => ?_⟩
  rintro rfl
  unfold lettersN at hx hy
  have h1 := of_decide_eq_true (List.mem_filter.1 hx).2
  have h2 := of_decide_eq_true (List.mem_filter.1 hy).2
  omega
theorem sides_eq : Cls.sidesOf (scheme L).T ++ (scheme L).Fr = (lettersN L 2 2 ++ lettersN L 1 1).flatMap (pos L) := by
  rw [List.flatMap_append]
  congr 1
  · show Cls.sidesOf ((lettersN L 2 2).map fun k => (sideA L k, sideB L k, flagOf L k)) = _
    unfold Cls.sidesOf
    rw [List.flatMap_map]
    have key : ∀ ms : List Nat, (∀ m ∈ ms, m ∈ lettersN L 2 2) → ms.flatMap (fun k => [sideA L k, sideB L k]) = ms.flatMap (pos L) := by
      intro ms
      induction ms with
      | nil => intro _; rfl
      | cons m ms ih => intro hm; rw [List.flatMap_cons, List.flatMap_cons, ih (fun x hx => hm x (List.mem_cons_of_mem _ hx)), pos_two (hm m (List.mem_cons_self ..))]
    exact key _ (fun _ h => h)
  · show (lettersN L 1 1).map (sideA L) = _
    have key : ∀ ms : List Nat, (∀ m ∈ ms, m ∈ lettersN L 1 1) → ms.map (sideA L) = ms.flatMap (pos L) := by
      intro ms
      induction ms with
      | nil => intro _; rfl
      | cons m ms ih => intro hm; rw [List.map_cons, List.flatMap_cons, ih (fun x hx => hm x (List.mem_cons_of_mem _ hx)), pos_one (hm m (List.mem_cons_self ..))]; rfl
    exact key _ (fun _ h => h)
theorem scheme_ok (h : IsG L) : (scheme L).Ok := ⟨nxt_perm L, by
  rw [sides_eq]
  exact flat_filter (f := fun i => (L.flatten.getD i 0).natAbs) _ letters_nodup (fun i hi => use_of h (List.mem_range.1 hi))⟩
/-- Two different sides of one letter are its first and its second one. -/
theorem pair_of (h : IsG L) {i j : Nat} (hi : i < L.flatten.length) (hj : j < L.flatten.length) (hij : i ≠ j) (e : (L.flatten.getD i 0).natAbs = (L.flatten.getD j 0).natAbs) :
    (L.flatten.getD i 0).natAbs ∈ lettersN L 2 2 ∧ ((i = sideA L (L.flatten.getD i 0).natAbs ∧ j = sideB L (L.flatten.getD i 0).natAbs) ∨ (j = sideA L (L.flatten.getD i 0).natAbs ∧ i = sideB L (L.flatten.getD i 0).natAbs)) := by
  have h1 : i ∈ pos L (L.flatten.getD i 0).natAbs := pos_mem.2 ⟨hi, rfl⟩
  have h2 : j ∈ pos L (L.flatten.getD i 0).natAbs := pos_mem.2 ⟨hj, e.symm⟩
  rcases List.mem_append.1 (use_of h hi) with hu | hu
  · refine ⟨hu, ?_⟩
    rw [pos_two hu] at h1 h2
    simp only [List.mem_cons, List.not_mem_nil, or_false] at h1 h2
    omega
  · rw [pos_one hu] at h1 h2
    simp only [List.mem_singleton] at h1 h2
    omega
theorem beg_ne_end {x : Int} (hx : x ≠ 0) : begN x ≠ endN x := by unfold endN begN; split <;> split <;> omega
theorem beg_end {x : Int} (hx : x ≠ 0) : (begN x = 2 * x.natAbs ∧ endN x = 2 * x.natAbs + 1) ∨ (begN x = 2 * x.natAbs + 1 ∧ endN x = 2 * x.natAbs) := by
  unfold endN begN
  rcases (show x < 0 ∨ 0 < x by omega) with h | h
  · right; rw [if_pos h, if_neg (by omega)]; omega
  · left; rw [if_neg (by omega), if_pos (by omega)]; omega
theorem getD_ne (h : IsG L) {i : Nat} (hi : i < L.flatten.length) : L.flatten.getD i 0 ≠ 0 := by
  have := letters_of h.w _ (show L.flatten.getD i 0 ∈ L.flatten by
    rw [List.getD_eq_getElem?_getD, List.getElem?_eq_getElem hi]; exact List.getElem_mem hi)
  exact this.1
theorem side_lt (h : IsG L) {k : Nat} (hk : k ∈ lettersN L 2 2) : sideA L k < L.flatten.length ∧ sideB L k < L.flatten.length ∧ (L.flatten.getD (sideA L k) 0).natAbs = k ∧ (L.flatten.getD (sideB L k) 0).natAbs = k := by
  have hp := pos_two hk
  have h1 : sideA L k ∈ pos L k := by rw [hp]; simp
  have h2 : sideB L k ∈ pos L k := by rw [hp]; simp
  exact ⟨(pos_mem.1 h1).1, (pos_mem.1 h2).1, (pos_mem.1 h1).2, (pos_mem.1 h2).2⟩
theorem side_lt1 {k : Nat} (hk : k ∈ lettersN L 1 1) : sideA L k < L.flatten.length ∧ (L.flatten.getD (sideA L k) 0).natAbs = k := by
  have hp := pos_one hk
  exact pos_mem.1 (show sideA L k ∈ pos L k by rw [hp]; simp)
theorem glue_phi (h : IsG L) {k : Nat} (hk : k ∈ lettersN L 2 2) : ∀ p ∈ Cls.glue (sideA L k, sideB L k, flagOf L k), phi L p.1 = phi L p.2 := by
  obtain ⟨_, _, h1, h2⟩ := side_lt h hk
  intro p hp
  unfold Cls.glue flagOf at hp
  by_cases e : L.flatten.getD (sideA L k) 0 = - L.flatten.getD (sideB L k) 0
  · rw [if_pos (by simpa using e)] at hp
    simp only [List.mem_cons, List.not_mem_nil, or_false] at hp
    rcases hp with rfl | rfl
    · show phi L (2 * sideA L k) = phi L (2 * sideB L k + 1); rw [phi_even, phi_odd, e]; rfl
    · show phi L (2 * sideA L k + 1) = phi L (2 * sideB L k); rw [phi_even, phi_odd, e]; unfold endN; rw [Int.neg_neg]
  · have e2 : L.flatten.getD (sideA L k) 0 = L.flatten.getD (sideB L k) 0 := by omega
    rw [if_neg (by simpa using e)] at hp
    simp only [List.mem_cons, List.not_mem_nil, or_false] at hp
    rcases hp with rfl | rfl
    · show phi L (2 * sideA L k) = phi L (2 * sideB L k); rw [phi_even, phi_even, e2]
    · show phi L (2 * sideA L k + 1) = phi L (2 * sideB L k + 1); rw [phi_odd, phi_odd, e2]
/-- Sides' ends that lie at the same letter's end are glued. -/
theorem phi_glue (h : IsG L) {es : List (Nat × Nat)} (hes : ∀ k ∈ lettersN L 2 2, ∀ p ∈ Cls.glue (sideA L k, sideB L k, flagOf L k), Cls.mergeAll es p.1 = Cls.mergeAll es p.2)
    {u v : Nat} (hu : u < 2 * L.flatten.length) (hv : v < 2 * L.flatten.length) (e : phi L u = phi L v) : Cls.mergeAll es u = Cls.mergeAll es v := by
  have eh : (L.flatten.getD (u / 2) 0).natAbs = (L.flatten.getD (v / 2) 0).natAbs := by rw [← phi_half, ← phi_half, e]
  have key : ∀ u v, u < 2 * L.flatten.length → v < 2 * L.flatten.length → phi L u = phi L v → ∀ k, k ∈ lettersN L 2 2 → u / 2 = sideA L k → v / 2 = sideB L k → Cls.mergeAll es u = Cls.mergeAll es v := by
    intro u v hu hv e k hk ea eb
    obtain ⟨hA, hB, h1, h2⟩ := side_lt h hk
    have hg := hes k hk
    have nA := beg_ne_end (getD_ne h hA)
    have nB := beg_ne_end (getD_ne h hB)
    unfold Cls.glue flagOf at hg
    have hu2 : u = 2 * sideA L k ∨ u = 2 * sideA L k + 1 := by omega
    have hv2 : v = 2 * sideB L k ∨ v = 2 * sideB L k + 1 := by omega
    by_cases ef : L.flatten.getD (sideA L k) 0 = - L.flatten.getD (sideB L k) 0
    · rw [if_pos (by simpa using ef)] at hg
      rcases hu2 with rfl | rfl <;> rcases hv2 with rfl | rfl
      · rw [phi_even, phi_even, ef] at e; exact absurd e.symm nB
      · exact hg (2 * sideA L k, 2 * sideB L k + 1) (by simp)
      · exact hg (2 * sideA L k + 1, 2 * sideB L k) (by simp)
      · rw [phi_odd, phi_odd, ef] at e; unfold endN at e; rw [Int.neg_neg] at e; exact absurd e nB
    · have e2 : L.flatten.getD (sideA L k) 0 = L.flatten.getD (sideB L k) 0 := by omega
      rw [if_neg (by simpa using ef)] at hg
      rcases hu2 with rfl | rfl <;> rcases hv2 with rfl | rfl
      · exact hg (2 * sideA L k, 2 * sideB L k) (by simp)
      · rw [phi_even, phi_odd, e2] at e; exact absurd e nB
      · rw [phi_even, phi_odd, e2] at e; exact absurd e.symm nB
      · exact hg (2 * sideA L k + 1, 2 * sideB L k + 1) (by simp)
  by_cases hs : u / 2 = v / 2
  · by_cases huv : u = v
    · rw [huv]
    · exfalso
      have nU := beg_ne_end (getD_ne h (show u / 2 < L.flatten.length by omega))
      rcases (show (u = 2 * (u / 2) ∧ v = 2 * (u / 2) + 1) ∨ (u = 2 * (u / 2) + 1 ∧ v = 2 * (u / 2)) by omega) with ⟨h1, h2⟩ | ⟨h1, h2⟩
      · rw [h1, h2, phi_even, phi_odd] at e; exact nU (by have := e; simpa using this)
      · rw [h1, h2, phi_even, phi_odd] at e; exact nU (by have := e.symm; simpa using this)
  · obtain ⟨hk, hc⟩ := pair_of h (show u / 2 < L.flatten.length by omega) (show v / 2 < L.flatten.length by omega) hs eh
    rcases hc with ⟨ha, hb⟩ | ⟨ha, hb⟩
    · exact key u v hu hv e _ hk ha hb
    · exact (key v u hv hu e.symm _ hk ha hb).symm
/-- Classes of sides' ends and of letters' ends are the same. -/
theorem bridge (h : IsG L) {es ms : List (Nat × Nat)} (hes : ∀ k ∈ lettersN L 2 2, ∀ p ∈ Cls.glue (sideA L k, sideB L k, flagOf L k), Cls.mergeAll es p.1 = Cls.mergeAll es p.2)
    (h1 : ∀ p ∈ es, Cls.mergeAll ms (phi L p.1) = Cls.mergeAll ms (phi L p.2))
    (h2 : ∀ p ∈ ms, ∃ u v, u < 2 * L.flatten.length ∧ v < 2 * L.flatten.length ∧ p = (phi L u, phi L v) ∧ Cls.mergeAll es u = Cls.mergeAll es v)
    {u v : Nat} (hu : u < 2 * L.flatten.length) (hv : v < 2 * L.flatten.length) : Cls.mergeAll es u = Cls.mergeAll es v ↔ Cls.mergeAll ms (phi L u) = Cls.mergeAll ms (phi L v) := by
  constructor
  · intro e; exact Cls.ker_le (F := fun x => Cls.mergeAll ms (phi L x)) h1 e
  · intro e
    classical
    let G : Nat → Nat := fun m => if hx : ∃ x, x < 2 * L.flatten.length ∧ phi L x = m then Cls.mergeAll es (Classical.choose hx) else 0
    have hG : ∀ x, x < 2 * L.flatten.length → G (phi L x) = Cls.mergeAll es x := fun x hx => by
      have hex : ∃ y, y < 2 * L.flatten.length ∧ phi L y = phi L x := ⟨x, hx, rfl⟩
      show (if hx : ∃ y, y < 2 * L.flatten.length ∧ phi L y = phi L x then Cls.mergeAll es (Classical.choose hx) else 0) = _
      rw [dif_pos hex]
      obtain ⟨h3, h4⟩ := Classical.choose_spec hex
      exact phi_glue h hes h3 hx h4
    have := Cls.ker_le (F := G) (l := ms) (fun p hp => by
      obtain ⟨a, b, ha, hb, rfl, hab⟩ := h2 p hp
      show G (phi L a) = G (phi L b)
      rw [hG a ha, hG b hb, hab]) e
    rwa [hG u hu, hG v hv] at this
theorem glue_mem {k : Nat} (hk : k ∈ lettersN L 2 2) {p : Nat × Nat} (hp : p ∈ Cls.glue (sideA L k, sideB L k, flagOf L k)) : p ∈ (scheme L).glued :=
  List.mem_append.2 (Or.inr (List.mem_flatMap.2 ⟨_, List.mem_map.2 ⟨k, hk, rfl⟩, hp⟩))
theorem corner_mem {i : Nat} (hi : i < L.flatten.length) : (2 * i + 1, 2 * nxt L i) ∈ (scheme L).glued :=
  List.mem_append.2 (Or.inl (List.mem_map.2 ⟨i, List.mem_range.2 hi, rfl⟩))
theorem glued_cases {p : Nat × Nat} (hp : p ∈ (scheme L).glued) : (∃ i, i < L.flatten.length ∧ p = (2 * i + 1, 2 * nxt L i)) ∨ ∃ k ∈ lettersN L 2 2, p ∈ Cls.glue (sideA L k, sideB L k, flagOf L k) := by
  rcases List.mem_append.1 hp with hp | hp
  · obtain ⟨i, hi, rfl⟩ := List.mem_map.1 hp
    exact Or.inl ⟨i, List.mem_range.1 hi, rfl⟩
  · obtain ⟨t, ht, hp⟩ := List.mem_flatMap.1 hp
    obtain ⟨k, hk, rfl⟩ := List.mem_map.1 ht
    exact Or.inr ⟨k, hk, hp⟩
theorem corner_side {i : Nat} (hi : i < L.flatten.length) : (phi L (2 * i + 1), phi L (2 * nxt L i)) ∈ corners L := by
  rw [corners_sides, phi_odd, phi_even]
  exact List.mem_map.2 ⟨i, List.mem_range.2 hi, rfl⟩
theorem corners_cases {p : Nat × Nat} (hp : p ∈ corners L) : ∃ i, i < L.flatten.length ∧ p = (phi L (2 * i + 1), phi L (2 * nxt L i)) := by
  rw [corners_sides] at hp
  obtain ⟨i, hi, rfl⟩ := List.mem_map.1 hp
  exact ⟨i, List.mem_range.1 hi, by rw [phi_odd, phi_even]⟩
theorem ker_cor (h : IsG L) {u v : Nat} (hu : u < 2 * L.flatten.length) (hv : v < 2 * L.flatten.length) : Cls.mergeAll (scheme L).glued u = Cls.mergeAll (scheme L).glued v ↔ cor L (phi L u) = cor L (phi L v) := by
  refine bridge h (fun k hk p hp => Cls.eq_of_mem (glue_mem hk hp)) (fun p hp => ?_) (fun p hp => ?_) hu hv
  · rcases glued_cases hp with ⟨i, hi, rfl⟩ | ⟨k, hk, hp⟩
    · exact Cls.eq_of_mem (corner_side hi)
    · rw [glue_phi h hk p hp]
  · obtain ⟨i, hi, rfl⟩ := corners_cases hp
    have := nxt_lt hi
    exact ⟨_, _, by omega, by omega, rfl, Cls.eq_of_mem (corner_mem hi)⟩
theorem span_phi (h : IsG L) {k : Nat} (hk : k ∈ lettersN L 1 1) : (phi L (2 * sideA L k) = 2 * k ∧ phi L (2 * sideA L k + 1) = 2 * k + 1) ∨ (phi L (2 * sideA L k) = 2 * k + 1 ∧ phi L (2 * sideA L k + 1) = 2 * k) := by
  obtain ⟨h1, h2⟩ := side_lt1 hk
  rw [phi_even, phi_odd]
  have := beg_end (getD_ne h h1)
  rw [h2] at this
  exact this
theorem ker_sewn (h : IsG L) {u v : Nat} (hu : u < 2 * L.flatten.length) (hv : v < 2 * L.flatten.length) : Cls.mergeAll (scheme L).closed u = Cls.mergeAll (scheme L).closed v ↔ sewn L (phi L u) = sewn L (phi L v) := by
  have hcl : ∀ p, p ∈ (scheme L).glued → p ∈ (scheme L).closed := fun p hp => List.mem_append.2 (Or.inl hp)
  have hsp : ∀ k ∈ lettersN L 1 1, Cls.mergeAll (scheme L).closed (2 * sideA L k) = Cls.mergeAll (scheme L).closed (2 * sideA L k + 1) := fun k hk =>
    Cls.eq_of_mem (List.mem_append.2 (Or.inr (List.mem_flatMap.2 ⟨_, List.mem_map.2 ⟨k, hk, rfl⟩, by simp [Cls.span]⟩)))
  have hsw : ∀ k ∈ lettersN L 1 1, sewn L (2 * k) = sewn L (2 * k + 1) := fun k hk =>
    Cls.eq_of_mem (List.mem_append.2 (Or.inr (List.mem_map.2 ⟨k, hk, rfl⟩)))
  refine bridge h (fun k hk p hp => Cls.eq_of_mem (hcl _ (glue_mem hk hp))) (fun p hp => ?_) (fun p hp => ?_) hu hv
  · rcases List.mem_append.1 hp with hp | hp
    · rcases glued_cases hp with ⟨i, hi, rfl⟩ | ⟨k, hk, hp⟩
      · exact Cls.eq_of_mem (List.mem_append.2 (Or.inl (corner_side hi)))
      · rw [glue_phi h hk p hp]
    · obtain ⟨x, hx, hp⟩ := List.mem_flatMap.1 hp
      obtain ⟨k, hk, rfl⟩ := List.mem_map.1 hx
      rw [List.mem_singleton.1 hp]
      have := hsw k hk
      rcases span_phi h hk with ⟨e1, e2⟩ | ⟨e1, e2⟩
      · show sewn L (phi L (2 * sideA L k)) = sewn L (phi L (2 * sideA L k + 1)); rw [e1, e2]; exact this
      · show sewn L (phi L (2 * sideA L k)) = sewn L (phi L (2 * sideA L k + 1)); rw [e1, e2]; exact this.symm
  · rcases List.mem_append.1 hp with hp | hp
    · obtain ⟨i, hi, rfl⟩ := corners_cases hp
      have := nxt_lt hi
      exact ⟨_, _, by omega, by omega, rfl, Cls.eq_of_mem (hcl _ (corner_mem hi))⟩
    · obtain ⟨k, hk, rfl⟩ := List.mem_map.1 hp
      have hA := (side_lt1 hk).1
      rcases span_phi h hk with ⟨e1, e2⟩ | ⟨e1, e2⟩
      · exact ⟨2 * sideA L k, 2 * sideA L k + 1, by omega, by omega, by rw [e1, e2], hsp k hk⟩
      · exact ⟨2 * sideA L k + 1, 2 * sideA L k, by omega, by omega, by rw [e1, e2], (hsp k hk).symm⟩
theorem phi_ends (h : IsG L) {m : Nat} : (∃ u ∈ List.range (2 * L.flatten.length), phi L u = m) ↔ m ∈ ends (lettersN L 1 2) := by
  rw [ends_mem]
  constructor
  · rintro ⟨u, hu, rfl⟩
    rw [phi_half]
    have hi : u / 2 < L.flatten.length := by have := List.mem_range.1 hu; omega
    have hr : L.getD (pol L (u / 2)) [] ∈ L := by
      rw [List.getD_eq_getElem?_getD, List.getElem?_eq_getElem (pol_lt hi)]; exact List.getElem_mem _
    exact occurs h hr (pol_mem hi)
  · intro hm
    obtain ⟨p, hp, hx⟩ := letter_has hm
    obtain ⟨y, hy, e⟩ := has_iff.1 hx
    obtain ⟨i, hi, _, rfl⟩ := pol_side hp hy
    rcases (show begN (L.flatten.getD i 0) = m ∨ endN (L.flatten.getD i 0) = m by have := beg_end (getD_ne h hi); omega) with e2 | e2
    · exact ⟨2 * i, List.mem_range.2 (by omega), by rw [phi_even]; exact e2⟩
    · exact ⟨2 * i + 1, List.mem_range.2 (by omega), by rw [phi_odd]; exact e2⟩
theorem num_cor (h : IsG L) : Cls.num (2 * L.flatten.length) (Cls.mergeAll (scheme L).glued) = vertices L := by
  rw [Cls.num_found (N := 2 * L.flatten.length) (Cls.Ok.all (show Cls.In (2 * L.flatten.length) _ from (scheme_ok h).gluedIn)), ← vertices_found h]
  rw [Cls.found_ker (g := fun u => cor L (phi L u)) (fun i hi j hj => ker_cor h (List.mem_range.1 hi) (List.mem_range.1 hj))]
  refine Cls.found_same fun x => ?_
  constructor
  · rintro ⟨u, hu, rfl⟩; exact ⟨phi L u, (phi_ends h).1 ⟨u, hu, rfl⟩, rfl⟩
  · rintro ⟨m, hm, rfl⟩
    obtain ⟨u, hu, rfl⟩ := (phi_ends h).2 hm
    exact ⟨u, hu, rfl⟩
theorem circles_borders (h : IsG L) : (scheme L).circles = borders L := by
  rw [← borders_found]
  unfold Cls.Scheme.circles
  show (Cls.found (Cls.mergeAll (scheme L).closed) (((lettersN L 1 1).map (sideA L)).map fun x => 2 * x)).length = _
  unfold begins
  rw [List.map_map, Cls.found_map, Cls.found_map]
  refine Cls.found_ker fun i hi j hj => ?_
  have hA := (side_lt1 hi).1
  have hB := (side_lt1 hj).1
  show Cls.mergeAll (scheme L).closed (2 * sideA L i) = Cls.mergeAll (scheme L).closed (2 * sideA L j) ↔ sewn L (2 * i) = sewn L (2 * j)
  rw [ker_sewn h (by omega) (by omega)]
  have key : ∀ k ∈ lettersN L 1 1, sewn L (phi L (2 * sideA L k)) = sewn L (2 * k) := fun k hk => by
    have : sewn L (2 * k) = sewn L (2 * k + 1) := Cls.eq_of_mem (List.mem_append.2 (Or.inr (List.mem_map.2 ⟨k, hk, rfl⟩)))
    rcases span_phi h hk with ⟨e1, _⟩ | ⟨e1, _⟩
    · rw [e1]
    · rw [e1, this]
  rw [key i hi, key j hj]
theorem tied_pol {A : List (Nat × Nat × Bool)} {i j : Nat} (hi : i < L.flatten.length) (hj : j < L.flatten.length) (e : pol L i = pol L j) : Cls.mergeAll ((scheme L).tied A) (2 * i) = Cls.mergeAll ((scheme L).tied A) (2 * j) := by
  refine pol_chain (g := fun i => Cls.mergeAll ((scheme L).tied A) (2 * i)) (fun i hi => ?_) hi hj e
  have h1 := Cls.Scheme.tied_span (s := scheme L) (A := A) (x := i) hi
  have h2 := Cls.Scheme.tied_corner (s := scheme L) (A := A) (p := (2 * i + 1, 2 * nxt L i)) (List.mem_map.2 ⟨i, List.mem_range.2 hi, rfl⟩)
  exact (h1.trans h2).symm
theorem tied_half {A : List (Nat × Nat × Bool)} {u : Nat} (hu : u < 2 * L.flatten.length) : Cls.mergeAll ((scheme L).tied A) u = Cls.mergeAll ((scheme L).tied A) (2 * (u / 2)) := by
  rcases (show u = 2 * (u / 2) ∨ u = 2 * (u / 2) + 1 by omega) with e | e
  · rw [← e]
  · conv => lhs; rw [e]
    exact (Cls.Scheme.tied_span (s := scheme L) (A := A) (x := u / 2) (show u / 2 < L.flatten.length by omega)).symm
/-- The pairs of what hangs together, by polygons. -/
theorem tied_cases {A : List (Nat × Nat × Bool)} {p : Nat × Nat} (hp : p ∈ (scheme L).tied A) : (p.1 / 2 < L.flatten.length ∧ p.2 / 2 < L.flatten.length ∧ pol L (p.1 / 2) = pol L (p.2 / 2)) ∨ ∃ t ∈ A, p = (2 * t.1, 2 * t.2.1) := by
  rcases List.mem_append.1 hp with hp | hp
  · left
    rcases List.mem_append.1 hp with hp | hp
    · obtain ⟨i, hi, rfl⟩ := List.mem_map.1 hp
      have hi := List.mem_range.1 hi
      refine ⟨?_, ?_, ?_⟩
      · show (2 * i + 1) / 2 < _; rw [show (2 * i + 1) / 2 = i by omega]; exact hi
      · show (2 * nxt L i) / 2 < _; rw [show 2 * nxt L i / 2 = nxt L i by omega]; exact nxt_lt hi
      · show pol L ((2 * i + 1) / 2) = pol L ((2 * nxt L i) / 2); rw [show (2 * i + 1) / 2 = i by omega, show 2 * nxt L i / 2 = nxt L i by omega, pol_nxt hi]
    · obtain ⟨x, hx, hp⟩ := List.mem_flatMap.1 hp
      have hx := List.mem_range.1 hx
      rw [List.mem_singleton.1 hp]
      refine ⟨?_, ?_, ?_⟩
      · show 2 * x / 2 < _; rw [show 2 * x / 2 = x by omega]; exact hx
      · show (2 * x + 1) / 2 < _; rw [show (2 * x + 1) / 2 = x by omega]; exact hx
      · show pol L (2 * x / 2) = pol L ((2 * x + 1) / 2); rw [show 2 * x / 2 = x by omega, show (2 * x + 1) / 2 = x by omega]
  · obtain ⟨t, ht, rfl⟩ := List.mem_map.1 hp
    exact Or.inr ⟨t, ht, rfl⟩
theorem pol_all (h : IsG L) {x : Nat} : (∃ u ∈ List.range (2 * L.flatten.length), pol L (u / 2) = x) ↔ x < L.length := by
  constructor
  · rintro ⟨u, hu, rfl⟩
    exact pol_lt (by have := List.mem_range.1 hu; omega)
  · intro hx
    have hne : L.getD x [] ≠ [] := by
      rw [List.getD_eq_getElem?_getD, List.getElem?_eq_getElem hx]; exact (h.2.2.1 _ (List.getElem_mem hx)).1
    obtain ⟨y, hy⟩ := List.exists_mem_of_ne_nil _ hne
    obtain ⟨i, hi, e, _⟩ := pol_side hx hy
    exact ⟨2 * i, List.mem_range.2 (by omega), by rw [show 2 * i / 2 = i by omega]; exact e⟩
theorem num_polys (h : IsG L) : Cls.num (2 * L.flatten.length) (Cls.mergeAll ((scheme L).tied [])) = L.length := by
  rw [Cls.num_found (N := 2 * L.flatten.length) (Cls.Ok.all (show Cls.In (2 * L.flatten.length) _ from (scheme_ok h).tiedIn (fun _ ht => by cases ht)))]
  rw [Cls.found_ker (g := fun u => pol L (u / 2)) (fun i hi j hj => ?_)]
  · have : (Cls.found id (List.range L.length)).length = L.length := by
      rw [← Cls.tally_found (c := id) List.nodup_range (fun m hm => hm) (fun _ _ => rfl)]; unfold Cls.tally; rw [List.filter_eq_self.2 (fun a _ => by simp), List.length_range]
    conv => rhs; rw [← this]
    refine Cls.found_same fun x => ?_
    rw [pol_all h]
    exact ⟨fun hx => ⟨x, List.mem_range.2 hx, rfl⟩, fun ⟨n, hn, e⟩ => by rw [← e]; exact List.mem_range.1 hn⟩
  · have hi := List.mem_range.1 hi
    have hj := List.mem_range.1 hj
    constructor
    · intro e
      refine Cls.ker_le (F := fun u => pol L (u / 2)) (fun p hp => ?_) e
      rcases tied_cases hp with ⟨_, _, e⟩ | ⟨t, ht, _⟩
      · exact e
      · cases ht
    · intro e
      rw [tied_half hi, tied_half hj]
      exact tied_pol (by omega) (by omega) e
theorem num_parts (h : IsG L) : Cls.num (2 * L.flatten.length) (Cls.mergeAll ((scheme L).tied (scheme L).T)) = parts L := by
  rw [Cls.num_found (N := 2 * L.flatten.length) (Cls.Ok.all (show Cls.In (2 * L.flatten.length) _ from (scheme_ok h).tiedIn (fun _ ht => ht)))]
  rw [Cls.found_ker (g := fun u => ring L (pol L (u / 2))) (fun i hi j hj => ?_)]
  · unfold parts
    rw [Cls.tally_range (ring_ok L)]
    refine Cls.found_same fun x => ?_
    constructor
    · rintro ⟨u, hu, rfl⟩
      exact ⟨pol L (u / 2), List.mem_range.2 ((pol_all h).1 ⟨u, hu, rfl⟩), rfl⟩
    · rintro ⟨p, hp, rfl⟩
      obtain ⟨u, hu, e⟩ := (pol_all h).2 (List.mem_range.1 hp)
      exact ⟨u, hu, by simp only [e]⟩
  · have hi := List.mem_range.1 hi
    have hj := List.mem_range.1 hj
    constructor
    · intro e
      refine Cls.ker_le (F := fun u => ring L (pol L (u / 2))) (fun p hp => ?_) e
      rcases tied_cases hp with ⟨_, _, e⟩ | ⟨t, ht, rfl⟩
      · show ring L (pol L (p.1 / 2)) = ring L (pol L (p.2 / 2)); rw [e]
      · obtain ⟨k, hk, rfl⟩ := List.mem_map.1 ht
        obtain ⟨hA, hB, h1, h2⟩ := side_lt h hk
        show ring L (pol L (2 * sideA L k / 2)) = ring L (pol L (2 * sideB L k / 2))
        rw [show 2 * sideA L k / 2 = sideA L k by omega, show 2 * sideB L k / 2 = sideB L k by omega]
        exact ring_share h.w (x := k) (has_iff.2 ⟨_, pol_mem hA, h1⟩) (has_iff.2 ⟨_, pol_mem hB, h2⟩)
    · intro e
      classical
      let G : Nat → Nat := fun q => if hx : ∃ i, i < L.flatten.length ∧ pol L i = q then Cls.mergeAll ((scheme L).tied (scheme L).T) (2 * Classical.choose hx) else 0
      have hG : ∀ i, i < L.flatten.length → G (pol L i) = Cls.mergeAll ((scheme L).tied (scheme L).T) (2 * i) := fun i hi => by
        have hex : ∃ i', i' < L.flatten.length ∧ pol L i' = pol L i := ⟨i, hi, rfl⟩
        show (if hx : ∃ i', i' < L.flatten.length ∧ pol L i' = pol L i then Cls.mergeAll ((scheme L).tied (scheme L).T) (2 * Classical.choose hx) else 0) = _
        rw [dif_pos hex]
        obtain ⟨h3, h4⟩ := Classical.choose_spec hex
        exact tied_pol h3 hi h4
      have := Cls.ker_le (F := G) (l := Cls.tri (share L) 9 L.length 0 0) (fun p hp => by
        obtain ⟨hp1, hp2, x, hx, hs⟩ := Cls.tri_mem.1 hp
        unfold share at hs
        rw [Bool.and_eq_true] at hs
        obtain ⟨y, hy, ey⟩ := has_iff.1 hs.1
        obtain ⟨z, hz, ez⟩ := has_iff.1 hs.2
        obtain ⟨a, ha, pa, rfl⟩ := pol_side hp1 hy
        obtain ⟨b, hb, pb, rfl⟩ := pol_side (show p.2 < L.length by omega) hz
        rw [← pa, ← pb, hG a ha, hG b hb]
        have hab : a ≠ b := fun e => by rw [e, pb] at pa; omega
        obtain ⟨hk, hc⟩ := pair_of h ha hb hab (ey.trans ez.symm)
        have hl := Cls.Scheme.tied_link (s := scheme L) (A := (scheme L).T) (t := (sideA L (L.flatten.getD a 0).natAbs, sideB L (L.flatten.getD a 0).natAbs, flagOf L (L.flatten.getD a 0).natAbs)) (List.mem_map.2 ⟨_, hk, rfl⟩)
        rcases hc with ⟨e1, e2⟩ | ⟨e1, e2⟩
        · rw [← e1, ← e2] at hl; exact hl
        · rw [← e1, ← e2] at hl; exact hl.symm) e
      rw [hG _ (by omega), hG _ (by omega)] at this
      rw [tied_half hi, tied_half hj]; exact this
theorem letters_len (h : IsG L) : (lettersN L 1 2).length = (scheme L).T.length + (scheme L).Fr.length := by
  show _ = ((lettersN L 2 2).map _).length + ((lettersN L 1 1).map _).length
  rw [List.length_map, List.length_map, ← List.length_append]
  refine List.Perm.length_eq ((List.perm_ext_iff_of_nodup (lettersN_nodup _ _ _) letters_nodup).2 fun x => ?_)
  unfold lettersN
  simp only [List.mem_append, List.mem_filter, List.mem_range, decide_eq_true_eq]
  omega
/-- Euler's number is at most twice the parts less the circles of the boundary. -/
theorem euler_le (h : IsG L) : vertices L + L.length + borders L ≤ 2 * parts L + (lettersN L 1 2).length := by
  have := (scheme_ok h).bound
  rw [letters_len h, ← num_cor h, ← num_parts h, ← circles_borders h]
  have h2 := num_polys h
  show Cls.num (2 * L.flatten.length) (Cls.mergeAll (scheme L).glued) + L.length + (scheme L).circles ≤ 2 * Cls.num (2 * L.flatten.length) (Cls.mergeAll ((scheme L).tied (scheme L).T)) + ((scheme L).T.length + (scheme L).Fr.length)
  rw [show Cls.num (2 * (scheme L).n) = Cls.num (2 * L.flatten.length) from rfl, h2] at this
  omega
/-- Turned polygons, by sides. -/
theorem tur_flat (f : Nat → Int → Int) (L : List (List Int)) : ((List.range L.length).map fun p => (L.getD p []).map (f p)).flatten = (List.range L.flatten.length).map fun i => f (pol L i) (L.flatten.getD i 0) := by
  induction L generalizing f with
  | nil => rfl
  | cons r L ih =>
    rw [List.length_cons, List.range_succ_eq_map, List.map_cons, List.flatten_cons, List.map_map]
    have h1 := ih (fun p => f (p + 1))
    rw [show ((List.range L.length).map ((fun p => ((r :: L).getD p []).map (f p)) ∘ Nat.succ)) = (List.range L.length).map fun p => (L.getD p []).map (f (p + 1)) from List.map_congr_left fun p _ => by simp, h1]
    rw [List.flatten_cons, List.length_append, range_split, List.map_append, List.map_map]
    congr 1
    · show r.map (f 0) = _
      conv => lhs; rw [← range_get r, List.map_map]
      refine List.map_congr_left fun i hi => ?_
      have hi := List.mem_range.1 hi
      show f 0 (r.getD i 0) = f (pol (r :: L) i) ((r :: L).flatten.getD i 0)
      rw [pol_in hi, flat_left hi]
    · refine List.map_congr_left fun i hi => ?_
      show f (pol L i + 1) (L.flatten.getD i 0) = f (pol (r :: L) (r.length + i)) ((r :: L).flatten.getD (r.length + i) 0)
      rw [pol_out, flat_right]
theorem tur_sides (set : Nat) (L : List (List Int)) : (tur set L).flatten = (List.range L.flatten.length).map fun i => flip set (pol L i) (L.flatten.getD i 0) := by
  rw [← tur_flat (flip set)]
  unfold tur
  congr 1
  refine List.map_congr_left fun p _ => ?_
  unfold turRow
  by_cases hb : bitOf set p = true
  · rw [if_pos hb]
    refine List.map_congr_left fun x _ => ?_
    unfold flip; rw [if_pos hb]
  · rw [if_neg hb]
    have : flip set p = id := funext fun x => by unfold flip; rw [if_neg hb]; rfl
    rw [this, List.map_id]
theorem scheme_turned (h : Two L) : (scheme L).Turned := by
  obtain ⟨hg, set, _, hc⟩ := h
  refine ⟨fun i => bitOf set (pol L i), fun i hi => by show bitOf set (pol L (nxt L i)) = _; rw [pol_nxt hi], fun t ht => ?_⟩
  obtain ⟨k, hk, rfl⟩ := List.mem_map.1 ht
  obtain ⟨hA, hB, h1, h2⟩ := side_lt hg hk
  have h0 := getD_ne hg hA
  have h9 : k < 9 := lettersN_lt hk
  have hs := hc k (by omega) (by omega)
  unfold signs at hs
  have hl : (L.flatten.filter fun y => y.natAbs == k) = (pos L k).map fun i => L.flatten.getD i 0 := by
    conv => lhs; rw [← range_get L.flatten, List.filter_map]
    rfl
  rw [hl, pos_two hk, if_neg (by simp)] at hs
  have hf : ((tur set L).flatten.filter fun y => y.natAbs == k) = (pos L k).map fun i => flip set (pol L i) (L.flatten.getD i 0) := by
    rw [tur_sides, List.filter_map]
    congr 1
    unfold pos
    refine List.filter_congr fun i _ => ?_
    show ((flip set (pol L i) (L.flatten.getD i 0)).natAbs == k) = _
    rw [flip_abs]
  unfold sg at hs
  rw [hf, pos_two hk] at hs
  simp only [List.map_cons, List.map_nil, List.sum_cons, List.sum_nil, Int.add_zero] at hs
  show flagOf L k = (bitOf set (pol L (sideA L k)) == bitOf set (pol L (sideB L k)))
  unfold flagOf
  unfold sgn flip at hs
  generalize L.flatten.getD (sideA L k) 0 = a at *
  generalize L.flatten.getD (sideB L k) 0 = b at *
  generalize bitOf set (pol L (sideA L k)) = p at *
  generalize bitOf set (pol L (sideB L k)) = q at *
  cases p <;> cases q <;> simp at hs ⊢ <;> split at hs <;> split at hs <;> omega
/-- Where a gluing is two-sided, Euler's number and the circles together are even. -/
theorem euler_even (h : Two L) : (vertices L + L.length + borders L + (lettersN L 1 2).length) % 2 = 0 := by
  have hg := h.1
  have := (scheme_ok hg).parity (scheme_turned h)
  rw [letters_len hg, ← num_cor hg, ← circles_borders hg]
  have h2 := num_polys hg
  rw [show Cls.num (2 * (scheme L).n) = Cls.num (2 * L.flatten.length) from rfl, h2] at this
  omega
end Glue
end Go.Proofs.YtpgdmbolckogcaaDoor
namespace Go.Proofs.YtpgdmbolckogcaaDoor
open Go.RowKit

/-- A struct of three integers. -/
def agg3 (x y z : Int) : Value := .agg #[.int .i64 x, .int .i64 y, .int .i64 z]



/-- A block that holds three integers. -/
theorem box3 {w w1 : World} {B : Nat} {t : TypeId} {x y z : Int} (hb : Below B (w.alloc (.cells #[.int .i64 x, .int .i64 y, .int .i64 z] t)) w1) (hB : w.heap.size < B) : Blk w1 w.heap.size t #[.int .i64 x, .int .i64 y, .int .i64 z] :=
  (Blk.new w t _).below hb hB
theorem Blk.three {w : World} {g : Nat} {t : TypeId} {x y z : Int} (h : Blk w g t #[.int .i64 x, .int .i64 y, .int .i64 z]) :
    w.cell? ⟨g, 0, none⟩ = some (.int .i64 x) ∧ w.cell? ⟨g, 1, none⟩ = some (.int .i64 y) ∧ w.cell? ⟨g, 2, none⟩ = some (.int .i64 z) := ⟨h.cell 0, h.cell 1, h.cell 2⟩
namespace Surf
def Is (x y z : Int) : Prop := (0 ≤ x ∧ x ≤ 20) ∧ (0 ≤ y ∧ y ≤ 20) ∧ (0 ≤ z ∧ z ≤ 20) ∧ (x = 0 ∨ y = 0)
instance (x y z : Int) : Decidable (Is x y z) := by unfold Is; exact inferInstance
def euler (x y z : Int) : Int := if Is x y z then 2 - 2 * x - y - z else -100
end Surf



namespace Surf
/-- A surface, and whether it is one; the zero one if not. -/
def right (s : Int × Int × Int) : Int × Int × Int := if Is s.1 s.2.1 s.2.2 then s else (0, 0, 0)
end Surf
/-- The call gives this struct and a bool. -/
def GivesS (w : World) (s : Int × Int × Int) (b : Bool) (e : Ending) (w' : World) : Prop := e = .returned (.tuple #[.agg #[.int .i64 s.1, .int .i64 s.2.1, .int .i64 s.2.2], .bool b]) ∧ Below w.heap.size w w'

end Go.Proofs.YtpgdmbolckogcaaDoor
namespace Go.Proofs.YtpgdmbolckogcaaDoor
open Go.RowKit

theorem Blk.six {w : World} {g : Nat} {t : TypeId} {x y z : Int} (h : Blk w g t #[.int .i64 x, .int .i64 y, .int .i64 z]) :
    w.cell? ⟨g, 0, none⟩ = some (.int .i64 x) ∧ w.cell? ⟨g, 1, none⟩ = some (.int .i64 y) ∧ w.cell? ⟨g, 2, none⟩ = some (.int .i64 z) ∧
      w.frozen? ⟨g, 0, none⟩ = false ∧ w.frozen? ⟨g, 1, none⟩ = false ∧ w.frozen? ⟨g, 2, none⟩ = false := ⟨h.cell 0, h.cell 1, h.cell 2, h.frozen 0, h.frozen 1, h.frozen 2⟩
theorem Blk.put3 {w : World} {g : Nat} {t : TypeId} {a b c x y z : Value} (h : Blk w g t #[a, b, c]) : Blk (((w.setCell ⟨g, 0, none⟩ x).setCell ⟨g, 1, none⟩ y).setCell ⟨g, 2, none⟩ z) g t #[x, y, z] :=
  ((h.put 0 x).put 1 y).put 2 z
theorem Blk.new' {w : World} {N : Nat} (hN : w.heap.size = N) (t : TypeId) (cs : Array Value) : Blk (w.alloc (.cells cs t)) N t cs := by subst hN; exact Blk.new w t cs
theorem size1 {w : World} {N : Nat} (hN : w.heap.size = N) (o : Obj) : (w.alloc o).heap.size = N + 1 := by subst hN; simp
theorem Below.put3 {N g : Nat} {w w1 : World} (h : Below N w w1) (hg : N ≤ g) (x y z : Value) : Below N w (((w1.setCell ⟨g, 0, none⟩ x).setCell ⟨g, 1, none⟩ y).setCell ⟨g, 2, none⟩ z) :=
  ((h.setCell hg x).setCell hg y).setCell hg z
theorem Blk.far3 {w : World} {g k : Nat} {t : TypeId} {cs : Array Value} (h : Blk w g t cs) (hk : g ≠ k) (x y z : Value) : Blk (((w.setCell ⟨k, 0, none⟩ x).setCell ⟨k, 1, none⟩ y).setCell ⟨k, 2, none⟩ z) g t cs :=
  ((h.far (p := ⟨k, 0, none⟩) hk x).far (p := ⟨k, 1, none⟩) hk y).far (p := ⟨k, 2, none⟩) hk z

namespace Surf
theorem is_b (x y z : Int) : decide (Is x y z) = ((!(decide (0 < x) && decide (0 < y))) && (decide (0 ≤ x ∧ x ≤ 20) && (decide (0 ≤ y ∧ y ≤ 20) && decide (0 ≤ z ∧ z ≤ 20)))) := by
  by_cases h1 : 0 < x
  · by_cases h2 : 0 < y
    · rw [decide_eq_true h1, decide_eq_true h2, decide_eq_false (fun h : Is x y z => by unfold Is at h; omega)]; rfl
    · rw [decide_eq_true h1, decide_eq_false h2, Bool.eq_iff_iff, decide_eq_true_iff]; simp only [Bool.not_false, Bool.and_false, Bool.false_and, Bool.true_and, Bool.and_eq_true, decide_eq_true_eq]; exact ⟨fun h => ⟨h.1, h.2.1, h.2.2.1⟩, fun h => ⟨h.1, h.2.1, h.2.2, by have := h.1; have := h.2.1; omega⟩⟩
  · rw [decide_eq_false h1, Bool.eq_iff_iff, decide_eq_true_iff]; simp only [Bool.not_false, Bool.and_false, Bool.false_and, Bool.true_and, Bool.and_eq_true, decide_eq_true_eq]; exact ⟨fun h => ⟨h.1, h.2.1, h.2.2.1⟩, fun h => ⟨h.1, h.2.1, h.2.2, by have := h.1; have := h.2.1; omega⟩⟩
end Surf




theorem results_cell_tmp {P : Program} {fn : Func} {p q : Tmp} {ty : TypeId} (h : fn.results = #[.cell p ty, .tmp q]) (tmps : Array Value) (w : World) (g : Nat) (t : TypeId) (cs : Array Value) (fr : Nat × Nat) (d : TypeDesc)
    (hp : tmps.getD p undef = .pointer (some ⟨g, 0, none⟩)) (hg : w.heap[g]? = some (.cells cs t fr))
    (hu : P.underlying ty = some d) (hd : (match d with | .struct _ | .array _ _ => true | _ => false) = true) (hi : (P.info? ty).map (·.size) = some cs.size) :
    (results fn tmps).run P w = .ok (.tuple #[.agg cs, tmps.getD q undef]) w := by
  have hp' : tmps[p]?.getD undef = .pointer (some ⟨g, 0, none⟩) := by simpa using hp
  simp [results, h, hp', asAddr, run_loadVar_row w g t ty cs fr d hg hu hd hi]




end Go.Proofs.YtpgdmbolckogcaaDoor
namespace Go.Proofs.YtpgdmbolckogcaaDoor
open Go.RowKit

/-- Three blocks that a call's frame has laid, behind the first callee. -/
theorem Blk.of3 {w w1 : World} {N M : Nat} {t : TypeId} {A B C : Array Value} (hN : w.heap.size = N) (hb : Below M (((w.alloc (.cells A t)).alloc (.cells B t)).alloc (.cells C t)) w1) (hM : M = N + 3) :
    Blk w1 N t A ∧ Blk w1 (N + 1) t B ∧ Blk w1 (N + 1 + 1) t C ∧ Below N w w1 := by
  subst hM
  have s1 := size1 hN (.cells A t)
  have s2 := size1 s1 (.cells B t)
  have h0 : Below N w (((w.alloc (.cells A t)).alloc (.cells B t)).alloc (.cells C t)) := by
    have h := (((Below.refl w.heap.size w).alloc (Nat.le_refl _) (.cells A t)).alloc (by simp) (.cells B t)).alloc (by simp; omega) (.cells C t)
    rwa [hN] at h
  exact ⟨(((Blk.new' hN t A).alloc _).alloc _).below hb (by omega), ((Blk.new' s1 t B).alloc _).below hb (by omega), (Blk.new' s2 t C).below hb (by omega), h0.trans (hb.mono (by omega))⟩
/-- One block. -/
theorem Blk.of1 {w w1 : World} {N M : Nat} {t : TypeId} {A : Array Value} (hN : w.heap.size = N) (hb : Below M (w.alloc (.cells A t)) w1) (hM : M = N + 1) : Blk w1 N t A ∧ Below N w w1 := by
  subst hM
  have h0 : Below N w (w.alloc (.cells A t)) := by
    have h := (Below.refl w.heap.size w).alloc (Nat.le_refl _) (.cells A t)
    rwa [hN] at h
  exact ⟨(Blk.new' hN t A).below hb (by omega), h0.trans (hb.mono (by omega))⟩
/-- Two blocks. -/
theorem Blk.of2 {w w1 : World} {N M : Nat} {t : TypeId} {A B : Array Value} (hN : w.heap.size = N) (hb : Below M ((w.alloc (.cells A t)).alloc (.cells B t)) w1) (hM : M = N + 2) :
    Blk w1 N t A ∧ Blk w1 (N + 1) t B ∧ Below N w w1 := by
  subst hM
  have s1 := size1 hN (.cells A t)
  have h0 : Below N w ((w.alloc (.cells A t)).alloc (.cells B t)) := by
    have h := ((Below.refl w.heap.size w).alloc (Nat.le_refl _) (.cells A t)).alloc (by simp) (.cells B t)
    rwa [hN] at h
  exact ⟨((Blk.new' hN t A).alloc _).below hb (by omega), (Blk.new' s1 t B).below hb (by omega), h0.trans (hb.mono (by omega))⟩

theorem below_lay {N : Nat} {w w2 w3 : World} {o : Obj} (hl : Below N w w2) (hN : N ≤ w2.heap.size) (hb : Below (w2.alloc o).heap.size (w2.alloc o) w3) : Below N w w3 :=
  hl.trans ((((Below.refl w2.heap.size w2).alloc (Nat.le_refl _) o).trans (hb.mono (by simp))).mono hN)

theorem below_put3 {N g : Nat} {w w1 : World} (h : Below N w w1) (hg : N ≤ g) (x y z : Value) : Below N w (((w1.setCell ⟨g, 0, none⟩ x).setCell ⟨g, 1, none⟩ y).setCell ⟨g, 2, none⟩ z) :=
  ((h.setCell hg x).setCell hg y).setCell hg z
namespace Surf
def mix (x y z p q r : Int) : Int × Int × Int := if 0 < y + q then (0, y + q + 2 * (x + p), z + r) else (x + p, y + q, z + r)
def sumOk (x y z p q r : Int) : Prop := Is x y z ∧ Is p q r ∧ Is (mix x y z p q r).1 (mix x y z p q r).2.1 (mix x y z p q r).2.2
instance (x y z p q r : Int) : Decidable (sumOk x y z p q r) := by unfold sumOk; exact inferInstance
def sum (x y z p q r : Int) : Int × Int × Int := if sumOk x y z p q r then mix x y z p q r else (0, 0, 0)
theorem sum_of {x y z p q r : Int} (hs : Is x y z) (ht : Is p q r) : sum x y z p q r = right (mix x y z p q r) ∧ decide (sumOk x y z p q r) = decide (Is (mix x y z p q r).1 (mix x y z p q r).2.1 (mix x y z p q r).2.2) := by
  have e : sumOk x y z p q r ↔ Is (mix x y z p q r).1 (mix x y z p q r).2.1 (mix x y z p q r).2.2 := ⟨fun h => h.2.2, fun h => ⟨hs, ht, h⟩⟩
  refine ⟨?_, decide_eq_decide.2 e⟩
  unfold sum right
  by_cases h : Is (mix x y z p q r).1 (mix x y z p q r).2.1 (mix x y z p q r).2.2
  · rw [if_pos h, if_pos (e.2 h)]
  · rw [if_neg h, if_neg (fun k => h (e.1 k))]
theorem sum_not {x y z p q r : Int} (h : ¬ (Is x y z ∧ Is p q r)) : sum x y z p q r = (0, 0, 0) ∧ decide (sumOk x y z p q r) = false := by
  have e : ¬ sumOk x y z p q r := fun k => h ⟨k.1, k.2.1⟩
  exact ⟨if_neg e, decide_eq_false e⟩
end Surf

end Go.Proofs.YtpgdmbolckogcaaDoor
namespace Go.Proofs.YtpgdmbolckogcaaDoor
open Go.RowKit

namespace Surf
def rest (L : List (List Int)) : Int := 2 - Glue.numBorders L - Glue.numEuler L
def ofS (L : List (List Int)) : Int × Int × Int :=
  if Glue.numParts L = 1 then (if Glue.twoB L then (Int.tdiv (rest L) 2, 0, Glue.numBorders L) else (0, rest L, Glue.numBorders L)) else (0, 0, 0)
theorem of_g {L : List (List Int)} (h : Glue.numParts L = 1) : Glue.IsG L := by
  unfold Glue.numParts at h
  by_cases hg : Glue.IsG L
  · exact hg
  · rw [if_neg hg] at h; omega
theorem borders_bd {L : List (List Int)} (h : Glue.IsG L) : 0 ≤ Glue.numBorders L ∧ Glue.numBorders L ≤ 9 := by
  unfold Glue.numBorders
  rw [if_pos h]
  have h1 := Cls.tally_le (Glue.circ L) (List.range (Glue.lettersN L 1 1).length)
  have h2 := Glue.lettersN_len L 1 1
  rw [List.length_range] at h1
  unfold Glue.borders
  omega
theorem euler_bd {L : List (List Int)} (h : Glue.IsG L) : -9 ≤ Glue.numEuler L ∧ Glue.numEuler L ≤ 30 := by
  unfold Glue.numEuler
  rw [if_pos h]
  have h1 := Glue.vertices_le L
  have h2 := Glue.lettersN_len L 1 2
  have h3 := h.2.1
  omega
theorem euler_b {b : Int} (h0 : 0 ≤ b) (h1 : b ≤ 20) : euler 0 0 b = 2 - b := by
  unfold euler
  rw [if_pos ⟨⟨by omega, by omega⟩, ⟨by omega, by omega⟩, ⟨h0, h1⟩, Or.inl rfl⟩]
  omega
end Surf

theorem held_keep2 {w0 W w1 : World} {b o : Nat} {v : Value} (h : W.cell? ⟨b, o, none⟩ = some v ∧ Below w0.heap.size w0 W) (hp : b < w0.heap.size) (hb : Below W.heap.size W w1) :
    w1.cell? ⟨b, o, none⟩ = some v ∧ Below w0.heap.size w0 w1 :=
  ⟨by rw [hb.cell (p := ⟨b, o, none⟩) (Nat.lt_of_lt_of_le hp h.2.size)]; exact h.1, h.2.trans (hb.mono h.2.size)⟩

end Go.Proofs.YtpgdmbolckogcaaDoor
namespace Go.Proofs.YtpgdmbolckogcaaDoor
open Go.RowKit

theorem ints_one (l : List Int) : ∀ u ∈ intCells l, u.oneCell' = true := by
  intro u hu
  simp only [intCells, List.mem_map] at hu
  obtain ⟨x, _, rfl⟩ := hu
  rfl
theorem grid_one {w : World} {N c n K : Nat} {a : Option Addr} {l : List Int} (hf : Fresh w N 3 a (intCells l)) (hN : N ≤ w.heap.size) (hn : l.length = n) (hK : w.heap.size = K) (hlc : n ≤ c) :
    GridIn (w.alloc (.cells #[.slice a n c] 36)) N (w.alloc (.cells #[.slice a n c] 36)).heap.size (some ⟨K, 0, none⟩) [l] := by
  subst hn; subst hK
  rw [show (w.alloc (.cells #[.slice a l.length c] 36)).heap.size = w.heap.size + 1 from by simp]
  exact grid_single hf hN hlc
theorem int_append (l m : List Int) : intCells (l ++ m) = intCells l ++ intCells m := by simp [intCells]
namespace Surf
/-- The sides of the first i handles; of i crosscaps and of i borders, whose first letter is s. -/
def hs (i : Nat) : List Int := (List.range i).flatMap fun (k : Nat) => [1 + 2 * (k : Int), 1 + 2 * (k : Int) + 1, -(1 + 2 * (k : Int)), -(1 + 2 * (k : Int)) - 1]
def cs (s : Int) (i : Nat) : List Int := (List.range i).flatMap fun (k : Nat) => [s + 1 * (k : Int), s + 1 * (k : Int)]
def bs (s : Int) (i : Nat) : List Int := (List.range i).flatMap fun (k : Nat) => [s + 2 * (k : Int), s + 2 * (k : Int) + 1, -(s + 2 * (k : Int))]
theorem hs_snoc (i : Nat) : hs (i + 1) = hs i ++ [1 + 2 * (i : Int), 1 + 2 * (i : Int) + 1, -(1 + 2 * (i : Int)), -(1 + 2 * (i : Int)) - 1] := by unfold hs; rw [List.range_succ, List.flatMap_append]; simp
theorem cs_snoc (s : Int) (i : Nat) : cs s (i + 1) = cs s i ++ [s + 1 * (i : Int), s + 1 * (i : Int)] := by unfold cs; rw [List.range_succ, List.flatMap_append]; simp
theorem bs_snoc (s : Int) (i : Nat) : bs s (i + 1) = bs s i ++ [s + 2 * (i : Int), s + 2 * (i : Int) + 1, -(s + 2 * (i : Int))] := by unfold bs; rw [List.range_succ, List.flatMap_append]; simp
theorem hs_len (i : Nat) : (hs i).length = 4 * i := by
  induction i with
  | zero => rfl
  | succ i ih => rw [hs_snoc, List.length_append, ih]; simp; omega
theorem cs_len (s : Int) (i : Nat) : (cs s i).length = 2 * i := by
  induction i with
  | zero => rfl
  | succ i ih => rw [cs_snoc, List.length_append, ih]; simp; omega
theorem bs_len (s : Int) (i : Nat) : (bs s i).length = 3 * i := by
  induction i with
  | zero => rfl
  | succ i ih => rw [bs_snoc, List.length_append, ih]; simp; omega
def poly (h c b : Nat) : List Int := hs h ++ cs (1 + 2 * (h : Int)) c ++ bs (1 + 2 * (h : Int) + (c : Int)) b
theorem poly_len (h c b : Nat) : (poly h c b).length = 4 * h + 2 * c + 3 * b := by unfold poly; rw [List.length_append, List.length_append, hs_len, cs_len, bs_len]
def side (h c b : Nat) : List Int := if h = 0 ∧ c = 0 ∧ b = 0 then [1, -1] else poly h c b
/-- The standard gluing, if the letters are enough. -/
def stdOk (x y z : Int) : Prop := Is x y z ∧ 2 * x + y + 2 * z ≤ 8
instance (x y z : Int) : Decidable (stdOk x y z) := by unfold stdOk; exact inferInstance
def std (x y z : Int) : List (List Int) := if stdOk x y z then [side x.toNat y.toNat z.toNat] else []
theorem std_tot (x y z : Int) : tot (std x y z) ≤ 1000000 := by
  unfold std
  by_cases h : stdOk x y z
  · rw [if_pos h]
    obtain ⟨⟨⟨_, _⟩, ⟨_, _⟩, ⟨_, _⟩, _⟩, h8⟩ := h
    have hl : (side x.toNat y.toNat z.toNat).length ≤ 100 := by
      unfold side; split
      · simp
      · rw [poly_len]; omega
    unfold tot; rw [sumLen_flat]
    simp only [List.flatten_cons, List.flatten_nil, List.append_nil, List.length_singleton]
    omega
  · rw [if_neg h]; decide
end Surf

end Go.Proofs.YtpgdmbolckogcaaDoor
namespace Go.Proofs.YtpgdmbolckogcaaDoor

namespace Glue
variable {L : List (List Int)}
theorem borders_zero : borders L = 0 ↔ (lettersN L 1 1).length = 0 := by
  unfold borders
  constructor
  · intro h
    rcases Nat.eq_zero_or_pos (lettersN L 1 1).length with h0 | h0
    · exact h0
    · exfalso
      have ok := circ_ok L
      have h1 := ok.lt 0 h0
      have h2 := ok.idem 0 h0
      unfold Cls.tally at h
      rw [List.length_eq_zero_iff, List.filter_eq_nil_iff] at h
      exact h (circ L 0) (List.mem_range.2 h1) (by simp [h2])
  · intro h; rw [h]; rfl
theorem numEuler_le (h : IsG L) : numEuler L ≤ 2 * numParts L - numBorders L := by
  have := euler_le h
  unfold numEuler numParts numBorders
  rw [if_pos h, if_pos h, if_pos h]
  omega
theorem numEuler_even (h : twoB L = true) : (numEuler L + numBorders L) % 2 = 0 := by
  have h2 := (twoB_iff L).1 h
  have := euler_even h2
  unfold numEuler numBorders
  rw [if_pos h2.1, if_pos h2.1]
  omega
theorem tmod_even {x : Int} (h : x % 2 = 0) : Int.tmod x 2 = 0 := by
  exact Int.tmod_eq_zero_of_dvd (Int.dvd_of_emod_eq_zero h)
end Glue
namespace Surf
/-- The surface of a connected gluing is one, with its Euler number. -/
theorem ofS_is {L : List (List Int)} (hp : Glue.numParts L = 1) : Is (ofS L).1 (ofS L).2.1 (ofS L).2.2 ∧ euler (ofS L).1 (ofS L).2.1 (ofS L).2.2 = Glue.numEuler L := by
  have hg := of_g hp
  have h1 := Glue.numEuler_le hg
  obtain ⟨b0, b1⟩ := borders_bd hg
  obtain ⟨e0, e1⟩ := euler_bd hg
  rw [hp] at h1
  have hr : rest L = 2 - Glue.numBorders L - Glue.numEuler L := rfl
  have key : Is (ofS L).1 (ofS L).2.1 (ofS L).2.2 ∧ 2 * (ofS L).1 + (ofS L).2.1 = rest L ∧ (ofS L).2.2 = Glue.numBorders L := by
    unfold ofS
    rw [if_pos hp]
    by_cases ht : Glue.twoB L = true
    · rw [if_pos ht]
      have he := Glue.numEuler_even ht
      have hd : Int.tdiv (rest L) 2 = rest L / 2 := Int.tdiv_eq_ediv_of_nonneg (by omega)
      refine ⟨⟨⟨?_, ?_⟩, ⟨?_, ?_⟩, ⟨?_, ?_⟩, Or.inr rfl⟩, ?_, rfl⟩ <;> simp only [hd] <;> omega
    · rw [if_neg ht]
      refine ⟨⟨⟨?_, ?_⟩, ⟨?_, ?_⟩, ⟨?_, ?_⟩, Or.inl rfl⟩, ?_, rfl⟩ <;> simp only [] <;> omega
  refine ⟨key.1, ?_⟩
  unfold euler
  rw [if_pos key.1]
  have := key.2.1
  have := key.2.2
  omega
end Surf

namespace Cls
/-- The labels as a table. -/
def tabStep (t : List Nat) (p : Nat × Nat) : List Nat := t.map fun v => if v = t.getD p.1 0 then t.getD p.2 0 else v
def tabAll (n : Nat) (l : List (Nat × Nat)) : List Nat := l.foldl tabStep (List.range n)
theorem tab_get {n : Nat} {l : List (Nat × Nat)} (h : ∀ p ∈ l, p.1 < n ∧ p.2 < n) : (tabAll n l).length = n ∧ ∀ k, k < n → (tabAll n l).getD k 0 = mergeAll l k := by
  have key : ∀ (m : List (Nat × Nat)) (c : Nat → Nat) (t : List Nat), (∀ p ∈ m, p.1 < n ∧ p.2 < n) → t.length = n → (∀ k, k < n → t.getD k 0 = c k) → (m.foldl tabStep t).length = n ∧ ∀ k, k < n → (m.foldl tabStep t).getD k 0 = m.foldl merge c k := by
    intro m
    induction m with
    | nil => intro c t _ hl ht; exact ⟨hl, ht⟩
    | cons p m ih =>
      intro c t hm hl ht
      have hp := hm p (List.mem_cons_self ..)
      rw [List.foldl_cons, List.foldl_cons]
      refine ih (merge c p) (tabStep t p) (fun q hq => hm q (List.mem_cons_of_mem _ hq)) (by unfold tabStep; rw [List.length_map, hl]) (fun k hk => ?_)
      unfold tabStep merge
      rw [ht p.1 hp.1, ht p.2 hp.2]
      have hk' := ht k hk
      rw [List.getD_eq_getElem?_getD] at hk' ⊢
      rw [List.getElem?_map]
      rw [List.getElem?_eq_getElem (by omega)] at hk' ⊢
      simp only [Option.getD_some, Option.map_some] at hk' ⊢
      rw [hk']
  exact key l id (List.range n) h (List.length_range) (fun k hk => by simp [List.getD_eq_getElem?_getD, hk])
theorem tally_tab {n : Nat} {l : List (Nat × Nat)} (h : ∀ p ∈ l, p.1 < n ∧ p.2 < n) {ms : List Nat} (hm : ∀ m ∈ ms, m < n) : tally (mergeAll l) ms = (ms.filter fun m => (tabAll n l).getD m 0 == m).length := by
  unfold tally
  refine congrArg List.length (List.filter_congr fun m hx => ?_)
  rw [(tab_get h).2 m (hm m hx)]
end Cls
namespace Glue
/-- The same numbers, reckoned by tables. -/
def corT (L : List (List Int)) : List Nat := Cls.tabAll 18 (corners L)
def verticesT (L : List (List Int)) : Nat := ((ends (lettersN L 1 2)).filter fun m => (corT L).getD m 0 == m).length
def touchT (L : List (List Int)) (t : List Nat) (i j e : Nat) : Bool := t.getD (2 * free L i + e % 2) 0 == t.getD (2 * free L j + e / 2) 0
def bordersT (L : List (List Int)) : Nat := ((List.range (lettersN L 1 1).length).filter fun m => (Cls.tabAll (lettersN L 1 1).length (Cls.tri (touchT L (corT L)) 4 (lettersN L 1 1).length 0 0)).getD m 0 == m).length
def partsT (L : List (List Int)) : Nat := ((List.range L.length).filter fun m => (Cls.tabAll L.length (Cls.tri (share L) 9 L.length 0 0)).getD m 0 == m).length
theorem ends_lt {L : List (List Int)} {lo hi : Int} : ∀ m ∈ ends (lettersN L lo hi), m < 18 := fun m hm => by
  have := lettersN_lt (ends_mem.1 hm); omega
theorem vertices_T {L : List (List Int)} (h : IsG L) : vertices L = verticesT L := Cls.tally_tab (corners_lt h.w) ends_lt
theorem parts_T (L : List (List Int)) : parts L = partsT L := Cls.tally_tab Cls.tri_lt (fun m hm => List.mem_range.1 hm)
theorem free_lt {L : List (List Int)} {i : Nat} (hi : i < (lettersN L 1 1).length) : free L i < 9 := by
  rw [free_at (List.getElem?_eq_getElem hi)]; exact lettersN_lt (List.getElem_mem hi)
theorem tri_congr {S S' : Nat → Nat → Nat → Bool} {m n : Nat} (h : ∀ a b e, a < n → b < n → e < m → S a b e = S' a b e) : Cls.tri S m n 0 0 = Cls.tri S' m n 0 0 := by
  unfold Cls.tri Cls.lineTo Cls.oneTo
  simp only [List.range_zero, List.flatMap_nil, List.filter_nil, List.map_nil, List.append_nil]
  have key : ∀ l : List Nat, (∀ a ∈ l, a < n) → (l.flatMap fun a => (List.range a).flatMap fun b => ((List.range m).filter (S a b)).map fun _ => (a, b)) = l.flatMap fun a => (List.range a).flatMap fun b => ((List.range m).filter (S' a b)).map fun _ => (a, b) := by
    intro l
    induction l with
    | nil => intro _; rfl
    | cons a l ih =>
      intro hl
      rw [List.flatMap_cons, List.flatMap_cons, ih (fun x hx => hl x (List.mem_cons_of_mem _ hx))]
      congr 1
      have ha := hl a (List.mem_cons_self ..)
      have key2 : ∀ k : List Nat, (∀ b ∈ k, b < a) → (k.flatMap fun b => ((List.range m).filter (S a b)).map fun _ => (a, b)) = k.flatMap fun b => ((List.range m).filter (S' a b)).map fun _ => (a, b) := by
        intro k
        induction k with
        | nil => intro _; rfl
        | cons b k ihk =>
          intro hk
          rw [List.flatMap_cons, List.flatMap_cons, ihk (fun x hx => hk x (List.mem_cons_of_mem _ hx))]
          congr 2
          have hb := hk b (List.mem_cons_self ..)
          exact List.filter_congr fun e he => h a b e ha (by omega) (List.mem_range.1 he)
      exact key2 _ (fun b hb => List.mem_range.1 hb)
  exact key _ (fun a ha => List.mem_range.1 ha)
theorem borders_T {L : List (List Int)} (h : IsG L) : borders L = bordersT L := by
  have ht : Cls.tri (touch L) 4 (lettersN L 1 1).length 0 0 = Cls.tri (touchT L (corT L)) 4 (lettersN L 1 1).length 0 0 := tri_congr fun a b e ha hb he => by
    unfold touch touchT corT
    have h1 := free_lt ha
    have h2 := free_lt hb
    rw [(Cls.tab_get (corners_lt h.w)).2 _ (by omega), (Cls.tab_get (corners_lt h.w)).2 _ (by omega)]
    rfl
  unfold borders circ
  rw [Cls.tally_tab Cls.tri_lt (fun m hm => List.mem_range.1 hm), ht]; rfl
end Glue
namespace Surf
def stdT (h c b : Nat) : Bool :=
  let L := [side h c b]
  decide (Glue.IsG L) && (Glue.partsT L == 1) && (Glue.bordersT L == b) && ((Glue.verticesT L : Int) - ((Glue.lettersN L 1 2).length : Int) + 1 == 2 - 2 * (h : Int) - (c : Int) - (b : Int)) && (Glue.twoB L == (c == 0))
theorem std_all : ((List.range 5).all fun h => (List.range 9).all fun c => (List.range 5).all fun b => !(h == 0 || c == 0) || !(decide (2 * h + c + 2 * b ≤ 8)) || stdT h c b) = true := by decide +kernel
/-- The surface of a standard gluing is the one that was asked for. -/
theorem ofS_std {x y z : Int} (hok : stdOk x y z) : Glue.IsG (std x y z) ∧ Glue.numParts (std x y z) = 1 ∧ ofS (std x y z) = (x, y, z) := by
  obtain ⟨⟨⟨h1, h2⟩, ⟨h3, h4⟩, ⟨h5, h6⟩, h7⟩, h8⟩ := id hok
  have hs : std x y z = [side x.toNat y.toNat z.toNat] := if_pos hok
  have := List.all_eq_true.1 (List.all_eq_true.1 (List.all_eq_true.1 std_all x.toNat (List.mem_range.2 (by omega))) y.toNat (List.mem_range.2 (by omega))) z.toNat (List.mem_range.2 (by omega))
  have ht : stdT x.toNat y.toNat z.toNat = true := by
    simp only [Bool.or_eq_true, Bool.not_eq_true', Bool.or_eq_false_iff, beq_eq_false_iff_ne, decide_eq_false_iff_not] at this
    rcases this with (⟨h3, h4⟩ | h3) | h3
    · omega
    · omega
    · exact h3
  unfold stdT at ht
  simp only [Bool.and_eq_true, decide_eq_true_eq, beq_iff_eq] at ht
  obtain ⟨⟨⟨⟨hg, hp⟩, hb⟩, he⟩, htw⟩ := ht
  rw [hs]
  have hnp : Glue.numParts [side x.toNat y.toNat z.toNat] = 1 := by unfold Glue.numParts; rw [if_pos hg, Glue.parts_T, hp]; rfl
  have hnb : Glue.numBorders [side x.toNat y.toNat z.toNat] = z := by unfold Glue.numBorders; rw [if_pos hg, Glue.borders_T hg, hb]; omega
  have hne : Glue.numEuler [side x.toNat y.toNat z.toNat] = 2 - 2 * x - y - z := by
    unfold Glue.numEuler; rw [if_pos hg, Glue.vertices_T hg]
    simp only [List.length_singleton]
    omega
  refine ⟨hg, hnp, ?_⟩
  unfold ofS rest
  rw [if_pos hnp, hnb, hne, htw]
  by_cases hy : y = 0
  · subst hy
    rw [if_pos (by simp)]
    rw [show (2 : Int) - z - (2 - 2 * x - 0 - z) = 2 * x by omega, show Int.tdiv (2 * x) 2 = x by rw [Int.tdiv_eq_ediv_of_nonneg (by omega)]; omega]
  · rw [if_neg (by simp; omega)]
    have hx : x = 0 := by omega
    subst hx
    rw [show (2 : Int) - z - (2 - 2 * 0 - y - z) = y by omega]
end Surf
end Go.Proofs.YtpgdmbolckogcaaDoor
namespace Go.Proofs.YtpgdmbolckogcaaDoor
open Go.RowKit

namespace Join
def texts (l : List ByteArray) : List (List UInt8) := l.map (·.data.toList)
theorem join_snoc (r : List (List UInt8)) (y sep : List UInt8) (h : r ≠ []) : Lib.join (r ++ [y]) sep = Lib.join r sep ++ (sep ++ y) := by
  cases r with
  | nil => exact absurd rfl h
  | cons x r => rw [List.cons_append, Lib.join_cons, Lib.join_cons]; simp [Lib.joinTail]
theorem join_len (r : List (List UInt8)) (sep : List UInt8) : (Lib.join r sep).length ≤ (r.map List.length).sum + r.length * sep.length := by
  cases r with
  | nil => simp [Lib.join_nil]
  | cons x r =>
    rw [Lib.join_cons]
    have : (Lib.joinTail sep r).length = (r.map List.length).sum + r.length * sep.length := by
      induction r with
      | nil => simp [Lib.joinTail]
      | cons y r ih => simp [Lib.joinTail] at ih ⊢; rw [ih, Nat.add_mul]; omega
    simp only [List.length_append, List.map_cons, List.sum_cons, List.length_cons, this, Nat.add_mul]; omega
theorem texts_sum (l : List ByteArray) : ((texts l).map List.length).sum = total l := by
  unfold texts total
  rw [List.map_map]; rfl
theorem sum_take_le (l : List Nat) (i : Nat) : (l.take i).sum ≤ l.sum := by
  conv => rhs; rw [← List.take_append_drop i l, List.sum_append]
  omega
theorem pre_len (l : List ByteArray) (sep : ByteArray) (i : Nat) (hl : l.length + total l ≤ 1048576) (hs : sep.size ≤ 1048576) : (Lib.join (texts (l.take i)) sep.data.toList).length ≤ 1100000000000 := by
  refine Nat.le_trans (join_len _ _) ?_
  rw [texts_sum]
  have h1 : total (l.take i) ≤ total l := by unfold total; rw [List.map_take]; exact sum_take_le _ _
  have h2 : (texts (l.take i)).length ≤ 1048576 := by simp [texts]; omega
  have h3 : sep.data.toList.length ≤ 1048576 := by simpa using hs
  have h4 : (texts (l.take i)).length * sep.data.toList.length ≤ 1048576 * 1048576 := Nat.mul_le_mul h2 h3
  omega
theorem texts_snoc (l : List ByteArray) (i : Nat) (h : i < l.length) : texts (l.take (i + 1)) = texts (l.take i) ++ [l[i].data.toList] := by
  unfold texts
  rw [List.take_succ_eq_append_getElem h, List.map_append]; rfl
theorem step_first (l : List ByteArray) (sep : List UInt8) (h : 0 < l.length) : Lib.join (texts (l.take (0 + 1))) sep = Lib.join (texts (l.take 0)) sep ++ l[0].data.toList := by
  rw [texts_snoc l 0 h]; simp [texts, Lib.join_nil, Lib.join_one]
theorem step_next (l : List ByteArray) (sep : List UInt8) (i : Nat) (h : i < l.length) (h0 : i ≠ 0) : Lib.join (texts (l.take (i + 1))) sep = Lib.join (texts (l.take i)) sep ++ (sep ++ l[i].data.toList) := by
  rw [texts_snoc l i h, join_snoc]
  intro e
  have := congrArg List.length e
  rw [texts, List.length_map, List.length_take, List.length_nil] at this
  omega
/-- The cells of bytes. -/
def cells (l : List UInt8) : List Value := l.map fun b => Value.int .u8 (b.toNat : Int)
theorem cells_append (l : List UInt8) (s : ByteArray) : cells l ++ Lib.strCells s = cells (l ++ s.data.toList) := by simp [cells, Lib.strCells]
theorem conv_own (w : World) (base : Nat) (v : Value) (l : List UInt8) (h : w.ownsRow base 5 1 v l.length (cells l)) :
    (convert 31 9 v).run Tryd.prog w = .ok (.string ⟨l.toArray⟩) w := by
  obtain ⟨_, ⟨rfl, h0⟩ | ⟨g, cap, cur, rfl, hb, hh, hn, hm, hc, ht⟩⟩ := h
  · obtain rfl : l = [] := List.eq_nil_of_length_eq_zero h0
    rw [run_convert_bytes_string w 31 9 5 none 0 0 Tryd.underlying31 Tryd.underlying5 Tryd.underlying9]; rfl
  · refine run_convert_bytes_back w 31 9 5 ⟨g, 0, none⟩ cap l Tryd.underlying31 Tryd.underlying5 Tryd.underlying9 (fun j hj => ?_)
    have e : (⟨g, 0, none⟩ : Addr).add j = ⟨g, j, none⟩ := by unfold Addr.add; split <;> simp_all
    rw [e, cell_of_row w g j cur _ _ hh]
    have h1 : (cells l)[j]? = some (Value.int .u8 (l[j].toNat : Int)) := by simp [cells, hj]
    rw [← ht, List.getElem?_take] at h1
    rw [if_pos (by simpa using hj)] at h1
    simpa using h1
theorem total_le (l : List ByteArray) (B : Nat) (h : ∀ x ∈ l, x.size ≤ B) : total l ≤ l.length * B := by
  induction l with
  | nil => simp [total]
  | cons x l ih =>
    have h1 := h x (List.mem_cons_self ..)
    have h2 := ih (fun y hy => h y (List.mem_cons_of_mem _ hy))
    simp only [total, List.map_cons, List.sum_cons, List.length_cons, Nat.add_mul, Nat.one_mul] at h2 ⊢
    omega
end Join

theorem info_u8 : (Tryd.prog.info? 5).map (fun i => (i.zero, i.size, i.bytes)) = some (some (.int .u8 0), 1, 1) := by kernel_rfl

set_option maxRecDepth 10000 in
set_option maxHeartbeats 400000 in
theorem spec_Join (a : Option Addr) (c : Nat) (l : List ByteArray) (sep : ByteArray) (w : World) (ha : RowAt w a (strCells l)) (hl : l.length + total l ≤ 1048576) (hs : sep.size ≤ 1048576) :
    Calls Tryd.prog 43 #[.slice a l.length c, .string sep] w fun e w' => e = .returned (.string ⟨(Lib.join (Join.texts l) sep.data.toList).toArray⟩) ∧ Below w.heap.size w w' := by
  obtain ⟨i0, hi0, hz0, hz1, hz2⟩ := info_parts info_u8
  have Hinfo := Lib.hid (show Tryd.prog.info? 5 = some i0 ∧ i0.zero = some (.int .u8 0) ∧ i0.size = 1 ∧ i0.bytes = 1 from ⟨hi0, hz0, hz1, hz2⟩)
  clear hi0 hz0 hz1 hz2
  generalize hN : w.heap.size = N
  have HN := Lib.hid hN
  go_enter Tryd.func43, Tryd.ntmps43
  go_wp2
  clear hN
  go_loopw [5, 6] (fun ov iv wr => ∃ i : Nat, i ≤ l.length ∧ iv = .int .i64 i ∧ Below N w wr ∧ wr.ownsRow N 5 1 ov (Lib.join (Join.texts (l.take i)) sep.data.toList).length (Join.cells (Lib.join (Join.texts (l.take i)) sep.data.toList))) (fun _ iv _ => l.length - (intOf iv).toNat)
  case atStart => exact ⟨0, by omega, rfl, by have h := (Below.refl w.heap.size w).alloc (Nat.le_refl _) (.cells #[] 5); rw [HN.out] at h; exact h, by
    have h := World.ownsRow_made (base := w.heap.size) (e := 5) (size := 1) w #[] 0 (Nat.le_refl _) (by unfold maxLen; omega) (by rfl)
    rw [HN.out] at h; exact h⟩
  case round =>
    obtain ⟨i, hi, rfl, hb, hown⟩ := hrel
    by_cases hlt : i < l.length
    · have ha' : RowAt wr a (strCells l) := ha.below (by rw [HN.out]; exact hb)
      obtain ⟨b, o, rfl, hbw0, hcell0⟩ := strCells_at ha hlt
      have hcell : wr.cell? ⟨b, o + i, none⟩ = some (.string l[i]) := by rw [hb.cell (p := ⟨b, o + i, none⟩) (by rw [← HN.out]; exact hbw0)]; exact hcell0
      clear hcell0
      have hlb := hs
      have hpl := Join.pre_len l sep i hl hs
      have hpl1 := Join.pre_len l sep (i + 1) hl hs
      have hNle : N ≤ wr.heap.size := by have := hb.size; rw [HN.out] at this; exact this
      obtain ⟨hi0, hz0, hz1, hz2⟩ := Hinfo.out
      have Hi0 := Lib.hid hi0; have Hz0 := Lib.hid hz0; have Hz1 := Lib.hid hz1; have Hz2 := Lib.hid hz2
      clear hi0 hz0 hz1 hz2
      by_cases h0 : i = 0
      · have hle : (i : Int) ≤ 0 := by omega
        have Hstep := Lib.hid (show Lib.join (Join.texts (l.take (i + 1))) sep.data.toList = Lib.join (Join.texts (l.take i)) sep.data.toList ++ l[i].data.toList from by subst h0; exact Join.step_first l sep.data.toList hlt)
        have H0 := Lib.hid h0; clear h0
        generalize hX : Lib.join (Join.texts (l.take i)) sep.data.toList = X at *
        generalize hY : Lib.join (Join.texts (l.take (i + 1))) sep.data.toList = Y at *
        have HY := Lib.hid hY
        clear hX hY
        generalize hx : l[i] = x at *
        clear hx
        have hlen := congrArg List.length Hstep.out
        simp only [List.length_append, Array.length_toList, ByteArray.size_data] at hlen
        have hc1 : X.length + x.size ≤ maxLen := by unfold maxLen; omega
        have hc2 : X.length + x.size ≤ 140737488355328 := by omega
        have Hlen := Lib.hid hlen; clear hlen
        go_wp2_with (at_builtin; refine Lib.wpList_append_own_string _ rfl (.tmp 19) (.tmp 23) 31 9 rfl N 5 i0 Tryd.underlying31 Tryd.underlying9 Hi0.out Hz0.out Hz1.out Hz2.out _ _ _ rfl hown x rfl hc1 hc2 hNle ?_; intro v1 w1 hown1 hg1 _)
        go_roundw
        case rel =>
          refine ⟨i + 1, by omega, by go_num, Below.grown hb hg1 hNle (fun k hk => (hown.lt k hk).1), ?_⟩
          rw [Join.cells_append, ← Hstep.out] at hown1
          rw [HY.out, Hlen.out]; exact hown1
        case measure => simp [intOf]; omega
      · have hgt : (0 : Int) < (i : Int) := by omega
        have Hstep := Lib.hid (Join.step_next l sep.data.toList i hlt h0)
        have H0 := Lib.hid h0; clear h0
        generalize hX : Lib.join (Join.texts (l.take i)) sep.data.toList = X at *
        generalize hY : Lib.join (Join.texts (l.take (i + 1))) sep.data.toList = Y at *
        have HY := Lib.hid hY
        clear hX hY
        generalize hx : l[i] = x at *
        clear hx
        have hlen := congrArg List.length Hstep.out
        simp only [List.length_append, Array.length_toList, ByteArray.size_data] at hlen
        have hc1 : X.length + sep.size ≤ maxLen := by unfold maxLen; omega
        have hc2 : X.length + sep.size ≤ 140737488355328 := by omega
        have hc3 : X.length + sep.size + x.size ≤ maxLen := by unfold maxLen; omega
        have hc4 : X.length + sep.size + x.size ≤ 140737488355328 := by omega
        have hbN : b < N := by rw [← HN.out]; exact hbw0
        have Hlen := Lib.hid hlen; clear hlen
        go_wp2_with (first
          | (at_builtin; refine Lib.wpList_append_own_string _ rfl (.tmp 16) (.tmp 17) 31 9 rfl N 5 i0 Tryd.underlying31 Tryd.underlying9 Hi0.out Hz0.out Hz1.out Hz2.out _ _ _ rfl hown sep rfl hc1 hc2 hNle ?_; intro v1 w1 hown1 hg1 _; have hcell1 : w1.cell? ⟨b, o + i, none⟩ = some (.string x) := hg1.cell hcell (fun e => by have := (hown.lt b e.symm).1; omega); have hNle1 : N ≤ w1.heap.size := Nat.le_trans hNle hg1.size)
          | (at_builtin; refine Lib.wpList_append_own_string _ rfl (.tmp 19) (.tmp 23) 31 9 rfl N 5 i0 Tryd.underlying31 Tryd.underlying9 Hi0.out Hz0.out Hz1.out Hz2.out _ _ _ rfl hown1 x rfl hc3 hc4 hNle1 ?_; intro v2 w2 hown2 hg2 _))
        go_roundw
        case rel =>
          refine ⟨i + 1, by omega, by go_num, Below.grown (Below.grown hb hg1 hNle (fun k hk => (hown.lt k hk).1)) hg2 hNle1 (fun k hk => (hown1.lt k hk).1), ?_⟩
          rw [Join.cells_append, Join.cells_append, List.append_assoc, ← Hstep.out, Nat.add_assoc] at hown2
          rw [HY.out, Hlen.out]; exact hown2
        case measure => simp [intOf]; omega
    · obtain rfl : i = l.length := by omega
      have hcv := Join.conv_own wr N _ _ hown
      rw [List.take_of_length_le (Nat.le_refl _)] at hcv
      go_wp2
      go_ret
      exact ⟨rfl, hb⟩
end Go.Proofs.YtpgdmbolckogcaaDoor
namespace Go.Proofs
open Go.Shelf
def Tryd.lays156_ren : Go.Shelf.Ren := ⟨fun | 156 => 84 | 165 => 98 | 166 => 99 | 169 => 100 | 240 => 108 | 241 => 109 | 276 => 117 | 277 => 118 | n => n, fun | 31 => 40 | 9 => 9 | 3 => 3 | 4 => 4 | 0 => 0 | 20 => 20 | 72 => 82 | 76 => 86 | 70 => 80 | 37 => 31 | 75 => 85 | 127 => 94 | 164 => 103 | 5 => 5 | 80 => 88 | n => n, fun | n => n⟩
theorem Tryd.lays156 : Go.Proofs.Lays.n156 Tryd.prog Tryd.lays156_ren := {
  mixed := by kernel_rfl
  f156 := Tryd.func84.trans (congrArg some (by kernel_rfl))
  f165 := Tryd.func98.trans (congrArg some (by kernel_rfl))
  f166 := Tryd.func99.trans (congrArg some (by kernel_rfl))
  f169 := Tryd.func100.trans (congrArg some (by kernel_rfl))
  f240 := Tryd.func108.trans (congrArg some (by kernel_rfl))
  f241 := Tryd.func109.trans (congrArg some (by kernel_rfl))
  f276 := Tryd.func117.trans (congrArg some (by kernel_rfl))
  f277 := Tryd.func118.trans (congrArg some (by kernel_rfl))
  t0 := Tryd.underlying0
  a0 := Tryd.isAgg0
  z0 := Tryd.sizeOf0
  v0 := Tryd.zeroValue0
  t3 := Tryd.underlying3
  a3 := Tryd.isAgg3
  z3 := Tryd.sizeOf3
  v3 := Tryd.zeroValue3
  t4 := Tryd.underlying4
  a4 := Tryd.isAgg4
  z4 := Tryd.sizeOf4
  v4 := Tryd.zeroValue4
  t9 := Tryd.underlying9
  a9 := Tryd.isAgg9
  z9 := Tryd.sizeOf9
  v9 := Tryd.zeroValue9
  t20 := Tryd.underlying20
  a20 := Tryd.isAgg20
  z20 := Tryd.sizeOf20
  v20 := Tryd.zeroValue20
  t31 := Tryd.underlying40
  a31 := Tryd.isAgg40
  z31 := Tryd.sizeOf40
  v31 := Tryd.zeroValue40
  t37 := Tryd.underlying31
  a37 := Tryd.isAgg31
  z37 := Tryd.sizeOf31
  v37 := Tryd.zeroValue31
  t70 := Tryd.underlying80
  a70 := Tryd.isAgg80
  z70 := Tryd.sizeOf80
  v70 := Tryd.zeroValue80
  t72 := Tryd.underlying82
  a72 := Tryd.isAgg82
  z72 := Tryd.sizeOf82
  v72 := Tryd.zeroValue82
  t75 := Tryd.underlying85
  a75 := Tryd.isAgg85
  z75 := Tryd.sizeOf85
  v75 := Tryd.zeroValue85
  t76 := Tryd.underlying86
  a76 := Tryd.isAgg86
  z76 := Tryd.sizeOf86
  v76 := Tryd.zeroValue86
  t127 := Tryd.underlying94
  a127 := Tryd.isAgg94
  z127 := Tryd.sizeOf94
  v127 := Tryd.zeroValue94
  t164 := Tryd.underlying103
  a164 := Tryd.isAgg103
  z164 := Tryd.sizeOf103
  v164 := Tryd.zeroValue103 }
theorem Tryd.Builder_Extra_156 : Builder.Extra Tryd.prog Tryd.lays156_ren := {
  sizeBuilder := by kernel_rfl
  liesBuilder := by kernel_rfl
  t5 := Tryd.underlying5
  a5 := Tryd.isAgg5
  z5 := Tryd.sizeOf5
  v5 := Tryd.zeroValue5
  infoByte := by kernel_rfl
  cellsByte := by kernel_rfl
  sizeByte := by kernel_rfl
  neB5 := by decide }
open Go.RowKit in
theorem Tryd.strings_Join_none (a : Option Addr) (c : Nat) (sep : ByteArray) (w : World) :
    Calls Tryd.prog 84 #[.slice a 0 c, .string sep] w fun e w' => e = .returned (.string ⟨#[]⟩) ∧ w' = w := Any.strings_Join_none Tryd.lays156 Tryd.Builder_Extra_156 a c sep w
open Go.RowKit in
theorem Tryd.strings_Join (bk o c : Nat) (xs : List ByteArray) (sep : ByteArray) (w : World) (hcells : ∀ (j : Nat) x, xs[j]? = some x → w.cell? ⟨bk, o + j, none⟩ = some (.string x)) (hbk : bk < w.heap.size) (hN : xs.length ≤ 140737488355328) (hcap : xs.length ≤ c) (hlen : (Lib.join (xs.map (·.data.toList)) sep.data.toList).length ≤ 140737488355328) :
    Calls Tryd.prog 84 #[.slice (some ⟨bk, o, none⟩) xs.length c, .string sep] w fun e w' => e = .returned (.string ⟨(Lib.join (xs.map (·.data.toList)) sep.data.toList).toArray⟩) ∧ Below w.heap.size w w' := Any.strings_Join Tryd.lays156 Tryd.Builder_Extra_156 bk o c xs sep w hcells hbk hN hcap hlen
end Go.Proofs
namespace Go.Proofs.YtpgdmbolckogcaaDoor
open Go.RowKit
theorem impl_Join (b o c : Nat) (l : List ByteArray) (sep : ByteArray) (w : World) (ha : RowAt w (some ⟨b, o, none⟩) (strCells l)) (hl : l.length + total l ≤ 1048576) (hs : sep.size ≤ 1048576) (hc : l.length ≤ c) :
    Calls Tryd.prog 47 #[.slice (some ⟨b, o, none⟩) l.length c, .string sep] w fun e w' => e = .returned (.string ⟨(Lib.join (Join.texts l) sep.data.toList).toArray⟩) ∧ Below w.heap.size w w' := by
  by_cases h0 : l = []
  · subst h0
    have hj := Tryd.strings_Join_none (some ⟨b, o, none⟩) c sep w
    have Hj := Lib.hid hj; clear hj
    go_enter Tryd.func47, Tryd.ntmps47
    go_wp2_with fail
    refine Hj.out.mono ?_
    rintro e w' ⟨rfl, rfl⟩
    go_wp2
    go_ret
    exact ⟨rfl, Below.refl _ _⟩
  · have hpos : 0 < l.length := List.length_pos_iff.2 h0
    have hlen := Join.pre_len l sep l.length hl hs
    rw [List.take_of_length_le (Nat.le_refl _)] at hlen
    obtain ⟨b', o', e, hb, hcell⟩ := ha.at (i := 0) (by simpa [strCells] using hpos)
    obtain ⟨rfl, rfl⟩ : b = b' ∧ o = o' := by injection e with e; injection e with e1 e2; exact ⟨e1, e2⟩
    have hj := Tryd.strings_Join b o c l sep w (fun j x hx => hcell j _ (by simp [strCells, hx])) hb (by omega) hc (by unfold Join.texts at hlen; omega)
    have Hj := Lib.hid hj; clear hj e hcell
    go_enter Tryd.func47, Tryd.ntmps47
    go_wp2_with fail
    refine Hj.out.mono ?_
    rintro e w' ⟨rfl, hb'⟩
    go_wp2
    go_ret
    exact ⟨rfl, hb'⟩
end Go.Proofs.YtpgdmbolckogcaaDoor
namespace Go.Proofs.YtpgdmbolckogcaaDoor
open Go.RowKit

namespace Bytes
/-- The cells of bytes. -/
def cells (l : List UInt8) : List Value := l.map fun b => Value.int .u8 (b.toNat : Int)
theorem cells_snoc (l : List UInt8) (b : UInt8) : cells l ++ [.int .u8 (b.toNat : Int)] = cells (l ++ [b]) := by simp [cells]
theorem conv_own (w : World) (base : Nat) (v : Value) (l : List UInt8) (h : w.ownsRow base 5 1 v l.length (cells l)) :
    (convert 31 9 v).run Tryd.prog w = .ok (.string ⟨l.toArray⟩) w := by
  obtain ⟨_, ⟨rfl, h0⟩ | ⟨g, cap, cur, rfl, hb, hh, hn, hm, hc, ht⟩⟩ := h
  · obtain rfl : l = [] := List.eq_nil_of_length_eq_zero h0
    rw [run_convert_bytes_string w 31 9 5 none 0 0 Tryd.underlying31 Tryd.underlying5 Tryd.underlying9]; rfl
  · refine run_convert_bytes_back w 31 9 5 ⟨g, 0, none⟩ cap l Tryd.underlying31 Tryd.underlying5 Tryd.underlying9 (fun j hj => ?_)
    have e : (⟨g, 0, none⟩ : Addr).add j = ⟨g, j, none⟩ := by unfold Addr.add; split <;> simp_all
    rw [e, cell_of_row w g j cur _ _ hh]
    have h1 : (cells l)[j]? = some (Value.int .u8 (l[j].toNat : Int)) := by simp [cells, hj]
    rw [← ht, List.getElem?_take] at h1
    rw [if_pos (by simpa using hj)] at h1
    simpa using h1
theorem info : (Tryd.prog.info? 5).map (fun i => (i.zero, i.size, i.bytes)) = some (some (.int .u8 0), 1, 1) := by kernel_rfl
theorem info_ex : ∃ i, Tryd.prog.info? 5 = some i ∧ i.zero = some (.int .u8 0) ∧ i.size = 1 ∧ i.bytes = 1 := by
  obtain ⟨i, h1, h2, h3, h4⟩ := info_parts info
  exact ⟨i, h1, h2, h3, h4⟩
theorem make_cap (n : Nat) (hn : n ≤ 1048576) (w : World) : ∃ cs : Array Value, cs.size = n ∧ (Instr.makeSlice 31 (.int .i64 0) (.int .i64 (n : Int))).run Tryd.prog w = .ok (.slice (some ⟨w.heap.size, 0, none⟩) 0 n) (w.alloc (.cells cs 5)) := by
  obtain ⟨i0, hi, hz0, hz1, hz2⟩ := info_ex
  have h := run_make_rowN (P := Tryd.prog) 31 5 i0 _ Tryd.underlying31 hi hz0 .i64 .i64 0 n (Nat.zero_le _) (by rw [hz2]; omega) (by omega) w
  refine ⟨_, ?_, h⟩
  rw [hz1, Nat.mul_one]
  show (madeCells #[Value.int .u8 0] n).size = n
  rw [made_one]; simp
end Bytes
theorem ownB_len {w : World} {base n : Nat} {e : TypeId} {v : Value} {xs : List Value} (h : w.ownsRow base e 1 v n xs) : ∃ a cap, v = .slice a n cap := by
  obtain ⟨_, ⟨h1, rfl⟩ | ⟨g, cap, cur, h1, hg, hh, hle, hmx, hc, ht⟩⟩ := h
  · exact ⟨none, 0, h1⟩
  · exact ⟨_, cap, h1⟩
end Go.Proofs.YtpgdmbolckogcaaDoor
namespace Go.Proofs.YtpgdmbolckogcaaDoor
open Go.RowKit

theorem letter_cases {x : Int} (h : Word.Letter x) : x = -8 ∨ x = -7 ∨ x = -6 ∨ x = -5 ∨ x = -4 ∨ x = -3 ∨ x = -2 ∨ x = -1 ∨ x = 1 ∨ x = 2 ∨ x = 3 ∨ x = 4 ∨ x = 5 ∨ x = 6 ∨ x = 7 ∨ x = 8 := by
  obtain ⟨h0, h1, h2⟩ := h; omega
theorem text_take {l : List Int} {i : Nat} (h : i < l.length) : Word.text (l.take (i + 1)) = Word.text (l.take i) ++ [Word.low l[i]] := by
  unfold Word.text
  rw [List.take_succ_eq_append_getElem h, List.map_append]; rfl
theorem text_len (l : List Int) : (Word.text l).length = l.length := by simp [Word.text]
/-- The text of the letters. -/
def txt (l : List Int) : ByteArray := ⟨(Word.text l).toArray⟩
theorem txt_nil : txt [] = ⟨#[]⟩ := rfl
theorem txt_size (l : List Int) : (txt l).size = l.length := by
  show (Word.text l).toArray.size = _
  simp [text_len]
theorem txt_step {l : List Int} {i : Nat} (h : i < l.length) {s : ByteArray} (hs : s = ⟨#[Word.low l[i]]⟩) : txt (l.take i) ++ s = txt (l.take (i + 1)) := by
  rw [hs]
  apply ByteArray.ext
  unfold txt
  rw [text_take h]
  simp
theorem cut_low (j : Nat) (hj : j < 8) : ByteArray.extract ⟨#[97, 98, 99, 100, 101, 102, 103, 104]⟩ j (j + 1) = ⟨#[Word.low ((j : Int) + 1)]⟩ := by
  rcases (by omega : j = 0 ∨ j = 1 ∨ j = 2 ∨ j = 3 ∨ j = 4 ∨ j = 5 ∨ j = 6 ∨ j = 7) with rfl | rfl | rfl | rfl | rfl | rfl | rfl | rfl <;> rfl
theorem cut_up (j : Nat) (hj : j < 8) : ByteArray.extract ⟨#[65, 66, 67, 68, 69, 70, 71, 72]⟩ j (j + 1) = ⟨#[Word.low (-((j : Int) + 1))]⟩ := by
  rcases (by omega : j = 0 ∨ j = 1 ∨ j = 2 ∨ j = 3 ∨ j = 4 ∨ j = 5 ∨ j = 6 ∨ j = 7) with rfl | rfl | rfl | rfl | rfl | rfl | rfl | rfl <;> rfl
theorem said_text {l : List Int} (h : Word.IsW l) (hn : l.length ≠ 0) : Word.said l = Word.text l := by
  rw [Word.said, if_pos h, if_neg (by intro e; rw [e] at hn; exact hn rfl)]
theorem said_not {l : List Int} (h : ¬ Word.IsW l) : Word.said l = [] := if_neg h
theorem said_nil : Word.said [] = [45] := by
  rw [Word.said, if_pos ⟨(fun _ h => by cases h), by decide⟩, if_pos rfl]

set_option maxRecDepth 10000 in
set_option maxHeartbeats 400000 in
theorem impl_byteOfLetter (x : Int) (w : World) (h : Word.Letter x) : Calls Tryd.prog 95 #[.int .i64 x] w fun e w' => e = .returned (.int .u8 ((Word.low x).toNat : Int)) ∧ w' = w := by
  rcases letter_cases h with rfl | rfl | rfl | rfl | rfl | rfl | rfl | rfl | rfl | rfl | rfl | rfl | rfl | rfl | rfl | rfl
  all_goals clear h
  all_goals
    go_enter Tryd.func95, Tryd.ntmps95
    go_wp2
    go_ret
    exact ⟨rfl, rfl⟩

set_option maxRecDepth 10000 in
set_option maxHeartbeats 400000 in
theorem impl_WordText (a : Option Addr) (c : Nat) (l : List Int) (w : World) (ha : RowAt w a (intCells l)) (hl : l.length ≤ 1048576) :
    Calls Tryd.prog 80 #[.slice a l.length c] w fun e w' => e = .returned (.string ⟨(Word.said l).toArray⟩) ∧ Below w.heap.size w w' := by
  have hcW := impl_IsWord a c l w ha hl
  by_cases hW : Word.IsW l
  · rw [decide_eq_true hW] at hcW
    have Hcw := Lib.hid hcW; clear hcW
    have HW := Lib.hid hW; clear hW
    by_cases hn : l.length = 0
    · obtain rfl := List.eq_nil_of_length_eq_zero hn
      go_enter Tryd.func80, Tryd.ntmps80
      go_wp2_with fail
      refine Hcw.out.mono ?_
      rintro e w1 ⟨rfl, hb1⟩
      go_wp2
      go_ret
      exact ⟨by rw [said_nil]; rfl, hb1⟩
    · have hn1 : 0 < l.length := by omega
      have hd0 : ((l.length : Int) == 0) = false := by rw [beq_eq_false_iff_ne]; omega
      obtain ⟨i0, hi0, hz0, hz1, hz2⟩ := Bytes.info_ex
      have Hi0 := Lib.hid hi0; have Hz0 := Lib.hid hz0; have Hz1 := Lib.hid hz1; have Hz2 := Lib.hid hz2
      clear hi0 hz0 hz1 hz2
      generalize hN : w.heap.size = N at *
      have HN := Lib.hid hN; clear hN
      have Hn := Lib.hid hn; clear hn
      go_enter Tryd.func80, Tryd.ntmps80
      go_wp2_with fail
      refine Hcw.out.mono ?_
      rintro e w1 ⟨rfl, hb1⟩
      obtain ⟨cs, hcs, hmk⟩ := Bytes.make_cap l.length hl w1
      have Hcs := Lib.hid hcs; clear hcs
      go_wp2
      go_loopw [3, 5, 17] (fun ov _ iv wr => ∃ i : Nat, i ≤ l.length ∧ iv = .int .i64 i ∧ Below N w wr ∧ wr.ownsRow N 5 1 ov i (Bytes.cells (Word.text (l.take i)))) (fun _ _ iv _ => l.length - (intOf iv).toNat)
      case atStart => exact ⟨0, by omega, rfl, hb1.alloc (by have := hb1.size; rw [HN.out] at this; exact this) _, World.ownsRow_made w1 cs l.length (by have := hb1.size; rw [HN.out] at this; exact this) (by unfold maxLen; omega) (by rw [Hcs.out]; simp)⟩
      case round =>
        obtain ⟨i, hi, rfl, hb, hown⟩ := hrel
        by_cases hlt : i < l.length
        · have ha' : RowAt wr a (intCells l) := ha.below (by rw [HN.out]; exact hb)
          obtain ⟨b, o, rfl, hbw0, hcell⟩ := intCells_at ha' hlt
          have hLx := HW.out.at hlt
          have hst := text_take hlt
          have hNle : N ≤ wr.heap.size := by have := hb.size; rw [HN.out] at this; exact this
          have hby := impl_byteOfLetter l[i] wr hLx
          generalize hx : l[i] = x at *
          generalize hX : Word.text (l.take i) = X at *
          have HX := Lib.hid hX; have Hx := Lib.hid hx; have Hst := Lib.hid hst; have Hby := Lib.hid hby; have HLx := Lib.hid hLx
          clear hx hX hst hby hLx
          have hc1 : i + 1 ≤ maxLen := by unfold maxLen; omega
          have hc2 : (i + 1) * 1 ≤ 140737488355328 := by omega
          obtain ⟨av, cv, rfl⟩ := ownB_len hown
          go_wp2_with fail
          refine Hby.out.mono ?_
          rintro e w2 ⟨rfl, rfl⟩
          go_wp2_with (at_builtin; refine append_one rfl (.tmp 21) (.tmp 24) 31 rfl N 5 i0 _ 1 Tryd.underlying31 Hi0.out Hz0.out Hz1.out Hz2.out (by rfl) _ _ _ rfl hown (by rfl) _ rfl hc1 hc2 hNle ?_; intro v1 w1 hown1 hg1 _)
          go_roundw
          case rel =>
            refine ⟨i + 1, by omega, by go_num, Below.grown (hb.alloc hNle _) hg1 (by simp; omega) (fun k hk => (hown.lt k hk).1), ?_⟩
            rw [Hst.out, ← Bytes.cells_snoc]; exact hown1
          case measure => simp [intOf]; omega
        · obtain rfl : i = l.length := by omega
          rw [List.take_of_length_le (Nat.le_refl _)] at hown
          have hcv := Bytes.conv_own wr N _ (Word.text l) (by rw [text_len]; exact hown)
          go_wp2
          go_ret
          exact ⟨by rw [said_text HW.out Hn.out]; rfl, hb⟩
  · rw [decide_eq_false hW] at hcW
    have Hcw := Lib.hid hcW; clear hcW
    have HW := Lib.hid hW; clear hW
    go_enter Tryd.func80, Tryd.ntmps80
    go_wp2_with fail
    refine Hcw.out.mono ?_
    rintro e w1 ⟨rfl, hb1⟩
    go_wp2
    go_ret
    exact ⟨by rw [said_not HW.out]; rfl, hb1⟩

set_option maxRecDepth 10000 in
set_option maxHeartbeats 400000 in
theorem spec_l2Text (a : Option Addr) (c : Nat) (l : List Int) (w : World) (ha : RowAt w a (intCells l)) (hW : Word.IsW l) :
    Calls Tryd.prog 81 #[.slice a l.length c] w fun e w' => e = .returned (.string (txt l)) ∧ Below w.heap.size w w' := by
  have HW := Lib.hid hW
  have hl := hW.2
  clear hW
  go_enter Tryd.func81, Tryd.ntmps81
  go_wp2
  go_loopw [3, 4] (fun tv iv wr => ∃ i : Nat, i ≤ l.length ∧ iv = .int .i64 i ∧ Below w.heap.size w wr ∧ tv = .string (txt (l.take i))) (fun _ iv _ => l.length - (intOf iv).toNat)
  case atStart => exact ⟨0, by omega, rfl, Below.refl _ _, rfl⟩
  case round =>
    obtain ⟨i, hi, rfl, hb, rfl⟩ := hrel
    by_cases hlt : i < l.length
    · have ha' : RowAt wr a (intCells l) := ha.below hb
      obtain ⟨b, o, rfl, hbw0, hcell⟩ := intCells_at ha' hlt
      obtain ⟨hx0, hx1, hx2⟩ := HW.out.at hlt
      have hst := fun (s : ByteArray) hs => txt_step (l := l) (s := s) hlt hs
      have hsz := txt_size (l.take i)
      rw [List.length_take, Nat.min_eq_left hi] at hsz
      have h0i : (0 : Int) ≤ (i : Int) := by omega
      have hil : (i : Int) < (l.length : Int) := by omega
      generalize hx : l[i] = x at *
      generalize hX : txt (l.take i) = X at *
      have HX := Lib.hid hX; have Hx := Lib.hid hx; have Hst := Lib.hid hst
      clear hx hX hst
      by_cases hpos : 0 < x
      · obtain ⟨j, rfl⟩ : ∃ j : Nat, x = (j : Int) + 1 := ⟨(x - 1).toNat, by omega⟩
        have hj : j < 8 := by omega
        have hcut := cut_low j hj
        have Hcut := Lib.hid hcut
        have h0j : (0 : Int) ≤ (j : Int) := by omega
        have hj8 : (j : Int) + 1 ≤ 8 := by omega
        have hjj : (j : Int) ≤ (j : Int) + 1 := by omega
        have hwj := wrap_small (x := (j : Int)) (by omega) (by omega)
        clear hcut
        go_wp2
        go_quiet (fail)
        all_goals go_wp2
        all_goals
          go_roundw
          case rel =>
            refine ⟨i + 1, by omega, by go_num, below_drewN hb _, ?_⟩
            rw [← Hst.out _ Hcut.out]
          case measure => simp [intOf]; omega
      · obtain ⟨j, rfl⟩ : ∃ j : Nat, x = -((j : Int) + 1) := ⟨(-x - 1).toNat, by omega⟩
        have hj : j < 8 := by omega
        have hcut := cut_up j hj
        have Hcut := Lib.hid hcut
        have h0j : (0 : Int) ≤ (j : Int) := by omega
        have hj8 : (j : Int) + 1 ≤ 8 := by omega
        have hjj : (j : Int) ≤ (j : Int) + 1 := by omega
        have hwj := wrap_small (x := (j : Int)) (by omega) (by omega)
        have hwn := wrap_small (x := (j : Int) + 1) (by omega) (by omega)
        clear hcut
        go_wp2
        go_quiet (fail)
        all_goals go_wp2
        all_goals
          go_roundw
          case rel =>
            refine ⟨i + 1, by omega, by go_num, below_drewN hb _, ?_⟩
            rw [← Hst.out _ Hcut.out]
          case measure => simp [intOf]; omega
    · obtain rfl : i = l.length := by omega
      rw [List.take_of_length_le (Nat.le_refl _)]
      go_wp2
      go_ret
      exact ⟨rfl, hb⟩

end Go.Proofs.YtpgdmbolckogcaaDoor
namespace Go.Proofs.YtpgdmbolckogcaaDoor
open Go.RowKit

theorem info_str_parts : ∃ i, Tryd.prog.info? 9 = some i ∧ i.zero = some (.string ByteArray.empty) ∧ i.size = 1 ∧ i.bytes = 16 := by
  obtain ⟨i, h1, h2, h3, h4⟩ := info_parts info_str
  exact ⟨i, h1, h2, h3, h4⟩
theorem strCells_snoc (l : List ByteArray) (s : ByteArray) : strCells l ++ [.string s] = strCells (l ++ [s]) := by simp [strCells]
theorem strCells_len (l : List ByteArray) : (strCells l).length = l.length := by simp [strCells]
theorem made_strs {N : Nat} {w : World} (h : w.heap.size = N) : (w.alloc (.cells #[] 9)).ownsRow N 9 1 (.slice (some ⟨w.heap.size, 0, none⟩) 0 0) 0 (strCells []) :=
  World.ownsRow_made (base := N) (e := 9) (size := 1) w #[] 0 (by omega) (by unfold maxLen; omega) (by rfl)

namespace Glue
def texts (L : List (List Int)) : List ByteArray := L.map txt
theorem texts_len (L : List (List Int)) : (texts L).length = L.length := by simp [texts]
theorem texts_total (L : List (List Int)) : total (texts L) = sumLen L := by
  unfold total texts sumLen
  rw [List.map_map]
  congr 1
  apply List.map_congr_left
  intro r _
  exact txt_size r
theorem texts_snoc {L : List (List Int)} {i : Nat} {r : List Int} (h : L[i]? = some r) : texts (L.take (i + 1)) = texts (L.take i) ++ [txt r] := by
  obtain ⟨h1, rfl⟩ := List.getElem?_eq_some_iff.1 h
  unfold texts
  rw [List.take_succ_eq_append_getElem h1, List.map_append]; rfl
theorem said_txt {r : List Int} (h : RowOk r) : (⟨(Word.said r).toArray⟩ : ByteArray) = txt r := by
  unfold txt
  rw [said_text h.2 (fun e => h.1 (List.eq_nil_of_length_eq_zero e))]
/-- GluingText's answer. -/
def said (L : List (List Int)) : ByteArray := if IsG L then ⟨(Lib.join (Join.texts (texts L)) [32]).toArray⟩ else ⟨#[]⟩
end Glue

set_option maxRecDepth 10000 in
set_option maxHeartbeats 2000000 in
theorem spec_GluingText (a : Option Addr) (c : Nat) (L : List (List Int)) (w : World) (ha : GridAt w a L) (hl : tot L ≤ 1048576) :
    Calls Tryd.prog 39 #[.slice a L.length c] w fun e w' => e = .returned (.string (Glue.said L)) ∧ Below w.heap.size w w' := by
  have hG := spec_IsGluing a c L w ha hl
  generalize hv : Glue.said L = V
  unfold Glue.said at hv
  have Ha := Lib.hid ha
  by_cases hg : Glue.IsG L
  · rw [if_pos hg] at hv
    rw [decide_eq_true hg] at hG
    have hl4 := hg.2.1
    have htt := Glue.texts_total L
    have hsum := hg.2.2.2.1
    have hln := Glue.texts_len L
    obtain ⟨i0, hi0, hz0, hz1, hz2⟩ := info_str_parts
    have Hi0 := Lib.hid hi0; have Hz0 := Lib.hid hz0; have Hz1 := Lib.hid hz1; have Hz2 := Lib.hid hz2
    have hJ := fun ad cc W (h : RowAt W ad (strCells (Glue.texts L))) => spec_Join ad cc (Glue.texts L) ⟨#[32]⟩ W h (by omega) (by show (1 : Nat) ≤ _; omega)
    rw [hln, show (⟨#[32]⟩ : ByteArray).data.toList = [32] from rfl, hv] at hJ
    have HG := Lib.hid hG; have Hg := Lib.hid hg; have HJ := Lib.hid hJ
    clear hG hg ha hv hJ hi0 hz0 hz1 hz2 htt hln hsum
    generalize hN : w.heap.size = N at *
    have HN := Lib.hid hN
    go_enter Tryd.func39, Tryd.ntmps39
    go_wp2_with fail
    refine HG.out.mono ?_
    rintro e w1 ⟨rfl, hb1⟩
    have hmd := made_strs (w := w1) rfl
    have hb1' := hb1.alloc (by have := hb1.size; rw [HN.out] at this; exact this) (.cells #[] 9)
    have hN1 : N ≤ w1.heap.size := by have := hb1.size; rw [HN.out] at this; exact this
    have Hmd := Lib.hid hmd; have Hb1 := Lib.hid hb1'; have HN1 := Lib.hid hN1
    clear hmd hb1 hb1' hN1
    go_wp2
    go_loopw [3, 4] (fun ov iv wr => ∃ i : Nat, i ≤ L.length ∧ iv = .int .i64 i ∧ Hid (Below N w wr) ∧ wr.ownsRow N 9 1 ov i (strCells (Glue.texts (L.take i)))) (fun _ iv _ => L.length - (intOf iv).toNat)
    case atStart => exact ⟨0, by omega, rfl, Lib.hid Hb1.out, own_mono Hmd.out HN1.out⟩
    case round =>
      obtain ⟨i, hi, rfl, hb, hown⟩ := hrel
      by_cases hlt : i < L.length
      · obtain ⟨r, hr⟩ := get_some hlt
        obtain ⟨b, o, ai, ci, rfl, hbw, hcell, hrow⟩ := (Ha.out.below (by rw [HN.out]; exact hb.out)).get hr
        have hok := Hg.out.2.2.1 r (get_mem hr)
        have hT := spec_l2Text ai ci r wr hrow hok.2
        have hst := Glue.texts_snoc hr
        have HT := Lib.hid hT; have Hst := Lib.hid hst
        generalize txt r = s at *
        generalize hX : Glue.texts (L.take i) = X at *
        generalize hY : Glue.texts (L.take (i + 1)) = Y at *
        have HY := Lib.hid hY
        obtain ⟨av, cv, rfl⟩ := own_len hown
        clear hX hY hst hT hok hr hrow
        go_wp2_with fail
        refine HT.out.mono ?_
        rintro e w2 ⟨rfl, hb2⟩
        have hNle : N ≤ w2.heap.size := by have := hb.out.size; have := hb2.size; rw [HN.out] at *; omega
        have hown2 := own_keep hown hb2 (fun k hk => (hown.lt k hk).2)
        have hbw2 := hb.out.trans (hb2.mono (by have := hb.out.size; rw [HN.out] at this; exact this))
        have hm1 : i + 1 ≤ maxLen := by unfold maxLen; omega
        have hm2 : (i + 1) * 16 ≤ 140737488355328 := by omega
        have Hbw2 := Lib.hid hbw2
        clear hb2 hbw2 hown hcell
        go_wp2_with (at_builtin; refine append_one rfl (.tmp 15) (.tmp 21) 40 rfl N 9 i0 _ 16 Tryd.underlying40 Hi0.out Hz0.out Hz1.out Hz2.out (by rfl) _ _ _ rfl hown2 (by rfl) _ rfl hm1 hm2 hNle ?_; intro v1 w1 hown1 hg1 _)
        go_roundw
        case rel =>
          refine ⟨i + 1, by omega, by go_num, Lib.hid (Below.grown (Hbw2.out.alloc hNle _) hg1 (by simp; omega) (fun k hk => (hown2.lt k hk).1)), ?_⟩
          rw [HY.out, Hst.out, ← strCells_snoc]; exact hown1
        case measure => simp [intOf]; omega
      · obtain rfl : i = L.length := by omega
        rw [List.take_of_length_le (Nat.le_refl _)] at hown
        obtain ⟨av, cv, rfl, hrow⟩ := own_row hown (by rw [strCells_len, Glue.texts_len])
        have Hrow := Lib.hid hrow; have Hown := Lib.hid hown
        clear hrow hown
        go_wp2_with fail
        refine (HJ.out av cv wr Hrow.out).mono ?_
        rintro e w2 ⟨rfl, hb2⟩
        go_wp2
        go_ret
        exact ⟨rfl, hb.out.trans (hb2.mono (by have := hb.out.size; rw [HN.out] at this; exact this))⟩
  · rw [if_neg hg] at hv
    rw [decide_eq_false hg] at hG
    have HG := Lib.hid hG; have Hv := Lib.hid hv
    clear hG hg ha hv
    go_enter Tryd.func39, Tryd.ntmps39
    go_wp2_with fail
    refine HG.out.mono ?_
    rintro e w1 ⟨rfl, hb1⟩
    go_wp2
    go_ret
    exact ⟨by rw [← Hv.out]; rfl, hb1⟩

set_option maxRecDepth 10000 in
set_option maxHeartbeats 2000000 in
theorem impl_GluingText (a : Option Addr) (c : Nat) (L : List (List Int)) (w : World) (ha : GridAt w a L) (hl : tot L ≤ 1048576) :
    Calls Tryd.prog 38 #[.slice a L.length c] w fun e w' => e = .returned (.string (Glue.said L)) ∧ Below w.heap.size w w' := by
  have hG := impl_IsGluing a c L w ha hl
  generalize hv : Glue.said L = V
  unfold Glue.said at hv
  have Ha := Lib.hid ha
  by_cases hg : Glue.IsG L
  · rw [if_pos hg] at hv
    rw [decide_eq_true hg] at hG
    have hl4 := hg.2.1
    have hl1 := hg.1
    have htt := Glue.texts_total L
    have hsum := hg.2.2.2.1
    have hln := Glue.texts_len L
    obtain ⟨i0, hi0, hz0, hz1, hz2⟩ := info_str_parts
    have Hi0 := Lib.hid hi0; have Hz0 := Lib.hid hz0; have Hz1 := Lib.hid hz1; have Hz2 := Lib.hid hz2
    have hJ := fun b o cc W (h : RowAt W (some ⟨b, o, none⟩) (strCells (Glue.texts L))) hc => impl_Join b o cc (Glue.texts L) ⟨#[32]⟩ W h (by omega) (by show (1 : Nat) ≤ _; omega) hc
    rw [hln, show (⟨#[32]⟩ : ByteArray).data.toList = [32] from rfl, hv] at hJ
    have HG := Lib.hid hG; have Hg := Lib.hid hg; have HJ := Lib.hid hJ
    clear hG hg ha hv hJ hi0 hz0 hz1 hz2 htt hln hsum
    generalize hN : w.heap.size = N at *
    have HN := Lib.hid hN
    go_enter Tryd.func38, Tryd.ntmps38
    go_wp2_with fail
    refine HG.out.mono ?_
    rintro e w1 ⟨rfl, hb1⟩
    have Hb1 := Lib.hid hb1
    clear hb1
    go_wp2
    go_loopw [3, 5, 11] (fun ov _ iv wr => ∃ i : Nat, i ≤ L.length ∧ iv = .int .i64 i ∧ Hid (Below N w wr) ∧ wr.ownsRow N 9 1 ov i (strCells (Glue.texts (L.take i)))) (fun _ _ iv _ => L.length - (intOf iv).toNat)
    case atStart => exact ⟨0, by omega, rfl, Lib.hid Hb1.out, World.ownsRow_nil _ _ _ _⟩
    case round =>
      obtain ⟨i, hi, rfl, hb, hown⟩ := hrel
      by_cases hlt : i < L.length
      · obtain ⟨r, hr⟩ := get_some hlt
        obtain ⟨b, o, ai, ci, rfl, hbw, hcell, hrow⟩ := (Ha.out.below (by rw [HN.out]; exact hb.out)).get hr
        have hok := Hg.out.2.2.1 r (get_mem hr)
        have hT := impl_WordText ai ci r wr hrow (Nat.le_trans hok.2.2 (by decide))
        rw [Glue.said_txt hok] at hT
        have hst := Glue.texts_snoc hr
        have HT := Lib.hid hT; have Hst := Lib.hid hst
        generalize txt r = s at *
        generalize hX : Glue.texts (L.take i) = X at *
        generalize hY : Glue.texts (L.take (i + 1)) = Y at *
        have HY := Lib.hid hY
        obtain ⟨av, cv, rfl⟩ := own_len hown
        clear hX hY hst hT hok hr hrow
        go_wp2_with fail
        refine HT.out.mono ?_
        rintro e w2 ⟨rfl, hb2⟩
        have hNle : N ≤ w2.heap.size := by have := hb.out.size; have := hb2.size; rw [HN.out] at *; omega
        have hown2 := own_keep hown hb2 (fun k hk => (hown.lt k hk).2)
        have hbw2 := hb.out.trans (hb2.mono (by have := hb.out.size; rw [HN.out] at this; exact this))
        have hm1 : i + 1 ≤ maxLen := by unfold maxLen; omega
        have hm2 : (i + 1) * 16 ≤ 140737488355328 := by omega
        have Hbw2 := Lib.hid hbw2
        clear hb2 hbw2 hown hcell
        go_wp2_with (at_builtin; refine append_one rfl (.tmp 15) (.tmp 18) 40 rfl N 9 i0 _ 16 Tryd.underlying40 Hi0.out Hz0.out Hz1.out Hz2.out (by rfl) _ _ _ rfl hown2 (by rfl) _ rfl hm1 hm2 hNle ?_; intro v1 w1 hown1 hg1 _)
        go_roundw
        case rel =>
          refine ⟨i + 1, by omega, by go_num, Lib.hid (Below.grown (Hbw2.out.alloc hNle _) hg1 (by simp; omega) (fun k hk => (hown2.lt k hk).1)), ?_⟩
          rw [HY.out, Hst.out, ← strCells_snoc]; exact hown1
        case measure => simp [intOf]; omega
      · obtain rfl : i = L.length := by omega
        rw [List.take_of_length_le (Nat.le_refl _)] at hown
        obtain ⟨g, cap, rfl, hcp, _⟩ := own_form hown (by omega)
        obtain ⟨av, cv, e, hrow⟩ := own_row hown (by rw [strCells_len, Glue.texts_len])
        cases e
        have Hrow := Lib.hid hrow; have Hown := Lib.hid hown
        clear hrow hown
        go_wp2_with fail
        refine (HJ.out g 0 cap wr Hrow.out hcp).mono ?_
        rintro e w2 ⟨rfl, hb2⟩
        go_wp2
        go_ret
        exact ⟨rfl, hb.out.trans (hb2.mono (by have := hb.out.size; rw [HN.out] at this; exact this))⟩
  · rw [if_neg hg] at hv
    rw [decide_eq_false hg] at hG
    have HG := Lib.hid hG; have Hv := Lib.hid hv
    clear hG hg ha hv
    go_enter Tryd.func38, Tryd.ntmps38
    go_wp2_with fail
    refine HG.out.mono ?_
    rintro e w1 ⟨rfl, hb1⟩
    go_wp2
    go_ret
    exact ⟨by rw [← Hv.out]; rfl, hb1⟩
end Go.Proofs.YtpgdmbolckogcaaDoor
namespace Go.Proofs.YtpgdmbolckogcaaDoor
open Go.RowKit

namespace Fmt
/-- What is left of the numeral: the digits of m ahead of l. -/
def Left (N m : Int) (l : List UInt8) : Prop := (m.natAbs = 0 ∧ l = Lib.decDigits N.natAbs) ∨ (m.natAbs ≠ 0 ∧ Lib.decDigits m.natAbs ++ l = Lib.decDigits N.natAbs)
theorem left_step {N m : Int} {l : List UInt8} (h : Left N m l) (hm : m.natAbs ≠ 0) : Left N (m.tdiv 10) ((48 + UInt8.ofNat (m.natAbs % 10)) :: l) := by
  rw [show (48 : UInt8) + UInt8.ofNat (m.natAbs % 10) = UInt8.ofNat (48 + m.natAbs % 10) from by rw [UInt8.ofNat_add]; rfl]
  obtain ⟨h0, _⟩ | ⟨_, h⟩ := h
  · omega
  have e : (m.tdiv 10).natAbs = m.natAbs / 10 := by rw [Int.natAbs_tdiv]; rfl
  unfold Left
  rw [e]
  by_cases hs : m.natAbs < 10
  · left
    refine ⟨by omega, ?_⟩
    rw [← h, Lib.decDigits, dif_pos hs, Nat.mod_eq_of_lt hs]; rfl
  · right
    refine ⟨by omega, ?_⟩
    rw [← h]
    conv => rhs; rw [Lib.decDigits, dif_neg hs]
    simp
theorem nDigits_le : ∀ (k u : Nat), u < 10 ^ (k + 1) → Lib.nDigits u ≤ k + 1
  | 0, u, h => by rw [Lib.nDigits_small (by simpa using h)]; exact Nat.le_refl _
  | k + 1, u, h => by
    by_cases hs : u < 10
    · rw [Lib.nDigits_small hs]; omega
    · rw [Lib.nDigits_big hs]
      have := nDigits_le k (u / 10) (by rw [Nat.pow_succ] at h; omega)
      omega
theorem left_len {N m : Int} {l : List UInt8} (h : Left N m l) (hN : N.natAbs ≤ 9223372036854775808) : l.length ≤ 19 := by
  have e : (Lib.decDigits N.natAbs).length ≤ 19 := by rw [Lib.decDigits_length]; exact nDigits_le 18 _ (by omega)
  obtain ⟨_, rfl⟩ | ⟨_, h⟩ := h
  · exact e
  · rw [← h] at e; simp at e; omega
theorem tmod_neg {m : Int} {d : Nat} (h : m ≤ 0) (hd : m.natAbs % 10 = d) : m.tmod 10 = -(d : Int) := by
  have e : m = -(m.natAbs : Int) := by omega
  rw [e, Int.neg_tmod, ← hd]
  rfl
theorem itoa_size {n : Int} (h0 : -9223372036854775808 ≤ n) (h1 : n ≤ 9223372036854775807) : (⟨(Lib.itoa n).toArray⟩ : ByteArray).size ≤ 100 := by
  have e : (Lib.decDigits n.natAbs).length ≤ 19 := by rw [Lib.decDigits_length]; exact nDigits_le 18 _ (by omega)
  show (Lib.itoa n).toArray.size ≤ 100
  rw [List.size_toArray, Lib.itoa]
  split
  · simp; omega
  · rw [show n.toNat = n.natAbs from by omega]; omega
theorem left_end {N : Int} {l : List UInt8} (h : Left N 0 l) : l = Lib.decDigits N.natAbs := by
  obtain ⟨_, h⟩ | ⟨h, _⟩ := h
  · exact h
  · exact absurd rfl h
theorem abs_nat {n : Int} (h : 0 ≤ n) : n.natAbs = n.toNat := by omega
theorem tdiv_le {m : Int} (h : m ≤ 0) : m.tdiv 10 ≤ 0 := by
  have e : m = -(m.natAbs : Int) := by omega
  rw [e, Int.neg_tdiv, Int.tdiv_eq_ediv_of_nonneg (by omega)]; omega
theorem tdiv_ge {m : Int} (h0 : m ≤ 0) (h : -9223372036854775808 ≤ m) : -9223372036854775808 ≤ m.tdiv 10 := by
  have e : (m.tdiv 10).natAbs = m.natAbs / 10 := by rw [Int.natAbs_tdiv]; rfl
  omega
theorem tdiv_abs {m : Int} (h : ¬ m = 0) : (m.tdiv 10).natAbs < m.natAbs := by
  have e : (m.tdiv 10).natAbs = m.natAbs / 10 := by rw [Int.natAbs_tdiv]; rfl
  omega
/-- A text of one byte, as the model makes it. -/
theorem one_byte (W : World) (z : Int) (h0 : 0 ≤ z) (h1 : z ≤ 255) :
    (convert 31 9 (.slice (some ⟨W.heap.size, 0, none⟩) 1 1)).run Tryd.prog (W.alloc (.cells #[.int .u8 z] 5)) = .ok (.string ⟨#[UInt8.ofNat z.toNat]⟩) (W.alloc (.cells #[.int .u8 z] 5)) := by
  have h := run_convert_bytes_back (P := Tryd.prog) (W.alloc (.cells #[.int .u8 z] 5)) 31 9 5 ⟨W.heap.size, 0, none⟩ 1 [UInt8.ofNat z.toNat] Tryd.underlying31 Tryd.underlying5 Tryd.underlying9 (fun j hj => by
    obtain rfl : j = 0 := by simpa using hj
    have e : (((UInt8.ofNat z.toNat).toNat : Nat) : Int) = z := by simp; omega
    simp only [List.getElem_cons_zero, e]
    have : (⟨W.heap.size, 0, none⟩ : Addr).add 0 = ⟨W.heap.size, 0, none⟩ := rfl
    rw [this]
    go_simp)
  exact h
end Fmt

set_option maxRecDepth 10000 in
set_option maxHeartbeats 400000 in
theorem spec_FormatInt (n : Int) (w : World) (h0 : -9223372036854775808 ≤ n) (h1 : n ≤ 9223372036854775807) :
    Calls Tryd.prog 42 #[.int .i64 n] w fun e w' => e = .returned (.string ⟨(Lib.itoa n).toArray⟩) ∧ Below w.heap.size w w' := by
  by_cases hz : n = 0
  · subst hz
    go_enter Tryd.func42, Tryd.ntmps42
    go_wp2
    go_ret
    exact ⟨by simp [Lib.itoa, Lib.decDigits], Below.refl _ _⟩
  · have hz1 : (n == 0) = false := by simpa using hz
    by_cases hn : n < 0
    · have hn1 : decide (n < 0) = true := by simpa using hn
      go_enter Tryd.func42, Tryd.ntmps42
      go_wp2
      go_loopw [0, 4, 5] (fun mv lv dv wr => ∃ m : Int, mv = .int .i64 m ∧ m ≤ 0 ∧ -9223372036854775808 ≤ m ∧ ∃ l, lv = .string ⟨l.toArray⟩ ∧ Fmt.Left n m l ∧ Below w.heap.size w wr) (fun mv _ _ _ => (intOf mv).natAbs)
      case atStart => exact ⟨n, rfl, by omega, by omega, [], rfl, Or.inr ⟨by omega, by simp⟩, Below.refl _ _⟩
      case round =>
        obtain ⟨m, rfl, hm0, hm1, l, rfl, hl, hb⟩ := hrel
        have hlen := Fmt.left_len hl (by omega)
        have Hl := Lib.hid hl; clear hl
        by_cases hmz : m = 0
        · subst hmz
          go_wp2
          go_ret
          refine ⟨?_, hb⟩
          rw [Fmt.left_end Hl.out]
          simp only [Lib.itoa, if_pos hn]
          exact congrArg (fun s => Ending.returned (Value.string s)) (ByteArray.ext (by simp))
        · have hmz1 : (m == 0) = false := by simpa using hmz
          obtain ⟨d, hd⟩ : ∃ d : Nat, m.natAbs % 10 = d := ⟨_, rfl⟩
          have hd9 : d ≤ 9 := by omega
          have hr : m.tmod 10 = -(d : Int) := Fmt.tmod_neg hm0 hd
          have hs := Fmt.left_step Hl.out (by omega)
          rw [hd] at hs
          have Hs := Lib.hid hs; clear hs
          have Hd := Lib.hid hd; clear hd
          rcases Nat.eq_zero_or_pos d with rfl | hd0
          · have hcv := fun W => Fmt.one_byte W 48 (by omega) (by omega)
            go_wp2
            go_roundw
            case rel => exact ⟨_, rfl, Fmt.tdiv_le hm0, Fmt.tdiv_ge hm0 hm1, _, rfl, Hs.out, hb.alloc hb.size _⟩
            case measure => exact Fmt.tdiv_abs hmz
          · have hcv := fun W => Fmt.one_byte W (48 + (d : Int)) (by omega) (by omega)
            go_wp2
            go_roundw
            case rel => exact ⟨_, rfl, Fmt.tdiv_le hm0, Fmt.tdiv_ge hm0 hm1, _, rfl, Hs.out, hb.alloc hb.size _⟩
            case measure => exact Fmt.tdiv_abs hmz
    · have hn1 : decide (n < 0) = false := by simpa using hn
      go_enter Tryd.func42, Tryd.ntmps42
      go_wp2
      go_loopw [0, 4, 5] (fun mv lv dv wr => ∃ m : Int, mv = .int .i64 m ∧ 0 ≤ m ∧ m ≤ 9223372036854775807 ∧ ∃ l, lv = .string ⟨l.toArray⟩ ∧ Fmt.Left n m l ∧ Below w.heap.size w wr) (fun mv _ _ _ => (intOf mv).natAbs)
      case atStart => exact ⟨n, rfl, by omega, by omega, [], rfl, Or.inr ⟨by omega, by simp⟩, Below.refl _ _⟩
      case round =>
        obtain ⟨m, rfl, hm0, hm1, l, rfl, hl, hb⟩ := hrel
        have hlen := Fmt.left_len hl (by omega)
        have Hl := Lib.hid hl; clear hl
        by_cases hmz : m = 0
        · subst hmz
          go_wp2
          go_ret
          refine ⟨?_, hb⟩
          rw [Fmt.left_end Hl.out]
          simp [Lib.itoa, hn, Fmt.abs_nat (show 0 ≤ n by omega)]
        · have hmz1 : (m == 0) = false := by simpa using hmz
          obtain ⟨d, hd⟩ : ∃ d : Nat, m.natAbs % 10 = d := ⟨_, rfl⟩
          have hd9 : d ≤ 9 := by omega
          have hr : m % 10 = (d : Int) := by omega
          have hs := Fmt.left_step Hl.out (by omega)
          rw [hd, Int.tdiv_eq_ediv_of_nonneg hm0] at hs
          have Hs := Lib.hid hs; clear hs
          have Hd := Lib.hid hd; clear hd
          have hcv := fun W => Fmt.one_byte W (48 + (d : Int)) (by omega) (by omega)
          go_wp2
          go_roundw
          case rel => exact ⟨_, rfl, by omega, by omega, _, rfl, Hs.out, hb.alloc hb.size _⟩
          case measure => simp [intOf]; omega
end Go.Proofs.YtpgdmbolckogcaaDoor
namespace Go.Proofs.YtpgdmbolckogcaaDoor
open Go.RowKit

namespace Split
/-- The pieces of l between the places of c. -/
def parts (c : UInt8) : List UInt8 → List (List UInt8)
  | [] => [[]]
  | b :: r => if b = c then [] :: parts c r else match parts c r with
    | p :: ps => (b :: p) :: ps
    | [] => [[b]]
theorem parts_none (c : UInt8) : ∀ l : List UInt8, c ∉ l → parts c l = [l]
  | [], _ => rfl
  | b :: r, h => by
    simp only [List.mem_cons, not_or] at h
    rw [parts, if_neg (fun e => h.1 e.symm), parts_none c r h.2]
theorem parts_hit (c : UInt8) (r : List UInt8) : ∀ p : List UInt8, c ∉ p → parts c (p ++ c :: r) = p :: parts c r
  | [], _ => by simp [parts]
  | b :: p, h => by
    simp only [List.mem_cons, not_or] at h
    rw [List.cons_append, parts, if_neg (fun e => h.1 e.symm), parts_hit c r p h.2]
theorem find (c : UInt8) : ∀ l : List UInt8, (c ∉ l ∧ Lib.indexByte l c = -1) ∨ ∃ p r, l = p ++ c :: r ∧ c ∉ p ∧ Lib.indexByte l c = p.length
  | [] => Or.inl ⟨by simp, rfl⟩
  | b :: l => by
    by_cases hb : b = c
    · subst hb
      exact Or.inr ⟨[], l, rfl, by simp, by simp [Lib.indexByte]⟩
    · have hb' : (b == c) = false := by simpa using hb
      rcases find c l with ⟨h1, h2⟩ | ⟨p, r, rfl, h1, h2⟩
      · exact Or.inl ⟨by simp only [List.mem_cons, not_or]; exact ⟨fun e => hb e.symm, h1⟩, by simp [Lib.indexByte, hb', h2]⟩
      · refine Or.inr ⟨b :: p, r, rfl, by simp only [List.mem_cons, not_or]; exact ⟨fun e => hb e.symm, h1⟩, ?_⟩
        have : ¬ Lib.indexByte (p ++ c :: r) c = -1 := by rw [h2]; omega
        simp only [List.cons_append, Lib.indexByte, hb', Bool.false_eq_true, if_false, beq_iff_eq, this, h2, List.length_cons]
        omega
theorem split_eq (c : UInt8) : ∀ (n : Nat) (l : List UInt8), l.length ≤ n → Lib.splitK [c] 0 (Lib.count l [c]) l = parts c l
  | n, l, hn => by
    rw [Lib.count_one]
    rcases find c l with ⟨h1, h2⟩ | ⟨p, r, rfl, h1, h2⟩
    · rw [List.count_eq_zero_of_not_mem h1, parts_none c l h1]; rfl
    · have hc : (p ++ c :: r).count c = r.count c + 1 := by
        rw [List.count_append, List.count_cons_self, List.count_eq_zero_of_not_mem h1]; omega
      have hne : ¬ (Lib.index (p ++ c :: r) [c] == -1) = true := by
        rw [Lib.index_one, h2, beq_iff_eq]; omega
      rw [hc, Lib.splitK, if_neg hne, parts_hit c r p h1, Lib.index_one, h2]
      have e1 : ((p.length : Int).toNat + 0) = p.length := by omega
      have e2 : ((p.length : Int).toNat + [c].length) = p.length + 1 := by simp
      rw [e1, e2, List.take_left]
      have e3 : (p ++ c :: r).drop (p.length + 1) = r := by
        rw [← List.drop_drop, List.drop_left]; rfl
      rw [e3]
      cases n with
      | zero => simp at hn
      | succ n =>
        have := split_eq c n r (by simp at hn; omega)
        rw [Lib.count_one] at this
        rw [this]
/-- What the library's pieces are, as bytes. -/
theorem lib_parts (s sep : ByteArray) (c : UInt8) (h : sep.data.toList = [c]) : (Lib.splitB sep 0 (Lib.countB s sep) s).map (·.data.toList) = parts c s.data.toList := by
  rw [Lib.splitB_data, h]
  have : Lib.countB s sep = Lib.count s.data.toList [c] := by
    unfold Lib.countB
    rw [h]
  rw [this, split_eq c _ _ (Nat.le_refl _)]
theorem ext_list {l m : List ByteArray} (h : l.map (·.data.toList) = m.map (·.data.toList)) : l = m := by
  induction l generalizing m with
  | nil => cases m with
    | nil => rfl
    | cons y m => cases h
  | cons x l ih => cases m with
    | nil => cases h
    | cons y m =>
      simp only [List.map_cons, List.cons.injEq] at h
      rw [ih h.2, show x = y from ByteArray.ext (Array.toList_inj.1 h.1)]
/-- The pieces as texts. -/
def pieces (c : UInt8) (s : ByteArray) : List ByteArray := (parts c s.data.toList).map fun l => ⟨l.toArray⟩
theorem pieces_data (c : UInt8) (s : ByteArray) : (pieces c s).map (·.data.toList) = parts c s.data.toList := by
  unfold pieces; rw [List.map_map]; simp [Function.comp_def]
theorem lib_pieces (s sep : ByteArray) (c : UInt8) (h : sep.data.toList = [c]) : Lib.splitB sep 0 (Lib.countB s sep) s = pieces c s :=
  ext_list (by rw [lib_parts s sep c h, pieces_data])
theorem parts_length (c : UInt8) : ∀ l : List UInt8, (parts c l).length ≤ l.length + 1
  | [] => Nat.le_refl _
  | b :: r => by
    have := parts_length c r
    rw [parts]
    split
    · simp; omega
    · cases h : parts c r with
      | nil => simp
      | cons p ps => rw [h] at this; simp at this ⊢; omega
theorem pieces_length (c : UInt8) (s : ByteArray) : (pieces c s).length ≤ s.size + 1 := by
  have := parts_length c s.data.toList
  simpa [pieces] using this
theorem parts_cons (c : UInt8) (l : List UInt8) : ∃ p ps, parts c l = p :: ps := by
  cases l with
  | nil => exact ⟨[], [], rfl⟩
  | cons b r =>
    rw [parts]
    split
    · exact ⟨_, _, rfl⟩
    · cases h : parts c r with
      | nil => exact ⟨_, _, rfl⟩
      | cons p ps => exact ⟨_, _, rfl⟩
theorem parts_join (c : UInt8) : ∀ l : List UInt8, Go.Lib.join (parts c l) [c] = l
  | [] => rfl
  | b :: r => by
    have ih := parts_join c r
    obtain ⟨p, ps, h⟩ := parts_cons c r
    rw [parts, h]
    rw [h, Go.Lib.join_cons] at ih
    by_cases hb : b = c
    · rw [if_pos hb, Go.Lib.join_cons, ← ih, hb]
      simp [Go.Lib.joinTail]
    · rw [if_neg hb]
      show Go.Lib.join ((b :: p) :: ps) [c] = b :: r
      rw [Go.Lib.join_cons, List.cons_append, ih]
theorem parts_free (c : UInt8) : ∀ (l p : List UInt8), p ∈ parts c l → c ∉ p
  | [], p, h => by
    simp only [parts, List.mem_singleton] at h
    subst h; simp
  | b :: r, p, h => by
    obtain ⟨q, qs, hq⟩ := parts_cons c r
    have ih := parts_free c r
    rw [parts, hq] at h
    rw [hq] at ih
    by_cases hb : b = c
    · rw [if_pos hb] at h
      rcases List.mem_cons.1 h with rfl | h
      · simp
      · exact ih p h
    · rw [if_neg hb] at h
      rcases List.mem_cons.1 (show p ∈ (b :: q) :: qs from h) with rfl | h
      · simp only [List.mem_cons, not_or]
        exact ⟨fun e => hb e.symm, ih q (List.mem_cons_self ..)⟩
      · exact ih p (List.mem_cons_of_mem _ h)
theorem pieces_join (c : UInt8) (s : ByteArray) : Go.Lib.join ((pieces c s).map (·.data.toList)) [c] = s.data.toList := by
  rw [pieces_data, parts_join]
theorem pieces_one (c : UInt8) (s q : ByteArray) (h : q ∈ pieces c s) : (pieces c q).length = 1 := by
  have hm : q.data.toList ∈ parts c s.data.toList := by
    rw [← pieces_data]; exact List.mem_map.2 ⟨q, h, rfl⟩
  unfold pieces
  rw [parts_none c _ (parts_free c _ _ hm)]; rfl
theorem pieces_small (c : UInt8) (s q : ByteArray) (h : q ∈ pieces c s) : q.size ≤ s.size := by
  have hm : q.data.toList ∈ parts c s.data.toList := by
    rw [← pieces_data]; exact List.mem_map.2 ⟨q, h, rfl⟩
  have key : ∀ (l p : List UInt8), p ∈ parts c l → p.length ≤ l.length := by
    intro l
    induction l with
    | nil => intro p hp; simp only [parts, List.mem_singleton] at hp; rw [hp]; exact Nat.le_refl _
    | cons b r ih =>
      intro p hp
      obtain ⟨x, xs, hx⟩ := parts_cons c r
      rw [parts, hx] at hp
      rw [hx] at ih
      by_cases hb : b = c
      · rw [if_pos hb] at hp
        rcases List.mem_cons.1 hp with rfl | hp
        · simp
        · have := ih p hp; simp; omega
      · rw [if_neg hb] at hp
        rcases List.mem_cons.1 (show p ∈ (b :: x) :: xs from hp) with rfl | hp
        · have := ih x (List.mem_cons_self ..); simp; omega
        · have := ih p (List.mem_cons_of_mem _ hp); simp; omega
  have := key _ _ hm
  simpa using this
/-- How far the model has come: the pieces so far, and where the next one begins. -/
def So (c : UInt8) (s : ByteArray) (i fr : Nat) (out : List ByteArray) : Prop :=
  fr ≤ i ∧ (∀ j, fr ≤ j → j < i → s.data.toList[j]? ≠ some c) ∧ out ++ pieces c (s.extract fr s.size) = pieces c s
theorem so_start (c : UInt8) (s : ByteArray) : So c s 0 0 [] := ⟨Nat.le_refl _, fun j _ h => by omega, by
  have e : s.extract 0 s.size = s := by apply ByteArray.ext; simp
  rw [e]; rfl⟩
theorem so_skip {c : UInt8} {s : ByteArray} {i fr : Nat} {out : List ByteArray} (h : So c s i fr out) (hi : s.data.toList[i]? ≠ some c) : So c s (i + 1) fr out :=
  ⟨by have := h.1; omega, fun j h1 h2 => by
    by_cases e : j = i
    · subst e; exact hi
    · exact h.2.1 j h1 (by omega), h.2.2⟩
theorem not_mem {c : UInt8} {s : ByteArray} {i fr : Nat} (h : ∀ j, fr ≤ j → j < i → s.data.toList[j]? ≠ some c) : c ∉ (s.data.toList.drop fr).take (i - fr) := by
  intro hm
  obtain ⟨j, hj⟩ := List.mem_iff_getElem?.1 hm
  rw [List.getElem?_take] at hj
  split at hj
  · rw [List.getElem?_drop] at hj
    exact h (fr + j) (by omega) (by omega) hj
  · cases hj
theorem pieces_cut {c : UInt8} {s : ByteArray} {i fr : Nat} (hfr : fr ≤ i) (h : ∀ j, fr ≤ j → j < i → s.data.toList[j]? ≠ some c) (hi : s.data.toList[i]? = some c) :
    pieces c (s.extract fr s.size) = s.extract fr i :: pieces c (s.extract (i + 1) s.size) := by
  apply ext_list
  rw [pieces_data, List.map_cons, pieces_data, Go.Lib.extract_to_end, Go.Lib.extract_to_end, Go.Lib.extract_data]
  obtain ⟨hlt, hc⟩ := List.getElem?_eq_some_iff.1 hi
  have e : s.data.toList.drop fr = (s.data.toList.drop fr).take (i - fr) ++ c :: s.data.toList.drop (i + 1) := by
    conv => lhs; rw [← List.take_append_drop (i - fr) (s.data.toList.drop fr)]
    rw [List.drop_drop, show fr + (i - fr) = i from by omega, List.drop_eq_getElem_cons hlt, hc]
  rw [e, parts_hit c _ _ (not_mem h)]
  congr 1
  rw [← e]
theorem so_hit {c : UInt8} {s : ByteArray} {i fr : Nat} {out : List ByteArray} (h : So c s i fr out) (hi : s.data.toList[i]? = some c) : So c s (i + 1) (i + 1) (out ++ [s.extract fr i]) :=
  ⟨Nat.le_refl _, fun j h1 h2 => by omega, by
    rw [List.append_assoc, List.singleton_append, ← pieces_cut h.1 h.2.1 hi, h.2.2]⟩
theorem so_end {c : UInt8} {s : ByteArray} {fr : Nat} {out : List ByteArray} (h : So c s s.size fr out) : out ++ [s.extract fr s.size] = pieces c s := by
  rw [← h.2.2]
  congr 1
  apply ext_list
  rw [pieces_data, List.map_cons, List.map_nil, Go.Lib.extract_to_end, parts_none]
  intro hm
  obtain ⟨j, hj⟩ := List.mem_iff_getElem?.1 hm
  rw [List.getElem?_drop] at hj
  have hlt := (List.getElem?_eq_some_iff.1 hj).1
  exact h.2.1 (fr + j) (by omega) (by simpa using hlt) hj
theorem so_len {c : UInt8} {s : ByteArray} {i fr : Nat} {out : List ByteArray} (h : So c s i fr out) : out.length ≤ s.size + 1 := by
  have h1 := congrArg List.length h.2.2
  have h2 := pieces_length c s
  simp only [List.length_append] at h1
  omega
end Split

set_option maxRecDepth 10000 in
set_option maxHeartbeats 400000 in
theorem spec_SplitByte (s : ByteArray) (c : UInt8) (w : World) (hs : s.size ≤ 1048576) :
    Calls Tryd.prog 49 #[.string s, .int .u8 c.toNat] w fun e w' => (∃ v, e = .returned v ∧ w'.ownsRow w.heap.size 9 1 v (Split.pieces c s).length (strCells (Split.pieces c s))) ∧ Below w.heap.size w w' := by
  obtain ⟨i0, hi0, hz0, hz1, hz2⟩ := info_parts info_str
  have Hinfo := Lib.hid (show Tryd.prog.info? 9 = some i0 ∧ i0.zero = some (.string ByteArray.empty) ∧ i0.size = 1 ∧ i0.bytes = 16 from ⟨hi0, hz0, hz1, hz2⟩)
  clear hi0 hz0 hz1 hz2
  generalize hN : w.heap.size = N
  have HN := Lib.hid hN
  go_enter Tryd.func49, Tryd.ntmps49
  go_wp2
  clear hN
  go_loopw [5, 6, 7] (fun ov fv iv wr => ∃ i fr : Nat, ∃ out, i ≤ s.size + 1 ∧ iv = .int .i64 i ∧ fv = .int .i64 fr ∧ Below N w wr ∧ wr.ownsRow N 9 1 ov (List.length out) (strCells out) ∧ fr ≤ i ∧
      Hid (if i ≤ s.size then Split.So c s i fr out else out = Split.pieces c s)) (fun _ _ iv _ => s.size + 1 - (intOf iv).toNat)
  case atStart => exact ⟨0, 0, [], by omega, rfl, rfl, by have h := (Below.refl w.heap.size w).alloc (Nat.le_refl _) (.cells #[] 9); rw [HN.out] at h; exact h, by
      have h := World.ownsRow_made (base := w.heap.size) (e := 9) (size := 1) w #[] 0 (Nat.le_refl _) (by unfold maxLen; omega) (by rfl)
      rw [HN.out] at h; exact h, Nat.le_refl _, Lib.hid (by rw [if_pos (Nat.zero_le _)]; exact Split.so_start c s)⟩
  case round =>
    obtain ⟨i, fr, out, hi, rfl, rfl, hb, hown, hfr, hso⟩ := hrel
    have hNle : N ≤ wr.heap.size := by have := hb.size; rw [HN.out] at this; exact this
    obtain ⟨hi0, hz0, hz1, hz2⟩ := Hinfo.out
    have Hi0 := Lib.hid hi0; have Hz0 := Lib.hid hz0; have Hz1 := Lib.hid hz1; have Hz2 := Lib.hid hz2
    clear hi0 hz0 hz1 hz2
    by_cases hlt : i ≤ s.size
    · have hso1 := hso.out
      rw [if_pos hlt] at hso1
      have hlen := Split.so_len hso1
      have Hso := Lib.hid hso1; clear hso1 hso
      have hc1 : out.length + 1 ≤ maxLen := by unfold maxLen; omega
      have hc2 : (out.length + 1) * 16 ≤ 140737488355328 := by omega
      by_cases hend : i = s.size
      · have he1 : ((i : Int) == (s.size : Int)) = true := by rw [beq_iff_eq]; omega
        have hfs : fr ≤ s.size := by omega
        have Hend := Lib.hid hend; clear hend
        go_wp2_with (at_builtin; refine append_one rfl (.tmp 26) (.tmp 31) 40 rfl N 9 i0 (.string ByteArray.empty) 16 Tryd.underlying40 Hi0.out Hz0.out Hz1.out Hz2.out rfl _ _ _ rfl hown rfl 1 rfl hc1 hc2 hNle ?_; intro v1 w1 hown1 hg1 _)
        go_roundw
        case rel =>
          refine ⟨i + 1, i + 1, out ++ [s.extract fr i], by omega, by go_num, by go_num, Below.grown (hb.alloc hNle _) hg1 (by simp; omega) (fun k hk => (hown.lt k hk).1), ?_, Nat.le_refl _, Lib.hid ?_⟩
          · rw [List.length_append, List.length_singleton, show strCells (out ++ [s.extract fr i]) = strCells out ++ [.string (s.extract fr i)] from by simp [strCells]]
            exact hown1
          · have e := Hend.out
            rw [if_neg (by omega)]
            have h := Hso.out
            rw [e] at h ⊢
            exact Split.so_end h
        case measure => simp [intOf]; omega
      · have hil : i < s.size := by omega
        have he1 : ((i : Int) == (s.size : Int)) = false := by rw [beq_eq_false_iff_ne]; omega
        have hget : s.data.toList[i]? = some s[i] := by rw [List.getElem?_eq_getElem (by simpa using hil)]; rfl
        clear hend
        by_cases hc : s[i] = c
        · have he2 : ((s[i].toNat : Int) == (c.toNat : Int)) = true := by rw [hc]; simp
          have Hs2 := Lib.hid (Split.so_hit Hso.out (by rw [hget, hc]))
          clear hget hc
          go_wp2_with (at_builtin; refine append_one rfl (.tmp 26) (.tmp 31) 40 rfl N 9 i0 (.string ByteArray.empty) 16 Tryd.underlying40 Hi0.out Hz0.out Hz1.out Hz2.out rfl _ _ _ rfl hown rfl 1 rfl hc1 hc2 hNle ?_; intro v1 w1 hown1 hg1 _)
          go_roundw
          case rel =>
            refine ⟨i + 1, i + 1, out ++ [s.extract fr i], by omega, by go_num, by go_num, Below.grown (hb.alloc hNle _) hg1 (by simp; omega) (fun k hk => (hown.lt k hk).1), ?_, Nat.le_refl _, Lib.hid ?_⟩
            · rw [List.length_append, List.length_singleton, show strCells (out ++ [s.extract fr i]) = strCells out ++ [.string (s.extract fr i)] from by simp [strCells]]
              exact hown1
            · rw [if_pos (by omega)]; exact Hs2.out
          case measure => simp [intOf]; omega
        · have he2 : ((s[i].toNat : Int) == (c.toNat : Int)) = false := by
            rw [beq_eq_false_iff_ne]; intro e; exact hc (UInt8.toNat_inj.1 (by omega))
          have Hs2 := Lib.hid (Split.so_skip Hso.out (by rw [hget]; intro e; injection e with e; exact hc e))
          clear hget hc
          go_wp2
          go_roundw
          case rel => exact ⟨i + 1, fr, out, by omega, by go_num, rfl, hb, hown, by omega, Lib.hid (by rw [if_pos (by omega)]; exact Hs2.out)⟩
          case measure => simp [intOf]; omega
    · have hout := hso.out
      rw [if_neg hlt] at hout
      have Hout := Lib.hid hout; clear hout hso
      go_wp2
      go_ret
      exact ⟨⟨_, rfl, by rw [← Hout.out]; exact hown⟩, hb⟩
end Go.Proofs.YtpgdmbolckogcaaDoor
namespace Go.Proofs
open Go.Shelf
def Tryd.lays146_ren : Go.Shelf.Ren := ⟨fun | 146 => 85 | 221 => 101 | 268 => 110 | 138 => 111 | 143 => 112 | 195 => 119 | 197 => 120 | 218 => 121 | 219 => 122 | 260 => 128 | 217 => 129 | 225 => 130 | 224 => 131 | 267 => 132 | 266 => 135 | 314 => 136 | n => n, fun | 9 => 9 | 31 => 40 | 3 => 3 | 4 => 4 | 0 => 0 | 105 => 107 | 21 => 21 | 5 => 5 | 46 => 65 | 119 => 115 | 139 => 118 | 138 => 117 | 146 => 119 | 51 => 111 | n => n, fun | 1 => 1 | 3 => 2 | 4 => 3 | n => n⟩
theorem Tryd.lays146 : Go.Proofs.Lays.n146 Tryd.prog Tryd.lays146_ren := {
  mixed := by kernel_rfl
  f138 := Tryd.func111.trans (congrArg some (by kernel_rfl))
  f143 := Tryd.func112.trans (congrArg some (by kernel_rfl))
  f146 := Tryd.func85.trans (congrArg some (by kernel_rfl))
  f195 := Tryd.func119.trans (congrArg some (by kernel_rfl))
  f197 := Tryd.func120.trans (congrArg some (by kernel_rfl))
  f217 := Tryd.func129.trans (congrArg some (by kernel_rfl))
  f218 := Tryd.func121.trans (congrArg some (by kernel_rfl))
  f219 := Tryd.func122.trans (congrArg some (by kernel_rfl))
  f221 := Tryd.func101.trans (congrArg some (by kernel_rfl))
  f224 := Tryd.func131.trans (congrArg some (by kernel_rfl))
  f225 := Tryd.func130.trans (congrArg some (by kernel_rfl))
  f260 := Tryd.func128.trans (congrArg some (by kernel_rfl))
  f266 := Tryd.func135.trans (congrArg some (by kernel_rfl))
  f267 := Tryd.func132.trans (congrArg some (by kernel_rfl))
  f268 := Tryd.func110.trans (congrArg some (by kernel_rfl))
  f314 := Tryd.func136.trans (congrArg some (by kernel_rfl))
  t0 := Tryd.underlying0
  a0 := Tryd.isAgg0
  z0 := Tryd.sizeOf0
  v0 := Tryd.zeroValue0
  t3 := Tryd.underlying3
  a3 := Tryd.isAgg3
  z3 := Tryd.sizeOf3
  v3 := Tryd.zeroValue3
  t4 := Tryd.underlying4
  a4 := Tryd.isAgg4
  z4 := Tryd.sizeOf4
  v4 := Tryd.zeroValue4
  t5 := Tryd.underlying5
  a5 := Tryd.isAgg5
  z5 := Tryd.sizeOf5
  v5 := Tryd.zeroValue5
  t9 := Tryd.underlying9
  a9 := Tryd.isAgg9
  z9 := Tryd.sizeOf9
  v9 := Tryd.zeroValue9
  t21 := Tryd.underlying21
  a21 := Tryd.isAgg21
  z21 := Tryd.sizeOf21
  v21 := Tryd.zeroValue21
  t31 := Tryd.underlying40
  a31 := Tryd.isAgg40
  z31 := Tryd.sizeOf40
  v31 := Tryd.zeroValue40
  t46 := Tryd.underlying65
  a46 := Tryd.isAgg65
  z46 := Tryd.sizeOf65
  v46 := Tryd.zeroValue65
  t51 := Tryd.underlying111
  a51 := Tryd.isAgg111
  z51 := Tryd.sizeOf111
  v51 := Tryd.zeroValue111
  t105 := Tryd.underlying107
  a105 := Tryd.isAgg107
  z105 := Tryd.sizeOf107
  v105 := Tryd.zeroValue107
  t119 := Tryd.underlying115
  a119 := Tryd.isAgg115
  z119 := Tryd.sizeOf115
  t138 := Tryd.underlying117
  a138 := Tryd.isAgg117
  z138 := Tryd.sizeOf117
  v138 := Tryd.zeroValue117
  t139 := Tryd.underlying118
  a139 := Tryd.isAgg118
  z139 := Tryd.sizeOf118
  v139 := Tryd.zeroValue118
  t146 := Tryd.underlying119
  a146 := Tryd.isAgg119
  z146 := Tryd.sizeOf119
  v146 := Tryd.zeroValue119
  g1 := by kernel_rfl
  g3 := by kernel_rfl
  g4 := by kernel_rfl }
open Go.RowKit Go.Lib in
theorem Tryd.strings_Split (s sep : ByteArray) (m : Int) (w : World) (hs : s.size < 4294967281) (hm : w.cell? ⟨1, 0, none⟩ = some (.int .i64 m)) (h1 : 1 ≤ sep.size) :
    Calls Tryd.prog 85 #[.string s, .string sep] w fun e w' =>
      e = .returned (.slice (some ⟨w.heap.size, 0, none⟩) (Lib.countB s sep + 1) (Lib.countB s sep + 1)) ∧ w' = w.alloc (.cells ((Lib.splitB sep 0 (Lib.countB s sep) s).map Value.string).toArray 9) := Any.strings_Split Tryd.lays146 (by kernel_rfl) s sep m w hs hm h1
def Tryd.laysM146_ren : Go.Shelf.Ren := ⟨fun | 146 => 85 | 221 => 101 | 268 => 110 | 138 => 111 | 143 => 112 | 195 => 119 | 197 => 120 | 218 => 121 | 219 => 122 | 260 => 128 | 217 => 129 | 225 => 130 | 224 => 131 | 267 => 132 | 266 => 135 | 314 => 136 | n => n, fun | 9 => 9 | 31 => 40 | 3 => 3 | 4 => 4 | 0 => 0 | 105 => 107 | 21 => 21 | 5 => 5 | 46 => 65 | 119 => 115 | 139 => 118 | 138 => 117 | 146 => 119 | 51 => 111 | n => n, fun | 1 => 1 | 3 => 2 | 4 => 3 | n => n⟩
theorem Tryd.laysM146 : Go.Proofs.LaysM.n146 Tryd.prog Tryd.laysM146_ren := {
  mixed := by kernel_rfl
  f138 := Tryd.func111.trans (congrArg some (by kernel_rfl))
  f143 := Tryd.func112.trans (congrArg some (by kernel_rfl))
  f146 := Tryd.func85.trans (congrArg some (by kernel_rfl))
  f195 := Tryd.func119.trans (congrArg some (by kernel_rfl))
  f197 := Tryd.func120.trans (congrArg some (by kernel_rfl))
  f217 := Tryd.func129.trans (congrArg some (by kernel_rfl))
  f218 := Tryd.func121.trans (congrArg some (by kernel_rfl))
  f219 := Tryd.func122.trans (congrArg some (by kernel_rfl))
  f221 := Tryd.func101.trans (congrArg some (by kernel_rfl))
  f224 := Tryd.func131.trans (congrArg some (by kernel_rfl))
  f225 := Tryd.func130.trans (congrArg some (by kernel_rfl))
  f260 := Tryd.func128.trans (congrArg some (by kernel_rfl))
  f266 := Tryd.func135.trans (congrArg some (by kernel_rfl))
  f267 := Tryd.func132.trans (congrArg some (by kernel_rfl))
  f268 := Tryd.func110.trans (congrArg some (by kernel_rfl))
  f314 := Tryd.func136.trans (congrArg some (by kernel_rfl))
  t0 := Tryd.underlying0
  a0 := Tryd.isAgg0
  z0 := Tryd.sizeOf0
  v0 := Tryd.zeroValue0
  t3 := Tryd.underlying3
  a3 := Tryd.isAgg3
  z3 := Tryd.sizeOf3
  v3 := Tryd.zeroValue3
  t4 := Tryd.underlying4
  a4 := Tryd.isAgg4
  z4 := Tryd.sizeOf4
  v4 := Tryd.zeroValue4
  t5 := Tryd.underlying5
  a5 := Tryd.isAgg5
  z5 := Tryd.sizeOf5
  v5 := Tryd.zeroValue5
  t9 := Tryd.underlying9
  a9 := Tryd.isAgg9
  z9 := Tryd.sizeOf9
  v9 := Tryd.zeroValue9
  t21 := Tryd.underlying21
  a21 := Tryd.isAgg21
  z21 := Tryd.sizeOf21
  v21 := Tryd.zeroValue21
  t31 := Tryd.underlying40
  a31 := Tryd.isAgg40
  z31 := Tryd.sizeOf40
  v31 := Tryd.zeroValue40
  t46 := Tryd.underlying65
  a46 := Tryd.isAgg65
  z46 := Tryd.sizeOf65
  v46 := Tryd.zeroValue65
  t51 := Tryd.underlying111
  a51 := Tryd.isAgg111
  z51 := Tryd.sizeOf111
  v51 := Tryd.zeroValue111
  t105 := Tryd.underlying107
  a105 := Tryd.isAgg107
  z105 := Tryd.sizeOf107
  v105 := Tryd.zeroValue107
  t119 := Tryd.underlying115
  a119 := Tryd.isAgg115
  z119 := Tryd.sizeOf115
  t138 := Tryd.underlying117
  a138 := Tryd.isAgg117
  z138 := Tryd.sizeOf117
  v138 := Tryd.zeroValue117
  t139 := Tryd.underlying118
  a139 := Tryd.isAgg118
  z139 := Tryd.sizeOf118
  v139 := Tryd.zeroValue118
  t146 := Tryd.underlying119
  a146 := Tryd.isAgg119
  z146 := Tryd.sizeOf119
  v146 := Tryd.zeroValue119
  g1 := by kernel_rfl
  g3 := by kernel_rfl
  g4 := by kernel_rfl
  i0 := by kernel_rfl
  i3 := by kernel_rfl
  i4 := by kernel_rfl
  i5 := by kernel_rfl
  i9 := by kernel_rfl
  i21 := by kernel_rfl
  i31 := by kernel_rfl
  i46 := by kernel_rfl
  i51 := by kernel_rfl
  i105 := by kernel_rfl
  i138 := by kernel_rfl
  i139 := by kernel_rfl
  i146 := by kernel_rfl
  m1 := by kernel_rfl
  s1_3 := fun w h => Go.Proofs.cell_of_shapedOpen_int (zero := #[.int .i64 0]) (t := 3) h (of_decide_eq_true (by kernel_rfl)) (by kernel_rfl) rfl (by kernel_rfl) (by kernel_rfl) Tryd.underlying3
  m3 := by kernel_rfl
  m4 := by kernel_rfl }
open Go.RowKit Go.Lib in
theorem Tryd.strings_Split_shaped (s sep : ByteArray) (w : World) (h : w.ShapedOpen Tryd.prog) (hs : s.size < 4294967281) (h1 : 1 ≤ sep.size) :
    Calls Tryd.prog 85 #[.string s, .string sep] w fun e w' =>
      e = .returned (.slice (some ⟨w.heap.size, 0, none⟩) (Lib.countB s sep + 1) (Lib.countB s sep + 1)) ∧ w' = w.alloc (.cells ((Lib.splitB sep 0 (Lib.countB s sep) s).map Value.string).toArray 9) := Any.strings_Split_shaped Tryd.laysM146 s sep w h hs h1
end Go.Proofs
