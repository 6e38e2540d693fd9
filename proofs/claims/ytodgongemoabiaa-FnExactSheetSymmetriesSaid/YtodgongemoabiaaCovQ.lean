/-
  Actions on sheets, pure: what acts, its parts, cycles in a part, lifts, covers, counts, symmetries.
-/
import Derived.Test.YtodgongemoabiaaBase
import Derived.Test.YtodgongemoabiaaSlice
import Derived.Test.YtodgongemoabiaaInts
import Derived.Test.YtodgongemoabiaaWord
import Derived.Test.YtodgongemoabiaaGrid
import Derived.Test.YtodgongemoabiaaClass
import Derived.Test.YtodgongemoabiaaTri
import Derived.Test.YtodgongemoabiaaLab
import Derived.Test.YtodgongemoabiaaMap
import Derived.Test.YtodgongemoabiaaGraph
import Derived.Test.YtodgongemoabiaaGraphEn
import Derived.Test.YtodgongemoabiaaCov
import Derived.Test.YtodgongemoabiaaCovP
import Derived.Test.YtodgongemoabiaaGrp
namespace Go.Proofs.Ytodgongemoabiaa
open Go.RowKit

namespace Cv
/-- What a group's list of permutations must be. -/
def Act (g : Int) (L : List (List Int)) : Prop := (0 ≤ g ∧ g ≤ 2) ∧ Perms L ∧ (L.length : Int) = 2 * max 1 g ∧ (g = 0 ∨ ∀ s, s < deg L → act L (Dn.rel g) s = s)
instance (g : Int) (L : List (List Int)) : Decidable (Act g L) := by unfold Act; exact inferInstance
/-- The pairs of sheets that lead to each other. -/
def step1 (r : List Int) (j : Nat) : Nat × Nat := (j, Mp.at_ r j)
def pairs (L : List (List Int)) : List (Nat × Nat) := metAll step1 L
def lab (L : List (List Int)) : Nat → Nat := Cls.mergeAll (pairs L)
def partsN (L : List (List Int)) : List (List Nat) := classes (lab L) (deg L)
def parts (L : List (List Int)) : List (List Int) := if Perms L then Mp.natRows (partsN L) else []
theorem lab_at {L : List (List Int)} (h : Perms L) {q : List Int} (hq : q ∈ L) {s : Nat} (hs : s < deg L) : lab L (Mp.at_ q s) = lab L s := by
  refine (Cls.eq_of_mem (a := s) (b := Mp.at_ q s) ?_).symm
  unfold pairs metAll
  exact List.mem_flatMap.2 ⟨q, hq, List.mem_map.2 ⟨s, List.mem_range.2 (by rw [(h.1 q hq).1]; exact hs), rfl⟩⟩
theorem mirror_at {l : List Int} (h : Mp.IsP l) {d : Nat} (hd : d < l.length) : Mp.at_ l (Mp.at_ (Mp.mirror l) d) = d := by
  have hm := mirror_isP h
  have hl := Mp.mirror_len l
  have h1 := Mp.at_lt hm (d := d) (by omega)
  -- the inverse of the inverse
  have e : Mp.at_ (Mp.mirror l) d = Mp.invTo l l.length d := by unfold Mp.mirror; exact Mp.at_of_row hd
  refine Mp.at_inj hm (by rw [hl]; exact Mp.at_lt h (by omega)) (by omega) ?_
  have h2 : ∀ x, x < l.length → Mp.at_ (Mp.mirror l) (Mp.at_ l x) = x := fun x hx => by
    have : Mp.at_ (Mp.mirror l) (Mp.at_ l x) = Mp.invTo l l.length (Mp.at_ l x) := by unfold Mp.mirror; exact Mp.at_of_row (Mp.at_lt h hx)
    rw [this]; exact Mp.invTo_at h (Nat.le_refl _) hx
  exact h2 _ (by omega)
theorem lab_img {L : List (List Int)} (h : Perms L) {x : Int} (hx : x ≠ 0) (hf : x.natAbs ≤ L.length) {s : Nat} (hs : s < deg L) : lab L (img L s x) = lab L s := by
  have hi : x.natAbs - 1 < L.length := by omega
  have hm : L.getD (x.natAbs - 1) [] ∈ L := by
    rw [List.getD_eq_getElem?_getD, List.getElem?_eq_getElem hi]; exact List.getElem_mem hi
  obtain ⟨h1, h2⟩ := h.1 _ hm
  unfold img perm
  simp only
  generalize L.getD (x.natAbs - 1) [] = q at *
  split
  · have hlt : Mp.at_ (Mp.mirror q) s < deg L := by
      have := Mp.at_lt (mirror_isP h2) (d := s) (by rw [Mp.mirror_len]; omega)
      rw [Mp.mirror_len] at this; omega
    have := lab_at h hm hlt
    rw [mirror_at h2 (by omega)] at this
    exact this.symm
  · exact lab_at h hm hs
theorem lab_act {L : List (List Int)} (h : Perms L) : ∀ {w : List Int}, (∀ x ∈ w, x ≠ 0 ∧ x.natAbs ≤ L.length) → ∀ {s : Nat}, s < deg L → lab L (act L w s) = lab L s
  | [], _, s, hs => rfl
  | x :: w, hw, s, hs => by
    have hx := hw x (List.mem_cons_self ..)
    have h1 : act L (x :: w) s = act L w (img L s x) := rfl
    rw [h1, lab_act h (w := w) (fun y hy => hw y (List.mem_cons_of_mem _ hy)) (img_lt h hx.1 hx.2 hs), lab_img h hx.1 hx.2 hs]

/-- The cycles that begin among some members. -/
def cycIn (f : Nat → Nat) (n : Nat) (ms : List Nat) : (Nat → Bool) × List (List Nat) := ms.foldl (Mp.cycStep f n) (fun _ => false, [])
theorem cycIn_range (f : Nat → Nat) (n : Nat) : cycIn f n (List.range n) = Mp.cycTo f n n := rfl
theorem cycIn_snoc (f : Nat → Nat) (n : Nat) (ms : List Nat) (m : Nat) : cycIn f n (ms ++ [m]) = Mp.cycStep f n (cycIn f n ms) m := by simp [cycIn]
theorem cyc_in {f : Nat → Nat} {n : Nat} {S : Nat → Bool} (hS : ∀ x, x < n → f x < n ∧ S (f x) = S x) : ∀ (k : Nat) (s s' : Nat → Bool) (d : Nat), d < n → S d = true → (∀ x, S x = true → s x = s' x) → Mp.cyc f k s d = Mp.cyc f k s' d ∧ ∀ x ∈ Mp.cyc f k s d, S x = true
  | 0, _, _, _, _, _, _ => ⟨rfl, fun _ h => by cases h⟩
  | k + 1, s, s', d, hd, hSd, he => by
    unfold Mp.cyc
    rw [← he d hSd]
    by_cases h : s d = true
    · rw [if_pos h, if_pos h]; exact ⟨rfl, fun _ h => by cases h⟩
    · rw [if_neg h, if_neg h]
      obtain ⟨h1, h2⟩ := hS d hd
      obtain ⟨h3, h4⟩ := cyc_in hS k (fun x => x == d || s x) (fun x => x == d || s' x) (f d) h1 (h2.trans hSd) (fun x hx => by simp only [he x hx])
      rw [h3]
      refine ⟨rfl, fun x hx => ?_⟩
      rcases List.mem_cons.1 hx with rfl | hx
      · exact hSd
      · rw [← h3] at hx; exact h4 x hx
theorem cyc_out {f : Nat → Nat} {n : Nat} {S : Nat → Bool} (hS : ∀ x, x < n → f x < n ∧ S (f x) = S x) : ∀ (k : Nat) (s : Nat → Bool) (d : Nat), d < n → S d = false → ∀ x ∈ Mp.cyc f k s d, S x = false
  | 0, _, _, _, _ => fun _ h => by cases h
  | k + 1, s, d, hd, hSd => by
    unfold Mp.cyc
    split
    · exact fun _ h => by cases h
    · obtain ⟨h1, h2⟩ := hS d hd
      intro x hx
      rcases List.mem_cons.1 hx with rfl | hx
      · exact hSd
      · exact cyc_out hS k _ (f d) h1 (h2.trans hSd) x hx
theorem cyc_head {f : Nat → Nat} {k : Nat} {s : Nat → Bool} {d : Nat} (h : Mp.cyc f (k + 1) s d ≠ []) : (Mp.cyc f (k + 1) s d).headD 0 = d := by
  unfold Mp.cyc at h ⊢
  split
  · rename_i h1; rw [if_pos h1] at h; exact absurd rfl h
  · rfl
theorem cycIn_filter {f : Nat → Nat} {n : Nat} {S : Nat → Bool} (hS : ∀ x, x < n → f x < n ∧ S (f x) = S x) (ms : List Nat) (hms : ∀ m ∈ ms, m < n) :
    (∀ x, S x = true → (cycIn f n ms).1 x = (cycIn f n (ms.filter S)).1 x) ∧ (cycIn f n (ms.filter S)).2 = (cycIn f n ms).2.filter (fun c => S (c.headD 0)) := by
  refine Cls.snoc_ind (p := fun ms => (∀ m ∈ ms, m < n) → (∀ x, S x = true → (cycIn f n ms).1 x = (cycIn f n (ms.filter S)).1 x) ∧ (cycIn f n (ms.filter S)).2 = (cycIn f n ms).2.filter (fun c => S (c.headD 0))) ?_ ?_ ms hms
  · intro _; exact ⟨fun _ _ => rfl, rfl⟩
  · intro l m ih hl
    obtain ⟨h1, h2⟩ := ih fun x hx => hl x (List.mem_append.2 (Or.inl hx))
    have hm : m < n := hl m (List.mem_append.2 (Or.inr (List.mem_singleton.2 rfl)))
    rw [List.filter_append, cycIn_snoc]
    cases hSm : S m with
    | true =>
      rw [show [m].filter S = [m] by simp [hSm], cycIn_snoc]
      obtain ⟨h3, h4⟩ := cyc_in hS (n + 1) (cycIn f n l).1 (cycIn f n (l.filter S)).1 m hm hSm h1
      unfold Mp.cycStep
      rw [← h3]
      by_cases he : Mp.cyc f (n + 1) (cycIn f n l).1 m = []
      · rw [if_pos he, if_pos he]; exact ⟨h1, h2⟩
      · rw [if_neg he, if_neg he]
        refine ⟨fun x hx => ?_, ?_⟩
        · show Mp.seen _ _ x = Mp.seen _ _ x
          unfold Mp.seen; rw [h1 x hx]
        · show _ ++ [_] = List.filter _ (_ ++ [_])
          rw [List.filter_append, h2]
          congr 1
          have hh := cyc_head he
          rw [List.filter_cons, hh, hSm]; rfl
    | false =>
      rw [show [m].filter S = [] by simp [hSm], List.append_nil]
      have h4 := cyc_out hS (n + 1) (cycIn f n l).1 m hm hSm
      unfold Mp.cycStep
      by_cases he : Mp.cyc f (n + 1) (cycIn f n l).1 m = []
      · rw [if_pos he]; exact ⟨h1, h2⟩
      · rw [if_neg he]
        refine ⟨fun x hx => ?_, ?_⟩
        · show Mp.seen _ _ x = _
          unfold Mp.seen
          have : x ∉ Mp.cyc f (n + 1) (cycIn f n l).1 m := fun h => by have := h4 x h; rw [hx] at this; cases this
          rw [← h1 x hx]; simp [this]
        · show _ = List.filter _ (_ ++ [_])
          rw [List.filter_append, h2]
          have hh := cyc_head he
          rw [List.filter_cons (x := Mp.cyc f (n + 1) (cycIn f n l).1 m), hh, hSm]; simp
/-- The word around the polygon; the cycles above the border; those in a part. -/
def rim (L : List (List Int)) : Nat → Nat := act L [1, 2, -1, -2]
def rimCycles (L : List (List Int)) : List (List Nat) := (Mp.cycTo (rim L) (deg L) (deg L)).2
def rimIn (L : List (List Int)) (part : List Nat) : Nat := (cycIn (rim L) (deg L) part).2.length
theorem rim_at {L : List (List Int)} {s : Nat} (h : s < deg L) : Mp.at_ (row L [1, 2, -1, -2] (deg L)) s = rim L s := by
  have : row L [1, 2, -1, -2] (deg L) = Cls.row (rim L) (deg L) := rfl
  rw [this]; exact Mp.at_of_row h
theorem rim_lets {L : List (List Int)} (h2 : 2 ≤ L.length) : ∀ x ∈ ([1, 2, -1, -2] : List Int), x ≠ 0 ∧ x.natAbs ≤ L.length := by
  intro x hx
  simp only [List.mem_cons, List.not_mem_nil, or_false] at hx
  rcases hx with rfl | rfl | rfl | rfl <;> (refine ⟨by decide, ?_⟩; simp; omega)
theorem rimIn_count {L : List (List Int)} (h : Perms L) (h2 : 2 ≤ L.length) (s : Nat) : rimIn L (member (lab L) (deg L) s) = ((rimCycles L).filter fun c => lab L (c.headD 0) == lab L s).length := by
  unfold rimIn rimCycles member
  rw [(cycIn_filter (f := rim L) (n := deg L) (S := fun t => lab L t == lab L s) (fun x hx => ⟨act_lt h (rim_lets h2) hx, by show (lab L (act L _ x) == _) = _; rw [lab_act h (rim_lets h2) hx]⟩) (List.range (deg L)) (fun m hm => List.mem_range.1 hm)).2, cycIn_range]
/-- The surface that covers with a part. -/
def coverOf (g : Int) (L : List (List Int)) (part : List Nat) : Int × Int × Int :=
  if g = 0 then ((2 + (part.length : Int) - (rimIn L part : Int)) / 2, 0, (rimIn L part : Int)) else (1 + (part.length : Int) * (g - 1), 0, 0)
def covers (g : Int) (L : List (List Int)) : List (Int × Int × Int) := if Act g L then (partsN L).map (coverOf g L) else []
/-- How long the lifts of a word are, in order. -/
def liftsN (L : List (List Int)) (w : List Int) : List (List Nat) := (Mp.cycTo (act L w) (deg L) (deg L)).2
def lifts (L : List (List Int)) (w : List Int) : List Int := if Ok L w then ((liftsN L w).map fun c => (c.length : Int)).mergeSort else []
theorem sorted_unique : ∀ {a b : List Int}, a.Perm b → a.Pairwise (· ≤ ·) → b.Pairwise (· ≤ ·) → a = b
  | [], b, h, _, _ => by rw [List.nil_perm.1 h]
  | x :: a, [], h, _, _ => by have := h.length_eq; simp at this
  | x :: a, y :: b, h, ha, hb => by
    have h1 := List.pairwise_cons.1 ha
    have h2 := List.pairwise_cons.1 hb
    have e : x = y := by
      have hx : x ∈ y :: b := h.mem_iff.1 (List.mem_cons_self ..)
      have hy : y ∈ x :: a := h.mem_iff.2 (List.mem_cons_self ..)
      rcases List.mem_cons.1 hx with hx | hx
      · exact hx
      · rcases List.mem_cons.1 hy with hy | hy
        · exact hy.symm
        · have := h2.1 x hx; have := h1.1 y hy; omega
    subst e
    rw [sorted_unique ((List.perm_cons x).1 h) h1.2 h2.2]
theorem sort_eq {a b : List Int} (h : b.Perm a) (hb : b.Pairwise (· ≤ ·)) : a.mergeSort = b := by
  refine sorted_unique ((List.mergeSort_perm a _).trans h.symm) ?_ hb
  have := List.pairwise_mergeSort (le := fun (x y : Int) => decide (x ≤ y)) (fun x y z h1 h2 => by simp at *; omega) (fun x y => by simp; omega) a
  exact this.imp fun h => by simpa using h
/-- A number behind all that are no greater. -/
def Cut (l : List Int) (x : Int) (p : Nat) : Prop := p ≤ l.length ∧ (∀ i v, p ≤ i → l[i]? = some v → x < v) ∧ (p = 0 ∨ ∀ v, l[p - 1]? = some v → v ≤ x)
theorem cut_sorted {l : List Int} {x : Int} {p : Nat} (h : Cut l x p) (hl : l.Pairwise (· ≤ ·)) : (l.take p ++ [x] ++ l.drop p).Pairwise (· ≤ ·) := by
  obtain ⟨h1, h2, h3⟩ := h
  have hd : ∀ v ∈ l.drop p, x < v := fun v hv => by
    obtain ⟨i, hi, rfl⟩ := List.mem_iff_getElem.1 hv
    rw [List.getElem_drop]
    exact h2 (p + i) _ (by omega) (List.getElem?_eq_getElem _)
  have ht : ∀ v ∈ l.take p, v ≤ x := fun v hv => by
    obtain ⟨i, hi, rfl⟩ := List.mem_iff_getElem.1 hv
    rw [List.length_take] at hi
    rw [List.getElem_take]
    rcases h3 with h3 | h3
    · omega
    · have hq := h3 (l[p - 1]'(by omega)) (List.getElem?_eq_getElem _)
      rcases Nat.lt_or_ge i (p - 1) with h4 | h4
      · have := List.pairwise_iff_getElem.1 hl i (p - 1) (by omega) (by omega) h4
        omega
      · have : i = p - 1 := by omega
        subst this; exact hq
  rw [List.pairwise_append, List.pairwise_append]
  refine ⟨⟨hl.sublist (List.take_sublist _ _), List.pairwise_singleton _ _, fun a ha b hb => by rw [List.mem_singleton.1 hb]; exact ht a ha⟩, hl.sublist (List.drop_sublist _ _), fun a ha b hb => ?_⟩
  have := hd b hb
  rcases List.mem_append.1 ha with ha | ha
  · have := ht a ha; omega
  · rw [List.mem_singleton.1 ha]; omega
theorem cut_perm (l : List Int) (x : Int) (p : Nat) : (l.take p ++ [x] ++ l.drop p).Perm (l ++ [x]) := by
  rw [List.append_assoc]
  refine (List.perm_middle (l₁ := l.take p) (a := x) (l₂ := l.drop p)).trans ?_
  rw [List.take_append_drop]
  exact (List.perm_append_singleton x l).symm
/-- How many actions, and how many in one part. -/
def gens (g : Int) : Nat := (2 * max 1 g).toNat
def lists (g : Int) (n : Nat) : List (List (List Int)) := ext (Mp.natRows (all n)) (gens g) []
def actsN (g : Int) (n : Nat) : Nat := (lists g n).countP fun L => decide (Act g L)
def wholeN (g : Int) (n : Nat) : Nat := (lists g n).countP fun L => decide (Act g L) && decide ((partsN L).length = 1)
def Counted (g n : Int) : Prop := (0 ≤ g ∧ g ≤ 2) ∧ 1 ≤ n ∧ n ≤ 3
instance (g n : Int) : Decidable (Counted g n) := by unfold Counted; exact inferInstance
def acts (g n : Int) : Int := if Counted g n then (actsN g n.toNat : Int) else -1
def coverings (g n : Int) : Int := if Counted g n then ((wholeN g n.toNat / Gr.fac (n.toNat - 1) : Nat) : Int) else -1
/-- Permutations that commute with all. -/
def Comm (p q : List Int) : Prop := ∀ s, s < q.length → Mp.at_ p (Mp.at_ q s) = Mp.at_ q (Mp.at_ p s)
instance (p q : List Int) : Decidable (Comm p q) := by unfold Comm; exact inferInstance
def Symm (L : List (List Int)) (p : List Int) : Prop := ∀ q ∈ L, Comm p q
instance (L : List (List Int)) (p : List Int) : Decidable (Symm L p) := by unfold Symm; exact inferInstance
def symms (L : List (List Int)) : Int := if Perms L then (((Mp.natRows (all (deg L))).countP fun p => decide (Symm L p) : Nat) : Int) else -1
theorem all_isP {n : Nat} {r : List Int} (h : r ∈ Mp.natRows (all n)) : r.length = n ∧ Mp.IsP r := by
  unfold Mp.natRows at h
  obtain ⟨o, ho, rfl⟩ := List.mem_map.1 h
  have hp := all_perm n o ho
  have hl := all_row ho
  refine ⟨by rw [List.length_map]; exact hl, fun x hx => ?_, ?_⟩
  · obtain ⟨k, hk, rfl⟩ := List.mem_map.1 hx
    have := List.mem_range.1 (hp.mem_iff.1 hk)
    rw [List.length_map]; omega
  · have hn : o.Nodup := hp.nodup_iff.2 List.nodup_range
    rw [List.nodup_iff_pairwise_ne, List.pairwise_map]
    exact (List.nodup_iff_pairwise_ne.1 hn).imp fun h => by omega
theorem fac5 {n : Nat} (h : n ≤ 5) : Gr.fac n ≤ 120 := Nat.le_trans (Gr.fac_mono h) (by decide +kernel)
end Cv
end Go.Proofs.Ytodgongemoabiaa
