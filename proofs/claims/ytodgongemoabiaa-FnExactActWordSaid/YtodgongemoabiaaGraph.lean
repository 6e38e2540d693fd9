/-
  Graphs, as functions of lists: what the document's chapter on graphs says of them.
-/
import Derived.Test.YtodgongemoabiaaBase
import Derived.Test.YtodgongemoabiaaSlice
import Derived.Test.YtodgongemoabiaaInts
import Derived.Test.YtodgongemoabiaaGrid
import Derived.Test.YtodgongemoabiaaClass
import Derived.Test.YtodgongemoabiaaLab
import Derived.Test.YtodgongemoabiaaMap
namespace Go.Proofs.Ytodgongemoabiaa
open Go.RowKit

namespace Gr
/-- Two different vertices. -/
def IsE (e : List Int) : Prop := e.length = 2 ∧ (∀ x ∈ e, 0 ≤ x ∧ x ≤ 6) ∧ e.Nodup
instance (e : List Int) : Decidable (IsE e) := by unfold IsE; exact inferInstance
def IsG (L : List (List Int)) : Prop := (∀ e ∈ L, IsE e) ∧ 1 ≤ L.length ∧ L.length ≤ 10
instance (L : List (List Int)) : Decidable (IsG L) := by unfold IsG; exact inferInstance
theorem isE_iff {e : List Int} : IsE e ↔ ∃ a b, e = [a, b] ∧ 0 ≤ a ∧ a ≤ 6 ∧ 0 ≤ b ∧ b ≤ 6 ∧ a ≠ b := by
  constructor
  · rintro ⟨h1, h2, h3⟩
    match e, h1 with
    | [a, b], _ =>
      have ha := h2 a (by simp)
      have hb := h2 b (by simp)
      exact ⟨a, b, rfl, ha.1, ha.2, hb.1, hb.2, by simpa using h3⟩
  · rintro ⟨a, b, rfl, h1, h2, h3, h4, h5⟩
    refine ⟨rfl, fun x hx => ?_, by simpa using h5⟩
    simp only [List.mem_cons, List.not_mem_nil, or_false] at hx
    rcases hx with rfl | rfl <;> omega
theorem isE_two {a b : Int} : IsE [a, b] ↔ (0 ≤ a ∧ a ≤ 6 ∧ 0 ≤ b ∧ b ≤ 6 ∧ a ≠ b) := by
  rw [isE_iff]
  constructor
  · rintro ⟨x, y, e, h⟩; cases e; exact h
  · intro h; exact ⟨a, b, rfl, h⟩
theorem isE_len {e : List Int} (h : e.length ≠ 2) : ¬ IsE e := fun h' => h h'.1
theorem isG_not {L : List (List Int)} {i : Nat} {e : List Int} (h : L[i]? = some e) (he : ¬ IsE e) : ¬ IsG L := fun hg => he (hg.1 e (get_mem h))
theorem isG_sum {L : List (List Int)} (h : IsG L) : sumLen L = 2 * L.length := by
  unfold sumLen
  have : L.map List.length = L.map fun _ => 2 := List.map_congr_left fun e he => (h.1 e he).1
  rw [this, List.map_const', List.sum_replicate_nat]; omega
theorem isG_tot {L : List (List Int)} (h : IsG L) : tot L ≤ 1000000 := by
  have := isG_sum h; have := h.2.2; unfold tot; omega

/-- The vertex at a dart. -/
def vx (L : List (List Int)) (d : Nat) : Nat := (L.flatten.getD d 0).toNat
theorem flat_get : ∀ {L : List (List Int)} (_ : ∀ e ∈ L, e.length = 2) {k : Nat} {a b : Int}, L[k]? = some [a, b] → L.flatten[2 * k]? = some a ∧ L.flatten[2 * k + 1]? = some b
  | [], _, k, a, b, hk => by simp at hk
  | e :: L, h, k, a, b, hk => by
    have he := h e (by simp)
    match e, he with
    | [x, y], _ =>
      cases k with
      | zero => simp at hk; simp [hk]
      | succ k =>
        have := flat_get (L := L) (fun e he => h e (by simp [he])) (k := k) (a := a) (b := b) (by simpa using hk)
        simpa [Nat.mul_succ] using this
theorem ends {L : List (List Int)} (h : IsG L) {k : Nat} (hk : k < L.length) : L[k]? = some [((vx L (2 * k) : Nat) : Int), ((vx L (2 * k + 1) : Nat) : Int)] ∧ vx L (2 * k) < 7 ∧ vx L (2 * k + 1) < 7 ∧ vx L (2 * k) ≠ vx L (2 * k + 1) := by
  obtain ⟨a, b, e, h1, h2, h3, h4, h5⟩ := isE_iff.1 (h.1 _ (List.getElem_mem hk))
  have hg : L[k]? = some [a, b] := by rw [List.getElem?_eq_getElem hk, e]
  obtain ⟨f1, f2⟩ := flat_get (fun e he => (h.1 e he).1) hg
  have e1 : vx L (2 * k) = a.toNat := by unfold vx; rw [List.getD_eq_getElem?_getD, f1]; rfl
  have e2 : vx L (2 * k + 1) = b.toNat := by unfold vx; rw [List.getD_eq_getElem?_getD, f2]; rfl
  rw [e1, e2, hg]
  refine ⟨?_, by omega, by omega, by omega⟩
  congr 2
  · omega
  · congr 1; omega
theorem vx_lt {L : List (List Int)} (h : IsG L) {d : Nat} (hd : d < 2 * L.length) : vx L d < 7 := by
  obtain ⟨_, h1, h2, _⟩ := ends h (k := d / 2) (by omega)
  rcases (by omega : d = 2 * (d / 2) ∨ d = 2 * (d / 2) + 1) with e | e
  · rw [e]; exact h1
  · rw [e]; exact h2

/-- The darts less than i at the vertex v. -/
def at7 (u : Nat → Nat) (i v : Nat) : List Nat := (List.range i).filter fun d => u d == v
theorem at7_zero (u : Nat → Nat) (v : Nat) : at7 u 0 v = [] := rfl
theorem at7_yes {u : Nat → Nat} {i v : Nat} (h : u i = v) : at7 u (i + 1) v = at7 u i v ++ [i] := by
  unfold at7; rw [List.range_succ, List.filter_append]; simp [h]
theorem at7_no {u : Nat → Nat} {i v : Nat} (h : u i ≠ v) : at7 u (i + 1) v = at7 u i v := by
  unfold at7; rw [List.range_succ, List.filter_append]; simp [h]
theorem at7_mem {u : Nat → Nat} {i v d : Nat} : d ∈ at7 u i v ↔ d < i ∧ u d = v := by unfold at7; simp
theorem at7_nodup (u : Nat → Nat) (i v : Nat) : (at7 u i v).Nodup := List.Pairwise.filter _ List.nodup_range
theorem at7_len (u : Nat → Nat) (i v : Nat) : (at7 u i v).length ≤ i := by
  have := List.length_filter_le (fun d => u d == v) (List.range i)
  rw [List.length_range] at this; exact this
/-- How many darts there are at the vertices less than v. -/
def sumTo (u : Nat → Nat) (n : Nat) : Nat → Nat
  | 0 => 0
  | v + 1 => sumTo u n v + (at7 u n v).length
theorem sumTo_eq (u : Nat → Nat) (n : Nat) : ∀ v, sumTo u n v = ((List.range n).filter fun d => decide (u d < v)).length
  | 0 => by rw [List.filter_eq_nil_iff.2 (by simp)]; rfl
  | v + 1 => by
    unfold sumTo
    rw [sumTo_eq u n v]
    unfold at7
    induction n with
    | zero => rfl
    | succ n ih =>
      simp only [List.range_succ, List.filter_append, List.length_append]
      have : (List.filter (fun d => decide (u d < v + 1)) [n]).length = (List.filter (fun d => decide (u d < v)) [n]).length + (List.filter (fun d => u d == v) [n]).length := by
        by_cases h1 : u n < v
        · have h2 : u n < v + 1 := by omega
          have h3 : ¬ u n = v := by omega
          simp [h1, h2, h3]
        · by_cases h3 : u n = v
          · simp [h3]
          · have h2 : ¬ u n < v + 1 := by omega
            simp [h1, h2, h3]
      omega
theorem sumTo_le (u : Nat → Nat) (n v : Nat) : sumTo u n v ≤ n := by
  rw [sumTo_eq]
  have := List.length_filter_le (fun d => decide (u d < v)) (List.range n)
  rwa [List.length_range] at this
def deg (L : List (List Int)) (v : Nat) : Nat := (at7 (vx L) (2 * L.length) v).length
def degs (L : List (List Int)) : List Int := if IsG L then Cls.row (deg L) 7 else []
theorem degs_len (L : List (List Int)) : (degs L).length ≤ 7 := by unfold degs; split <;> simp [Cls.row_len]

/-- The product of the numbers to n. -/
def fac : Nat → Nat
  | 0 => 1
  | n + 1 => fac n * (n + 1)
theorem fac_pos : ∀ n, 1 ≤ fac n
  | 0 => Nat.le_refl _
  | n + 1 => by unfold fac; have := fac_pos n; exact Nat.le_trans this (Nat.le_mul_of_pos_right _ (by omega))
theorem fac_mono {m n : Nat} (h : m ≤ n) : fac m ≤ fac n := by
  induction n with
  | zero => obtain rfl : m = 0 := by omega
            exact Nat.le_refl _
  | succ n ih =>
    by_cases e : m = n + 1
    · rw [e]; exact Nat.le_refl _
    · exact Nat.le_trans (ih (by omega)) (by show fac n ≤ fac n * (n + 1); exact Nat.le_mul_of_pos_right _ (by omega))
theorem fac_add (a : Nat) : ∀ b, fac a * fac b ≤ fac (a + b)
  | 0 => by simp [fac]
  | b + 1 => by
    show fac a * (fac b * (b + 1)) ≤ fac (a + b) * (a + b + 1)
    rw [← Nat.mul_assoc]
    exact Nat.mul_le_mul (fac_add a b) (by omega)
theorem fac_20 : fac 20 = 2432902008176640000 := by decide +kernel
/-- The product of the factorials of the degrees, each less 1, over the vertices less than v. -/
def rot (u : Nat → Nat) (n : Nat) : Nat → Nat
  | 0 => 1
  | v + 1 => rot u n v * fac ((at7 u n v).length - 1)
theorem rot_le (u : Nat → Nat) (n : Nat) : ∀ v, rot u n v ≤ fac (sumTo u n v)
  | 0 => Nat.le_refl _
  | v + 1 => Nat.le_trans (Nat.mul_le_mul (rot_le u n v) (fac_mono (by omega))) (fac_add _ _)
theorem rot_pos (u : Nat → Nat) (n : Nat) : ∀ v, 1 ≤ rot u n v
  | 0 => Nat.le_refl _
  | v + 1 => Nat.le_trans (rot_pos u n v) (Nat.le_mul_of_pos_right _ (fac_pos _))
theorem rot_mid {u : Nat → Nat} {n v m : Nat} (hn : n ≤ 20) (hm : m ≤ (at7 u n v).length) : rot u n v * fac m ≤ 2432902008176640000 := by
  rw [← fac_20]
  refine Nat.le_trans (Nat.mul_le_mul (rot_le u n v) (Nat.le_refl _)) (Nat.le_trans (fac_add _ _) (fac_mono ?_))
  have := sumTo_le u n (v + 1)
  unfold sumTo at this
  omega
def rots (L : List (List Int)) : Int := if IsG L then ((rot (vx L) (2 * L.length) 7 : Nat) : Int) else -1
end Gr
end Go.Proofs.Ytodgongemoabiaa
