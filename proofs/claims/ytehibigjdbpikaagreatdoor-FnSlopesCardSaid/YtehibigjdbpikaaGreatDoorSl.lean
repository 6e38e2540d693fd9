/-
  Slopes as pairs of numbers: lowest terms, cross numbers, sums, twists, words, by pure functions.
-/
import Derived.Test.YtehibigjdbpikaaGreatDoorBase
namespace Go.Proofs.YtehibigjdbpikaaGreatDoor

namespace Sl
/-- What a slope is. -/
def Is (p q : Int) : Prop := (-1000 ≤ p ∧ p ≤ 1000) ∧ (0 ≤ q ∧ q ≤ 1000) ∧ (q = 0 → p = 1) ∧ Nat.gcd p.natAbs q.natAbs = 1
instance (p q : Int) : Decidable (Is p q) := by unfold Is; exact inferInstance
def OfOk (p q : Int) : Prop := (-1000 ≤ p ∧ p ≤ 1000) ∧ (-1000 ≤ q ∧ q ≤ 1000) ∧ ¬ (p = 0 ∧ q = 0)
instance (p q : Int) : Decidable (OfOk p q) := by unfold OfOk; exact inferInstance
/-- The greatest common divisor of two numbers. -/
def g (p q : Int) : Int := ((Nat.gcd p.natAbs q.natAbs : Nat) : Int)
/-- The number by which both are divided. -/
def dv (p q : Int) : Int := if q < 0 ∨ (q = 0 ∧ p < 0) then -g p q else g p q
def of (p q : Int) : Int × Int := if OfOk p q then (p.tdiv (dv p q), q.tdiv (dv p q)) else (0, 0)
def low (p q : Int) : Int × Int := if q = 0 then (1, 0) else (p.tdiv (g p q), q.tdiv (g p q))
theorem g_dvd1 (p q : Int) : g p q ∣ p := by
  rw [← Int.natAbs_dvd_natAbs]; unfold g; rw [Int.natAbs_natCast]; exact Nat.gcd_dvd_left _ _
theorem g_dvd2 (p q : Int) : g p q ∣ q := by
  rw [← Int.natAbs_dvd_natAbs]; unfold g; rw [Int.natAbs_natCast]; exact Nat.gcd_dvd_right _ _
theorem g_pos {p q : Int} (h : ¬ (p = 0 ∧ q = 0)) : 0 < g p q := by
  unfold g
  have : 0 < Nat.gcd p.natAbs q.natAbs := by
    rcases Nat.eq_zero_or_pos (Nat.gcd p.natAbs q.natAbs) with h0 | h0
    · exact absurd ⟨Int.natAbs_eq_zero.1 (Nat.gcd_eq_zero_iff.1 h0).1, Int.natAbs_eq_zero.1 (Nat.gcd_eq_zero_iff.1 h0).2⟩ h
    · exact h0
  omega
theorem g_le {p q : Int} (h : p.natAbs ≤ 1000) (h2 : q.natAbs ≤ 1000) : g p q ≤ 1000 := by
  unfold g
  rcases Nat.eq_zero_or_pos p.natAbs with h0 | h0
  · rw [h0, Nat.gcd_zero_left]; omega
  · have := Nat.le_of_dvd h0 (Nat.gcd_dvd_left p.natAbs q.natAbs); omega
theorem g_zero_right (p : Int) : g p 0 = (p.natAbs : Int) := by unfold g; simp
theorem g_neg (p q : Int) : g (-p) (-q) = g p q := by unfold g; simp
theorem cast_dvd {n : Nat} {q : Int} (h : (n : Int) ∣ q) : n ∣ q.natAbs := by
  have := Int.natAbs_dvd_natAbs.2 h
  rwa [Int.natAbs_natCast] at this
/-- A step of Euclid's algorithm. -/
theorem g_mod {p q : Int} (a r : Int) (h : p = a * q + r) : g p q = g q r := by
  apply Int.dvd_antisymm
  · unfold g; omega
  · unfold g; omega
  · have h1 := g_dvd1 p q; have h2 := g_dvd2 p q
    have h3 : g p q ∣ r := by
      have : r = p - a * q := by omega
      rw [this]; exact Int.dvd_sub h1 (Int.dvd_trans h2 (Int.dvd_mul_left _ _))
    unfold g at *
    rw [Int.natCast_dvd_natCast]
    exact Nat.dvd_gcd (cast_dvd h2) (cast_dvd h3)
  · have h1 := g_dvd1 q r; have h2 := g_dvd2 q r
    have h3 : g q r ∣ p := by
      rw [h]; exact Int.dvd_add (Int.dvd_trans h1 (Int.dvd_mul_left _ _)) h2
    unfold g at *
    rw [Int.natCast_dvd_natCast]
    exact Nat.dvd_gcd (cast_dvd h3) (cast_dvd h1)
theorem tdiv_of {p d k : Int} (hd : d ≠ 0) (h : p = d * k) : p.tdiv d = k := by
  rw [h]; exact Int.mul_tdiv_cancel_left _ hd
theorem low_step {p q a r : Int} (hq : 0 < q) (h : p = a * q + r) : low p q = (a * (low q r).1 + (low q r).2, (low q r).1) := by
  have hgm := g_mod a r h
  have hg : 0 < g q r := g_pos (by omega)
  obtain ⟨x, hx⟩ := g_dvd1 q r
  obtain ⟨y, hy⟩ := g_dvd2 q r
  have hG : g q r ≠ 0 := by omega
  have hlow : low q r = (x, y) := by
    unfold low
    split
    · rename_i h0
      have e : g q r = q := by rw [h0, g_zero_right]; omega
      have hy0 : y = 0 := by
        rw [h0] at hy
        rcases Int.mul_eq_zero.1 hy.symm with h | h
        · rw [h0] at hG; exact absurd h hG
        · exact h
      have hx1 : x = 1 := by
        rw [e] at hx
        have : q * x = q * 1 := by omega
        exact Int.eq_of_mul_eq_mul_left (by omega) this
      rw [hy0, hx1]
    · rw [tdiv_of hG hx, tdiv_of hG hy]
  rw [hlow]
  unfold low
  rw [if_neg (by omega), hgm, tdiv_of hG (k := a * x + y) (by rw [Int.mul_add, ← hy, Int.mul_left_comm, ← hx]; exact h), tdiv_of hG hx]
theorem low_of {p q : Int} (h : OfOk p q) (hq : 0 ≤ q) : of p q = low p q := by
  unfold of low dv
  rw [if_pos h]
  by_cases h0 : q = 0
  · subst h0
    have hp : p ≠ 0 := fun hp => h.2.2 ⟨hp, rfl⟩
    rw [if_pos rfl, g_zero_right]
    have e : (if (0 : Int) < 0 ∨ ((0 : Int) = 0 ∧ p < 0) then -(p.natAbs : Int) else (p.natAbs : Int)) = p := by split <;> omega
    rw [e, Int.tdiv_self hp, Int.zero_tdiv]
  · rw [if_neg (by omega), if_neg h0]
theorem low_neg {p q : Int} (h : OfOk p q) (hq : q < 0) : of p q = low (-p) (-q) := by
  unfold of low dv
  rw [if_pos h, if_pos (Or.inl hq), if_neg (by omega), g_neg]
  simp only [Int.tdiv_neg, Int.neg_tdiv]
theorem ofOk_neg {p q : Int} : OfOk (-p) (-q) ↔ OfOk p q := by unfold OfOk; omega
theorem low_bound {p q : Int} (hp : p.natAbs ≤ 1000) (hq : 0 ≤ q) (h1 : q ≤ 1000) : (low p q).1.natAbs ≤ 1000 ∧ 0 ≤ (low p q).2 ∧ (low p q).2 ≤ 1000 := by
  unfold low
  split
  · exact ⟨by decide, by decide, by decide⟩
  · have hg : 0 < g p q := g_pos (by omega)
    obtain ⟨x, hx⟩ := g_dvd1 p q
    obtain ⟨y, hy⟩ := g_dvd2 p q
    rw [tdiv_of (by omega) hx, tdiv_of (by omega) hy]
    have a1 : x.natAbs ≤ p.natAbs := by
      rw [hx, Int.natAbs_mul]
      exact Nat.le_mul_of_pos_left _ (by omega)
    have a2 : 0 < y := by
      rcases Int.lt_or_le 0 y with h | h
      · exact h
      · have := Int.mul_le_mul_of_nonneg_left h (Int.le_of_lt hg); omega
    have a3 : y.natAbs ≤ q.natAbs := by
      rw [hy, Int.natAbs_mul]
      exact Nat.le_mul_of_pos_left _ (by omega)
    dsimp only
    omega
/-- What is made so is a slope. -/
theorem of_is {p q : Int} (h : OfOk p q) : Is (of p q).1 (of p q).2 := by
  have key : ∀ p q : Int, OfOk p q → 0 ≤ q → Is (low p q).1 (low p q).2 := by
    intro p q h hq
    obtain ⟨b1, b2, b3⟩ := low_bound (p := p) (q := q) (by have := h.1; omega) hq h.2.1.2
    refine ⟨by omega, ⟨b2, b3⟩, ?_, ?_⟩
    · unfold low
      split
      · intro _; rfl
      · rename_i h0
        have hg : 0 < g p q := g_pos (by omega)
        obtain ⟨y, hy⟩ := g_dvd2 p q
        rw [tdiv_of (by omega) hy]
        intro hy0
        dsimp only at hy0
        rw [hy0] at hy
        omega
    · unfold low
      split
      · rfl
      · rename_i h0
        have hg : 0 < g p q := g_pos (by omega)
        obtain ⟨x, hx⟩ := g_dvd1 p q
        obtain ⟨y, hy⟩ := g_dvd2 p q
        rw [tdiv_of (by omega) hx, tdiv_of (by omega) hy]
        have e1 : p.natAbs = Nat.gcd p.natAbs q.natAbs * x.natAbs := by
          have := congrArg Int.natAbs hx
          rw [Int.natAbs_mul] at this
          unfold g at this
          rwa [Int.natAbs_natCast] at this
        have e2 : q.natAbs = Nat.gcd p.natAbs q.natAbs * y.natAbs := by
          have := congrArg Int.natAbs hy
          rw [Int.natAbs_mul] at this
          unfold g at this
          rwa [Int.natAbs_natCast] at this
        have hG : 0 < Nat.gcd p.natAbs q.natAbs := by unfold g at hg; omega
        obtain ⟨G, hGe⟩ : ∃ G, Nat.gcd p.natAbs q.natAbs = G := ⟨_, rfl⟩
        rw [hGe] at e1 e2 hG
        rw [e1, e2, Nat.gcd_mul_left] at hGe
        show Nat.gcd x.natAbs y.natAbs = 1
        exact Nat.eq_of_mul_eq_mul_left hG (by omega)
  rcases Int.lt_or_le q 0 with hq | hq
  · rw [low_neg h hq]; exact key _ _ (ofOk_neg.2 h) (by omega)
  · rw [low_of h hq]; exact key _ _ h hq
theorem of_self {p q : Int} (h : Is p q) : OfOk p q ∧ of p q = (p, q) := by
  obtain ⟨h1, h2, h3, h4⟩ := h
  have hok : OfOk p q := ⟨h1, by omega, fun h => by rw [h.1, h.2] at h4; exact absurd h4 (by decide)⟩
  refine ⟨hok, ?_⟩
  rw [low_of hok h2.1]
  unfold low
  split
  · rename_i h0; rw [h3 h0, h0]
  · have hg : g p q = 1 := by unfold g; omega
    rw [hg, Int.tdiv_one, Int.tdiv_one]
theorem is_iff {p q : Int} : Is p q ↔ OfOk p q ∧ of p q = (p, q) :=
  ⟨of_self, fun h => by have := of_is h.1; rw [h.2] at this; exact this⟩
theorem is_dec (p q : Int) : decide (Is p q) = (decide (OfOk p q) && decide (of p q = (p, q))) := by
  rw [Bool.eq_iff_iff]
  simp only [decide_eq_true_eq, Bool.and_eq_true]
  exact is_iff
/-- Two numbers without a common divisor make themselves, or both negative. -/
theorem of_prim {p q : Int} (h : OfOk p q) (hg : Nat.gcd p.natAbs q.natAbs = 1) : of p q = (p, q) ∨ of p q = (-p, -q) := by
  unfold of dv
  rw [if_pos h]
  have hg : g p q = 1 := by unfold g; omega
  rw [hg]
  split
  · right; simp only [Int.tdiv_neg, Int.tdiv_one]
  · left; simp only [Int.tdiv_one]
def det (p q r s : Int) : Int := p * s - q * r
def crossN (p q r s : Int) : Int := if Is p q ∧ Is r s then (((det p q r s).natAbs : Nat) : Int) else -1
def sumOk (p q r s : Int) : Prop := crossN p q r s = 1 ∧ OfOk (p + r) (q + s)
instance (p q r s : Int) : Decidable (sumOk p q r s) := by unfold sumOk; exact inferInstance
def sum (p q r s : Int) : Int × Int := if crossN p q r s = 1 then of (p + r) (q + s) else (0, 0)
def TwIn (p q r s k : Int) : Prop := Is p q ∧ Is r s ∧ -20 ≤ k ∧ k ≤ 20
instance (p q r s k : Int) : Decidable (TwIn p q r s k) := by unfold TwIn; exact inferInstance
def times (p q r s k : Int) : Int := k * det r s p q
def twOk (p q r s k : Int) : Prop := TwIn p q r s k ∧ OfOk (r + times p q r s k * p) (s + times p q r s k * q)
instance (p q r s k : Int) : Decidable (twOk p q r s k) := by unfold twOk; exact inferInstance
def twist (p q r s k : Int) : Int × Int := if TwIn p q r s k then of (r + times p q r s k * p) (s + times p q r s k * q) else (0, 0)
theorem of_bad {p q : Int} (h : ¬ OfOk p q) : of p q = (0, 0) := if_neg h
theorem mul_abs {x y : Int} {A B : Nat} (h1 : x.natAbs ≤ A) (h2 : y.natAbs ≤ B) : (x * y).natAbs ≤ A * B := by
  rw [Int.natAbs_mul]; exact Nat.mul_le_mul h1 h2
theorem Is.abs {p q : Int} (h : Is p q) : p.natAbs ≤ 1000 ∧ q.natAbs ≤ 1000 := by obtain ⟨h1, h2, _⟩ := h; omega
theorem det_abs {p q r s : Int} (h : Is p q) (h2 : Is r s) : (p * s).natAbs ≤ 1000000 ∧ (q * r).natAbs ≤ 1000000 ∧ (det p q r s).natAbs ≤ 2000000 := by
  have a := mul_abs h.abs.1 h2.abs.2
  have b := mul_abs h.abs.2 h2.abs.1
  unfold det
  omega
theorem times_abs {p q r s k : Int} (h : TwIn p q r s k) : (times p q r s k).natAbs ≤ 40000000 ∧ (times p q r s k * p).natAbs ≤ 40000000000 ∧ (times p q r s k * q).natAbs ≤ 40000000000 := by
  have a : (times p q r s k).natAbs ≤ 20 * 2000000 := mul_abs (by have := h.2.2; omega) (det_abs h.2.1 h.1).2.2
  exact ⟨a, mul_abs a h.1.abs.1, mul_abs a h.1.abs.2⟩
/-- The letters of a slope. -/
def letter (p n k : Nat) (c : Int) : Int := if n - p ≤ k * p % n then c else 1
def len (p q : Int) : Nat := p.natAbs + q.toNat
def sign (p : Int) : Int := if p < 0 then -2 else 2
def WordOk (p q : Int) : Prop := Is p q ∧ len p q ≤ 24
instance (p q : Int) : Decidable (WordOk p q) := by unfold WordOk; exact inferInstance
def word (p q : Int) : List Int := if WordOk p q then (List.range (len p q)).map fun k => letter p.natAbs (len p q) k (sign p) else []
theorem word_len {p q : Int} (h : WordOk p q) : (word p q).length = len p q := by unfold word; rw [if_pos h]; simp
theorem word_tot (p q : Int) : (word p q).length ≤ 24 := by
  by_cases h : WordOk p q
  · rw [word_len h]; exact h.2
  · unfold word; rw [if_neg h]; exact Nat.zero_le _
/-- Quotient and remainder, the remainder not negative. -/
def quo (n d : Int) : Int := if n.tmod d < 0 then n.tdiv d - 1 else n.tdiv d
def rem (n d : Int) : Int := if n.tmod d < 0 then n.tmod d + d else n.tmod d
theorem tmod_small {n d : Int} (hd : 1 ≤ d) : n.tmod d < d ∧ -d < n.tmod d := by
  have h := Nat.mod_lt n.natAbs (show 0 < d.natAbs by omega)
  have h2 := Int.natAbs_tmod n d
  omega
theorem tdiv_small {n d : Int} {A : Nat} (hn : n.natAbs ≤ A) : (n.tdiv d).natAbs ≤ A := by
  rw [Int.natAbs_tdiv]; exact Nat.le_trans (Nat.div_le_self _ _) hn
theorem quo_rem {n d : Int} (hd : 1 ≤ d) : n = quo n d * d + rem n d ∧ 0 ≤ rem n d ∧ rem n d < d := by
  have h1 := Int.tdiv_mul_add_tmod n d
  have h2 := @tmod_small n d hd
  unfold quo rem
  split
  · refine ⟨?_, by omega, by omega⟩
    rw [Int.sub_mul]; omega
  · exact ⟨by omega, by omega, by omega⟩
theorem quo_abs {n d : Int} {A : Nat} (hn : n.natAbs ≤ A) : (quo n d).natAbs ≤ A + 1 := by
  have := @tdiv_small n d A hn
  unfold quo; split <;> omega
theorem low_rec {p q : Int} (hq : 1 ≤ q) : low p q = (quo p q * (low q (rem p q)).1 + (low q (rem p q)).2, (low q (rem p q)).1) :=
  low_step (by omega) (quo_rem hq).1
end Sl
end Go.Proofs.YtehibigjdbpikaaGreatDoor
