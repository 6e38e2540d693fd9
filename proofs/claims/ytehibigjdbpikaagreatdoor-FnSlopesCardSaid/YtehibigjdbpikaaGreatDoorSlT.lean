/-
  What the law of slopes asks: cross numbers of sums and twists, and the letters of a slope's word.
-/
import Derived.Test.YtehibigjdbpikaaGreatDoorBase
import Derived.Test.YtehibigjdbpikaaGreatDoorWord
import Derived.Test.YtehibigjdbpikaaGreatDoorSl
namespace Go.Proofs.YtehibigjdbpikaaGreatDoor

namespace Sl
theorem of_ok {p q : Int} (h : of p q ≠ (0, 0)) : OfOk p q := Decidable.byContradiction fun hn => h (of_bad hn)
theorem gcd_one {x y : Int} (h : ∀ d : Nat, (d : Int) ∣ x → (d : Int) ∣ y → d = 1) : Nat.gcd x.natAbs y.natAbs = 1 :=
  h _ (g_dvd1 x y) (g_dvd2 x y)
theorem Is.prim {p q : Int} (h : Is p q) {d : Nat} (h1 : (d : Int) ∣ p) (h2 : (d : Int) ∣ q) : d = 1 := by
  have := Nat.dvd_gcd (cast_dvd h1) (cast_dvd h2)
  rw [h.2.2.2] at this
  exact Nat.dvd_one.1 this
theorem det_neg {p q r s : Int} : det r s p q = -det p q r s := by unfold det; rw [Int.mul_comm r q, Int.mul_comm s p]; omega
theorem crossN_swap (p q r s : Int) : crossN r s p q = crossN p q r s := by
  unfold crossN
  by_cases h : Is p q ∧ Is r s
  · rw [if_pos h, if_pos h.symm, det_neg, Int.natAbs_neg]
  · rw [if_neg h, if_neg fun k => h k.symm]
theorem crossN_self {p q : Int} (h : Is p q) : crossN p q p q = 0 := by
  unfold crossN; rw [if_pos ⟨h, h⟩]; unfold det; rw [Int.mul_comm q p]; simp
theorem of_is' {p q : Int} (h : OfOk p q) : Is (of p q).1 (of p q).2 := of_is h
/-- The determinant with a slope that is made of numbers without a common divisor. -/
theorem cross_of {p q x y : Int} (h : Is p q) (ho : OfOk x y) (hg : Nat.gcd x.natAbs y.natAbs = 1) : crossN p q (of x y).1 (of x y).2 = (((det p q x y).natAbs : Nat) : Int) := by
  unfold crossN
  rw [if_pos ⟨h, of_is ho⟩]
  rcases of_prim ho hg with e | e
  · rw [e]
  · rw [e]
    congr 1
    unfold det
    dsimp only
    rw [Int.mul_neg, Int.mul_neg]; omega
theorem sum_prim {p q r s : Int} (h : (det p q r s).natAbs = 1) : Nat.gcd (p + r).natAbs (q + s).natAbs = 1 := gcd_one fun d h1 h2 => by
  have : (d : Int) ∣ det p q r s := by
    have e : det p q r s = (p + r) * s - (q + s) * r := by unfold det; rw [Int.add_mul, Int.add_mul, Int.mul_comm s r]; omega
    rw [e]
    exact Int.dvd_sub (Int.dvd_trans h1 (Int.dvd_mul_right _ _)) (Int.dvd_trans h2 (Int.dvd_mul_right _ _))
  have := cast_dvd this
  rw [h] at this
  exact Nat.dvd_one.1 this
theorem sum_fact {p q r s : Int} (h : sumOk p q r s) : crossN (sum p q r s).1 (sum p q r s).2 p q = 1 ∧ crossN (sum p q r s).1 (sum p q r s).2 r s = 1 := by
  obtain ⟨h1, h2⟩ := h
  unfold sum
  rw [if_pos h1]
  have hI : Is p q ∧ Is r s := Decidable.byContradiction fun k => by unfold crossN at h1; rw [if_neg k] at h1; exact absurd h1 (by decide)
  have hd : (det p q r s).natAbs = 1 := by unfold crossN at h1; rw [if_pos hI] at h1; omega
  have hg := sum_prim hd
  rw [crossN_swap, cross_of hI.1 h2 hg, crossN_swap, cross_of hI.2 h2 hg]
  have e1 : det p q (p + r) (q + s) = det p q r s := by unfold det; rw [Int.mul_add, Int.mul_add, Int.mul_comm q p]; omega
  have e2 : det r s (p + r) (q + s) = -det p q r s := by rw [← det_neg]; unfold det; rw [Int.mul_add, Int.mul_add, Int.mul_comm s r]; omega
  rw [e1, e2, Int.natAbs_neg, hd]
  exact ⟨rfl, rfl⟩
theorem twist_prim {p q r s n D : Int} (h : Is r s) (hD : D = det r s p q) (k : Int) (hn : n = k * D) : Nat.gcd (r + n * p).natAbs (s + n * q).natAbs = 1 := gcd_one fun d h1 h2 => by
  have hd : (d : Int) ∣ D := by
    have e : D = (r + n * p) * q - (s + n * q) * p := by
      rw [hD]; unfold det
      rw [Int.add_mul, Int.add_mul, Int.mul_assoc n p q, Int.mul_assoc n q p, Int.mul_comm q p]; omega
    rw [e]
    exact Int.dvd_sub (Int.dvd_trans h1 (Int.dvd_mul_right _ _)) (Int.dvd_trans h2 (Int.dvd_mul_right _ _))
  have hn' : (d : Int) ∣ n := by rw [hn]; exact Int.dvd_trans hd (Int.dvd_mul_left _ _)
  refine h.prim ?_ ?_
  · have := Int.dvd_sub h1 (Int.dvd_trans hn' (Int.dvd_mul_right n p))
    rwa [Int.add_sub_cancel] at this
  · have := Int.dvd_sub h2 (Int.dvd_trans hn' (Int.dvd_mul_right n q))
    rwa [Int.add_sub_cancel] at this
/-- What the law of slopes asks of a twist. -/
theorem twist_fact {p q r s k : Int} (h : twOk p q r s k) :
    crossN p q (twist p q r s k).1 (twist p q r s k).2 = crossN p q r s ∧ crossN (twist p q r s k).1 (twist p q r s k).2 r s = (k.natAbs : Int) * crossN p q r s * crossN p q r s := by
  obtain ⟨h1, h2⟩ := h
  unfold twist
  rw [if_pos h1]
  obtain ⟨n, hn⟩ : ∃ n, times p q r s k = n := ⟨_, rfl⟩
  rw [hn] at h2 ⊢
  have hg := twist_prim (p := p) (q := q) (r := r) (s := s) (n := n) h1.2.1 rfl k hn.symm
  rw [crossN_swap r s (of (r + n * p) (s + n * q)).1 (of (r + n * p) (s + n * q)).2, cross_of h1.1 h2 hg, cross_of h1.2.1 h2 hg]
  have e1 : det p q (r + n * p) (s + n * q) = det p q r s := by
    unfold det; rw [Int.mul_add, Int.mul_add, Int.mul_left_comm p n q, Int.mul_left_comm q n p, Int.mul_comm q p]; omega
  have e2 : det r s (r + n * p) (s + n * q) = n * det r s p q := by
    unfold det; rw [Int.mul_add, Int.mul_add, Int.mul_left_comm r n q, Int.mul_left_comm s n p, Int.mul_sub, Int.mul_comm s r]; omega
  rw [e1, e2]
  unfold crossN
  rw [if_pos ⟨h1.1, h1.2.1⟩]
  refine ⟨rfl, ?_⟩
  rw [← hn]
  unfold times
  rw [det_neg, Int.natAbs_mul, Int.natAbs_mul, Int.natAbs_neg, Int.natCast_mul, Int.natCast_mul]
theorem twist_zero {p q r s : Int} (h : Is p q) (h2 : Is r s) : twOk p q r s 0 ∧ twist p q r s 0 = (r, s) := by
  have hin : TwIn p q r s 0 := ⟨h, h2, by decide, by decide⟩
  unfold twOk twist times
  rw [if_pos hin]
  simp only [Int.zero_mul, Int.add_zero]
  exact ⟨⟨hin, (of_self h2).1⟩, (of_self h2).2⟩
/-- The letters of all slopes with few letters. -/
def lets (p q : Nat) (c : Int) : List Int := (List.range (p + q)).map fun k => letter p (p + q) k c
theorem lets_sums : ∀ p ∈ List.range 25, ∀ q ∈ List.range 25, p + q ≤ 24 → Nat.gcd p q = 1 →
    ((Word.sums (lets p q 2)).getD 0 0 = q ∧ (Word.sums (lets p q 2)).getD 1 0 = p) ∧ ((Word.sums (lets p q (-2))).getD 0 0 = q ∧ (Word.sums (lets p q (-2))).getD 1 0 = -(p : Int)) := by decide +kernel
theorem word_lets {p q : Int} (h : WordOk p q) : word p q = lets p.natAbs q.natAbs (sign p) := by
  have hq : q.toNat = q.natAbs := by have := h.1.2.1; omega
  unfold word lets len
  rw [if_pos h, hq]
theorem sign_ne {p : Int} : sign p = 2 ∨ sign p = -2 := by unfold sign; split <;> simp
theorem lets_mem {p q : Nat} {c x : Int} (h : x ∈ lets p q c) : x = 1 ∨ x = c := by
  unfold lets at h
  obtain ⟨k, _, rfl⟩ := List.mem_map.1 h
  unfold letter
  split
  · right; rfl
  · left; rfl
theorem lets_len (p q : Nat) (c : Int) : (lets p q c).length = p + q := by unfold lets; simp
theorem red_two {c : Int} (hc : c = 2 ∨ c = -2) {l : List Int} (h : ∀ x ∈ l, x = 1 ∨ x = c) : Word.red l = l := by
  have key : ∀ i, i ≤ l.length → Word.red (l.take i) = l.take i := by
    intro i
    induction i with
    | zero => intro _; rfl
    | succ i ih =>
      intro hi
      have hi2 : i < l.length := hi
      rw [Word.red_take hi2, ih (Nat.le_of_lt hi2)]
      unfold Word.redStep
      rw [if_neg, List.take_succ_eq_append_getElem hi2]
      intro he
      have h1 := h _ (List.mem_of_mem_take (List.mem_of_getLast? he))
      have h2 := h _ (List.getElem_mem hi2)
      omega
  have := key l.length (Nat.le_refl _)
  rwa [List.take_length] at this
theorem core_two {c : Int} (hc : c = 2 ∨ c = -2) {l : List Int} (h : ∀ x ∈ l, x = 1 ∨ x = c) : Word.core l = l := by
  rcases Nat.lt_or_ge l.length 2 with hl | hl
  · exact Word.core_short hl
  · obtain ⟨k, hk⟩ : ∃ k, l.length = k + 2 := ⟨l.length - 2, by omega⟩
    have e0 := List.getElem?_eq_getElem (show 0 < l.length by omega)
    have e1 := List.getElem?_eq_getElem (show k + 1 < l.length by omega)
    have m0 := h _ (List.getElem_mem (show 0 < l.length by omega))
    have m1 := h _ (List.getElem_mem (show k + 1 < l.length by omega))
    refine Word.core_stop hk e0 e1 ?_
    omega
theorem word_w {p q : Int} (h : WordOk p q) : Word.IsW (word p q) := by
  refine ⟨fun x hx => ?_, Nat.le_trans (word_tot p q) (by decide)⟩
  rw [word_lets h] at hx
  have := lets_mem hx
  have := @sign_ne p
  unfold Word.Letter
  omega
theorem word_core {p q : Int} (h : WordOk p q) : (Word.coreOf (word p q)).length = len p q := by
  unfold Word.coreOf
  rw [if_pos (word_w h), word_lets h, red_two sign_ne fun x hx => lets_mem hx, core_two sign_ne fun x hx => lets_mem hx, ← word_lets h, word_len h]
theorem word_sums {p q : Int} (h : WordOk p q) : (Word.sumsOf (word p q)).getD 0 0 = q ∧ (Word.sumsOf (word p q)).getD 1 0 = p := by
  unfold Word.sumsOf
  rw [if_pos (word_w h), word_lets h]
  have h24 := h.2
  unfold len at h24
  have hq := h.1.2.1
  have hs := lets_sums p.natAbs (List.mem_range.2 (by omega)) q.natAbs (List.mem_range.2 (by omega)) (by omega) h.1.2.2.2
  unfold sign
  split
  · exact ⟨by rw [hs.2.1]; omega, by rw [hs.2.2]; omega⟩
  · exact ⟨by rw [hs.1.1]; omega, by rw [hs.1.2]; omega⟩
end Sl
end Go.Proofs.YtehibigjdbpikaaGreatDoor
