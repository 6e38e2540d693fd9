/-
  Plain mathematics of decimal numerals: what is read out of a text, in the two ways of the program and of the model, is the same.
-/
import Derived.Lib.ItoaNum
import Derived.Lib.AtoiAll
namespace Go.Proofs.YtehibigjdbpikaaGreatDoor.Num
open Go

def digit (c : UInt8) : Bool := decide (48 ≤ c.toNat) && decide (c.toNat ≤ 57)
def val (a : Nat) (l : List UInt8) : Nat := l.foldl (fun a c => 10 * a + (c.toNat - 48)) a

theorem val_nil (a : Nat) : val a [] = a := rfl
theorem val_cons (a : Nat) (c : UInt8) (l : List UInt8) : val a (c :: l) = val (10 * a + (c.toNat - 48)) l := by unfold val; rw [List.foldl_cons]
theorem val_append (a : Nat) (l m : List UInt8) : val a (l ++ m) = val (val a l) m := by simp [val, List.foldl_append]
theorem val_ge : ∀ (l : List UInt8) (a : Nat), a ≤ val a l
  | [], a => Nat.le_refl _
  | c :: l, a => by rw [val_cons]; exact Nat.le_trans (by omega) (val_ge l _)
theorem val_lt : ∀ (l : List UInt8) (a k : Nat), l.all digit = true → a < 10 ^ k → val a l < 10 ^ (k + l.length)
  | [], a, k, _, h => h
  | c :: l, a, k, hd, h => by
    simp only [List.all_cons, Bool.and_eq_true, digit, decide_eq_true_eq] at hd
    rw [val_cons, List.length_cons, show k + (l.length + 1) = (k + 1) + l.length from by omega]
    exact val_lt l _ _ hd.2 (by rw [Nat.pow_succ]; omega)

theorem ofNat_digit {d : Nat} (h : d < 10) : (UInt8.ofNat (48 + d)).toNat = 48 + d := by simp; omega

theorem digits_all (u : Nat) : (Lib.decDigits u).all digit = true := by
  induction u using Nat.strongRecOn with
  | _ u ih =>
    rw [Lib.decDigits]
    by_cases h : u < 10
    · rw [dif_pos h]; simp only [List.all_cons, List.all_nil, digit, ofNat_digit h, Bool.and_true, Bool.and_eq_true, decide_eq_true_eq]; omega
    · rw [dif_neg h, List.all_append, ih (u / 10) (by omega)]
      simp only [List.all_cons, List.all_nil, digit, ofNat_digit (show u % 10 < 10 by omega), Bool.and_true, Bool.true_and, Bool.and_eq_true, decide_eq_true_eq]; omega
theorem val_digits (u : Nat) : val 0 (Lib.decDigits u) = u := by
  induction u using Nat.strongRecOn with
  | _ u ih =>
    rw [Lib.decDigits]
    by_cases h : u < 10
    · rw [dif_pos h, val_cons, ofNat_digit h, val_nil]; omega
    · rw [dif_neg h, val_append, ih (u / 10) (by omega), val_cons, ofNat_digit (show u % 10 < 10 by omega), val_nil]; omega
theorem digits_ne (u : Nat) : Lib.decDigits u ≠ [] := by
  intro h
  have := Lib.decDigits_length u
  rw [h] at this
  have := Lib.nDigits_pos u
  simp at *; omega
theorem nDigits_le : ∀ (k u : Nat), u < 10 ^ (k + 1) → Lib.nDigits u ≤ k + 1
  | 0, u, h => by rw [Lib.nDigits_small (by simpa using h)]; exact Nat.le_refl _
  | k + 1, u, h => by
    by_cases hs : u < 10
    · rw [Lib.nDigits_small hs]; omega
    · rw [Lib.nDigits_big hs]
      have := nDigits_le k (u / 10) (by rw [Nat.pow_succ] at h; omega)
      omega
theorem digits_head {c : UInt8} {l : List UInt8} {u : Nat} (h : Lib.decDigits u = c :: l) : 48 ≤ c.toNat ∧ c.toNat ≤ 57 := by
  have := digits_all u
  rw [h] at this
  simpa [digit] using (List.all_eq_true.1 this c (by simp))

/-- The model's way. -/
def below (l : List UInt8) : Bool := l.head? == some 45
def rest (l : List UInt8) : List UInt8 := if below l then l.tail else l
def sgn (l : List UInt8) : Int := if below l then 0 - (val 0 (rest l) : Int) else val 0 (rest l)
def rd (k : Nat) (l : List UInt8) : Int × Bool :=
  if (rest l).length < 1 ∨ k < (rest l).length then (0, false)
  else if (rest l).all digit = false then (0, false)
  else if Lib.itoa (sgn l) = l then (sgn l, true) else (0, false)

theorem itoa_neg {n : Int} (h : n < 0) : Lib.itoa n = 45 :: Lib.decDigits n.natAbs := by rw [Lib.itoa, if_pos h]
theorem itoa_pos {n : Int} (h : 0 ≤ n) : Lib.itoa n = Lib.decDigits n.natAbs := by
  rw [Lib.itoa, if_neg (by omega), show n.toNat = n.natAbs from by omega]
theorem below_digits (u : Nat) : below (Lib.decDigits u) = false := by
  unfold below
  cases h : Lib.decDigits u with
  | nil => rfl
  | cons c l =>
    have := digits_head h
    simp only [List.head?_cons]
    rw [beq_eq_false_iff_ne]
    intro e
    injection e with e
    rw [e] at this
    exact absurd this.1 (by decide)
theorem sgn_itoa (n : Int) : sgn (Lib.itoa n) = n ∧ rest (Lib.itoa n) = Lib.decDigits n.natAbs := by
  by_cases h : n < 0
  · have hb : below (45 :: Lib.decDigits n.natAbs) = true := by simp [below]
    rw [itoa_neg h]
    unfold sgn rest
    rw [if_pos hb, if_pos hb]
    refine ⟨?_, rfl⟩
    show 0 - ((val 0 (Lib.decDigits n.natAbs) : Nat) : Int) = n
    rw [val_digits]; omega
  · rw [itoa_pos (by omega)]
    unfold sgn rest
    rw [if_neg (by rw [below_digits]; decide), if_neg (by rw [below_digits]; decide), val_digits]
    exact ⟨by omega, rfl⟩
theorem rd_itoa (k : Nat) (n : Int) (h : n.natAbs < 10 ^ (k + 1)) : rd (k + 1) (Lib.itoa n) = (n, true) := by
  obtain ⟨hs, hr⟩ := sgn_itoa n
  have hl := Lib.decDigits_length n.natAbs
  have h1 := Lib.nDigits_pos n.natAbs
  have h2 := nDigits_le k n.natAbs h
  unfold rd
  rw [hr, hs, if_neg (by omega), if_neg (by rw [digits_all]; decide), if_pos rfl]
theorem rd_true {k : Nat} {l : List UInt8} {n : Int} (h : rd k l = (n, true)) : Lib.itoa n = l ∧ n.natAbs < 10 ^ k := by
  unfold rd at h
  split at h
  · injection h with _ h; cases h
  · split at h
    · injection h with _ h; cases h
    · split at h
      · rename_i h1 h2 h3
        injection h with h _
        subst h
        refine ⟨h3, ?_⟩
        have hv := val_lt (rest l) 0 0 (by simpa using h2) (by decide)
        have hp : 10 ^ (0 + (rest l).length) ≤ 10 ^ k := Nat.pow_le_pow_right (by decide) (by omega)
        unfold sgn
        split <;> omega
      · injection h with _ h; cases h
theorem rd_false {k : Nat} {l : List UInt8} (h : (rd k l).2 = false) : rd k l = (0, false) := by
  unfold rd at h ⊢
  split
  · rfl
  · rename_i h1
    rw [if_neg h1] at h
    split
    · rfl
    · rename_i h2
      rw [if_neg h2] at h
      split
      · rename_i h3
        rw [if_pos h3] at h; cases h
      · rfl

/-- The program's way. -/
def rdI (lo hi : Int) (l : List UInt8) : Int × Bool :=
  match Lib.atoiAll l with
  | .ok v => if v < lo ∨ hi < v then (0, false) else if Lib.itoa v = l then (v, true) else (0, false)
  | _ => (0, false)

theorem parse_ok : ∀ (l : List UInt8) (a : Nat), l.all digit = true → val a l < 1844674407370955162 → Lib.parseUint10 a l = .ok (val a l)
  | [], a, _, _ => rfl
  | c :: l, a, hd, h => by
    have hd' := hd
    simp only [List.all_cons, Bool.and_eq_true, digit, decide_eq_true_eq] at hd
    rw [val_cons] at h
    have hge := val_ge l (10 * a + (c.toNat - 48))
    rw [Lib.parseUint10, if_pos hd.1, if_neg (by omega), if_neg (by omega), show a * 10 + (c.toNat - 48) = 10 * a + (c.toNat - 48) from by omega, parse_ok l _ (by simpa using hd.2) h, val_cons]
theorem mag_digits (u : Nat) (h : u < 1844674407370955162) : Lib.parseMag (Lib.decDigits u) = .ok u := by
  unfold Lib.parseMag
  rw [if_neg (digits_ne u), parse_ok _ _ (digits_all u) (by rw [val_digits]; exact h), val_digits]
theorem atoi_itoa (n : Int) (h : n.natAbs < 1844674407370955162) : Lib.atoiAll (Lib.itoa n) = .ok n := by
  by_cases hn : n < 0
  · rw [itoa_neg hn]
    unfold Lib.atoiAll
    have e : (45 : UInt8).toNat = 45 := rfl
    have h9 : ¬ 9223372036854775808 < n.natAbs := by omega
    simp only [e, or_true, if_true, mag_digits _ h, not_true_eq_false, false_and, if_false, true_and, h9]
    rw [show -(n.natAbs : Int) = n from by omega]
  · rw [itoa_pos (by omega)]
    cases hc : Lib.decDigits n.natAbs with
    | nil => exact absurd hc (digits_ne _)
    | cons c r =>
      have hh := digits_head hc
      have hm := mag_digits n.natAbs h
      rw [hc] at hm
      unfold Lib.atoiAll
      have h9 : ¬ 9223372036854775808 ≤ n.natAbs := by omega
      simp only [show ¬ c.toNat = 43 from by omega, show ¬ c.toNat = 45 from by omega, or_self, if_false, hm, false_and, not_false_eq_true, true_and, h9]
      rw [show (n.natAbs : Int) = n from by omega]
theorem rdI_itoa {lo hi n : Int} (h : n.natAbs < 1844674407370955162) (h1 : lo ≤ n) (h2 : n ≤ hi) : rdI lo hi (Lib.itoa n) = (n, true) := by
  unfold rdI
  rw [atoi_itoa n h]
  show (if n < lo ∨ hi < n then _ else _) = _
  rw [if_neg (by omega), if_pos rfl]
theorem rdI_true {lo hi n : Int} {l : List UInt8} (h : rdI lo hi l = (n, true)) : Lib.itoa n = l ∧ lo ≤ n ∧ n ≤ hi := by
  unfold rdI at h
  split at h
  · split at h
    · injection h with _ h; cases h
    · split at h
      · rename_i h1 h2
        injection h with h _
        subst h
        exact ⟨h2, by omega, by omega⟩
      · injection h with _ h; cases h
  · injection h with _ h; cases h
theorem rdI_false {lo hi : Int} {l : List UInt8} (h : (rdI lo hi l).2 = false) : rdI lo hi l = (0, false) := by
  unfold rdI at h ⊢
  split
  · rename_i v hv
    rw [hv] at h
    simp only at h
    split
    · rfl
    · rename_i h1
      rw [if_neg h1] at h
      split
      · rename_i h2
        rw [if_pos h2] at h; cases h
      · rfl
  · rfl

/-- ParseInt: both ways are one. -/
theorem int_same (l : List UInt8) : rdI (-999999999999) 999999999999 l = rd 12 l := by
  cases h : (rd 12 l).2 with
  | true =>
    have e : rd 12 l = ((rd 12 l).1, true) := by rw [← h]
    obtain ⟨h1, h2⟩ := rd_true e
    rw [e]
    generalize (rd 12 l).1 = n at h1 h2
    rw [← h1]
    exact rdI_itoa (by omega) (by omega) (by omega)
  | false =>
    rw [rd_false h]
    cases h' : (rdI (-999999999999) 999999999999 l).2 with
    | false => exact rdI_false h'
    | true =>
      have e : rdI (-999999999999) 999999999999 l = ((rdI (-999999999999) 999999999999 l).1, true) := by rw [← h']
      obtain ⟨h1, h2, h3⟩ := rdI_true e
      generalize (rdI (-999999999999) 999999999999 l).1 = n at h1 h2 h3
      have := rd_itoa 11 n (by omega)
      rw [h1] at this
      rw [this] at h
      cases h
/-- ParseNumber: the model leaves out what is below 0. -/
def rdN (l : List UInt8) : Int × Bool := if (rd 6 l).2 = false ∨ (rd 6 l).1 < 0 then (0, false) else ((rd 6 l).1, true)
theorem rdN_false {l : List UInt8} (h : (rdN l).2 = false) : rdN l = (0, false) := by
  unfold rdN at h ⊢
  split
  · rfl
  · rename_i h1
    rw [if_neg h1] at h
    cases h
theorem number_same (l : List UInt8) : rdI 0 999999 l = rdN l := by
  unfold rdN
  cases h : (rd 6 l).2 with
  | true =>
    have e : rd 6 l = ((rd 6 l).1, true) := by rw [← h]
    obtain ⟨h1, h2⟩ := rd_true e
    generalize (rd 6 l).1 = n at h1 h2 ⊢
    by_cases hn : n < 0
    · rw [if_pos (Or.inr hn)]
      cases h' : (rdI 0 999999 l).2 with
      | false => exact rdI_false h'
      | true =>
        have e' : rdI 0 999999 l = ((rdI 0 999999 l).1, true) := by rw [← h']
        obtain ⟨h3, h4, h5⟩ := rdI_true e'
        generalize (rdI 0 999999 l).1 = m at h3 h4 h5
        have s1 := (sgn_itoa n).1
        have s2 := (sgn_itoa m).1
        rw [h1] at s1; rw [h3] at s2
        omega
    · rw [if_neg (by simp; omega), ← h1]
      exact rdI_itoa (by omega) (by omega) (by omega)
  | false =>
    rw [if_pos (Or.inl rfl)]
    cases h' : (rdI 0 999999 l).2 with
    | false => exact rdI_false h'
    | true =>
      have e' : rdI 0 999999 l = ((rdI 0 999999 l).1, true) := by rw [← h']
      obtain ⟨h3, h4, h5⟩ := rdI_true e'
      generalize (rdI 0 999999 l).1 = m at h3 h4 h5
      have := rd_itoa 5 m (by omega)
      rw [h3] at this
      rw [this] at h
      cases h
theorem digits_iff (k u : Nat) : Lib.nDigits u ≤ k + 1 ↔ u < 10 ^ (k + 1) :=
  ⟨fun h => Nat.lt_of_lt_of_le (Lib.lt_pow_nDigits u) (Nat.pow_le_pow_right (by decide) h), nDigits_le k u⟩
theorem itoa_len (n : Int) : (Lib.itoa n).length = Lib.nDigits n.natAbs + if n < 0 then 1 else 0 := by
  by_cases h : n < 0
  · rw [itoa_neg h, if_pos h, List.length_cons, Lib.decDigits_length]
  · rw [itoa_pos (by omega), if_neg h, Lib.decDigits_length]; rfl
theorem rd_far {n : Int} (h : ¬ n.natAbs < 10 ^ 12) : rd 12 (Lib.itoa n) = (0, false) := by
  unfold rd
  rw [(sgn_itoa n).2, Lib.decDigits_length, if_pos]
  right
  have := (digits_iff 11 n.natAbs).1
  omega
theorem rdN_true {l : List UInt8} (h : (rdN l).2 = true) : Lib.itoa (rdN l).1 = l ∧ 0 ≤ (rdN l).1 ∧ (rdN l).1 ≤ 999999 := by
  unfold rdN at h ⊢
  split
  · rename_i h1; rw [if_pos h1] at h; cases h
  · rename_i h1
    have h2 : (rd 6 l).2 = true := by simpa using (not_or.1 h1).1
    have e : rd 6 l = ((rd 6 l).1, true) := by rw [← h2]
    obtain ⟨h3, h4⟩ := rd_true e
    refine ⟨h3, by have := (not_or.1 h1).2; omega, by omega⟩
end Go.Proofs.YtehibigjdbpikaaGreatDoor.Num
