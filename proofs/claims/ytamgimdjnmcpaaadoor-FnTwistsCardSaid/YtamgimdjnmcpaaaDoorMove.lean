/-
  Moves of gluings, as functions of lists of words: what the document's chapter on moves says of them.
-/
import Derived.Test.YtamgimdjnmcpaaaDoorBase
import Derived.Test.YtamgimdjnmcpaaaDoorSlice
import Derived.Test.YtamgimdjnmcpaaaDoorInts
import Derived.Test.YtamgimdjnmcpaaaDoorGrid
import Derived.Test.YtamgimdjnmcpaaaDoorWord
import Derived.Test.YtamgimdjnmcpaaaDoorGlue
namespace Go.Proofs.YtamgimdjnmcpaaaDoor
open Go.RowKit

namespace Mv
open Glue

/-- How often a letter occurs, counting inverses. -/
def cnt (l : List Int) (k : Nat) : Nat := (l.filter fun x => x.natAbs == k).length
theorem cnt_nil (k : Nat) : cnt [] k = 0 := rfl
theorem cnt_append (a b : List Int) (k : Nat) : cnt (a ++ b) k = cnt a k + cnt b k := by simp [cnt]
theorem cnt_cons (x : Int) (a : List Int) (k : Nat) : cnt (x :: a) k = (if x.natAbs = k then 1 else 0) + cnt a k := by
  unfold cnt; rw [List.filter_cons]; by_cases h : x.natAbs = k <;> simp [h]; omega
theorem cnt_inv (l : List Int) (k : Nat) : cnt (Word.inv l) k = cnt l k := by
  induction l with
  | nil => rfl
  | cons x r ih => rw [Word.inv_cons, cnt_append, cnt_cons, cnt_cons, ih, cnt_nil, Int.natAbs_neg]; omega
theorem cnt_turn (l : List Int) (m : Int) (k : Nat) : cnt (Word.turn l m) k = cnt l k := by
  unfold Word.turn
  rw [cnt_append, Nat.add_comm, ← cnt_append, List.take_append_drop]
theorem cnt_split (l : List Int) (i k : Nat) : cnt (l.take i) k + cnt (l.drop i) k = cnt l k := by rw [← cnt_append, List.take_append_drop]
theorem cnt_pos {l : List Int} {x : Int} (h : x ∈ l) : 0 < cnt l x.natAbs := by
  unfold cnt
  exact List.length_pos_of_mem (List.mem_filter.2 ⟨h, by simp⟩)
theorem cnt_mem {l : List Int} {k : Nat} (h : 0 < cnt l k) : ∃ x ∈ l, x.natAbs = k := by
  unfold cnt at h
  obtain ⟨x, hx⟩ := List.exists_mem_of_length_pos h
  have := List.mem_filter.1 hx
  exact ⟨x, this.1, by simpa using this.2⟩
theorem cnt_le_len (l : List Int) (k : Nat) : cnt l k ≤ l.length := List.length_filter_le _ _
theorem uses_cnt (L : List (List Int)) {k : Nat} (h : k < 9) : (uses L).getD k 0 = ((cnt L.flatten k : Nat) : Int) := count_get _ k h
theorem isG_iff (L : List (List Int)) : IsG L ↔ 1 ≤ L.length ∧ L.length ≤ 4 ∧ (∀ p ∈ L, RowOk p) ∧ sumLen L ≤ 20 ∧ ∀ k, k < 9 → cnt L.flatten k ≤ 2 := by
  unfold IsG
  constructor
  · rintro ⟨h1, h2, h3, h4, h5⟩
    refine ⟨h1, h2, h3, h4, fun k hk => ?_⟩
    have hk' : k < (uses L).length := by rw [uses_len]; exact hk
    have := h5 _ (List.getElem_mem hk')
    rw [uses_at k hk', uses_cnt L hk] at this
    omega
  · rintro ⟨h1, h2, h3, h4, h5⟩
    refine ⟨h1, h2, h3, h4, all_small fun k hk h9 => ?_⟩
    rw [uses_at k hk, uses_cnt L h9]
    have := h5 k h9
    omega
/-- Another polygon in the place of one. -/
theorem flat_set {L : List (List Int)} {p : Nat} {q r : List Int} (h : L[p]? = some q) (k : Nat) : cnt (L.set p r).flatten k + cnt q k = cnt L.flatten k + cnt r k := by
  induction L generalizing p with
  | nil => simp at h
  | cons a t ih =>
    cases p with
    | zero =>
      simp only [List.getElem?_cons_zero, Option.some.injEq] at h
      subst h
      simp only [List.set_cons_zero, List.flatten_cons, cnt_append]; omega
    | succ p =>
      simp only [List.getElem?_cons_succ] at h
      have := ih h
      simp only [List.set_cons_succ, List.flatten_cons, cnt_append]; omega
theorem sum_set {L : List (List Int)} {p : Nat} {q r : List Int} (h : L[p]? = some q) : sumLen (L.set p r) + q.length = sumLen L + r.length := by
  induction L generalizing p with
  | nil => simp at h
  | cons a t ih =>
    cases p with
    | zero =>
      simp only [List.getElem?_cons_zero, Option.some.injEq] at h
      subst h
      simp only [List.set_cons_zero, sumLen, List.map_cons, List.sum_cons]; omega
    | succ p =>
      simp only [List.getElem?_cons_succ] at h
      have := ih h
      unfold sumLen at this ⊢
      simp only [List.set_cons_succ, List.map_cons, List.sum_cons]; omega
theorem isG_set {L : List (List Int)} {p : Nat} {q r : List Int} (hG : IsG L) (h : L[p]? = some q) (hr : RowOk r) (hl : r.length ≤ q.length) (hc : ∀ k, k < 9 → cnt r k ≤ cnt q k) : IsG (L.set p r) := by
  rw [isG_iff] at hG ⊢
  obtain ⟨h1, h2, h3, h4, h5⟩ := hG
  have hs := sum_set (r := r) h
  refine ⟨by rw [List.length_set]; exact h1, by rw [List.length_set]; exact h2, fun x hx => ?_, by omega, fun k hk => ?_⟩
  · rcases List.mem_or_eq_of_mem_set hx with hx | rfl
    · exact h3 x hx
    · exact hr
  · have := flat_set (r := r) h k
    have := hc k hk; have := h5 k hk; omega

/-- A gluing with a polygon p. -/
def Has (L : List (List Int)) (p : Int) : Prop := IsG L ∧ 0 ≤ p ∧ p < (L.length : Int)
instance (L : List (List Int)) (p : Int) : Decidable (Has L p) := by unfold Has; exact inferInstance
def row (L : List (List Int)) (p : Int) : List Int := L.getD p.toNat []
theorem Has.lt {L : List (List Int)} {p : Int} (h : Has L p) : p.toNat < L.length := by have := h.2; omega
theorem Has.get {L : List (List Int)} {p : Int} (h : Has L p) : L[p.toNat]? = some (row L p) := by
  unfold row; rw [List.getD_eq_getElem?_getD, List.getElem?_eq_getElem h.lt]; rfl
theorem Has.mem {L : List (List Int)} {p : Int} (h : Has L p) : row L p ∈ L := get_mem h.get
theorem Has.ok {L : List (List Int)} {p : Int} (h : Has L p) : RowOk (row L p) := h.1.2.2.1 _ h.mem
theorem Has.tot {L : List (List Int)} {p : Int} (h : Has L p) : (row L p).length ≤ 20 := by
  have := sum_set (r := []) h.get
  have := h.1.2.2.2.1
  simp at *; omega

def turn (L : List (List Int)) (p k : Int) : List (List Int) := if Has L p then L.set p.toNat (Word.turn (row L p) k) else []
def mirror (L : List (List Int)) (p : Int) : List (List Int) := if Has L p then L.set p.toNat (Word.inv (row L p)) else []
theorem turn_isG {L : List (List Int)} {p : Int} (h : Has L p) (k : Int) : IsG (L.set p.toNat (Word.turn (row L p) k)) :=
  isG_set h.1 h.get ⟨fun e => h.ok.1 (List.eq_nil_of_length_eq_zero (by rw [← Word.turn_len (row L p) k, e]; rfl)), Word.turn_w h.ok.2 k⟩ (by rw [Word.turn_len]; exact Nat.le_refl _) (fun j _ => by rw [cnt_turn]; exact Nat.le_refl _)
theorem letter_neg {x : Int} (h : Word.Letter x) : Word.Letter (-x) := by rw [Word.letter_iff] at *; omega
theorem inv_mem {l : List Int} {x : Int} : x ∈ Word.inv l ↔ -x ∈ l := by
  unfold Word.inv
  simp only [List.mem_reverse, List.mem_map]
  constructor
  · rintro ⟨y, hy, rfl⟩; rw [Int.neg_neg]; exact hy
  · intro h; exact ⟨-x, h, by omega⟩
theorem inv_w {l : List Int} (h : Word.IsW l) : Word.IsW (Word.inv l) :=
  ⟨fun x hx => by have := letter_neg (h.1 _ (inv_mem.1 hx)); rwa [Int.neg_neg] at this, by rw [Word.inv_len]; exact h.2⟩
theorem inv_ok {l : List Int} (h : RowOk l) : RowOk (Word.inv l) :=
  ⟨fun e => h.1 (List.eq_nil_of_length_eq_zero (by rw [← Word.inv_len, e]; rfl)), inv_w h.2⟩
theorem mirror_isG {L : List (List Int)} {p : Int} (h : Has L p) : IsG (L.set p.toNat (Word.inv (row L p))) :=
  isG_set h.1 h.get (inv_ok h.ok) (by rw [Word.inv_len]; exact Nat.le_refl _) (fun j _ => by rw [cnt_inv]; exact Nat.le_refl _)
theorem tot_of {L : List (List Int)} (h : IsG L) : tot L ≤ 24 := by
  have := h.2.1; have := h.2.2.2.1; unfold Go.Proofs.YtamgimdjnmcpaaaDoor.tot; omega
theorem turn_tot (L : List (List Int)) (p k : Int) : tot (turn L p k) ≤ 1000000 := by
  unfold turn; split
  · rename_i h; exact Nat.le_trans (tot_of (turn_isG h k)) (by decide)
  · simp [Go.Proofs.YtamgimdjnmcpaaaDoor.tot, sumLen]
theorem mirror_tot (L : List (List Int)) (p : Int) : tot (mirror L p) ≤ 1000000 := by
  unfold mirror; split
  · rename_i h; exact Nat.le_trans (tot_of (mirror_isG h)) (by decide)
  · simp [Go.Proofs.YtamgimdjnmcpaaaDoor.tot, sumLen]

/-- A side's letter is replaced. -/
def sgn (s : Int) : Int := if 0 < s then 1 else if s < 0 then -1 else 0
def swp (x a y b s : Int) : Int := if (s.natAbs : Int) = x then sgn s * a else if (s.natAbs : Int) = y then sgn s * b else s
def EdgeLetter (x : Int) : Prop := 1 ≤ x ∧ x ≤ 8
instance (x : Int) : Decidable (EdgeLetter x) := by unfold EdgeLetter; exact inferInstance
def SwapOk (L : List (List Int)) (x y : Int) : Prop := IsG L ∧ EdgeLetter x ∧ EdgeLetter y
instance (L : List (List Int)) (x y : Int) : Decidable (SwapOk L x y) := by unfold SwapOk; exact inferInstance
def swap (L : List (List Int)) (x y : Int) : List (List Int) := if SwapOk L x y then L.map (List.map (swp x y y x)) else []
def RevOk (L : List (List Int)) (x : Int) : Prop := IsG L ∧ EdgeLetter x
instance (L : List (List Int)) (x : Int) : Decidable (RevOk L x) := by unfold RevOk; exact inferInstance
def rev (L : List (List Int)) (x : Int) : List (List Int) := if RevOk L x then L.map (List.map (swp x (-x) x (-x))) else []
theorem map_tot (f : Int → Int) (L : List (List Int)) : tot (L.map (List.map f)) = tot L := by
  unfold Go.Proofs.YtamgimdjnmcpaaaDoor.tot sumLen; rw [List.length_map, List.map_map]
  congr 2
  apply List.map_congr_left
  intro x _; simp
theorem swap_tot (L : List (List Int)) (x y : Int) : tot (swap L x y) ≤ 1000000 := by
  unfold swap; split
  · rename_i h; rw [map_tot]; exact Nat.le_trans (tot_of h.1) (by decide)
  · simp [Go.Proofs.YtamgimdjnmcpaaaDoor.tot, sumLen]
theorem rev_tot (L : List (List Int)) (x : Int) : tot (rev L x) ≤ 1000000 := by
  unfold rev; split
  · rename_i h; rw [map_tot]; exact Nat.le_trans (tot_of h.1) (by decide)
  · simp [Go.Proofs.YtamgimdjnmcpaaaDoor.tot, sumLen]

/-- Two sides that are inverse to each other are taken away. -/
def next (n i : Nat) : Nat := (i + 1) % n
def rest (l : List Int) (i : Nat) : List Int := if i + 1 < l.length then l.take i ++ l.drop (i + 2) else (l.drop 1).take (l.length - 2)
def CancelOk (L : List (List Int)) (p i : Int) : Prop := Has L p ∧ 3 ≤ (row L p).length ∧ 0 ≤ i ∧ i < ((row L p).length : Int) ∧ (row L p).getD i.toNat 0 = -(row L p).getD (next (row L p).length i.toNat) 0
instance (L : List (List Int)) (p i : Int) : Decidable (CancelOk L p i) := by unfold CancelOk; exact inferInstance
def cancel (L : List (List Int)) (p i : Int) : List (List Int) := if CancelOk L p i then L.set p.toNat (rest (row L p) i.toNat) else []
theorem rest_sub {l : List Int} {i : Nat} : (rest l i).Sublist l := by
  unfold rest; split
  · conv => rhs; rw [← List.take_append_drop i l]
    refine List.Sublist.append (List.Sublist.refl _) ?_
    rw [← List.drop_drop]
    exact List.drop_sublist _ _
  · exact (List.take_sublist _ _).trans (List.drop_sublist _ _)
theorem rest_len {l : List Int} {i : Nat} (h : 3 ≤ l.length) (hi : i < l.length) : (rest l i).length = l.length - 2 := by
  unfold rest; split
  · simp; omega
  · simp; omega
theorem cnt_sub {a b : List Int} (h : a.Sublist b) (k : Nat) : cnt a k ≤ cnt b k := (h.filter _).length_le
theorem sub_w {a b : List Int} (h : a.Sublist b) (hb : Word.IsW b) : Word.IsW a := ⟨fun x hx => hb.1 x (h.subset hx), Nat.le_trans h.length_le hb.2⟩
theorem cancel_isG {L : List (List Int)} {p i : Int} (h : CancelOk L p i) : IsG (L.set p.toNat (rest (row L p) i.toNat)) := by
  obtain ⟨h1, h2, h3, h4, _⟩ := h
  have hl := rest_len (l := row L p) (i := i.toNat) h2 (by omega)
  refine isG_set h1.1 h1.get ⟨fun e => ?_, sub_w rest_sub h1.ok.2⟩ (by omega) (fun k _ => cnt_sub rest_sub k)
  rw [e] at hl; simp at hl; omega
theorem cancel_tot (L : List (List Int)) (p i : Int) : tot (cancel L p i) ≤ 1000000 := by
  unfold cancel; split
  · rename_i h; exact Nat.le_trans (tot_of (cancel_isG h)) (by decide)
  · simp [Go.Proofs.YtamgimdjnmcpaaaDoor.tot, sumLen]

/-- The least letter that does not occur, or 9. -/
def newL (L : List (List Int)) : Nat := ((List.range 8).find? fun k => cnt L.flatten (k + 1) == 0).elim 9 (· + 1)
def cutAt (L : List (List Int)) (p i j : Int) : List (List Int) :=
  L.set p.toNat (((row L p).drop i.toNat).take (j.toNat - i.toNat) ++ [(newL L : Int)]) ++ [[-(newL L : Int)] ++ (row L p).drop j.toNat ++ (row L p).take i.toNat]
def CutIn (L : List (List Int)) (p i j : Int) : Prop := Has L p ∧ 0 ≤ i ∧ i < j ∧ j < ((row L p).length : Int)
instance (L : List (List Int)) (p i j : Int) : Decidable (CutIn L p i j) := by unfold CutIn; exact inferInstance
def CutOk (L : List (List Int)) (p i j : Int) : Prop := CutIn L p i j ∧ IsG (cutAt L p i j)
instance (L : List (List Int)) (p i j : Int) : Decidable (CutOk L p i j) := by unfold CutOk; exact inferInstance
def cut (L : List (List Int)) (p i j : Int) : List (List Int) := if CutOk L p i j then cutAt L p i j else []
theorem cut_tot (L : List (List Int)) (p i j : Int) : tot (cut L p i j) ≤ 1000000 := by
  unfold cut; split
  · rename_i h; exact Nat.le_trans (tot_of h.2) (by decide)
  · simp [Go.Proofs.YtamgimdjnmcpaaaDoor.tot, sumLen]

/-- Where a letter stands first, or the length. -/
def at_ (l : List Int) (x : Int) : Nat := l.findIdx fun y => (y.natAbs : Int) == x
def In (l : List Int) (x : Int) : Prop := ∃ y ∈ l, (y.natAbs : Int) = x
instance (l : List Int) (x : Int) : Decidable (In l x) := by unfold In; exact inferInstance
theorem at_lt {l : List Int} {x : Int} : at_ l x < l.length ↔ In l x := by
  unfold at_ In
  rw [List.findIdx_lt_length]
  constructor
  · rintro ⟨y, h1, h2⟩; exact ⟨y, h1, by simpa using h2⟩
  · rintro ⟨y, h1, h2⟩; exact ⟨y, h1, by simpa using h2⟩
/-- The polygons that have a letter. -/
def foundTo (L : List (List Int)) (x : Int) (m : Nat) : List Nat := (List.range m).filter fun k => decide (In (L.getD k []) x)
def found (L : List (List Int)) (x : Int) : List Nat := foundTo L x L.length
def joined (a b : List Int) (x : Int) : List Int :=
  let b' := if a.getD (at_ a x) 0 ∈ b then Word.inv b else b
  a.take (at_ a x) ++ b'.drop (at_ b' x + 1) ++ b'.take (at_ b' x) ++ a.drop (at_ a x + 1)
def gluedAt (L : List (List Int)) (x : Int) (p q : Nat) : List (List Int) := (L.set p (joined (L.getD p []) (L.getD q []) x)).eraseIdx q
def glueOf (L : List (List Int)) (x : Int) : List (List Int) :=
  match found L x with
  | [p, q] => gluedAt L x p q
  | _ => []
def GlueOk (L : List (List Int)) (x : Int) : Prop := IsG L ∧ IsG (glueOf L x)
instance (L : List (List Int)) (x : Int) : Decidable (GlueOk L x) := by unfold GlueOk; exact inferInstance
def glue (L : List (List Int)) (x : Int) : List (List Int) := if GlueOk L x then glueOf L x else []
theorem glue_tot (L : List (List Int)) (x : Int) : tot (glue L x) ≤ 1000000 := by
  unfold glue; split
  · rename_i h; exact Nat.le_trans (tot_of h.2) (by decide)
  · simp [Go.Proofs.YtamgimdjnmcpaaaDoor.tot, sumLen]
theorem not_nil : ¬ IsG [] := fun h => by have := h.1; simp at this
theorem found_lt {L : List (List Int)} {x : Int} {k : Nat} (h : k ∈ found L x) : k < L.length := by
  unfold found foundTo at h
  exact List.mem_range.1 (List.mem_filter.1 h).1
theorem glueOf_len {L : List (List Int)} {x : Int} (h : IsG (glueOf L x)) : (glueOf L x).length + 1 = L.length := by
  unfold glueOf at h ⊢
  split at h
  · rename_i p q hf
    have hq : q < L.length := found_lt (x := x) (by rw [hf]; simp)
    unfold gluedAt
    rw [List.length_eraseIdx, List.length_set, if_pos hq]; omega
  · exact absurd h not_nil

/-- The first letter from x on for which two polygons are glued. -/
def least (L : List (List Int)) : Option Int := ((List.range 8).map fun k => ((k + 1 : Nat) : Int)).find? fun x => decide (GlueOk L x)
def ones : Nat → List (List Int) → List (List Int)
  | 0, L => L
  | n + 1, L => match least L with
    | none => L
    | some x => ones n (glueOf L x)
def one (L : List (List Int)) : List (List Int) := ones L.length L
def OneOk (L : List (List Int)) : Prop := IsG L ∧ (one L).length = 1
instance (L : List (List Int)) : Decidable (OneOk L) := by unfold OneOk; exact inferInstance
def oneOf (L : List (List Int)) : List (List Int) := if OneOk L then one L else []
theorem least_ok {L : List (List Int)} {x : Int} (h : least L = some x) : GlueOk L x := by
  unfold least at h
  have := List.find?_some h
  simpa using this
theorem ones_isG {n : Nat} {L : List (List Int)} (h : IsG L) : IsG (ones n L) := by
  induction n generalizing L with
  | zero => exact h
  | succ n ih =>
    unfold ones; split
    · exact h
    · rename_i x hx; exact ih (least_ok hx).2
theorem one_tot (L : List (List Int)) : tot (oneOf L) ≤ 1000000 := by
  unfold oneOf; split
  · rename_i h; exact Nat.le_trans (tot_of (ones_isG h.1)) (by decide)
  · simp [Go.Proofs.YtamgimdjnmcpaaaDoor.tot, sumLen]
end Mv
end Go.Proofs.YtamgimdjnmcpaaaDoor
