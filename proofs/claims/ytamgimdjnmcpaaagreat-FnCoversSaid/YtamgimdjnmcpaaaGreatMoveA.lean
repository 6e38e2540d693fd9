/-
  Moves of gluings, as functions of lists of words: what the document's chapter on moves says of them. Rows of rows that a call holds and in which one row is replaced; copies of polygons; the walks of TurnPolygon and MirrorPolygon. The walks of the program's and the model's TurnPolygon and MirrorPolygon, and of what they call. Rows that a call holds: one of them is stored anew, wherever the new row lies.
-/
import Derived.Test.YtamgimdjnmcpaaaGreatBase
import Derived.Test.YtamgimdjnmcpaaaGreatSlice
import Derived.Test.YtamgimdjnmcpaaaGreatInts
import Derived.Test.YtamgimdjnmcpaaaGreatGrid
import Derived.Test.YtamgimdjnmcpaaaGreatWord
import Derived.Test.YtamgimdjnmcpaaaGreatGlue
import Derived.Test.YtamgimdjnmcpaaaGreatIntRow
import Derived.Test.YtamgimdjnmcpaaaGreatOwn
import Derived.Test.YtamgimdjnmcpaaaGreatGridWalk
import Derived.Test.YtamgimdjnmcpaaaGreatGridRows
import Derived.Test.YtamgimdjnmcpaaaGreatIsWord
import Derived.Test.YtamgimdjnmcpaaaGreatIsGluing
import Derived.Test.YtamgimdjnmcpaaaGreatAppend
import Derived.Test.YtamgimdjnmcpaaaGreatTurn
import Derived.Laws.CopyOwn
import Derived.Laws.OwnMore
namespace Go.Proofs.YtamgimdjnmcpaaaGreat
open Go.RowKit

namespace Mv
open Glue

/-- How often a letter occurs, counting inverses. -/
def cnt (l : List Int) (k : Nat) : Nat := (l.filter fun x => x.natAbs == k).length
theorem cnt_nil (k : Nat) : cnt [] k = 0 := rfl
theorem cnt_append (a b : List Int) (k : Nat) : cnt (a ++ b) k = cnt a k + cnt b k := by simp [cnt]
theorem cnt_cons (x : Int) (a : List Int) (k : Nat) : cnt (x :: a) k = (if x.natAbs = k then 1 else 0) + cnt a k := by
  unfold cnt; rw [List.filter_cons]; by_cases h : x.natAbs = k <;> simp [h]; omega
theorem cnt_inv (l : List Int) (k : Nat) : cnt (Word.inv l) k = cnt l k := by
  induction l with
  | nil => rfl
  | cons x r ih => rw [Word.inv_cons, cnt_append, cnt_cons, cnt_cons, ih, cnt_nil, Int.natAbs_neg]; omega
theorem cnt_turn (l : List Int) (m : Int) (k : Nat) : cnt (Word.turn l m) k = cnt l k := by
  unfold Word.turn
  rw [cnt_append, Nat.add_comm, ← cnt_append, List.take_append_drop]
theorem cnt_split (l : List Int) (i k : Nat) : cnt (l.take i) k + cnt (l.drop i) k = cnt l k := by rw [← cnt_append, List.take_append_drop]
theorem cnt_pos {l : List Int} {x : Int} (h : x ∈ l) : 0 < cnt l x.natAbs := by
  unfold cnt
  exact List.length_pos_of_mem (List.mem_filter.2 ⟨h, by simp⟩)
theorem cnt_mem {l : List Int} {k : Nat} (h : 0 < cnt l k) : ∃ x ∈ l, x.natAbs = k := by
  unfold cnt at h
  obtain ⟨x, hx⟩ := List.exists_mem_of_length_pos h
  have := List.mem_filter.1 hx
  exact ⟨x, this.1, by simpa using this.2⟩
theorem cnt_le_len (l : List Int) (k : Nat) : cnt l k ≤ l.length := List.length_filter_le _ _
theorem uses_cnt (L : List (List Int)) {k : Nat} (h : k < 9) : (uses L).getD k 0 = ((cnt L.flatten k : Nat) : Int) := count_get _ k h
theorem isG_iff (L : List (List Int)) : IsG L ↔ 1 ≤ L.length ∧ L.length ≤ 4 ∧ (∀ p ∈ L, RowOk p) ∧ sumLen L ≤ 20 ∧ ∀ k, k < 9 → cnt L.flatten k ≤ 2 := by
  unfold IsG
  constructor
  · rintro ⟨h1, h2, h3, h4, h5⟩
    refine ⟨h1, h2, h3, h4, fun k hk => ?_⟩
    have hk' : k < (uses L).length := by rw [uses_len]; exact hk
    have := h5 _ (List.getElem_mem hk')
    rw [uses_at k hk', uses_cnt L hk] at this
    omega
  · rintro ⟨h1, h2, h3, h4, h5⟩
    refine ⟨h1, h2, h3, h4, all_small fun k hk h9 => ?_⟩
    rw [uses_at k hk, uses_cnt L h9]
    have := h5 k h9
    omega
/-- Another polygon in the place of one. -/
theorem flat_set {L : List (List Int)} {p : Nat} {q r : List Int} (h : L[p]? = some q) (k : Nat) : cnt (L.set p r).flatten k + cnt q k = cnt L.flatten k + cnt r k := by
  induction L generalizing p with
  | nil => simp at h
  | cons a t ih =>
    cases p with
    | zero =>
      simp only [List.getElem?_cons_zero, Option.some.injEq] at h
      subst h
      simp only [List.set_cons_zero, List.flatten_cons, cnt_append]; omega
    | succ p =>
      simp only [List.getElem?_cons_succ] at h
      have := ih h
      simp only [List.set_cons_succ, List.flatten_cons, cnt_append]; omega
theorem sum_set {L : List (List Int)} {p : Nat} {q r : List Int} (h : L[p]? = some q) : sumLen (L.set p r) + q.length = sumLen L + r.length := by
  induction L generalizing p with
  | nil => simp at h
  | cons a t ih =>
    cases p with
    | zero =>
      simp only [List.getElem?_cons_zero, Option.some.injEq] at h
      subst h
      simp only [List.set_cons_zero, sumLen, List.map_cons, List.sum_cons]; omega
    | succ p =>
      simp only [List.getElem?_cons_succ] at h
      have := ih h
      unfold sumLen at this ⊢
      simp only [List.set_cons_succ, List.map_cons, List.sum_cons]; omega
theorem isG_set {L : List (List Int)} {p : Nat} {q r : List Int} (hG : IsG L) (h : L[p]? = some q) (hr : RowOk r) (hl : r.length ≤ q.length) (hc : ∀ k, k < 9 → cnt r k ≤ cnt q k) : IsG (L.set p r) := by
  rw [isG_iff] at hG ⊢
  obtain ⟨h1, h2, h3, h4, h5⟩ := hG
  have hs := sum_set (r := r) h
  refine ⟨by rw [List.length_set]; exact h1, by rw [List.length_set]; exact h2, fun x hx => ?_, by omega, fun k hk => ?_⟩
  · rcases List.mem_or_eq_of_mem_set hx with hx | rfl
    · exact h3 x hx
    · exact hr
  · have := flat_set (r := r) h k
    have := hc k hk; have := h5 k hk; omega

/-- A gluing with a polygon p. -/
def Has (L : List (List Int)) (p : Int) : Prop := IsG L ∧ 0 ≤ p ∧ p < (L.length : Int)
instance (L : List (List Int)) (p : Int) : Decidable (Has L p) := by unfold Has; exact inferInstance
def row (L : List (List Int)) (p : Int) : List Int := L.getD p.toNat []
theorem Has.lt {L : List (List Int)} {p : Int} (h : Has L p) : p.toNat < L.length := by have := h.2; omega
theorem Has.get {L : List (List Int)} {p : Int} (h : Has L p) : L[p.toNat]? = some (row L p) := by
  unfold row; rw [List.getD_eq_getElem?_getD, List.getElem?_eq_getElem h.lt]; rfl
theorem Has.mem {L : List (List Int)} {p : Int} (h : Has L p) : row L p ∈ L := get_mem h.get
theorem Has.ok {L : List (List Int)} {p : Int} (h : Has L p) : RowOk (row L p) := h.1.2.2.1 _ h.mem
theorem Has.tot {L : List (List Int)} {p : Int} (h : Has L p) : (row L p).length ≤ 20 := by
  have := sum_set (r := []) h.get
  have := h.1.2.2.2.1
  simp at *; omega

def turn (L : List (List Int)) (p k : Int) : List (List Int) := if Has L p then L.set p.toNat (Word.turn (row L p) k) else []
def mirror (L : List (List Int)) (p : Int) : List (List Int) := if Has L p then L.set p.toNat (Word.inv (row L p)) else []
theorem turn_isG {L : List (List Int)} {p : Int} (h : Has L p) (k : Int) : IsG (L.set p.toNat (Word.turn (row L p) k)) :=
  isG_set h.1 h.get ⟨fun e => h.ok.1 (List.eq_nil_of_length_eq_zero (by rw [← Word.turn_len (row L p) k, e]; rfl)), Word.turn_w h.ok.2 k⟩ (by rw [Word.turn_len]; exact Nat.le_refl _) (fun j _ => by rw [cnt_turn]; exact Nat.le_refl _)
theorem letter_neg {x : Int} (h : Word.Letter x) : Word.Letter (-x) := by rw [Word.letter_iff] at *; omega
theorem inv_mem {l : List Int} {x : Int} : x ∈ Word.inv l ↔ -x ∈ l := by
  unfold Word.inv
  simp only [List.mem_reverse, List.mem_map]
  constructor
  · rintro ⟨y, hy, rfl⟩; rw [Int.neg_neg]; exact hy
  · intro h; exact ⟨-x, h, by omega⟩
theorem inv_w {l : List Int} (h : Word.IsW l) : Word.IsW (Word.inv l) :=
  ⟨fun x hx => by have := letter_neg (h.1 _ (inv_mem.1 hx)); rwa [Int.neg_neg] at this, by rw [Word.inv_len]; exact h.2⟩
theorem inv_ok {l : List Int} (h : RowOk l) : RowOk (Word.inv l) :=
  ⟨fun e => h.1 (List.eq_nil_of_length_eq_zero (by rw [← Word.inv_len, e]; rfl)), inv_w h.2⟩
theorem mirror_isG {L : List (List Int)} {p : Int} (h : Has L p) : IsG (L.set p.toNat (Word.inv (row L p))) :=
  isG_set h.1 h.get (inv_ok h.ok) (by rw [Word.inv_len]; exact Nat.le_refl _) (fun j _ => by rw [cnt_inv]; exact Nat.le_refl _)
theorem tot_of {L : List (List Int)} (h : IsG L) : tot L ≤ 24 := by
  have := h.2.1; have := h.2.2.2.1; unfold Go.Proofs.YtamgimdjnmcpaaaGreat.tot; omega
theorem turn_tot (L : List (List Int)) (p k : Int) : tot (turn L p k) ≤ 1000000 := by
  unfold turn; split
  · rename_i h; exact Nat.le_trans (tot_of (turn_isG h k)) (by decide)
  · simp [Go.Proofs.YtamgimdjnmcpaaaGreat.tot, sumLen]
theorem mirror_tot (L : List (List Int)) (p : Int) : tot (mirror L p) ≤ 1000000 := by
  unfold mirror; split
  · rename_i h; exact Nat.le_trans (tot_of (mirror_isG h)) (by decide)
  · simp [Go.Proofs.YtamgimdjnmcpaaaGreat.tot, sumLen]

/-- A side's letter is replaced. -/
def sgn (s : Int) : Int := if 0 < s then 1 else if s < 0 then -1 else 0
def swp (x a y b s : Int) : Int := if (s.natAbs : Int) = x then sgn s * a else if (s.natAbs : Int) = y then sgn s * b else s
def EdgeLetter (x : Int) : Prop := 1 ≤ x ∧ x ≤ 8
instance (x : Int) : Decidable (EdgeLetter x) := by unfold EdgeLetter; exact inferInstance
def SwapOk (L : List (List Int)) (x y : Int) : Prop := IsG L ∧ EdgeLetter x ∧ EdgeLetter y
instance (L : List (List Int)) (x y : Int) : Decidable (SwapOk L x y) := by unfold SwapOk; exact inferInstance
def swap (L : List (List Int)) (x y : Int) : List (List Int) := if SwapOk L x y then L.map (List.map (swp x y y x)) else []
def RevOk (L : List (List Int)) (x : Int) : Prop := IsG L ∧ EdgeLetter x
instance (L : List (List Int)) (x : Int) : Decidable (RevOk L x) := by unfold RevOk; exact inferInstance
def rev (L : List (List Int)) (x : Int) : List (List Int) := if RevOk L x then L.map (List.map (swp x (-x) x (-x))) else []
theorem map_tot (f : Int → Int) (L : List (List Int)) : tot (L.map (List.map f)) = tot L := by
  unfold Go.Proofs.YtamgimdjnmcpaaaGreat.tot sumLen; rw [List.length_map, List.map_map]
  congr 2
  apply List.map_congr_left
  intro x _; simp
theorem swap_tot (L : List (List Int)) (x y : Int) : tot (swap L x y) ≤ 1000000 := by
  unfold swap; split
  · rename_i h; rw [map_tot]; exact Nat.le_trans (tot_of h.1) (by decide)
  · simp [Go.Proofs.YtamgimdjnmcpaaaGreat.tot, sumLen]
theorem rev_tot (L : List (List Int)) (x : Int) : tot (rev L x) ≤ 1000000 := by
  unfold rev; split
  · rename_i h; rw [map_tot]; exact Nat.le_trans (tot_of h.1) (by decide)
  · simp [Go.Proofs.YtamgimdjnmcpaaaGreat.tot, sumLen]

/-- Two sides that are inverse to each other are taken away. -/
def next (n i : Nat) : Nat := (i + 1) % n
def rest (l : List Int) (i : Nat) : List Int := if i + 1 < l.length then l.take i ++ l.drop (i + 2) else (l.drop 1).take (l.length - 2)
def CancelOk (L : List (List Int)) (p i : Int) : Prop := Has L p ∧ 3 ≤ (row L p).length ∧ 0 ≤ i ∧ i < ((row L p).length : Int) ∧ (row L p).getD i.toNat 0 = -(row L p).getD (next (row L p).length i.toNat) 0
instance (L : List (List Int)) (p i : Int) : Decidable (CancelOk L p i) := by unfold CancelOk; exact inferInstance
def cancel (L : List (List Int)) (p i : Int) : List (List Int) := if CancelOk L p i then L.set p.toNat (rest (row L p) i.toNat) else []
theorem rest_sub {l : List Int} {i : Nat} : (rest l i).Sublist l := by
  unfold rest; split
  · conv => rhs; rw [← List.take_append_drop i l]
    refine List.Sublist.append (List.Sublist.refl _) ?_
    rw [← List.drop_drop]
    exact List.drop_sublist _ _
  · exact (List.take_sublist _ _).trans (List.drop_sublist _ _)
theorem rest_len {l : List Int} {i : Nat} (h : 3 ≤ l.length) (hi : i < l.length) : (rest l i).length = l.length - 2 := by
  unfold rest; split
  · simp; omega
  · simp; omega
theorem cnt_sub {a b : List Int} (h : a.Sublist b) (k : Nat) : cnt a k ≤ cnt b k := (h.filter _).length_le
theorem sub_w {a b : List Int} (h : a.Sublist b) (hb : Word.IsW b) : Word.IsW a := ⟨fun x hx => hb.1 x (h.subset hx), Nat.le_trans h.length_le hb.2⟩
theorem cancel_isG {L : List (List Int)} {p i : Int} (h : CancelOk L p i) : IsG (L.set p.toNat (rest (row L p) i.toNat)) := by
  obtain ⟨h1, h2, h3, h4, _⟩ := h
  have hl := rest_len (l := row L p) (i := i.toNat) h2 (by omega)
  refine isG_set h1.1 h1.get ⟨fun e => ?_, sub_w rest_sub h1.ok.2⟩ (by omega) (fun k _ => cnt_sub rest_sub k)
  rw [e] at hl; simp at hl; omega
theorem cancel_tot (L : List (List Int)) (p i : Int) : tot (cancel L p i) ≤ 1000000 := by
  unfold cancel; split
  · rename_i h; exact Nat.le_trans (tot_of (cancel_isG h)) (by decide)
  · simp [Go.Proofs.YtamgimdjnmcpaaaGreat.tot, sumLen]

/-- The least letter that does not occur, or 9. -/
def newL (L : List (List Int)) : Nat := ((List.range 8).find? fun k => cnt L.flatten (k + 1) == 0).elim 9 (· + 1)
def cutAt (L : List (List Int)) (p i j : Int) : List (List Int) :=
  L.set p.toNat (((row L p).drop i.toNat).take (j.toNat - i.toNat) ++ [(newL L : Int)]) ++ [[-(newL L : Int)] ++ (row L p).drop j.toNat ++ (row L p).take i.toNat]
def CutIn (L : List (List Int)) (p i j : Int) : Prop := Has L p ∧ 0 ≤ i ∧ i < j ∧ j < ((row L p).length : Int)
instance (L : List (List Int)) (p i j : Int) : Decidable (CutIn L p i j) := by unfold CutIn; exact inferInstance
def CutOk (L : List (List Int)) (p i j : Int) : Prop := CutIn L p i j ∧ IsG (cutAt L p i j)
instance (L : List (List Int)) (p i j : Int) : Decidable (CutOk L p i j) := by unfold CutOk; exact inferInstance
def cut (L : List (List Int)) (p i j : Int) : List (List Int) := if CutOk L p i j then cutAt L p i j else []
theorem cut_tot (L : List (List Int)) (p i j : Int) : tot (cut L p i j) ≤ 1000000 := by
  unfold cut; split
  · rename_i h; exact Nat.le_trans (tot_of h.2) (by decide)
  · simp [Go.Proofs.YtamgimdjnmcpaaaGreat.tot, sumLen]

/-- Where a letter stands first, or the length. -/
def at_ (l : List Int) (x : Int) : Nat := l.findIdx fun y => (y.natAbs : Int) == x
def In (l : List Int) (x : Int) : Prop := ∃ y ∈ l, (y.natAbs : Int) = x
instance (l : List Int) (x : Int) : Decidable (In l x) := by unfold In; exact inferInstance
theorem at_lt {l : List Int} {x : Int} : at_ l x < l.length ↔ In l x := by
  unfold at_ In
  rw [List.findIdx_lt_length]
  constructor
  · rintro ⟨y, h1, h2⟩; exact ⟨y, h1, by simpa using h2⟩
  · rintro ⟨y, h1, h2⟩; exact ⟨y, h1, by simpa using h2⟩
/-- The polygons that have a letter. -/
def foundTo (L : List (List Int)) (x : Int) (m : Nat) : List Nat := (List.range m).filter fun k => decide (In (L.getD k []) x)
def found (L : List (List Int)) (x : Int) : List Nat := foundTo L x L.length
def joined (a b : List Int) (x : Int) : List Int :=
  let b' := if a.getD (at_ a x) 0 ∈ b then Word.inv b else b
  a.take (at_ a x) ++ b'.drop (at_ b' x + 1) ++ b'.take (at_ b' x) ++ a.drop (at_ a x + 1)
def gluedAt (L : List (List Int)) (x : Int) (p q : Nat) : List (List Int) := (L.set p (joined (L.getD p []) (L.getD q []) x)).eraseIdx q
def glueOf (L : List (List Int)) (x : Int) : List (List Int) :=
  match found L x with
  | [p, q] => gluedAt L x p q
  | _ => []
def GlueOk (L : List (List Int)) (x : Int) : Prop := IsG L ∧ IsG (glueOf L x)
instance (L : List (List Int)) (x : Int) : Decidable (GlueOk L x) := by unfold GlueOk; exact inferInstance
def glue (L : List (List Int)) (x : Int) : List (List Int) := if GlueOk L x then glueOf L x else []
theorem glue_tot (L : List (List Int)) (x : Int) : tot (glue L x) ≤ 1000000 := by
  unfold glue; split
  · rename_i h; exact Nat.le_trans (tot_of h.2) (by decide)
  · simp [Go.Proofs.YtamgimdjnmcpaaaGreat.tot, sumLen]
theorem not_nil : ¬ IsG [] := fun h => by have := h.1; simp at this
theorem found_lt {L : List (List Int)} {x : Int} {k : Nat} (h : k ∈ found L x) : k < L.length := by
  unfold found foundTo at h
  exact List.mem_range.1 (List.mem_filter.1 h).1
theorem glueOf_len {L : List (List Int)} {x : Int} (h : IsG (glueOf L x)) : (glueOf L x).length + 1 = L.length := by
  unfold glueOf at h ⊢
  split at h
  · rename_i p q hf
    have hq : q < L.length := found_lt (x := x) (by rw [hf]; simp)
    unfold gluedAt
    rw [List.length_eraseIdx, List.length_set, if_pos hq]; omega
  · exact absurd h not_nil

/-- The first letter from x on for which two polygons are glued. -/
def least (L : List (List Int)) : Option Int := ((List.range 8).map fun k => ((k + 1 : Nat) : Int)).find? fun x => decide (GlueOk L x)
def ones : Nat → List (List Int) → List (List Int)
  | 0, L => L
  | n + 1, L => match least L with
    | none => L
    | some x => ones n (glueOf L x)
def one (L : List (List Int)) : List (List Int) := ones L.length L
def OneOk (L : List (List Int)) : Prop := IsG L ∧ (one L).length = 1
instance (L : List (List Int)) : Decidable (OneOk L) := by unfold OneOk; exact inferInstance
def oneOf (L : List (List Int)) : List (List Int) := if OneOk L then one L else []
theorem least_ok {L : List (List Int)} {x : Int} (h : least L = some x) : GlueOk L x := by
  unfold least at h
  have := List.find?_some h
  simpa using this
theorem ones_isG {n : Nat} {L : List (List Int)} (h : IsG L) : IsG (ones n L) := by
  induction n generalizing L with
  | zero => exact h
  | succ n ih =>
    unfold ones; split
    · exact h
    · rename_i x hx; exact ih (least_ok hx).2
theorem one_tot (L : List (List Int)) : tot (oneOf L) ≤ 1000000 := by
  unfold oneOf; split
  · rename_i h; exact Nat.le_trans (tot_of (ones_isG h.1)) (by decide)
  · simp [Go.Proofs.YtamgimdjnmcpaaaGreat.tot, sumLen]
end Mv
end Go.Proofs.YtamgimdjnmcpaaaGreat
namespace Go.Proofs.YtamgimdjnmcpaaaGreat
open Go.RowKit

/-- Rows that a call holds in memory from the block lo on: it can write them. -/
def Held (w : World) (lo : Nat) (v : Value) (L : List (List Int)) : Prop :=
  ∃ hs : List Hd, hs.map Hd.l = L ∧ w.ownsRow lo 30 1 v L.length (hdCells hs) ∧ (∀ h ∈ hs, RowIn w lo w.heap.size 3 h.a (intCells h.l)) ∧ Apts hs
theorem Held.len {hs : List Hd} {L : List (List Int)} (h : hs.map Hd.l = L) : hs.length = L.length := by rw [← h]; simp
theorem Held.form {w : World} {lo : Nat} {v : Value} {L : List (List Int)} (h : Held w lo v L) (hn : 0 < L.length) : ∃ g cap, v = .slice (some ⟨g, 0, none⟩) L.length cap ∧ lo ≤ g ∧ g < w.heap.size ∧ L.length ≤ cap ∧ cap ≤ maxLen := by
  obtain ⟨hs, h1, h2, h3, h4⟩ := h
  obtain ⟨g, cap, rfl, h5, h6⟩ := own_form h2 hn
  have := h2.lt g rfl
  exact ⟨g, cap, rfl, this.1, this.2, h5, h6⟩
theorem Held.mono {w : World} {lo lo' : Nat} {v : Value} {L : List (List Int)} (h : Held w lo v L) (hl : lo' ≤ lo) : Held w lo' v L := by
  obtain ⟨hs, h1, h2, h3, h4⟩ := h
  exact ⟨hs, h1, own_mono h2 hl, fun x hx => (h3 x hx).mono hl (Nat.le_refl _), h4⟩
theorem Held.below {w w' : World} {lo : Nat} {v : Value} {L : List (List Int)} (h : Held w lo v L) (hb : Below w.heap.size w w') : Held w' lo v L := by
  obtain ⟨hs, h1, h2, h3, h4⟩ := h
  exact ⟨hs, h1, own_keep h2 hb (fun k hk => (h2.lt k hk).2), fun x hx => ((h3 x hx).below hb).mono (Nat.le_refl _) hb.size, h4⟩
theorem Held.done {w : World} {lo : Nat} {v : Value} {L : List (List Int)} (h : Held w lo v L) : ∃ a c, v = .slice a L.length c ∧ L.length ≤ c ∧ c ≤ maxLen ∧ GridIn w lo w.heap.size a L := by
  obtain ⟨hs, rfl, h2, h3, h4⟩ := h
  exact grid_done h2 (by simp) h3 h4
theorem Held.cell {w : World} {lo g cap n : Nat} {L : List (List Int)} (h : Held w lo (.slice (some ⟨g, 0, none⟩) n cap) L) {i : Nat} {r : List Int} (hi : L[i]? = some r) : ∃ ai ci, w.cell? ⟨g, i, none⟩ = some (.slice ai r.length ci) ∧ r.length ≤ ci ∧ RowIn w lo w.heap.size 3 ai (intCells r) := by
  obtain ⟨hs, rfl, h2, h3, h4⟩ := h
  obtain ⟨h5, rfl⟩ := List.getElem?_eq_some_iff.1 hi
  have h6 : i < hs.length := by simpa using h5
  obtain ⟨a', c', he⟩ := own_len h2
  cases he
  refine ⟨hs[i].a, hs[i].c, ?_, by have := h4.2 _ (List.getElem_mem h6); simpa using this, by have := h3 _ (List.getElem_mem h6); simpa using this⟩
  rw [h2.cellAt i (by simpa using h6), hdCells_get h6]; simp [Hd.val]
theorem Held.frozen {w : World} {lo g cap n : Nat} {L : List (List Int)} (h : Held w lo (.slice (some ⟨g, 0, none⟩) n cap) L) (i : Nat) : w.frozen? ⟨g, i, none⟩ = false := by
  obtain ⟨hs, rfl, h2, h3, h4⟩ := h
  obtain ⟨a', c', he⟩ := own_len h2
  cases he
  exact h2.frozenAt i
theorem Apart.symm {h h' : Hd} (a : Apart h h') : Apart h' h := by
  rcases a with a | a | a
  · exact Or.inr (Or.inl a)
  · exact Or.inl a
  · exact Or.inr (Or.inr fun g o g' o' h1 h2 e => a g' o' g o h2 h1 e.symm)
theorem pair_set {hs : List Hd} {p : Nat} {x : Hd} (h : Apts hs) (hx : ∀ y ∈ hs, Apart y x) (hc : x.l.length ≤ x.c) : Apts (hs.set p x) := by
  obtain ⟨h, h0⟩ := h
  refine ⟨?_, fun y hy => (List.mem_or_eq_of_mem_set hy).elim (h0 y) (fun e => by rw [e]; exact hc)⟩
  rw [List.pairwise_iff_getElem] at h ⊢
  intro i j hi hj hij
  rw [List.length_set] at hi hj
  rw [List.getElem_set, List.getElem_set]
  split
  · split
    · omega
    · exact (hx _ (List.getElem_mem hj)).symm
  · split
    · exact hx _ (List.getElem_mem hi)
    · exact h i j hi hj hij
theorem hdCells_set (hs : List Hd) (p : Nat) (x : Hd) : hdCells (hs.set p x) = (hdCells hs).set p x.val := by simp [hdCells, List.map_set]
/-- A row that came in from elsewhere is laid in the place of one. -/
theorem Held.put {w : World} {N lo g cap n p rc : Nat} {L : List (List Int)} {r : List Int} {ra : Option Addr} (h : Held w N (.slice (some ⟨g, 0, none⟩) n cap) L) (hp : p < L.length) (hr : RowIn w lo N 3 ra (intCells r)) (hlo : lo ≤ N) (hrc : r.length ≤ rc) :
    Held (w.setCell ⟨g, p, none⟩ (.slice ra r.length rc)) lo (.slice (some ⟨g, 0, none⟩) n cap) (L.set p r) := by
  obtain ⟨hs, rfl, h2, h3, h4⟩ := h
  obtain ⟨a', c', he⟩ := own_len h2
  cases he
  have hp' : p < hs.length := by simpa using hp
  have hsz : (w.setCell ⟨g, p, none⟩ (.slice ra r.length rc)).heap.size = w.heap.size := by simp [World.setCell]
  have hlt := h2.lt g rfl
  obtain ⟨cur, hcur⟩ := own_type h2 g rfl
  have far : ∀ {a : Option Addr} {cs : List Value} {l h : Nat}, RowIn w l h 3 a cs → RowIn (w.setCell ⟨g, p, none⟩ (.slice ra r.length rc)) l h 3 a cs := by
    intro a cs l h hh
    rcases hh with e | ⟨g', o, all, e, e1, e2, e3, e4⟩
    · exact Or.inl e
    · refine Or.inr ⟨g', o, all, e, e1, e2, e3.far (fun e5 => ?_) _, e4⟩
      have e5 : g' = g := e5
      subst e5
      unfold Blk at e3; rw [hcur] at e3
      injection e3 with e3; injection e3 with _ e6 _
      exact absurd e6 (by decide)
  refine ⟨hs.set p ⟨ra, rc, r⟩, by rw [List.map_set], ?_, fun x hx => ?_, pair_set h4 (fun y hy => ?_) hrc⟩
  · rw [List.length_set, hdCells_set]
    exact own_mono (h2.stored p (.slice ra r.length rc)).1 hlo
  · rw [hsz]
    rcases List.mem_or_eq_of_mem_set hx with hx | rfl
    · exact (far (h3 x hx)).mono hlo (Nat.le_refl _)
    · exact (far hr).mono (Nat.le_refl _) (by omega)
  · rcases h3 y hy with e | ⟨g1, o1, all1, e, e1, _⟩
    · exact Or.inl (by simpa [intCells] using e)
    · rcases hr with e' | ⟨g2, o2, all2, e', _, e2, _⟩
      · exact Or.inr (Or.inl (by simpa [intCells] using e'))
      · right; right
        intro g3 o3 g4 o4 h5 h6
        rw [e] at h5; cases h5
        rw [show (⟨ra, rc, r⟩ : Hd).a = ra from rfl, e'] at h6; cases h6
        omega
theorem Held.gives {w w' : World} {v : Value} {L : List (List Int)} {b : Bool} (h : Held w' w.heap.size v L) (hb : Below w.heap.size w w') : GivesRows2 w L b (.returned (.tuple #[v, .bool b])) w' := by
  obtain ⟨a, c, rfl, h1, h2, h3⟩ := h.done
  exact ⟨a, c, rfl, h1, h2, h3, hb⟩

theorem GridPart.below {w w' : World} {N n : Nat} {hs : List Hd} (h : GridPart w N n hs) (hb : Below w.heap.size w w') : GridPart w' N n hs :=
  ⟨h.1.below hb h.1.lt, fun x hx => ((h.2.1 x hx).below hb).mono (Nat.le_refl _) hb.size, h.2.2⟩
theorem GridPart.held {w : World} {N n : Nat} {hs : List Hd} {L : List (List Int)} (h : GridPart w N n hs) (hn : hs.length = n) (hl : hs.map Hd.l = L) (hm : n ≤ maxLen) : Held w N (.slice (some ⟨N, 0, none⟩) n n) L := by
  obtain ⟨h1, h2, h3⟩ := h
  rw [hn, Nat.sub_self, List.replicate_zero, List.append_nil] at h1
  have hL : L.length = n := by rw [← hn, ← hl]; simp
  refine ⟨hs, hl, ?_, h2, h3⟩
  rw [hL]
  refine ⟨by rw [hdCells_len, hn, Nat.mul_one], Or.inr ⟨N, n, _, rfl, Nat.le_refl _, h1, Nat.le_refl _, hm, by simp [hdCells_len, hn], ?_⟩⟩
  simp [← hn, ← hdCells_len hs]
theorem GridPart.copied {wr w2 : World} {N n c : Nat} {hs : List Hd} {l : List Int} {o : Obj} (h : GridPart wr N n hs) (hn : hs.length < n) (hk : Blk w2 wr.heap.size 3 (intCells l).toArray)
    (hb : Below wr.heap.size ((wr.setCell ⟨N, hs.length, none⟩ (.slice (some ⟨wr.heap.size, 0, none⟩) l.length c)).alloc o) w2) (hlc : l.length ≤ c) : GridPart w2 N n (hs ++ [⟨some ⟨wr.heap.size, 0, none⟩, c, l⟩]) := by
  have hN : N < wr.heap.size := h.1.lt
  have s := h.step (c := c) (w1 := wr.alloc (.cells (intCells l).toArray 3)) hn (Blk.new _ _ _) ((Below.refl _ _).alloc (Nat.le_refl _) _) hlc
  have hlt := hk.lt
  have hsz : ((wr.alloc (.cells (intCells l).toArray 3)).setCell ⟨N, hs.length, none⟩ (.slice (some ⟨wr.heap.size, 0, none⟩) l.length c)).heap.size = wr.heap.size + 1 := by simp [World.setCell]
  refine s.below ⟨hb.os, hb.tape, hb.output, by rw [hsz]; exact hlt, fun k hk' => ?_⟩
  rw [hsz] at hk'
  rcases Nat.lt_or_ge k wr.heap.size with h1 | h1
  · rw [hb.block k h1]
    by_cases e : k = N
    · subst e
      have b1 := (h.1.put hs.length (.slice (some ⟨wr.heap.size, 0, none⟩) l.length c)).alloc o
      have b2 := (h.1.alloc (.cells (intCells l).toArray 3)).put hs.length (.slice (some ⟨wr.heap.size, 0, none⟩) l.length c)
      unfold Blk at b1 b2
      rw [b1, b2]
    · rw [Below.heap_alloc _ _ _ (by simpa [World.setCell] using h1), Below.heap_setCell _ _ _ _ e, Below.heap_setCell _ _ _ _ e, Below.heap_alloc _ _ _ h1]
  · obtain rfl : k = wr.heap.size := by omega
    have b2 := (Blk.new wr 3 (intCells l).toArray).far (p := ⟨N, hs.length, none⟩) (by show wr.heap.size ≠ N; omega) (.slice (some ⟨wr.heap.size, 0, none⟩) l.length c)
    unfold Blk at hk b2
    rw [hk, b2]
theorem mk_rowZ (n : Nat) (h1 : n ≤ 1048576) (w : World) : (Instr.makeSlice 30 (.int .i64 (n : Int)) (.int .i64 (n : Int))).run Tryz.prog w = .ok (.slice (some ⟨w.heap.size, 0, none⟩) n n) (w.alloc (.cells (Array.replicate n (Value.int .i64 0)) 3)) := by
  obtain ⟨i0, hi, hz0, hz1, hz2⟩ := info_parts info_int
  have h := run_make_rowN (P := Tryz.prog) 30 3 i0 _ Tryz.underlying30 hi hz0 .i64 .i64 n n (Nat.le_refl _) (by rw [hz2]; omega) (by omega) w
  have e : madeCells (Value.int .i64 0).cells (n * i0.size) = Array.replicate n (Value.int .i64 0) := by
    rw [hz1, Nat.mul_one]; exact (made_one _ _).trans (by simp)
  rw [e] at h
  exact h
theorem row_addr {w : World} {a : Option Addr} {cs : List Value} (h : RowAt w a cs) (h0 : 0 < cs.length) : ∃ ad, a = some ad ∧ ∀ j v, cs[j]? = some v → w.cell? (ad.add j) = some v := by
  obtain ⟨b, o, rfl, _, hc⟩ := h.at (i := 0) h0
  refine ⟨_, rfl, fun j v hj => ?_⟩
  rw [show (⟨b, o, none⟩ : Addr).add j = ⟨b, o + j, none⟩ from by unfold Addr.add; split <;> simp_all]
  exact hc j v hj
theorem splice_all {α : Type} {L cs : List α} (h : L.length = cs.length) : splice L 0 cs = cs := by simp [splice, ← h]

end Go.Proofs.YtamgimdjnmcpaaaGreat
namespace Go.Proofs.YtamgimdjnmcpaaaGreat
open Go.RowKit


end Go.Proofs.YtamgimdjnmcpaaaGreat
namespace Go.Proofs.YtamgimdjnmcpaaaGreat
open Go.RowKit

/-- Rows that are held, named one by one. -/
def Hold (w : World) (lo : Nat) (v : Value) (hs : List Hd) : Prop :=
  w.ownsRow lo 30 1 v hs.length (hdCells hs) ∧ ∀ h ∈ hs, RowIn w lo w.heap.size 3 h.a (intCells h.l)
theorem Held.hold {w : World} {lo : Nat} {v : Value} {L : List (List Int)} (h : Held w lo v L) : ∃ hs, hs.map Hd.l = L ∧ Hold w lo v hs ∧ Apts hs := by
  obtain ⟨hs, rfl, h2, h3, h4⟩ := h
  exact ⟨hs, rfl, ⟨by simpa using h2, h3⟩, h4⟩
theorem Hold.held {w : World} {lo : Nat} {v : Value} {hs : List Hd} (h : Hold w lo v hs) (ha : Apts hs) : Held w lo v (hs.map Hd.l) := ⟨hs, rfl, by simpa using h.1, h.2, ha⟩
theorem Hold.below {w w' : World} {lo : Nat} {v : Value} {hs : List Hd} (h : Hold w lo v hs) (hb : Below w.heap.size w w') : Hold w' lo v hs :=
  ⟨own_keep h.1 hb fun k hk => (h.1.lt k hk).2, fun x hx => ((h.2 x hx).below hb).mono (Nat.le_refl _) hb.size⟩
theorem Hold.cell {w : World} {lo g cap n : Nat} {hs : List Hd} (h : Hold w lo (.slice (some ⟨g, 0, none⟩) n cap) hs) {i : Nat} {x : Hd} (hi : hs[i]? = some x) : w.cell? ⟨g, i, none⟩ = some (.slice x.a x.l.length x.c) := by
  obtain ⟨h5, rfl⟩ := List.getElem?_eq_some_iff.1 hi
  obtain ⟨a', c', he⟩ := own_len h.1
  cases he
  rw [h.1.cellAt i (by simpa using h5), hdCells_get h5]; rfl
theorem Hold.frozen {w : World} {lo g cap n : Nat} {hs : List Hd} (h : Hold w lo (.slice (some ⟨g, 0, none⟩) n cap) hs) (i : Nat) : w.frozen? ⟨g, i, none⟩ = false := by
  obtain ⟨a', c', he⟩ := own_len h.1
  cases he
  exact h.1.frozenAt i
theorem Hold.far {w : World} {lo g cap n p : Nat} {hs : List Hd} {v : Value} (h : Hold w lo (.slice (some ⟨g, 0, none⟩) n cap) hs) {a : Option Addr} {cs : List Value} {l m : Nat} (hr : RowIn w l m 3 a cs) : RowIn (w.setCell ⟨g, p, none⟩ v) l m 3 a cs := by
  obtain ⟨cur, hcur⟩ := own_type h.1 g rfl
  rcases hr with e | ⟨g', o, all, e, e1, e2, e3, e4⟩
  · exact Or.inl e
  · refine Or.inr ⟨g', o, all, e, e1, e2, e3.far (fun e5 => ?_) _, e4⟩
    have e5 : g' = g := e5
    subst e5
    unfold Blk at e3; rw [hcur] at e3
    injection e3 with e3; injection e3 with _ e6 _
    exact absurd e6 (by decide)
theorem Hold.set {w : World} {lo g cap n p : Nat} {hs : List Hd} {x : Hd} (h : Hold w lo (.slice (some ⟨g, 0, none⟩) n cap) hs) (hx : RowIn w lo w.heap.size 3 x.a (intCells x.l)) :
    Hold (w.setCell ⟨g, p, none⟩ (.slice x.a x.l.length x.c)) lo (.slice (some ⟨g, 0, none⟩) n cap) (hs.set p x) := by
  have hsz : (w.setCell ⟨g, p, none⟩ (.slice x.a x.l.length x.c)).heap.size = w.heap.size := by simp [World.setCell]
  obtain ⟨a', c', he⟩ := own_len h.1
  cases he
  refine ⟨?_, fun y hy => ?_⟩
  · rw [List.length_set, hdCells_set]
    exact (h.1.stored p (.slice x.a x.l.length x.c)).1
  · rw [hsz]
    rcases List.mem_or_eq_of_mem_set hy with hy | rfl
    · exact h.far (h.2 y hy)
    · exact h.far hx
/-- A row in later blocks lies apart. -/
theorem apart_new {w w' : World} {lo m hi : Nat} {y x : Hd} (hy : RowIn w lo m 3 y.a (intCells y.l)) (hx : RowIn w' m hi 3 x.a (intCells x.l)) : Apart y x := by
  rcases hy with e | ⟨g1, o1, all1, e, e1, e2, _⟩
  · exact Or.inl (by simpa [intCells] using e)
  · rcases hx with e' | ⟨g2, o2, all2, e', e1', _⟩
    · exact Or.inr (Or.inl (by simpa [intCells] using e'))
    · right; right
      intro g3 o3 g4 o4 h5 h6
      rw [e] at h5; cases h5
      rw [e'] at h6; cases h6
      omega
theorem Apts.braid {hs : List Hd} {k : Nat} {x y : Hd} (h : Apts hs) (hk : hs[k]? = some y) (hk1 : k + 1 < hs.length) (hx : ∀ z ∈ hs, Apart z x) (hc : x.l.length ≤ x.c) : Apts ((hs.set k x).set (k + 1) y) := by
  obtain ⟨h, h0⟩ := h
  obtain ⟨hk0, rfl⟩ := List.getElem?_eq_some_iff.1 hk
  refine ⟨?_, fun z hz => ?_⟩
  · rw [List.pairwise_iff_getElem] at h ⊢
    intro i j hi hj hij
    rw [List.length_set, List.length_set] at hi hj
    rw [List.getElem_set, List.getElem_set, List.getElem_set, List.getElem_set]
    by_cases i1 : k + 1 = i
    · rw [if_pos i1, if_neg (by omega), if_neg (by omega)]
      exact h k j hk0 hj (by omega)
    · rw [if_neg i1]
      by_cases i2 : k = i
      · rw [if_pos i2]
        by_cases j1 : k + 1 = j
        · rw [if_pos j1]; exact (hx _ (List.getElem_mem hk0)).symm
        · rw [if_neg j1, if_neg (by omega)]; exact (hx _ (List.getElem_mem hj)).symm
      · rw [if_neg i2]
        by_cases j1 : k + 1 = j
        · rw [if_pos j1]; exact h i k hi hk0 (by omega)
        · rw [if_neg j1]
          by_cases j2 : k = j
          · rw [if_pos j2]; exact hx _ (List.getElem_mem hi)
          · rw [if_neg j2]; exact h i j hi hj hij
  · rcases List.mem_or_eq_of_mem_set hz with hz | rfl
    · rcases List.mem_or_eq_of_mem_set hz with hz | rfl
      · exact h0 _ hz
      · exact hc
    · exact h0 _ (List.getElem_mem hk0)
/-- Rows in a literal. -/
theorem grid_lit2 {w : World} {a1 a2 : Option Addr} {c1 c2 n1 n2 : Nat} {l1 l2 : List Int} (h1 : RowAt w a1 (intCells l1)) (h2 : RowAt w a2 (intCells l2)) (e1 : l1.length = n1) (e2 : l2.length = n2) :
    GridAt (w.alloc (.cells #[.slice a1 n1 c1, .slice a2 n2 c2] 30)) (some ⟨w.heap.size, 0, none⟩) [l1, l2] := by
  subst e1 e2
  have hb : Below w.heap.size w (w.alloc (.cells #[.slice a1 l1.length c1, .slice a2 l2.length c2] 30)) := (Below.refl _ _).alloc (Nat.le_refl _) _
  refine ⟨[⟨a1, c1, l1⟩, ⟨a2, c2, l2⟩], rfl, (RowIn.of_blk (cs := hdCells [⟨a1, c1, l1⟩, ⟨a2, c2, l2⟩]) (Blk.new w _ _) (Nat.zero_le _) (Nat.lt_succ_self _)).row, fun h hh => ?_⟩
  simp only [List.mem_cons, List.not_mem_nil, or_false] at hh
  rcases hh with rfl | rfl
  · exact h1.below hb
  · exact h2.below hb
theorem grid_lit3 {w : World} {a1 a2 a3 : Option Addr} {c1 c2 c3 n1 n2 n3 : Nat} {l1 l2 l3 : List Int} (h1 : RowAt w a1 (intCells l1)) (h2 : RowAt w a2 (intCells l2)) (h3 : RowAt w a3 (intCells l3)) (e1 : l1.length = n1) (e2 : l2.length = n2) (e3 : l3.length = n3) :
    GridAt (w.alloc (.cells #[.slice a1 n1 c1, .slice a2 n2 c2, .slice a3 n3 c3] 30)) (some ⟨w.heap.size, 0, none⟩) [l1, l2, l3] := by
  subst e1 e2 e3
  have hb : Below w.heap.size w (w.alloc (.cells #[.slice a1 l1.length c1, .slice a2 l2.length c2, .slice a3 l3.length c3] 30)) := (Below.refl _ _).alloc (Nat.le_refl _) _
  refine ⟨[⟨a1, c1, l1⟩, ⟨a2, c2, l2⟩, ⟨a3, c3, l3⟩], rfl, (RowIn.of_blk (cs := hdCells [⟨a1, c1, l1⟩, ⟨a2, c2, l2⟩, ⟨a3, c3, l3⟩]) (Blk.new w _ _) (Nat.zero_le _) (Nat.lt_succ_self _)).row, fun h hh => ?_⟩
  simp only [List.mem_cons, List.not_mem_nil, or_false] at hh
  rcases hh with rfl | rfl | rfl
  · exact h1.below hb
  · exact h2.below hb
  · exact h3.below hb
end Go.Proofs.YtamgimdjnmcpaaaGreat
