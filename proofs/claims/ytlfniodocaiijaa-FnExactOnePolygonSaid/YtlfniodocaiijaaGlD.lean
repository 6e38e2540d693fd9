/-
  How often a letter occurs in the polygons of a gluing, and the polygons that are left when two are glued.
-/
import Derived.Test.YtlfniodocaiijaaBase
import Derived.Test.YtlfniodocaiijaaSlice
import Derived.Test.YtlfniodocaiijaaIntRow
import Derived.Test.YtlfniodocaiijaaInts
import Derived.Test.YtlfniodocaiijaaOwn
import Derived.Test.YtlfniodocaiijaaGrid
import Derived.Test.YtlfniodocaiijaaGridWalk
import Derived.Test.YtlfniodocaiijaaGridRows
import Derived.Test.YtlfniodocaiijaaWord
import Derived.Test.YtlfniodocaiijaaGlue
import Derived.Test.YtlfniodocaiijaaIsWord
import Derived.Test.YtlfniodocaiijaaUses
import Derived.Test.YtlfniodocaiijaaIsGluing
import Derived.Test.YtlfniodocaiijaaAppend
import Derived.Test.YtlfniodocaiijaaConcat
import Derived.Test.YtlfniodocaiijaaTurn
import Derived.Test.YtlfniodocaiijaaIter
import Derived.Test.YtlfniodocaiijaaInvert
import Derived.Test.YtlfniodocaiijaaClass
import Derived.Test.YtlfniodocaiijaaLab
import Derived.Test.YtlfniodocaiijaaEnds
import Derived.Test.YtlfniodocaiijaaLetters
import Derived.Test.YtlfniodocaiijaaMove
import Derived.Test.YtlfniodocaiijaaMoveA
import Derived.Test.YtlfniodocaiijaaMoveB
import Derived.Test.YtlfniodocaiijaaMoveC
import Derived.Test.YtlfniodocaiijaaCut
import Derived.Test.YtlfniodocaiijaaGlA
import Derived.Test.YtlfniodocaiijaaGlB
import Derived.Test.YtlfniodocaiijaaGlC
namespace Go.Proofs.Ytlfniodocaiijaa
open Go.RowKit

namespace Mv
open Glue
def onesTo (L : List (List Int)) (X m : Nat) : List Nat := (List.range m).filter fun k => cnt (L.getD k []) X == 1
theorem onesTo_zero (L : List (List Int)) (X : Nat) : onesTo L X 0 = [] := rfl
theorem onesTo_in {L : List (List Int)} {X m : Nat} {r : List Int} (hr : L[m]? = some r) (h : cnt r X = 1) : onesTo L X (m + 1) = onesTo L X m ++ [m] := by
  unfold onesTo
  rw [List.range_succ, List.filter_append, List.filter_cons, List.getD_eq_getElem?_getD, hr, if_pos (by simpa using h)]
  rfl
theorem onesTo_out {L : List (List Int)} {X m : Nat} {r : List Int} (hr : L[m]? = some r) (h : cnt r X ≠ 1) : onesTo L X (m + 1) = onesTo L X m := by
  unfold onesTo
  rw [List.range_succ, List.filter_append, List.filter_cons, List.getD_eq_getElem?_getD, hr, if_neg (by simpa using h)]
  simp
theorem in_cnt {r : List Int} {X : Nat} : In r (X : Int) ↔ 0 < cnt r X := by
  constructor
  · rintro ⟨y, hy, he⟩
    have e : y.natAbs = X := by omega
    have := cnt_pos hy; rwa [e] at this
  · intro h
    obtain ⟨y, hy, he⟩ := cnt_mem h
    exact ⟨y, hy, by omega⟩
theorem ones_found (L : List (List Int)) (X : Nat) : ∀ m, m ≤ L.length → (onesTo L X m).Sublist (foundTo L X m) ∧ 2 * (foundTo L X m).length ≤ cnt (L.take m).flatten X + (onesTo L X m).length
  | 0, _ => ⟨List.Sublist.refl _, by simp [foundTo, cnt]⟩
  | m + 1, hm => by
    obtain ⟨h1, h2⟩ := ones_found L X m (by omega)
    obtain ⟨r, hr⟩ := get_some (show m < L.length by omega)
    have hs : cnt (L.take (m + 1)).flatten X = cnt (L.take m).flatten X + cnt r X := by
      obtain ⟨h3, rfl⟩ := List.getElem?_eq_some_iff.1 hr
      rw [List.take_succ_eq_append_getElem h3, List.flatten_append, cnt_append]; simp
    rw [hs]
    by_cases h0 : 0 < cnt r X
    · rw [foundTo_in hr (in_cnt.2 h0)]
      by_cases h1' : cnt r X = 1
      · rw [onesTo_in hr h1']
        exact ⟨h1.append (List.Sublist.refl _), by simp; omega⟩
      · rw [onesTo_out hr h1']
        exact ⟨h1.trans (List.sublist_append_left _ _), by simp; omega⟩
    · rw [foundTo_out hr (fun h => h0 (in_cnt.1 h)), onesTo_out hr (by omega)]
      exact ⟨h1, by omega⟩
theorem ones_two {L : List (List Int)} {X : Nat} (hG : IsG L) (hX : X < 9) (h : (found L X).length = 2 ∨ 2 ≤ (onesTo L X L.length).length) : onesTo L X L.length = found L X ∧ (found L X).length = 2 := by
  obtain ⟨h1, h2⟩ := ones_found L X L.length (Nat.le_refl _)
  rw [List.take_of_length_le (Nat.le_refl _)] at h2
  have h3 := ((isG_iff L).1 hG).2.2.2.2 X hX
  have h4 := h1.length_le
  have e : found L X = foundTo L X L.length := rfl
  rw [e] at h ⊢
  have h5 : (foundTo L X L.length).length = 2 := by omega
  exact ⟨h1.eq_of_length (by omega), h5⟩
def pv : List Nat → Int
  | [] => -1
  | p :: _ => (p : Int)
def qv (F : List Nat) : Int := if F.length < 2 then -1 else ((F.getLast?.getD 0 : Nat) : Int)
theorem pv_first (k : Nat) : pv ([] ++ [k]) = (k : Int) := rfl
theorem pv_later {F : List Nat} (h : F ≠ []) (k : Nat) : pv (F ++ [k]) = pv F := by
  cases F with
  | nil => exact absurd rfl h
  | cons a t => rfl
theorem pv_pos {F : List Nat} (h : F ≠ []) : 0 ≤ pv F := by
  cases F with
  | nil => exact absurd rfl h
  | cons a t => show (0 : Int) ≤ (a : Int); omega
theorem qv_first (k : Nat) : qv ([] ++ [k]) = -1 := rfl
theorem qv_later {F : List Nat} (h : F ≠ []) (k : Nat) : qv (F ++ [k]) = (k : Int) := by
  have : 0 < F.length := List.length_pos_iff.2 h
  unfold qv
  rw [if_neg (by simp; omega)]
  simp
theorem qv_short {F : List Nat} (h : F.length < 2) : qv F = -1 := if_pos h
/-- The one side with the letter is y, or y does not occur. -/
theorem one_side {m : List Int} {X : Nat} {y z : Int} (h1 : cnt m X = 1) (hy : y.natAbs = X) (hz : m[at_ m (X : Int)]? = some z) (hzX : (z.natAbs : Int) = X) : y ∈ m ↔ z = y := by
  obtain ⟨hk, he⟩ := List.getElem?_eq_some_iff.1 hz
  have hsp : m = m.take (at_ m (X : Int)) ++ z :: m.drop (at_ m (X : Int) + 1) := by
    conv => lhs; rw [← List.take_append_drop (at_ m (X : Int)) m, List.drop_eq_getElem_cons hk, he]
  constructor
  · intro hm
    rw [hsp] at h1 hm
    rw [cnt_append, cnt_cons, if_pos (by omega)] at h1
    rcases List.mem_append.1 hm with h | h
    · have := cnt_pos h; rw [hy] at this; omega
    · rcases List.mem_cons.1 h with h | h
      · exact h.symm
      · have := cnt_pos h; rw [hy] at this; omega
  · rintro rfl; exact get_mem hz
/-- The polygons up to i, one left out. -/
def sel (M : List (List Int)) (q i : Nat) : List (List Int) := (M.take i).eraseIdx q
theorem sel_zero (M : List (List Int)) (q : Nat) : sel M q 0 = [] := by simp [sel]
theorem sel_all (M : List (List Int)) (q : Nat) : sel M q M.length = M.eraseIdx q := by simp [sel]
theorem sel_step {M : List (List Int)} {q i : Nat} {r : List Int} (hr : M[i]? = some r) (h : i ≠ q) : sel M q (i + 1) = sel M q i ++ [r] := by
  obtain ⟨hi, rfl⟩ := List.getElem?_eq_some_iff.1 hr
  unfold sel
  rw [List.take_succ_eq_append_getElem hi]
  rcases Nat.lt_or_ge i q with h1 | h1
  · rw [List.eraseIdx_of_length_le (by simp; omega), List.eraseIdx_of_length_le (by simp; omega)]
  · rw [List.eraseIdx_append_of_lt_length (by simp; omega)]
theorem sel_skip {M : List (List Int)} {q : Nat} (hq : q < M.length) : sel M q (q + 1) = sel M q q := by
  unfold sel
  have hl : (M.take q).length = q := by simp; omega
  rw [List.take_succ_eq_append_getElem hq, List.eraseIdx_append_of_length_le (show (M.take q).length ≤ q by omega), hl, Nat.sub_self, List.eraseIdx_cons_zero, List.append_nil, List.eraseIdx_of_length_le (show (M.take q).length ≤ q by omega)]
theorem sel_len (M : List (List Int)) (q i : Nat) : (sel M q i).length ≤ M.length := by
  unfold sel
  have h1 := (List.eraseIdx_sublist (M.take i) q).length_le
  have h2 : (M.take i).length ≤ M.length := by simp; omega
  omega
theorem glued_nil {L : List (List Int)} {p q : Nat} (hpq : p < q) (hq : q < L.length) : ¬ IsG ((L.set p []).eraseIdx q) := fun hG => by
  have hm : [] ∈ (L.set p []).eraseIdx q := by
    refine List.mem_iff_getElem?.2 ⟨p, ?_⟩
    rw [List.getElem?_eraseIdx, if_pos hpq, List.getElem?_set, if_pos rfl, if_pos (by omega)]
  exact (hG.2.2.1 _ hm).1 rfl
theorem found_big {L : List (List Int)} {x : Int} (hG : IsG L) (hx : ¬ (1 ≤ x ∧ x ≤ 8)) : found L x = [] := by
  by_cases h : found L x = []
  · exact h
  · obtain ⟨k, hk⟩ := List.exists_mem_of_ne_nil _ h
    obtain ⟨r, hr, y, hy, he⟩ := found_mem hk
    have := (hG.w r (get_mem hr)).1 y hy
    rw [Word.letter_iff] at this
    omega
end Mv
/-- append of a row that is older than the held ones. -/
theorem grid_old {N B i c : Nat} {hs : List Hd} {wr w3 : World} {ov : Value} {a : Option Addr} {l : List Int} {o : Obj} (hin : ∀ h ∈ hs, RowIn wr B wr.heap.size 3 h.a (intCells h.l)) (hap : Apts hs)
    (hown : wr.ownsRow B 42 1 ov i (hdCells hs)) (hNB : N ≤ B) (hBw : B ≤ wr.heap.size) (hr : RowIn wr N B 3 a (intCells l)) (hg : (wr.alloc o).grownBy w3 ov.ownBlock) (hlc : l.length ≤ c) :
    (∀ h ∈ hs ++ [(⟨a, c, l⟩ : Hd)], RowIn w3 N w3.heap.size 3 h.a (intCells h.l)) ∧ Apts (hs ++ [(⟨a, c, l⟩ : Hd)]) := by
  have hal : Below wr.heap.size wr (wr.alloc o) := (Below.refl wr.heap.size wr).alloc (Nat.le_refl _) o
  have hty := own_type (hown.alloc o)
  have hs3 : wr.heap.size ≤ w3.heap.size := Nat.le_trans hal.size hg.size
  have hold : ∀ h ∈ hs, RowIn w3 B wr.heap.size 3 h.a (intCells h.l) := fun h hh => ((hin h hh).below hal).grownOf hg (by decide) hty
  have hnew : RowIn w3 N B 3 a (intCells l) := (hr.below hal).grownOf hg (by decide) hty
  constructor
  · intro h hh
    rcases List.mem_append.1 hh with hh | hh
    · exact (hold h hh).mono hNB hs3
    · simp only [List.mem_singleton] at hh
      subst hh
      exact hnew.mono (Nat.le_refl _) (by omega)
  · refine hap.snoc (fun x hx => ?_) hlc
    rcases hold x hx with e | ⟨g, o1, all, e, e1, e2, _⟩
    · exact Or.inl (by simpa [intCells] using e)
    · rcases hnew with e' | ⟨g', o', all', e', e1', e2', _⟩
      · exact Or.inr (Or.inl (by simpa [intCells] using e'))
      · right; right
        intro g1 o1 g2 o2 h1 h2
        rw [e] at h1; cases h1
        rw [show (⟨a, c, l⟩ : Hd).a = a from rfl, e'] at h2; cases h2
        omega
end Go.Proofs.Ytlfniodocaiijaa
