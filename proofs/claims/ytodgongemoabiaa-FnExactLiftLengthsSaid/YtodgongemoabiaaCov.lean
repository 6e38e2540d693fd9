/-
  Lists of permutations, and how words act by them: pure.
-/
import Derived.Test.YtodgongemoabiaaBase
import Derived.Test.YtodgongemoabiaaSlice
import Derived.Test.YtodgongemoabiaaInts
import Derived.Test.YtodgongemoabiaaWord
import Derived.Test.YtodgongemoabiaaMap
namespace Go.Proofs.Ytodgongemoabiaa
open Go.RowKit

namespace Cv
/-- How many sheets. -/
def deg (L : List (List Int)) : Nat := (L.headD []).length
def Perms (L : List (List Int)) : Prop := (∀ p ∈ L, p.length = deg L ∧ Mp.IsP p) ∧ 1 ≤ L.length ∧ L.length ≤ 8 ∧ 1 ≤ deg L ∧ deg L ≤ 5
instance (l : List Int) : Decidable (Mp.IsP l) := by unfold Mp.IsP; exact inferInstance
instance (L : List (List Int)) : Decidable (Perms L) := by unfold Perms; exact inferInstance
/-- The permutation of a letter; the image of a sheet under it, under a word. -/
def perm (L : List (List Int)) (x : Int) : List Int := let p := L.getD (x.natAbs - 1) []; if x < 0 then Mp.mirror p else p
def img (L : List (List Int)) (s : Nat) (x : Int) : Nat := Mp.at_ (perm L x) s
def act (L : List (List Int)) (w : List Int) (s : Nat) : Nat := w.foldl (img L) s
def Fits (L : List (List Int)) (w : List Int) : Prop := ∀ x ∈ w, x.natAbs ≤ L.length
instance (L : List (List Int)) (w : List Int) : Decidable (Fits L w) := by unfold Fits; exact inferInstance
def Ok (L : List (List Int)) (w : List Int) : Prop := Perms L ∧ Word.IsW w ∧ Fits L w
instance (L : List (List Int)) (w : List Int) : Decidable (Ok L w) := by unfold Ok; exact inferInstance
def row (L : List (List Int)) (w : List Int) (n : Nat) : List Int := (List.range n).map fun s => ((act L w s : Nat) : Int)
def actW (L : List (List Int)) (w : List Int) : List Int := if Ok L w then row L w (deg L) else []
theorem row_len (L : List (List Int)) (w : List Int) (n : Nat) : (row L w n).length = n := by simp [row]
theorem row_snoc (L : List (List Int)) (w : List Int) (n : Nat) : row L w (n + 1) = row L w n ++ [((act L w n : Nat) : Int)] := by
  unfold row; rw [List.range_succ, List.map_append]; rfl
theorem act_take {L : List (List Int)} {w : List Int} {i : Nat} (h : i < w.length) (s : Nat) : act L (w.take (i + 1)) s = img L (act L (w.take i) s) w[i] := by
  unfold act; rw [List.take_succ_eq_append_getElem h, List.foldl_append]; rfl
theorem invTo_lt {l : List Int} : ∀ (n d : Nat), 0 < n → Mp.invTo l n d < n
  | 0, d, h => absurd h (by omega)
  | n + 1, d, _ => by
    show (if d = Mp.at_ l n then n else Mp.invTo l n d) < n + 1
    split
    · omega
    · cases n with
      | zero => show 0 < 1; omega
      | succ n => have := invTo_lt (l := l) (n + 1) d (by omega); omega
theorem mirror_isP {l : List Int} (h : Mp.IsP l) : Mp.IsP (Mp.mirror l) := by
  unfold Mp.mirror
  refine Mp.isP_row (fun d hd => invTo_lt _ d (by omega)) fun d e hd he hh => ?_
  have key : ∀ d, d < l.length → Mp.at_ l (Mp.invTo l l.length d) = d := by
    intro d hd
    have hm : ((d : Nat) : Int) ∈ l := by
      have hnd : (l.map Int.toNat).Nodup := by
        rw [List.nodup_iff_pairwise_ne, List.pairwise_map]
        refine List.Pairwise.imp_of_mem ?_ (List.nodup_iff_pairwise_ne.1 h.2)
        intro a b ha hb hab e
        have := h.1 a ha; have := h.1 b hb; omega
      have hp := Mp.nodup_perm (n := l.length) hnd (fun x hx => by
        obtain ⟨y, hy, rfl⟩ := List.mem_map.1 hx
        have := h.1 y hy; omega) (by simp)
      have : d ∈ l.map Int.toNat := hp.mem_iff.2 (List.mem_range.2 hd)
      obtain ⟨y, hy, e⟩ := List.mem_map.1 this
      have := h.1 y hy
      rwa [show ((d : Nat) : Int) = y by omega]
    obtain ⟨j, hj, e⟩ := List.mem_iff_getElem.1 hm
    have ha : Mp.at_ l j = d := by
      have := Mp.at_get h hj
      rw [List.getElem?_eq_getElem hj, e] at this
      have := Option.some.inj this; omega
    have := Mp.invTo_at h (Nat.le_refl _) hj
    rw [ha] at this
    rw [this, ha]
  have h1 := key d hd
  have h2 := key e he
  rw [hh] at h1
  exact h1.symm.trans h2
theorem perm_isP {L : List (List Int)} (h : Perms L) {x : Int} (hx : x ≠ 0) (hf : x.natAbs ≤ L.length) : Mp.IsP (perm L x) ∧ (perm L x).length = deg L := by
  have hi : x.natAbs - 1 < L.length := by omega
  have hm : L.getD (x.natAbs - 1) [] ∈ L := by
    rw [List.getD_eq_getElem?_getD, List.getElem?_eq_getElem hi]; exact List.getElem_mem hi
  obtain ⟨h1, h2⟩ := h.1 _ hm
  unfold perm
  simp only
  split
  · exact ⟨mirror_isP h2, by rw [Mp.mirror_len, h1]⟩
  · exact ⟨h2, h1⟩
theorem img_lt {L : List (List Int)} (h : Perms L) {x : Int} (hx : x ≠ 0) (hf : x.natAbs ≤ L.length) {s : Nat} (hs : s < deg L) : img L s x < deg L := by
  obtain ⟨h1, h2⟩ := perm_isP h hx hf
  have := Mp.at_lt h1 (d := s) (by omega)
  unfold img; omega
theorem act_lt {L : List (List Int)} (h : Perms L) : ∀ {w : List Int}, (∀ x ∈ w, x ≠ 0 ∧ x.natAbs ≤ L.length) → ∀ {s : Nat}, s < deg L → act L w s < deg L
  | [], _, s, hs => hs
  | x :: w, hw, s, hs => by
    have hx := hw x (List.mem_cons_self ..)
    exact act_lt h (w := w) (fun y hy => hw y (List.mem_cons_of_mem _ hy)) (img_lt h hx.1 hx.2 hs)
end Cv
end Go.Proofs.Ytodgongemoabiaa
