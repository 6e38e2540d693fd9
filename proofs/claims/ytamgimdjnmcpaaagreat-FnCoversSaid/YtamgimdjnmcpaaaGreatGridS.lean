/-
  Rows whose addresses are there; parts of a row.
-/
import Derived.Test.YtamgimdjnmcpaaaGreatBase
import Derived.Test.YtamgimdjnmcpaaaGreatSlice
import Derived.Test.YtamgimdjnmcpaaaGreatIntRow
import Derived.Test.YtamgimdjnmcpaaaGreatInts
import Derived.Test.YtamgimdjnmcpaaaGreatOwn
import Derived.Test.YtamgimdjnmcpaaaGreatAppend
import Derived.Test.YtamgimdjnmcpaaaGreatGrid
import Derived.Test.YtamgimdjnmcpaaaGreatGridWalk
import Derived.Test.YtamgimdjnmcpaaaGreatGridRows
import Derived.Test.YtamgimdjnmcpaaaGreatClass
import Derived.Test.YtamgimdjnmcpaaaGreatLab
import Derived.Test.YtamgimdjnmcpaaaGreatMap
namespace Go.Proofs.YtamgimdjnmcpaaaGreat
open Go.RowKit

theorem natRows_get {C : List (List Nat)} {i : Nat} {o : List Nat} (h : C[i]? = some o) : (Mp.natRows C)[i]? = some (intsOf o) := by unfold Mp.natRows; rw [List.getElem?_map, h]; rfl
theorem intsOf_take (l : List Nat) (k : Nat) : intsOf (l.take k) = (intsOf l).take k := by simp [intsOf, List.map_take]
theorem intsOf_drop (l : List Nat) (k : Nat) : intsOf (l.drop k) = (intsOf l).drop k := by simp [intsOf, List.map_drop]
/-- Rows whose addresses are there. -/
def GridS (w : World) (lo hi : Nat) (a : Option Addr) (L : List (List Int)) : Prop :=
  ∃ hs : List Hd, hs.map Hd.l = L ∧ RowIn w lo hi 30 a (hdCells hs) ∧ (∀ h ∈ hs, RowIn w lo hi 3 h.a (intCells h.l)) ∧ Apts hs ∧ ∀ h ∈ hs, ∃ b o, h.a = some ⟨b, o, none⟩
theorem GridS.gridIn {w : World} {lo hi : Nat} {a : Option Addr} {L : List (List Int)} (h : GridS w lo hi a L) : GridIn w lo hi a L := by
  obtain ⟨hs, h1, h2, h3, h4, _⟩ := h; exact ⟨hs, h1, h2, h3, h4⟩
theorem GridS.of {w : World} {lo hi : Nat} {a : Option Addr} {L : List (List Int)} (h : GridIn w lo hi a L) (hL : ∀ r ∈ L, r ≠ []) : GridS w lo hi a L := by
  obtain ⟨hs, rfl, h2, h3, h4⟩ := h
  refine ⟨hs, rfl, h2, h3, h4, fun x hx => ?_⟩
  rcases h3 x hx with e | ⟨g, o, all, e, _⟩
  · exact absurd (by simpa [intCells] using e) (hL x.l (List.mem_map.2 ⟨x, hx, rfl⟩))
  · exact ⟨g, o, e⟩
theorem GridS.cell {w : World} {lo hi : Nat} {a : Option Addr} {L : List (List Int)} (h : GridS w lo hi a L) {i : Nat} {r : List Int} (hi' : L[i]? = some r) : ∃ b o ab ao ci, a = some ⟨b, o, none⟩ ∧ r.length ≤ ci ∧ (∀ W, Below w.heap.size w W → W.cell? ⟨b, o + i, none⟩ = some (.slice (some ⟨ab, ao, none⟩) r.length ci)) ∧ ∀ W, Below w.heap.size w W → RowAt W (some ⟨ab, ao, none⟩) (intCells r) := by
  obtain ⟨hs, rfl, h2, h3, h4, h5⟩ := h
  obtain ⟨h5', rfl⟩ := List.getElem?_eq_some_iff.1 hi'
  have h6 : i < hs.length := by simpa using h5'
  obtain ⟨b, o, rfl, hb, hc⟩ := h2.row.at (i := i) (by rw [hdCells_len]; exact h6)
  have hm := List.getElem_mem h6
  obtain ⟨ab, ao, e⟩ := h5 _ hm
  refine ⟨b, o, ab, ao, hs[i].c, rfl, by have := h4.2 _ hm; simpa using this, fun W hW => ?_, fun W hW => ?_⟩
  · rw [hW.cell hb, hc i _ (hdCells_get h6)]; simp [Hd.val, e]
  · have := (h3 _ hm).row.below hW; rw [e] at this; simpa using this
theorem below_alloc7 {W0 W : World} {o : Obj} (h : Below W0.heap.size W0 W) : Below W0.heap.size W0 (W.alloc o) := h.alloc h.size o
theorem own_madeK {W : World} {N K : Nat} (hK : W.heap.size = K) (hN : N ≤ K) : (W.alloc (.cells #[] 3)).ownsRow N 3 1 (.slice (some ⟨K, 0, none⟩) 0 0) 0 (intCells []) := by
  subst hK; exact own_mono (own_made rfl) hN
theorem row_cut7 {w : World} {b o c m : Nat} {l : List Int} (h : RowAt w (some ⟨b, o, none⟩) (intCells l)) (hm : m ≤ l.length) (hc : l.length ≤ c) : RowAt w (if c = m then some ⟨b, o, none⟩ else some ⟨b, o + m, none⟩) (intCells (l.drop m)) := by
  by_cases e : c = m
  · exact Or.inl (by rw [List.drop_eq_nil_of_le (by omega)]; rfl)
  · rw [if_neg e]
    rcases h with h | ⟨b', o', e', hlt, hc'⟩
    · left; have : l = [] := by simpa [intCells] using h
      rw [this]; simp [intCells]
    · cases e'
      refine Or.inr ⟨b, o + m, rfl, hlt, fun i v hv => ?_⟩
      rw [Nat.add_assoc]
      refine hc' (m + i) v ?_
      rw [show intCells (l.drop m) = (intCells l).drop m from by simp [intCells, List.map_drop], List.getElem?_drop] at hv
      exact hv
theorem intCells_take' (l : List Int) (k : Nat) : intCells (l.take k) = (intCells l).take k := by simp [intCells, List.map_take]
theorem row_take7 {w : World} {a : Option Addr} {m : Nat} {l : List Int} (h : RowAt w a (intCells l)) : RowAt w a (intCells (l.take m)) := by
  rcases h with h | ⟨b, o, rfl, hlt, hc⟩
  · left; have : l = [] := by simpa [intCells] using h
    rw [this]; simp [intCells]
  · refine Or.inr ⟨b, o, rfl, hlt, fun i v hv => hc i v ?_⟩
    rw [intCells_take' l m, List.getElem?_take] at hv
    split at hv
    · exact hv
    · cases hv

end Go.Proofs.YtamgimdjnmcpaaaGreat
