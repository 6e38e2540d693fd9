/-
  Rows that a call holds: one of them is stored anew, wherever the new row lies.
-/
import Derived.Test.YtamgimdjnmcpaaaDoorBase
import Derived.Test.YtamgimdjnmcpaaaDoorSlice
import Derived.Test.YtamgimdjnmcpaaaDoorIntRow
import Derived.Test.YtamgimdjnmcpaaaDoorInts
import Derived.Test.YtamgimdjnmcpaaaDoorOwn
import Derived.Test.YtamgimdjnmcpaaaDoorGrid
import Derived.Test.YtamgimdjnmcpaaaDoorGridWalk
import Derived.Test.YtamgimdjnmcpaaaDoorGridRows
import Derived.Test.YtamgimdjnmcpaaaDoorMoveA
namespace Go.Proofs.YtamgimdjnmcpaaaDoor
open Go.RowKit

/-- Rows that are held, named one by one. -/
def Hold (w : World) (lo : Nat) (v : Value) (hs : List Hd) : Prop :=
  w.ownsRow lo 24 1 v hs.length (hdCells hs) ∧ ∀ h ∈ hs, RowIn w lo w.heap.size 3 h.a (intCells h.l)
theorem Held.hold {w : World} {lo : Nat} {v : Value} {L : List (List Int)} (h : Held w lo v L) : ∃ hs, hs.map Hd.l = L ∧ Hold w lo v hs ∧ Apts hs := by
  obtain ⟨hs, rfl, h2, h3, h4⟩ := h
  exact ⟨hs, rfl, ⟨by simpa using h2, h3⟩, h4⟩
theorem Hold.held {w : World} {lo : Nat} {v : Value} {hs : List Hd} (h : Hold w lo v hs) (ha : Apts hs) : Held w lo v (hs.map Hd.l) := ⟨hs, rfl, by simpa using h.1, h.2, ha⟩
theorem Hold.below {w w' : World} {lo : Nat} {v : Value} {hs : List Hd} (h : Hold w lo v hs) (hb : Below w.heap.size w w') : Hold w' lo v hs :=
  ⟨own_keep h.1 hb fun k hk => (h.1.lt k hk).2, fun x hx => ((h.2 x hx).below hb).mono (Nat.le_refl _) hb.size⟩
theorem Hold.cell {w : World} {lo g cap n : Nat} {hs : List Hd} (h : Hold w lo (.slice (some ⟨g, 0, none⟩) n cap) hs) {i : Nat} {x : Hd} (hi : hs[i]? = some x) : w.cell? ⟨g, i, none⟩ = some (.slice x.a x.l.length x.c) := by
  obtain ⟨h5, rfl⟩ := List.getElem?_eq_some_iff.1 hi
  obtain ⟨a', c', he⟩ := own_len h.1
  cases he
  rw [h.1.cellAt i (by simpa using h5), hdCells_get h5]; rfl
theorem Hold.frozen {w : World} {lo g cap n : Nat} {hs : List Hd} (h : Hold w lo (.slice (some ⟨g, 0, none⟩) n cap) hs) (i : Nat) : w.frozen? ⟨g, i, none⟩ = false := by
  obtain ⟨a', c', he⟩ := own_len h.1
  cases he
  exact h.1.frozenAt i
theorem Hold.far {w : World} {lo g cap n p : Nat} {hs : List Hd} {v : Value} (h : Hold w lo (.slice (some ⟨g, 0, none⟩) n cap) hs) {a : Option Addr} {cs : List Value} {l m : Nat} (hr : RowIn w l m 3 a cs) : RowIn (w.setCell ⟨g, p, none⟩ v) l m 3 a cs := by
  obtain ⟨cur, hcur⟩ := own_type h.1 g rfl
  rcases hr with e | ⟨g', o, all, e, e1, e2, e3, e4⟩
  · exact Or.inl e
  · refine Or.inr ⟨g', o, all, e, e1, e2, e3.far (fun e5 => ?_) _, e4⟩
    have e5 : g' = g := e5
    subst e5
    unfold Blk at e3; rw [hcur] at e3
    injection e3 with e3; injection e3 with _ e6 _
    exact absurd e6 (by decide)
theorem Hold.set {w : World} {lo g cap n p : Nat} {hs : List Hd} {x : Hd} (h : Hold w lo (.slice (some ⟨g, 0, none⟩) n cap) hs) (hx : RowIn w lo w.heap.size 3 x.a (intCells x.l)) :
    Hold (w.setCell ⟨g, p, none⟩ (.slice x.a x.l.length x.c)) lo (.slice (some ⟨g, 0, none⟩) n cap) (hs.set p x) := by
  have hsz : (w.setCell ⟨g, p, none⟩ (.slice x.a x.l.length x.c)).heap.size = w.heap.size := by simp [World.setCell]
  obtain ⟨a', c', he⟩ := own_len h.1
  cases he
  refine ⟨?_, fun y hy => ?_⟩
  · rw [List.length_set, hdCells_set]
    exact (h.1.stored p (.slice x.a x.l.length x.c)).1
  · rw [hsz]
    rcases List.mem_or_eq_of_mem_set hy with hy | rfl
    · exact h.far (h.2 y hy)
    · exact h.far hx
/-- A row in later blocks lies apart. -/
theorem apart_new {w w' : World} {lo m hi : Nat} {y x : Hd} (hy : RowIn w lo m 3 y.a (intCells y.l)) (hx : RowIn w' m hi 3 x.a (intCells x.l)) : Apart y x := by
  rcases hy with e | ⟨g1, o1, all1, e, e1, e2, _⟩
  · exact Or.inl (by simpa [intCells] using e)
  · rcases hx with e' | ⟨g2, o2, all2, e', e1', _⟩
    · exact Or.inr (Or.inl (by simpa [intCells] using e'))
    · right; right
      intro g3 o3 g4 o4 h5 h6
      rw [e] at h5; cases h5
      rw [e'] at h6; cases h6
      omega
theorem Apts.braid {hs : List Hd} {k : Nat} {x y : Hd} (h : Apts hs) (hk : hs[k]? = some y) (hk1 : k + 1 < hs.length) (hx : ∀ z ∈ hs, Apart z x) (hc : x.l.length ≤ x.c) : Apts ((hs.set k x).set (k + 1) y) := by
  obtain ⟨h, h0⟩ := h
  obtain ⟨hk0, rfl⟩ := List.getElem?_eq_some_iff.1 hk
  refine ⟨?_, fun z hz => ?_⟩
  · rw [List.pairwise_iff_getElem] at h ⊢
    intro i j hi hj hij
    rw [List.length_set, List.length_set] at hi hj
    rw [List.getElem_set, List.getElem_set, List.getElem_set, List.getElem_set]
    by_cases i1 : k + 1 = i
    · rw [if_pos i1, if_neg (by omega), if_neg (by omega)]
      exact h k j hk0 hj (by omega)
    · rw [if_neg i1]
      by_cases i2 : k = i
      · rw [if_pos i2]
        by_cases j1 : k + 1 = j
        · rw [if_pos j1]; exact (hx _ (List.getElem_mem hk0)).symm
        · rw [if_neg j1, if_neg (by omega)]; exact (hx _ (List.getElem_mem hj)).symm
      · rw [if_neg i2]
        by_cases j1 : k + 1 = j
        · rw [if_pos j1]; exact h i k hi hk0 (by omega)
        · rw [if_neg j1]
          by_cases j2 : k = j
          · rw [if_pos j2]; exact hx _ (List.getElem_mem hi)
          · rw [if_neg j2]; exact h i j hi hj hij
  · rcases List.mem_or_eq_of_mem_set hz with hz | rfl
    · rcases List.mem_or_eq_of_mem_set hz with hz | rfl
      · exact h0 _ hz
      · exact hc
    · exact h0 _ (List.getElem_mem hk0)
/-- Rows in a literal. -/
theorem grid_lit2 {w : World} {a1 a2 : Option Addr} {c1 c2 n1 n2 : Nat} {l1 l2 : List Int} (h1 : RowAt w a1 (intCells l1)) (h2 : RowAt w a2 (intCells l2)) (e1 : l1.length = n1) (e2 : l2.length = n2) :
    GridAt (w.alloc (.cells #[.slice a1 n1 c1, .slice a2 n2 c2] 24)) (some ⟨w.heap.size, 0, none⟩) [l1, l2] := by
  subst e1 e2
  have hb : Below w.heap.size w (w.alloc (.cells #[.slice a1 l1.length c1, .slice a2 l2.length c2] 24)) := (Below.refl _ _).alloc (Nat.le_refl _) _
  refine ⟨[⟨a1, c1, l1⟩, ⟨a2, c2, l2⟩], rfl, (RowIn.of_blk (cs := hdCells [⟨a1, c1, l1⟩, ⟨a2, c2, l2⟩]) (Blk.new w _ _) (Nat.zero_le _) (Nat.lt_succ_self _)).row, fun h hh => ?_⟩
  simp only [List.mem_cons, List.not_mem_nil, or_false] at hh
  rcases hh with rfl | rfl
  · exact h1.below hb
  · exact h2.below hb
theorem grid_lit3 {w : World} {a1 a2 a3 : Option Addr} {c1 c2 c3 n1 n2 n3 : Nat} {l1 l2 l3 : List Int} (h1 : RowAt w a1 (intCells l1)) (h2 : RowAt w a2 (intCells l2)) (h3 : RowAt w a3 (intCells l3)) (e1 : l1.length = n1) (e2 : l2.length = n2) (e3 : l3.length = n3) :
    GridAt (w.alloc (.cells #[.slice a1 n1 c1, .slice a2 n2 c2, .slice a3 n3 c3] 24)) (some ⟨w.heap.size, 0, none⟩) [l1, l2, l3] := by
  subst e1 e2 e3
  have hb : Below w.heap.size w (w.alloc (.cells #[.slice a1 l1.length c1, .slice a2 l2.length c2, .slice a3 l3.length c3] 24)) := (Below.refl _ _).alloc (Nat.le_refl _) _
  refine ⟨[⟨a1, c1, l1⟩, ⟨a2, c2, l2⟩, ⟨a3, c3, l3⟩], rfl, (RowIn.of_blk (cs := hdCells [⟨a1, c1, l1⟩, ⟨a2, c2, l2⟩, ⟨a3, c3, l3⟩]) (Blk.new w _ _) (Nat.zero_le _) (Nat.lt_succ_self _)).row, fun h hh => ?_⟩
  simp only [List.mem_cons, List.not_mem_nil, or_false] at hh
  rcases hh with rfl | rfl | rfl
  · exact h1.below hb
  · exact h2.below hb
  · exact h3.below hb
end Go.Proofs.YtamgimdjnmcpaaaDoor
