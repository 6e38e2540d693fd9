/-
  The walks of the laws' helpers over rows of rows of integers.
-/
import Derived.Test.YtehibigjdbpikaaDoorBase
import Derived.Test.YtehibigjdbpikaaDoorSlice
import Derived.Test.YtehibigjdbpikaaDoorIntRow
import Derived.Test.YtehibigjdbpikaaDoorInts
import Derived.Test.YtehibigjdbpikaaDoorGrid
import Derived.Deep.QuietTactic
import Derived.BigQuiet
namespace Go.Proofs.YtehibigjdbpikaaDoor
open Go.RowKit

theorem info_ints : (Tryd.prog.info? 40).map (fun i => (i.zero, i.size, i.bytes)) = some (some (.slice none 0 0), 1, 24) := by kernel_rfl
theorem info_ints_parts : ∃ i, Tryd.prog.info? 40 = some i ∧ i.zero = some (.slice none 0 0) ∧ i.size = 1 ∧ i.bytes = 24 := by
  obtain ⟨i, h1, h2, h3, h4⟩ := info_parts info_ints
  exact ⟨i, h1, h2, h3, h4⟩

/-- The outer block N with the rows hs laid, the rest nil. -/
def GridPart (w : World) (N n : Nat) (hs : List Hd) : Prop :=
  Blk w N 40 (hdCells hs ++ List.replicate (n - hs.length) (Value.slice none 0 0)).toArray ∧ (∀ h ∈ hs, RowIn w N w.heap.size 3 h.a (intCells h.l)) ∧ Apts hs
theorem GridPart.start (w : World) (n : Nat) : GridPart (w.alloc (.cells (List.replicate n (Value.slice none 0 0)).toArray 40)) w.heap.size n [] :=
  ⟨by simpa [hdCells] using Blk.new w 40 (List.replicate n (Value.slice none 0 0)).toArray, fun _ h => (by cases h), Apts.nil⟩
theorem GridPart.cell {w : World} {N n : Nat} {hs : List Hd} (h : GridPart w N n hs) (hn : hs.length < n) : w.cell? ⟨N, hs.length, none⟩ = some (Value.slice none 0 0) := by
  rw [h.1.cell hs.length]
  have e : n - hs.length = (n - (hs.length + 1)) + 1 := by omega
  rw [e, List.replicate_succ]
  simp [List.getElem?_append, hdCells_len]
theorem GridPart.step {w w1 : World} {N n : Nat} {hs : List Hd} {l : List Int} {c : Nat} (h : GridPart w N n hs) (hn : hs.length < n) (hk : Blk w1 w.heap.size 3 (intCells l).toArray) (hb : Below w.heap.size w w1) (hlc : l.length ≤ c) :
    GridPart (w1.setCell ⟨N, hs.length, none⟩ (.slice (some ⟨w.heap.size, 0, none⟩) l.length c)) N n (hs ++ [⟨some ⟨w.heap.size, 0, none⟩, c, l⟩]) := by
  obtain ⟨h1, h2, h3⟩ := h
  have hN : N < w.heap.size := h1.lt
  have h1' := h1.below hb hN
  have hsz : (w1.setCell ⟨N, hs.length, none⟩ (.slice (some ⟨w.heap.size, 0, none⟩) l.length c)).heap.size = w1.heap.size := by simp [World.setCell]
  have hlt := hk.lt
  refine ⟨?_, ?_, ?_⟩
  · have e := h1'.put hs.length (.slice (some ⟨w.heap.size, 0, none⟩) l.length c)
    rw [List.length_append, List.length_singleton]
    have e2 : (hdCells hs ++ List.replicate (n - hs.length) (Value.slice none 0 0)).toArray.setIfInBounds hs.length (.slice (some ⟨w.heap.size, 0, none⟩) l.length c) = (hdCells (hs ++ [(⟨some ⟨w.heap.size, 0, none⟩, c, l⟩ : Hd)]) ++ List.replicate (n - (hs.length + 1)) (Value.slice none 0 0)).toArray := by
      rw [show n - hs.length = (n - (hs.length + 1)) + 1 from by omega, List.replicate_succ]
      simp only [List.setIfInBounds_toArray, List.set_append, hdCells_len, Nat.lt_irrefl, if_false, Nat.sub_self, List.set_cons_zero]
      rw [← hdCells_snoc, List.append_assoc]; rfl
    rw [e2] at e
    exact e
  · intro x hx
    rcases List.mem_append.1 hx with hx | hx
    · have := (h2 x hx).below hb
      rcases this with e | ⟨g, o, all, e, e1, e2, e3, e4⟩
      · exact Or.inl e
      · have hne : g ≠ N := by
          rintro rfl
          have := h1'; unfold Blk at this e3; rw [this] at e3
          injection e3 with e3; injection e3 with _ e5 _
          exact absurd e5 (by decide)
        refine Or.inr ⟨g, o, all, e, e1, by rw [hsz]; have := hb.size; omega, e3.far hne _, e4⟩
    · simp only [List.mem_singleton] at hx
      subst hx
      exact RowIn.of_blk (hk.far (by show w.heap.size ≠ N; omega) _) (by omega) (by rw [hsz]; exact hlt)
  · refine h3.snoc (fun x hx => ?_) hlc
    rcases h2 x hx with e | ⟨g2, o2, all, e, e3, e4, _⟩
    · exact Or.inl (by simpa [intCells] using e)
    · right; right
      rintro g o g' o' e1 e2
      cases e2
      rw [e] at e1; cases e1; omega
theorem GridPart.done {w : World} {N n : Nat} {hs : List Hd} (h : GridPart w N n hs) (hn : hs.length = n) : GridIn w N w.heap.size (some ⟨N, 0, none⟩) (hs.map Hd.l) := by
  obtain ⟨h1, h2, h3⟩ := h
  have hlt := h1.lt
  rw [hn, Nat.sub_self, List.replicate_zero, List.append_nil] at h1
  exact ⟨hs, rfl, RowIn.of_blk h1 (Nat.le_refl _) hlt, h2, h3⟩


end Go.Proofs.YtehibigjdbpikaaDoor
