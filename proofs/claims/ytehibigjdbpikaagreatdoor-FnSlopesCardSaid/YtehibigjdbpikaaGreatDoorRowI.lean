/-
  A row of integers of a call's own, made by appends.
-/
import Derived.Test.YtehibigjdbpikaaGreatDoorBase
import Derived.Test.YtehibigjdbpikaaGreatDoorSlice
import Derived.Test.YtehibigjdbpikaaGreatDoorIntRow
import Derived.Test.YtehibigjdbpikaaGreatDoorInts
import Derived.Test.YtehibigjdbpikaaGreatDoorOwn
namespace Go.Proofs.YtehibigjdbpikaaGreatDoor
open Go.RowKit

/-- The integers l of the call's own, from the block N on. -/
def RowI (w : World) (N : Nat) (wr : World) (ov : Value) (l : List Int) : Prop := wr.ownsRow N 3 1 ov l.length (intCells l) ∧ Below N w wr
theorem RowI.nil {w wr : World} {N : Nat} (hb : Below N w wr) : RowI w N wr (.slice none 0 0) [] := ⟨⟨rfl, Or.inl ⟨rfl, rfl⟩⟩, hb⟩
theorem RowI.made {w wr : World} {N : Nat} (hb : Below N w wr) (hN : N ≤ wr.heap.size) : RowI w N (wr.alloc (.cells #[] 3)) (.slice (some ⟨wr.heap.size, 0, none⟩) 0 0) [] :=
  ⟨own_mono (own_made rfl) hN, hb.alloc hN _⟩
theorem RowI.more {w wr w3 : World} {N : Nat} {ov v3 : Value} {l : List Int} {x : Int} {o : Obj} (h : RowI w N wr ov l) (hN : N ≤ wr.heap.size)
    (hown : w3.ownsRow N 3 1 v3 (l.length + 1) (intCells l ++ [.int .i64 x])) (hg : (wr.alloc o).grownBy w3 ov.ownBlock) : RowI w N w3 v3 (l ++ [x]) := by
  refine ⟨?_, (h.2.alloc hN _).grown hg (by simp; omega) (fun k hk => (h.1.lt k hk).1)⟩
  rw [← intCells_snoc, List.length_append]; exact hown
theorem RowI.below {w wr w' : World} {N : Nat} {ov : Value} {l : List Int} (h : RowI w N wr ov l) (hN : N ≤ wr.heap.size) (hb : Below wr.heap.size wr w') : RowI w N w' ov l :=
  ⟨own_keep h.1 hb (fun k hk => (h.1.lt k hk).2), h.2.trans (hb.mono hN)⟩
theorem RowI.gives {w wr : World} {ov : Value} {l : List Int} (h : RowI w w.heap.size wr ov l) : Gives w l (.returned ov) wr := own_gives h.1 rfl h.2
theorem Gives.form {w w' : World} {l : List Int} {v : Value} (h : Gives w l (.returned v) w') : ∃ a c, v = .slice a l.length c ∧ RowAt w' a (intCells l) ∧ Below w.heap.size w w' := by
  obtain ⟨a, c, e, _, _, h3, h4⟩ := h
  cases e; exact ⟨a, c, rfl, h3.row, h4⟩
theorem Gives.after {w w1 w2 : World} {l : List Int} {v : Value} (h : Gives w l (.returned v) w1) (hb : Below w1.heap.size w1 w2) : Gives w l (.returned v) w2 := by
  obtain ⟨a, c, e, h1, h2, h3, h4⟩ := h
  exact ⟨a, c, e, h1, h2, h3.below hb, h4.trans (hb.mono h4.size)⟩

theorem Gives.nilAt {w w' : World} {a : Option Addr} (hb : Below w.heap.size w w') : Gives w [] (.returned (.slice a 0 0)) w' := ⟨_, _, rfl, Nat.le_refl _, Nat.zero_le _, Or.inl rfl, hb⟩
theorem own_lit0 (W : World) (l : List Int) (n : Nat) (hl : l.length = n) (hm : n ≤ maxLen) : (W.alloc (.cells (intCells l).toArray 3)).ownsRow W.heap.size 3 1 (.slice (some ⟨W.heap.size, 0, none⟩) n n) n (intCells l) := by
  have h := World.ownsRow_lit (base := W.heap.size) (e := 3) (size := 1) W (intCells l).toArray n (Nat.le_refl _) hm (by simp [intCells_len, hl])
  simpa using h

end Go.Proofs.YtehibigjdbpikaaGreatDoor
