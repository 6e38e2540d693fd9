/-
  The walks of the model's draws of maps. The walks of the model's draws of maps: bent ones, and those of the laws.
-/
import Derived.Test.YtamgimdjnmcpaaaGreatBase
import Derived.Test.YtamgimdjnmcpaaaGreatSlice
import Derived.Test.YtamgimdjnmcpaaaGreatInts
import Derived.Test.YtamgimdjnmcpaaaGreatGrid
import Derived.Test.YtamgimdjnmcpaaaGreatOwn
import Derived.Test.YtamgimdjnmcpaaaGreatAppend
import Derived.Test.YtamgimdjnmcpaaaGreatWord
import Derived.Test.YtamgimdjnmcpaaaGreatIsWord
import Derived.Test.YtamgimdjnmcpaaaGreatClass
import Derived.Test.YtamgimdjnmcpaaaGreatLab
import Derived.Test.YtamgimdjnmcpaaaGreatMapTopo
import Derived.Test.YtamgimdjnmcpaaaGreatMap
import Derived.Test.YtamgimdjnmcpaaaGreatMapA
import Derived.Test.YtamgimdjnmcpaaaGreatMapB
import Derived.Test.YtamgimdjnmcpaaaGreatMapG
import Derived.Test.YtamgimdjnmcpaaaGreatDraw
import Derived.Deep.QuietTactic
import Derived.BigQuiet
namespace Go.Proofs.YtamgimdjnmcpaaaGreat
open Go.RowKit


/-- Some integers in memory of the call's own; the cursor goes on. -/
def BentM (w : World) (g most : Nat) (e : Ending) (w' : World) : Prop := ∃ v l, e = .returned v ∧ w'.ownsRow w.heap.size 3 1 v (l : List Int).length (intCells l) ∧ 2 ≤ l.length ∧ l.length ≤ most ∧ CurAt w' g ∧ w.grownBy w' (some g)
theorem ownM_lit (w : World) (l : List Int) (n : Nat) (hn : l.length = n) (h : n ≤ 1000) : (w.alloc (.cells (intCells l).toArray 3)).ownsRow w.heap.size 3 1 (.slice (some ⟨w.heap.size, 0, none⟩) n n) n (intCells l) := by
  refine ⟨by rw [intCells_len, hn, Nat.mul_one], Or.inr ⟨w.heap.size, n, _, rfl, Nat.le_refl _, heap_alloc_new w _, Nat.le_refl _, by unfold maxLen; omega, by simp [intCells_len, hn], ?_⟩⟩
  simp only [Nat.mul_one, List.toList_toArray]
  rw [List.take_of_length_le (by rw [intCells_len, hn]; exact Nat.le_refl _)]
theorem ownM_cur {w w' : World} {base n g : Nat} {e : TypeId} {v : Value} {xs : List Value} (h : w.ownsRow base e 1 v n xs) (hg : w.grownBy w' (some g)) (hgl : g < base) : w'.ownsRow base e 1 v n xs :=
  own_grown h hg fun k hk => by
    obtain ⟨_, h0 | ⟨b, cap, cur, h1, hb, _⟩⟩ := h
    · rw [h0.1] at hk; cases hk
    · rw [h1] at hk
      have : b = k := own_block hk ▸ rfl
      omega
theorem grownM_below {w0 w w' : World} {g : Nat} (h : w0.grownBy w (some g)) (hb : Below w.heap.size w w') : w0.grownBy w' (some g) := h.trans (only_of_below hb _)
theorem grownM_set {w0 w : World} {g b i : Nat} {v : Value} (h : w0.grownBy w (some g)) (hb : w0.heap.size ≤ b) : w0.grownBy (w.setCell ⟨b, i, none⟩ v) (some g) := only_setCell h (Or.inr hb) v
theorem curM_set {w : World} {g b i : Nat} {v : Value} (h : CurAt w g) (hb : g < b) : CurAt (w.setCell ⟨b, i, none⟩ v) g :=
  h.above (row := some b) (only_setCell (World.grownBy.refl _ _) (Or.inl rfl) v) (fun k hk => by cases hk; exact hb)
theorem ownM_set {w : World} {base g cap n i : Nat} {l : List Int} (h : w.ownsRow base 3 1 (.slice (some ⟨g, 0, none⟩) n cap) n (intCells l)) (x : Int) : (w.setCell ⟨g, i, none⟩ (.int .i64 x)).ownsRow base 3 1 (.slice (some ⟨g, 0, none⟩) n cap) n (intCells (l.set i x)) := by
  have := (h.stored i (.int .i64 x)).1
  rw [show (intCells l).set i (.int .i64 x) = intCells (l.set i x) from by simp [intCells, List.map_set]] at this
  exact this
theorem isM_two : Mp.IsM [0, 1] := by decide

end Go.Proofs.YtamgimdjnmcpaaaGreat
namespace Go.Proofs.YtamgimdjnmcpaaaGreat
open Go.RowKit

theorem grownM_both {w wr w1 : World} {g : Nat} {row : Option Nat} (hg : w.grownBy wr (some g)) (h1 : wr.grownBy w1 row) (hr : ∀ k, row = some k → w.heap.size ≤ k) : w.grownBy w1 (some g) :=
  ⟨h1.os.trans hg.os, h1.tape.trans hg.tape, h1.output.trans hg.output, Nat.le_trans hg.size h1.size, fun i hi hne => (h1.block i (Nat.lt_of_lt_of_le hi hg.size) (fun e => by have := hr i e.symm; omega)).trans (hg.block i hi hne)⟩

theorem belowM {w w1 w2 : World} {g : Nat} (hb : Below w.heap.size w w1) (hg : w1.grownBy w2 (some g)) (hgl : w.heap.size ≤ g) : Below w.heap.size w w2 :=
  hb.grown hg hb.size (fun k hk => by cases hk; exact hgl)
theorem ownM_row {w : World} {base c : Nat} {a : Option Addr} {l : List Int} (h : w.ownsRow base 3 1 (.slice a l.length c) l.length (intCells l)) : RowAt w a (intCells l) := by
  obtain ⟨a', c', e', hr⟩ := own_row h (intCells_len l)
  cases e'; exact hr
/-- A row of integers that was drawn. -/
def DrawnM (w : World) (e : Ending) (w' : World) : Prop := ∃ a c l, e = .returned (.slice a (l : List Int).length c) ∧ RowAt w' a (intCells l) ∧ l.length ≤ 13 ∧ Below w.heap.size w w'
def DrawnM1 (w : World) (e : Ending) (w' : World) : Prop := ∃ a c l x, e = .returned (.tuple #[.slice a (l : List Int).length c, .int .i64 x]) ∧ RowAt w' a (intCells l) ∧ l.length ≤ 13 ∧ -100 ≤ x ∧ x ≤ 100 ∧ Below w.heap.size w w'
def DrawnM2 (w : World) (e : Ending) (w' : World) : Prop := ∃ a c l x y, e = .returned (.tuple #[.slice a (l : List Int).length c, .int .i64 x, .int .i64 y]) ∧ RowAt w' a (intCells l) ∧ l.length ≤ 13 ∧ -100 ≤ x ∧ x ≤ 100 ∧ -100 ≤ y ∧ y ≤ 100 ∧ Below w.heap.size w w'
set_option maxRecDepth 10000 in
theorem case_l1Bit (b : Bool) (w : World) : Calls Tryz.prog 35 #[.bool b] w fun e w' => (∃ n : Nat, n ≤ 1 ∧ e = .returned (.int .i64 (n : Int))) ∧ w' = w := by
  cases b
  · go_enter Tryz.func35, Tryz.ntmps35
    go_wp2
    go_ret
    exact ⟨⟨0, by omega, rfl⟩, rfl⟩
  · go_enter Tryz.func35, Tryz.ntmps35
    go_wp2
    go_ret
    exact ⟨⟨1, by omega, rfl⟩, rfl⟩
end Go.Proofs.YtamgimdjnmcpaaaGreat
