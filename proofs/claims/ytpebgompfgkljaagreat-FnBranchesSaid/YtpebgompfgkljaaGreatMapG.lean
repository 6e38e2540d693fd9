/-
  The walks of AddEdge, the program's and the model's.
-/
import Derived.Test.YtpebgompfgkljaaGreatBase
import Derived.Test.YtpebgompfgkljaaGreatSlice
import Derived.Test.YtpebgompfgkljaaGreatInts
import Derived.Test.YtpebgompfgkljaaGreatGrid
import Derived.Test.YtpebgompfgkljaaGreatGridRows
import Derived.Test.YtpebgompfgkljaaGreatOwn
import Derived.Test.YtpebgompfgkljaaGreatAppend
import Derived.Test.YtpebgompfgkljaaGreatClass
import Derived.Test.YtpebgompfgkljaaGreatLab
import Derived.Test.YtpebgompfgkljaaGreatMap
import Derived.Test.YtpebgompfgkljaaGreatMapA
import Derived.Test.YtpebgompfgkljaaGreatMapB
import Derived.Test.YtpebgompfgkljaaGreatPut
import Derived.StillTailTactics
import Derived.Deep.QuietTactic
import Derived.BigQuiet
namespace Go.Proofs.YtpebgompfgkljaaGreat
open Go.RowKit

theorem row_two (f : Nat → Nat) (n : Nat) : Cls.row f n ++ [((f n : Nat) : Int), ((f (n + 1) : Nat) : Int)] = Cls.row f (n + 2) := by
  rw [← row_snoc f (n + 1), ← row_snoc f n, List.append_assoc]; rfl
theorem intCells_two (l : List Int) (x y : Int) : intCells l ++ [.int .i64 x, .int .i64 y] = intCells (l ++ [x, y]) := by simp [intCells]
namespace Mp
/-- The darts of a map, and two more behind them. -/
def plus (f : Nat → Nat) (n x y : Nat) : Nat → Nat := fun k => if k < n then f k else if k = n then x else y
theorem plus_row (f : Nat → Nat) (n x y : Nat) : Cls.row f n ++ [((x : Nat) : Int), ((y : Nat) : Int)] = Cls.row (plus f n x y) (n + 2) := by
  rw [← row_two, row_congr (f := f) (f' := plus f n x y) fun k hk => by simp [plus, hk]]
  have h1 : ¬ n + 1 < n := by omega
  simp [plus, h1]
theorem addF_plus {l : List Int} {a b : Nat} (ha : a < l.length) (hb : b < l.length) (x y : Nat) : ∀ k, k < l.length + 2 → behind (behind (plus (at_ l) l.length x y) l.length a) (l.length + 1) (if a = b then l.length else b) k = addF l a b k := by
  intro k hk
  unfold addF behind upd plus
  by_cases hab : a = b
  · subst hab
    simp only [if_true]
    by_cases h1 : k = l.length
    · simp [h1]
    · by_cases h2 : k = l.length + 1
      · subst h2; simp [ha]
      · have : k < l.length := by omega
        simp [h1, h2, this, ha]
  · simp only [hab, if_false]
    by_cases h1 : k = l.length
    · subst h1
      have : ¬ l.length = b := by omega
      simp [this, ha]
    · by_cases h2 : k = l.length + 1
      · subst h2
        have h3 : ¬ l.length + 1 = b := by omega
        have h4 : ¬ b = a := fun h => hab h.symm
        have h5 : ¬ b = l.length := by omega
        simp [h3, h4, h5, hb]
      · have : k < l.length := by omega
        simp [h1, h2, this, ha]
end Mp




theorem own_below {w w' : World} {lo B n : Nat} {e : TypeId} {v : Value} {xs : List Value} (h : w.ownsRow lo e 1 v n xs) (hb : Below B w w') (hB : w.heap.size ≤ B) : w'.ownsRow lo e 1 v n xs :=
  own_keep h hb fun k hk => Nat.lt_of_lt_of_le (h.lt k hk).2 hB
/-- Two darts are laid behind others. -/
theorem stores4 {w w0 : World} {lo g cap m n a b : Nat} {f : Nat → Nat} (h : w.ownsRow lo 3 1 (.slice (some ⟨g, 0, none⟩) m cap) m (intCells (Cls.row f m))) (hb0 : Below lo w0 w) (hn : n + 1 < m) (ha : a < m) (hb : b < m) :
    ∃ fa z1 z2 fb z3 z4 : Nat, w.cell? ⟨g, a, none⟩ = some (.int .i64 (fa : Int)) ∧ w.cell? ⟨g, n, none⟩ = some (.int .i64 (z1 : Int)) ∧ w.frozen? ⟨g, n, none⟩ = false ∧
      (w.setCell ⟨g, n, none⟩ (.int .i64 (fa : Int))).cell? ⟨g, a, none⟩ = some (.int .i64 (z2 : Int)) ∧ (w.setCell ⟨g, n, none⟩ (.int .i64 (fa : Int))).frozen? ⟨g, a, none⟩ = false ∧
      ((w.setCell ⟨g, n, none⟩ (.int .i64 (fa : Int))).setCell ⟨g, a, none⟩ (.int .i64 (n : Int))).cell? ⟨g, b, none⟩ = some (.int .i64 (fb : Int)) ∧
      ((w.setCell ⟨g, n, none⟩ (.int .i64 (fa : Int))).setCell ⟨g, a, none⟩ (.int .i64 (n : Int))).cell? ⟨g, n + 1, none⟩ = some (.int .i64 (z3 : Int)) ∧
      ((w.setCell ⟨g, n, none⟩ (.int .i64 (fa : Int))).setCell ⟨g, a, none⟩ (.int .i64 (n : Int))).frozen? ⟨g, n + 1, none⟩ = false ∧
      (((w.setCell ⟨g, n, none⟩ (.int .i64 (fa : Int))).setCell ⟨g, a, none⟩ (.int .i64 (n : Int))).setCell ⟨g, n + 1, none⟩ (.int .i64 (fb : Int))).cell? ⟨g, b, none⟩ = some (.int .i64 (z4 : Int)) ∧
      (((w.setCell ⟨g, n, none⟩ (.int .i64 (fa : Int))).setCell ⟨g, a, none⟩ (.int .i64 (n : Int))).setCell ⟨g, n + 1, none⟩ (.int .i64 (fb : Int))).frozen? ⟨g, b, none⟩ = false ∧
      ((((w.setCell ⟨g, n, none⟩ (.int .i64 (fa : Int))).setCell ⟨g, a, none⟩ (.int .i64 (n : Int))).setCell ⟨g, n + 1, none⟩ (.int .i64 (fb : Int))).setCell ⟨g, b, none⟩ (.int .i64 ((n : Int) + 1))).ownsRow lo 3 1 (.slice (some ⟨g, 0, none⟩) m cap) m (intCells (Cls.row (Mp.behind (Mp.behind f n a) (n + 1) b) m)) ∧
      Below lo w0 ((((w.setCell ⟨g, n, none⟩ (.int .i64 (fa : Int))).setCell ⟨g, a, none⟩ (.int .i64 (n : Int))).setCell ⟨g, n + 1, none⟩ (.int .i64 (fb : Int))).setCell ⟨g, b, none⟩ (.int .i64 ((n : Int) + 1))) := by
  have hg := (h.lt g rfl).1
  have h1 := ownRow_put h (f a) (show n < m by omega)
  have h2 := ownRow_put h1 n ha
  have h3 := ownRow_put h2 (Mp.behind f n a b) hn
  have h4 := ownRow_put h3 (n + 1) hb
  refine ⟨f a, f n, _, Mp.behind f n a b, _, _, ownRow_cell h ha, ownRow_cell h (by omega), h.frozenAt n, ownRow_cell h1 ha, h1.frozenAt a, ownRow_cell h2 hb, ownRow_cell h2 hn, h2.frozenAt _, ownRow_cell h3 hb, h3.frozenAt b, h4, ?_⟩
  exact (((hb0.setCell hg _).setCell hg _).setCell hg _).setCell hg _

end Go.Proofs.YtpebgompfgkljaaGreat
