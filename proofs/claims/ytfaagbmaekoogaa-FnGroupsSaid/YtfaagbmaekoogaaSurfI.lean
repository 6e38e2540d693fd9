/-
  Surfaces: the walks of the program's IsSurface, EulerNumber and sums.
-/
import Derived.Test.YtfaagbmaekoogaaBase
import Derived.Test.YtfaagbmaekoogaaSlice
import Derived.Test.YtfaagbmaekoogaaIntRow
import Derived.Test.YtfaagbmaekoogaaSurf
import Derived.Laws.Rows
namespace Go.Proofs.Ytfaagbmaekoogaa
open Go.RowKit

theorem Blk.six {w : World} {g : Nat} {t : TypeId} {x y z : Int} (h : Blk w g t #[.int .i64 x, .int .i64 y, .int .i64 z]) :
    w.cell? ⟨g, 0, none⟩ = some (.int .i64 x) ∧ w.cell? ⟨g, 1, none⟩ = some (.int .i64 y) ∧ w.cell? ⟨g, 2, none⟩ = some (.int .i64 z) ∧
      w.frozen? ⟨g, 0, none⟩ = false ∧ w.frozen? ⟨g, 1, none⟩ = false ∧ w.frozen? ⟨g, 2, none⟩ = false := ⟨h.cell 0, h.cell 1, h.cell 2, h.frozen 0, h.frozen 1, h.frozen 2⟩
theorem Blk.put3 {w : World} {g : Nat} {t : TypeId} {a b c x y z : Value} (h : Blk w g t #[a, b, c]) : Blk (((w.setCell ⟨g, 0, none⟩ x).setCell ⟨g, 1, none⟩ y).setCell ⟨g, 2, none⟩ z) g t #[x, y, z] :=
  ((h.put 0 x).put 1 y).put 2 z
theorem Blk.new' {w : World} {N : Nat} (hN : w.heap.size = N) (t : TypeId) (cs : Array Value) : Blk (w.alloc (.cells cs t)) N t cs := by subst hN; exact Blk.new w t cs
theorem size1 {w : World} {N : Nat} (hN : w.heap.size = N) (o : Obj) : (w.alloc o).heap.size = N + 1 := by subst hN; simp
theorem Below.put3 {N g : Nat} {w w1 : World} (h : Below N w w1) (hg : N ≤ g) (x y z : Value) : Below N w (((w1.setCell ⟨g, 0, none⟩ x).setCell ⟨g, 1, none⟩ y).setCell ⟨g, 2, none⟩ z) :=
  ((h.setCell hg x).setCell hg y).setCell hg z
theorem Blk.far3 {w : World} {g k : Nat} {t : TypeId} {cs : Array Value} (h : Blk w g t cs) (hk : g ≠ k) (x y z : Value) : Blk (((w.setCell ⟨k, 0, none⟩ x).setCell ⟨k, 1, none⟩ y).setCell ⟨k, 2, none⟩ z) g t cs :=
  ((h.far (p := ⟨k, 0, none⟩) hk x).far (p := ⟨k, 1, none⟩) hk y).far (p := ⟨k, 2, none⟩) hk z

namespace Surf
theorem is_b (x y z : Int) : decide (Is x y z) = ((!(decide (0 < x) && decide (0 < y))) && (decide (0 ≤ x ∧ x ≤ 20) && (decide (0 ≤ y ∧ y ≤ 20) && decide (0 ≤ z ∧ z ≤ 20)))) := by
  by_cases h1 : 0 < x
  · by_cases h2 : 0 < y
    · rw [decide_eq_true h1, decide_eq_true h2, decide_eq_false (fun h : Is x y z => by unfold Is at h; omega)]; rfl
    · rw [decide_eq_true h1, decide_eq_false h2, Bool.eq_iff_iff, decide_eq_true_iff]; simp only [Bool.not_false, Bool.and_false, Bool.false_and, Bool.true_and, Bool.and_eq_true, decide_eq_true_eq]; exact ⟨fun h => ⟨h.1, h.2.1, h.2.2.1⟩, fun h => ⟨h.1, h.2.1, h.2.2, by have := h.1; have := h.2.1; omega⟩⟩
  · rw [decide_eq_false h1, Bool.eq_iff_iff, decide_eq_true_iff]; simp only [Bool.not_false, Bool.and_false, Bool.false_and, Bool.true_and, Bool.and_eq_true, decide_eq_true_eq]; exact ⟨fun h => ⟨h.1, h.2.1, h.2.2.1⟩, fun h => ⟨h.1, h.2.1, h.2.2, by have := h.1; have := h.2.1; omega⟩⟩
end Surf




theorem results_cell_tmp {P : Program} {fn : Func} {p q : Tmp} {ty : TypeId} (h : fn.results = #[.cell p ty, .tmp q]) (tmps : Array Value) (w : World) (g : Nat) (t : TypeId) (cs : Array Value) (fr : Nat × Nat) (d : TypeDesc)
    (hp : tmps.getD p undef = .pointer (some ⟨g, 0, none⟩)) (hg : w.heap[g]? = some (.cells cs t fr))
    (hu : P.underlying ty = some d) (hd : (match d with | .struct _ | .array _ _ => true | _ => false) = true) (hi : (P.info? ty).map (·.size) = some cs.size) :
    (results fn tmps).run P w = .ok (.tuple #[.agg cs, tmps.getD q undef]) w := by
  have hp' : tmps[p]?.getD undef = .pointer (some ⟨g, 0, none⟩) := by simpa using hp
  simp [results, h, hp', asAddr, run_loadVar_row w g t ty cs fr d hg hu hd hi]




end Go.Proofs.Ytfaagbmaekoogaa
