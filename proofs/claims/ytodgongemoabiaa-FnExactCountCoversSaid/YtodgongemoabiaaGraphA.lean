/-
  The walks of the program's and the model's IsGraph. The walk of the model's IsGraph. The walks of the program's and the model's DegreesOf and CountRotations, and of the darts of a vertex. The walk of putBehind: a dart is laid behind another.
-/
import Derived.Test.YtodgongemoabiaaBase
import Derived.Test.YtodgongemoabiaaSlice
import Derived.Test.YtodgongemoabiaaInts
import Derived.Test.YtodgongemoabiaaGrid
import Derived.Test.YtodgongemoabiaaWord
import Derived.Test.YtodgongemoabiaaIsWord
import Derived.Test.YtodgongemoabiaaMapTopo
import Derived.Deep.QuietTactic
import Derived.BigQuiet
import Derived.Test.YtodgongemoabiaaIntRow
import Derived.Test.YtodgongemoabiaaOwn
import Derived.Test.YtodgongemoabiaaRowI
import Derived.Test.YtodgongemoabiaaClass
import Derived.Test.YtodgongemoabiaaLab
import Derived.Test.YtodgongemoabiaaMap
import Derived.Test.YtodgongemoabiaaMapB
import Derived.Test.YtodgongemoabiaaGridRows
import Derived.Test.YtodgongemoabiaaAppend
import Derived.Test.YtodgongemoabiaaMapA
import Derived.Test.YtodgongemoabiaaMapC
import Derived.StillTailTactics
namespace Go.Proofs.Ytodgongemoabiaa
open Go.RowKit

theorem len_two {l : List Int} (h : l.length = 2) : ∃ x y, l = [x, y] := by
  match l, h with
  | [x, y], _ => exact ⟨x, y, rfl⟩
theorem two_cells {w : World} {a : Option Addr} {x y : Int} (h : RowAt w a (intCells [x, y])) : ∃ b o, a = some ⟨b, o, none⟩ ∧ b < w.heap.size ∧ w.cell? ⟨b, o, none⟩ = some (.int .i64 x) ∧ w.cell? ⟨b, o + 1, none⟩ = some (.int .i64 y) := by
  obtain ⟨b, o, rfl, hb, hc⟩ := h.at (i := 0) (by simp [intCells])
  exact ⟨b, o, rfl, hb, hc 0 _ rfl, hc 1 _ rfl⟩


namespace Gr
theorem isE_val (x y : Int) : decide (IsE [x, y]) = ((x != y) && (decide (0 ≤ x ∧ x ≤ 6) && decide (0 ≤ y ∧ y ≤ 6))) := by
  rw [Bool.eq_iff_iff]
  simp only [decide_eq_true_eq, Bool.and_eq_true, bne_iff_ne, isE_two]
  omega
theorem isE_not2 {l : List Int} (h : l.length ≠ 2) : decide (IsE l) = false := decide_eq_false (isE_len h)
theorem all_isG {L : List (List Int)} (h : ∀ j (hj : j < L.length), IsE L[j]) : decide (IsG L) = decide (1 ≤ L.length ∧ L.length ≤ 10) :=
  decide_eq_decide.2 ⟨fun hg => hg.2, fun hn => ⟨fun e he => by obtain ⟨j, hj, rfl⟩ := List.getElem_of_mem he; exact h j hj, hn⟩⟩
end Gr



end Go.Proofs.Ytodgongemoabiaa
namespace Go.Proofs.Ytodgongemoabiaa
open Go.RowKit

end Go.Proofs.Ytodgongemoabiaa
namespace Go.Proofs.Ytodgongemoabiaa
open Go.RowKit

namespace Gr
/-- The end of an edge at a dart. -/
theorem end_get {L : List (List Int)} (h : IsG L) {k i : Nat} (hk : k < L.length) (hi : i < 2) {r : List Int} (hr : L[k]? = some r) : r.length = 2 ∧ r[i]? = some ((vx L (2 * k + i) : Nat) : Int) := by
  obtain ⟨e, _⟩ := ends h hk
  rw [hr] at e
  cases e
  refine ⟨rfl, ?_⟩
  rcases (by omega : i = 0 ∨ i = 1) with rfl | rfl <;> rfl
theorem degs_yes {L : List (List Int)} (h : IsG L) : degs L = Cls.row (deg L) 7 := if_pos h
theorem degs_no {L : List (List Int)} (h : ¬ IsG L) : degs L = [] := if_neg h
theorem rots_yes {L : List (List Int)} (h : IsG L) : rots L = ((rot (vx L) (2 * L.length) 7 : Nat) : Int) := if_pos h
theorem rots_no {L : List (List Int)} (h : ¬ IsG L) : rots L = -1 := if_neg h
theorem row_more (f : Nat → Nat) (n : Nat) : Cls.row f n ++ [((f n : Nat) : Int)] = Cls.row f (n + 1) := by unfold Cls.row; rw [List.range_succ, List.map_append]; rfl
end Gr



end Go.Proofs.Ytodgongemoabiaa
namespace Go.Proofs.Ytodgongemoabiaa
open Go.RowKit

end Go.Proofs.Ytodgongemoabiaa
