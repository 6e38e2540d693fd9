/-
  Surfaces, as three numbers; the walks of the laws' helpers over them.
-/
import Derived.Test.YtodgongemoabiaaBase
import Derived.Test.YtodgongemoabiaaSlice
import Derived.Test.YtodgongemoabiaaIntRow
import Derived.Test.YtodgongemoabiaaInts
import Derived.Test.YtodgongemoabiaaWord
import Derived.Test.YtodgongemoabiaaIsWord
import Derived.Laws.Rows
namespace Go.Proofs.Ytodgongemoabiaa
open Go.RowKit

/-- A struct of three integers. -/
def agg3 (x y z : Int) : Value := .agg #[.int .i64 x, .int .i64 y, .int .i64 z]


set_option maxRecDepth 10000 in
set_option maxHeartbeats 1000000 in
theorem eqSurface (x y z : Int) (w : World) :
    Calls Try.prog 145 #[.agg #[.int .i64 x, .int .i64 y, .int .i64 z], .agg #[.int .i64 x, .int .i64 y, .int .i64 z]] w fun e w' => e = .returned (.bool true) ∧ Below w.heap.size w w' := by
  go_enter Try.func145, Try.ntmps145
  go_wp2
  go_ret
  exact ⟨rfl, ((Below.refl w.heap.size w).alloc (Nat.le_refl _) _).alloc (by simp) _⟩

/-- A block that holds three integers. -/
theorem box3 {w w1 : World} {B : Nat} {t : TypeId} {x y z : Int} (hb : Below B (w.alloc (.cells #[.int .i64 x, .int .i64 y, .int .i64 z] t)) w1) (hB : w.heap.size < B) : Blk w1 w.heap.size t #[.int .i64 x, .int .i64 y, .int .i64 z] :=
  (Blk.new w t _).below hb hB
theorem Blk.three {w : World} {g : Nat} {t : TypeId} {x y z : Int} (h : Blk w g t #[.int .i64 x, .int .i64 y, .int .i64 z]) :
    w.cell? ⟨g, 0, none⟩ = some (.int .i64 x) ∧ w.cell? ⟨g, 1, none⟩ = some (.int .i64 y) ∧ w.cell? ⟨g, 2, none⟩ = some (.int .i64 z) := ⟨h.cell 0, h.cell 1, h.cell 2⟩
namespace Surf
def Is (x y z : Int) : Prop := (0 ≤ x ∧ x ≤ 20) ∧ (0 ≤ y ∧ y ≤ 20) ∧ (0 ≤ z ∧ z ≤ 20) ∧ (x = 0 ∨ y = 0)
instance (x y z : Int) : Decidable (Is x y z) := by unfold Is; exact inferInstance
def euler (x y z : Int) : Int := if Is x y z then 2 - 2 * x - y - z else -100
end Surf



namespace Surf
/-- A surface, and whether it is one; the zero one if not. -/
def right (s : Int × Int × Int) : Int × Int × Int := if Is s.1 s.2.1 s.2.2 then s else (0, 0, 0)
end Surf
/-- The call gives this struct and a bool. -/
def GivesS (w : World) (s : Int × Int × Int) (b : Bool) (e : Ending) (w' : World) : Prop := e = .returned (.tuple #[.agg #[.int .i64 s.1, .int .i64 s.2.1, .int .i64 s.2.2], .bool b]) ∧ Below w.heap.size w w'

end Go.Proofs.Ytodgongemoabiaa
