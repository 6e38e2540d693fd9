/-
  Slopes as structs of two numbers: their blocks, '==' over them, and the walks of the laws' helpers.
-/
import Derived.Test.YtehibigjdbpikaaGreatDoorBase
import Derived.Test.YtehibigjdbpikaaGreatDoorSlice
import Derived.Test.YtehibigjdbpikaaGreatDoorIntRow
import Derived.Test.YtehibigjdbpikaaGreatDoorInts
import Derived.Test.YtehibigjdbpikaaGreatDoorSl
import Derived.Laws.Rows
import Derived.Laws.StructEq
import Derived.Lib.SmallJoins
import Derived.OpenShut
namespace Go.Proofs.YtehibigjdbpikaaGreatDoor
open Go.RowKit Go.ChangeShapes Go.ChangeAt Go.WideShapes Go.WideMaps Go.WideElems Go.Joins

theorem Blk.four {w : World} {g : Nat} {t : TypeId} {x y : Int} (h : Blk w g t #[.int .i64 x, .int .i64 y]) :
    w.cell? ⟨g, 0, none⟩ = some (.int .i64 x) ∧ w.cell? ⟨g, 1, none⟩ = some (.int .i64 y) ∧ w.frozen? ⟨g, 0, none⟩ = false ∧ w.frozen? ⟨g, 1, none⟩ = false := ⟨h.cell 0, h.cell 1, h.frozen 0, h.frozen 1⟩
theorem Blk.put2 {w : World} {g : Nat} {t : TypeId} {a b x y : Value} (h : Blk w g t #[a, b]) : Blk ((w.setCell ⟨g, 0, none⟩ x).setCell ⟨g, 1, none⟩ y) g t #[x, y] := (h.put 0 x).put 1 y
theorem Blk.far2 {w : World} {g k : Nat} {t : TypeId} {cs : Array Value} (h : Blk w g t cs) (hk : g ≠ k) (x y : Value) : Blk ((w.setCell ⟨k, 0, none⟩ x).setCell ⟨k, 1, none⟩ y) g t cs :=
  (h.far (p := ⟨k, 0, none⟩) hk x).far (p := ⟨k, 1, none⟩) hk y
theorem below_put2 {N g : Nat} {w w1 : World} (h : Below N w w1) (hg : N ≤ g) (x y : Value) : Below N w ((w1.setCell ⟨g, 0, none⟩ x).setCell ⟨g, 1, none⟩ y) := (h.setCell hg x).setCell hg y
theorem Blk.at {w : World} {N : Nat} (hN : w.heap.size = N) (t : TypeId) (cs : Array Value) : Blk (w.alloc (.cells cs t)) N t cs := by subst hN; exact Blk.new w t cs
theorem size_alloc {w : World} {N : Nat} (hN : w.heap.size = N) (o : Obj) : (w.alloc o).heap.size = N + 1 := by subst hN; simp
/-- The call gives this slope and a bool. -/
def GivesSl (w : World) (s : Int × Int) (b : Bool) (e : Ending) (w' : World) : Prop := e = .returned (.tuple #[.agg #[.int .i64 s.1, .int .i64 s.2], .bool b]) ∧ Below w.heap.size w w'
/-- '==' of two slopes. -/
theorem slope_eql (x y p q : Int) (w : World) : (binOp .eql 44 (.agg #[.int .i64 x, .int .i64 y]) (.agg #[.int .i64 p, .int .i64 q])).run Tryz.prog w = .ok (.bool (x == p && y == q)) w := by
  have u3 := Tryz.underlying3
  have hS : Tryz.prog.underlying 44 = some (.struct (Tryz.prog.fieldsOf 44)) := by kernel_rfl
  have hp : Tryz.prog.stoodInHeld 44 = false := by kernel_rfl
  rw [run_eql_struct, show (10000 : Nat) = 9999 + 1 from rfl, run_equalIn_agg w 9999 44 _ _ hS hp]
  simp only [Program.fieldsOf, Tryz.underlying44]
  go_simp
  by_cases h1 : x = p <;> by_cases h2 : y = q <;> simp [h1, h2]


theorem results_cell_slot {P : Program} {fn : Func} {p q : Tmp} {ty : TypeId} (h : fn.results = #[.cell p ty, .tmp q]) (tmps : Array Value) (w : World) (g : Nat) (t : TypeId) (cs : Array Value) (fr : Nat × Nat) (d : TypeDesc)
    (hp : tmps.getD p undef = .pointer (some ⟨g, 0, none⟩)) (hg : w.heap[g]? = some (.cells cs t fr))
    (hu : P.underlying ty = some d) (hd : (match d with | .struct _ | .array _ _ => true | _ => false) = true) (hi : (P.info? ty).map (·.size) = some cs.size) :
    (results fn tmps).run P w = .ok (.tuple #[.agg cs, tmps.getD q undef]) w := by
  have hp' : tmps[p]?.getD undef = .pointer (some ⟨g, 0, none⟩) := by simpa using hp
  simp [results, h, hp', asAddr, run_loadVar_row w g t ty cs fr d hg hu hd hi]
end Go.Proofs.YtehibigjdbpikaaGreatDoor
