/-
  The world that the program's own initialisers leave meets what the rows of this seat list; it is shaped as a start is.
-/
import Derived.Test.YtehibigjdbpikaaGreatDoorRows
import Derived.Test.YtehibigjdbpikaaGreatDoorLow
import Derived.LaidMore
import Derived.LaidSub
import Derived.Stop.LaidErr
import Derived.Deep.DeepWitnessRowRef
namespace Go.Proofs.YtehibigjdbpikaaGreatDoor
open Go.RowKit Go.WideShapes Go.ChangeShapes
namespace Low
def full : List (String × DataW Unit) := [("math/bits.deBruijn32tab", Rows.laid_math_bits_deBruijn32tab), ("math/bits.deBruijn64tab", Rows.laid_math_bits_deBruijn64tab), ("internal/strconv.uint64pow10", Rows.laid_internal_strconv_uint64pow10), ("unicode/utf8.acceptRanges", Rows.laid_unicode_utf8_acceptRanges), ("strconv.ErrRange", Rows.laid_strconv_ErrRange), ("strconv.ErrSyntax", Rows.laid_strconv_ErrSyntax), ("loop.example/g03105/impl.errTooGreat", Rows.laid_loop_example_g03105_impl_errTooGreat)]
set_option maxRecDepth 100000 in
theorem fullMet (os : Os) : laidMetH Tryz.prog full ((World.doorLaid Tryz.prog 91 os).forCall (fun _ _ => 0) ⟨#[], #[], []⟩).memory :=
  laidMetH_of_parts3 (fuel := 8) (laidMet_of_run' 8 (by kernel_rfl) (by kernel_rfl)) (by kernel_rfl) (by kernel_rfl)
set_option maxRecDepth 100000 in
theorem met (os : Os) (args : Array Value) (L : List (String × DataW Unit)) (names : List String) (h : full.filter (fun x => names.contains x.1) = L) :
    laidMetH Tryz.prog L ((World.doorLaid Tryz.prog 91 os).forCall (fun _ _ => 0) ⟨#[], args, []⟩).memory := by
  have h1 := laidMetH.filter (fun x => names.contains x.1) (fullMet os)
  rw [h] at h1
  exact h1.of_heap rfl
set_option maxRecDepth 100000 in
theorem shapeB0 (os : Os) : ((World.doorLaid Tryz.prog 91 os).forCall (fun _ _ => 0) ⟨#[], #[], []⟩).variablesRefB Tryz.prog = true := by kernel_rfl
theorem shapeB (os : Os) (args : Array Value) : ((World.doorLaid Tryz.prog 91 os).forCall (fun _ _ => 0) ⟨#[], args, []⟩).variablesRefB Tryz.prog = true := shapeB0 os
set_option maxRecDepth 100000 in
theorem shapeR0 (os : Os) : ((((World.doorLaid Tryz.prog 91 os).forCall (fun _ _ => 0) ⟨#[], #[], []⟩).heap.toList.drop Tryz.prog.globals.size).take ((begin Tryz.prog (fun _ _ => 0) default).world.heap.size - Tryz.prog.globals.size) =
      (begin Tryz.prog (fun _ _ => 0) default).world.heap.toList.drop Tryz.prog.globals.size) := by kernel_rfl
theorem shapeR (os : Os) (args : Array Value) : ((((World.doorLaid Tryz.prog 91 os).forCall (fun _ _ => 0) ⟨#[], args, []⟩).heap.toList.drop Tryz.prog.globals.size).take ((begin Tryz.prog (fun _ _ => 0) default).world.heap.size - Tryz.prog.globals.size) =
      (begin Tryz.prog (fun _ _ => 0) default).world.heap.toList.drop Tryz.prog.globals.size) := shapeR0 os
end Low
end Go.Proofs.YtehibigjdbpikaaGreatDoor
