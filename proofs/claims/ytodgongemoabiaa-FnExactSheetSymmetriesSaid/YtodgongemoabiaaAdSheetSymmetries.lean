/-
  SheetSymmetries' contracts in the form that its exact law asks for.
-/
import Derived.Test.YtodgongemoabiaaBase
import Derived.Test.YtodgongemoabiaaSlice
import Derived.Test.YtodgongemoabiaaInts
import Derived.Test.YtodgongemoabiaaOwn
import Derived.Test.YtodgongemoabiaaGrid
import Derived.Test.YtodgongemoabiaaCov
import Derived.Test.YtodgongemoabiaaCovA
import Derived.Test.YtodgongemoabiaaCovQ
import Derived.Test.YtodgongemoabiaaCovB
import Derived.Test.YtodgongemoabiaaCovS
import Derived.Test.YtodgongemoabiaaCovT
import Derived.Test.YtodgongemoabiaaAdTot
namespace Go.Proofs.Ytodgongemoabiaa
open Go.RowKit

theorem fnExactSheetSymmetries.spec_SheetSymmetries (a : Option Addr) (c : Nat) (L : List (List Int)) (w : World) (ha : GridAt w a L) (ht : tot L ≤ 1048576) :
    Calls Try.prog 72 #[.slice a L.length c] w fun e w' => e = .returned (.int .i64 (Cv.symms L)) ∧ Below w.heap.size w w' := Go.Proofs.Ytodgongemoabiaa.spec_SheetSymmetries a c L w ha (tot_rows ht).1 (tot_rows ht).2
theorem fnExactSheetSymmetries.impl_SheetSymmetries (a : Option Addr) (c : Nat) (L : List (List Int)) (w : World) (ha : GridAt w a L) (ht : tot L ≤ 1048576) :
    Calls Try.prog 73 #[.slice a L.length c] w fun e w' => e = .returned (.int .i64 (Cv.symms L)) ∧ Below w.heap.size w w' := Go.Proofs.Ytodgongemoabiaa.impl_SheetSymmetries a c L w ha (tot_rows ht).1 (tot_rows ht).2
end Go.Proofs.Ytodgongemoabiaa
