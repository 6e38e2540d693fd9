/-
  IsAction's contracts in the form that its exact law asks for.
-/
import Derived.Test.YtodgongemoabiaaBase
import Derived.Test.YtodgongemoabiaaSlice
import Derived.Test.YtodgongemoabiaaInts
import Derived.Test.YtodgongemoabiaaOwn
import Derived.Test.YtodgongemoabiaaGrid
import Derived.Test.YtodgongemoabiaaCov
import Derived.Test.YtodgongemoabiaaCovA
import Derived.Test.YtodgongemoabiaaCovQ
import Derived.Test.YtodgongemoabiaaCovB
import Derived.Test.YtodgongemoabiaaCovC
import Derived.Test.YtodgongemoabiaaAdTot
namespace Go.Proofs.Ytodgongemoabiaa
open Go.RowKit

theorem fnExactIsAction.spec_IsAction (g : Int) (a : Option Addr) (c : Nat) (L : List (List Int)) (w : World) (_ : -9223372036854775808 ≤ g) (_ : g ≤ 9223372036854775807) (ha : GridAt w a L) (ht : tot L ≤ 1048576) :
    Calls Try.prog 56 #[.int .i64 g, .slice a L.length c] w fun e w' => e = .returned (.bool (decide (Cv.Act g L))) ∧ Below w.heap.size w w' := Go.Proofs.Ytodgongemoabiaa.spec_IsAction g a c L w ha (tot_rows ht).1 (tot_rows ht).2
theorem fnExactIsAction.impl_IsAction (g : Int) (a : Option Addr) (c : Nat) (L : List (List Int)) (w : World) (_ : -9223372036854775808 ≤ g) (_ : g ≤ 9223372036854775807) (ha : GridAt w a L) (ht : tot L ≤ 1048576) :
    Calls Try.prog 57 #[.int .i64 g, .slice a L.length c] w fun e w' => e = .returned (.bool (decide (Cv.Act g L))) ∧ Below w.heap.size w w' := Go.Proofs.Ytodgongemoabiaa.impl_IsAction g a c L w ha (tot_rows ht).1 (tot_rows ht).2
end Go.Proofs.Ytodgongemoabiaa
