/-
  LiftLengths' contracts in the form that its exact law asks for.
-/
import Derived.Test.YtodgongemoabiaaBase
import Derived.Test.YtodgongemoabiaaSlice
import Derived.Test.YtodgongemoabiaaInts
import Derived.Test.YtodgongemoabiaaOwn
import Derived.Test.YtodgongemoabiaaGrid
import Derived.Test.YtodgongemoabiaaCov
import Derived.Test.YtodgongemoabiaaCovA
import Derived.Test.YtodgongemoabiaaCovQ
import Derived.Test.YtodgongemoabiaaCovR
import Derived.Test.YtodgongemoabiaaCovB
import Derived.Test.YtodgongemoabiaaCovG
import Derived.Test.YtodgongemoabiaaCovH
import Derived.Test.YtodgongemoabiaaAdTot
namespace Go.Proofs.Ytodgongemoabiaa
open Go.RowKit

theorem fnExactLiftLengths.spec_LiftLengths (a : Option Addr) (c : Nat) (L : List (List Int)) (aw : Option Addr) (cw : Nat) (l : List Int) (w : World) (ha : GridAt w a L) (ht : tot L ≤ 1048576) (haw : RowAt w aw (intCells l)) (hl : l.length ≤ 1048576) :
    Calls Try.prog 66 #[.slice a L.length c, .slice aw l.length cw] w fun e w' => Gives w (Cv.lifts L l) e w' := Go.Proofs.Ytodgongemoabiaa.spec_LiftLengths a aw c cw L l w ha (tot_rows ht).1 (tot_rows ht).2 haw hl
theorem fnExactLiftLengths.impl_LiftLengths (a : Option Addr) (c : Nat) (L : List (List Int)) (aw : Option Addr) (cw : Nat) (l : List Int) (w : World) (ha : GridAt w a L) (ht : tot L ≤ 1048576) (haw : RowAt w aw (intCells l)) (hl : l.length ≤ 1048576) :
    Calls Try.prog 67 #[.slice a L.length c, .slice aw l.length cw] w fun e w' => Gives w (Cv.lifts L l) e w' := Go.Proofs.Ytodgongemoabiaa.impl_LiftLengths a aw c cw L l w ha (tot_rows ht).1 (tot_rows ht).2 haw hl
end Go.Proofs.Ytodgongemoabiaa
