/-
  ActWord's contracts in the form that its exact law asks for.
-/
import Derived.Test.YtodgongemoabiaaBase
import Derived.Test.YtodgongemoabiaaSlice
import Derived.Test.YtodgongemoabiaaInts
import Derived.Test.YtodgongemoabiaaOwn
import Derived.Test.YtodgongemoabiaaGrid
import Derived.Test.YtodgongemoabiaaCov
import Derived.Test.YtodgongemoabiaaCovA
import Derived.Test.YtodgongemoabiaaCovQ
import Derived.Test.YtodgongemoabiaaCovB
import Derived.Test.YtodgongemoabiaaAdTot
namespace Go.Proofs.Ytodgongemoabiaa
open Go.RowKit

theorem Cv.actW_len (L : List (List Int)) (w : List Int) : (Cv.actW L w).length ≤ 5 := by
  unfold Cv.actW
  split
  · rename_i h; rw [Cv.row_len]; exact h.1.2.2.2.2
  · simp
theorem fnExactActWord.spec_ActWord (a : Option Addr) (c : Nat) (L : List (List Int)) (aw : Option Addr) (cw : Nat) (l : List Int) (w : World) (ha : GridAt w a L) (ht : tot L ≤ 1048576) (haw : RowAt w aw (intCells l)) (hl : l.length ≤ 1048576) :
    Calls Try.prog 47 #[.slice a L.length c, .slice aw l.length cw] w fun e w' => Gives w (Cv.actW L l) e w' := Go.Proofs.Ytodgongemoabiaa.spec_ActWord a aw c cw L l w ha (tot_rows ht).1 (tot_rows ht).2 haw hl
theorem fnExactActWord.impl_ActWord (a : Option Addr) (c : Nat) (L : List (List Int)) (aw : Option Addr) (cw : Nat) (l : List Int) (w : World) (ha : GridAt w a L) (ht : tot L ≤ 1048576) (haw : RowAt w aw (intCells l)) (hl : l.length ≤ 1048576) :
    Calls Try.prog 50 #[.slice a L.length c, .slice aw l.length cw] w fun e w' => Gives w (Cv.actW L l) e w' := Go.Proofs.Ytodgongemoabiaa.impl_ActWord a aw c cw L l w ha (tot_rows ht).1 (tot_rows ht).2 haw hl
end Go.Proofs.Ytodgongemoabiaa
