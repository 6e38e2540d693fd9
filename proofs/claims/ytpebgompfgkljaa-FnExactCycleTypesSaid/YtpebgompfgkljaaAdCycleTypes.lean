/-
  CycleTypes's contracts in the form that its exact law asks for.
-/
import Derived.Test.YtpebgompfgkljaaBase
import Derived.Test.YtpebgompfgkljaaSlice
import Derived.Test.YtpebgompfgkljaaInts
import Derived.Test.YtpebgompfgkljaaOwn
import Derived.Test.YtpebgompfgkljaaGrid
import Derived.Test.YtpebgompfgkljaaGridRows
import Derived.Test.YtpebgompfgkljaaSurf
import Derived.Test.YtpebgompfgkljaaCov
import Derived.Test.YtpebgompfgkljaaBrB
import Derived.Test.YtpebgompfgkljaaBrI
import Derived.Test.YtpebgompfgkljaaAdBr
import Derived.Test.YtpebgompfgkljaaReadInts
namespace Go.Proofs.Ytpebgompfgkljaa
open Go.RowKit

theorem fnExactCycleTypes.spec_CycleTypes (a : Option Addr) (c : Nat) (L : List (List Int)) (w : World) (ha : GridAt w a L) (ht : tot L ≤ 1048576) :
    Calls Try.prog 55 #[.slice a L.length c] w fun e w' => GivesRows w (Br.types L) e w' := Go.Proofs.Ytpebgompfgkljaa.spec_CycleTypes a c L w ha (tot_rows ht).1 (tot_rows ht).2
theorem fnExactCycleTypes.impl_CycleTypes (a : Option Addr) (c : Nat) (L : List (List Int)) (w : World) (ha : GridAt w a L) (ht : tot L ≤ 1048576) :
    Calls Try.prog 56 #[.slice a L.length c] w fun e w' => GivesRows w (Br.types L) e w' := Go.Proofs.Ytpebgompfgkljaa.impl_CycleTypes a c L w ha (tot_rows ht).1 (tot_rows ht).2
end Go.Proofs.Ytpebgompfgkljaa
