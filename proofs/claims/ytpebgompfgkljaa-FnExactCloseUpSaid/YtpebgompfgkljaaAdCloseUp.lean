/-
  CloseUp's contracts in the form that its exact law asks for.
-/
import Derived.Test.YtpebgompfgkljaaBase
import Derived.Test.YtpebgompfgkljaaSlice
import Derived.Test.YtpebgompfgkljaaInts
import Derived.Test.YtpebgompfgkljaaOwn
import Derived.Test.YtpebgompfgkljaaGrid
import Derived.Test.YtpebgompfgkljaaGridRows
import Derived.Test.YtpebgompfgkljaaSurf
import Derived.Test.YtpebgompfgkljaaCov
import Derived.Test.YtpebgompfgkljaaBrC
import Derived.Test.YtpebgompfgkljaaBrF
import Derived.Test.YtpebgompfgkljaaAdBr
import Derived.Test.YtpebgompfgkljaaReadInts
namespace Go.Proofs.Ytpebgompfgkljaa
open Go.RowKit

theorem fnExactCloseUp.spec_CloseUp (a : Option Addr) (c : Nat) (L : List (List Int)) (w : World) (ha : GridAt w a L) (ht : tot L ≤ 1048576) :
    Calls Try.prog 59 #[.slice a L.length c] w fun e w' => GivesRows2 w (Br.closed L) (decide (Br.CloseOk L)) e w' := Go.Proofs.Ytpebgompfgkljaa.spec_CloseUp a c L w ha (tot_rows ht).1 (tot_rows ht).2
theorem fnExactCloseUp.impl_CloseUp (a : Option Addr) (c : Nat) (L : List (List Int)) (w : World) (ha : GridAt w a L) (ht : tot L ≤ 1048576) :
    Calls Try.prog 60 #[.slice a L.length c] w fun e w' => GivesRows2 w (Br.closed L) (decide (Br.CloseOk L)) e w' := Go.Proofs.Ytpebgompfgkljaa.impl_CloseUp a c L w ha (tot_rows ht).1 (tot_rows ht).2
end Go.Proofs.Ytpebgompfgkljaa
