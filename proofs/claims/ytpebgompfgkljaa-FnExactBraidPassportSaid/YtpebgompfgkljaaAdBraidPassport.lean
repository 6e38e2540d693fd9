/-
  BraidPassport's contracts in the form that its exact law asks for.
-/
import Derived.Test.YtpebgompfgkljaaBase
import Derived.Test.YtpebgompfgkljaaSlice
import Derived.Test.YtpebgompfgkljaaInts
import Derived.Test.YtpebgompfgkljaaOwn
import Derived.Test.YtpebgompfgkljaaGrid
import Derived.Test.YtpebgompfgkljaaGridRows
import Derived.Test.YtpebgompfgkljaaSurf
import Derived.Test.YtpebgompfgkljaaCov
import Derived.Test.YtpebgompfgkljaaBrD
import Derived.Test.YtpebgompfgkljaaBrH
import Derived.Test.YtpebgompfgkljaaAdBr
import Derived.Test.YtpebgompfgkljaaReadInts
namespace Go.Proofs.Ytpebgompfgkljaa
open Go.RowKit

theorem fnExactBraidPassport.spec_BraidPassport (a : Option Addr) (c : Nat) (L : List (List Int)) (k : Int) (w : World) (ha : GridAt w a L) (ht : tot L ≤ 1048576) (hk0 : -9223372036854775808 ≤ k) (hk1 : k ≤ 9223372036854775807) :
    Calls Try.prog 61 #[.slice a L.length c, .int .i64 k] w fun e w' => GivesRows2 w (Br.braid L k) (decide (Br.BraidOk L k)) e w' := Go.Proofs.Ytpebgompfgkljaa.spec_BraidPassport a c L k w ha (tot_rows ht).1 (tot_rows ht).2 hk0 hk1
theorem fnExactBraidPassport.impl_BraidPassport (a : Option Addr) (c : Nat) (L : List (List Int)) (k : Int) (w : World) (ha : GridAt w a L) (ht : tot L ≤ 1048576) (hk0 : -9223372036854775808 ≤ k) (hk1 : k ≤ 9223372036854775807) :
    Calls Try.prog 62 #[.slice a L.length c, .int .i64 k] w fun e w' => GivesRows2 w (Br.braid L k) (decide (Br.BraidOk L k)) e w' := Go.Proofs.Ytpebgompfgkljaa.impl_BraidPassport a c L k w ha (tot_rows ht).1 (tot_rows ht).2 hk0 hk1
end Go.Proofs.Ytpebgompfgkljaa
