/-
  IsPassport's contracts in the form that its exact law asks for.
-/
import Derived.Test.YtpebgompfgkljaaBase
import Derived.Test.YtpebgompfgkljaaSlice
import Derived.Test.YtpebgompfgkljaaInts
import Derived.Test.YtpebgompfgkljaaOwn
import Derived.Test.YtpebgompfgkljaaGrid
import Derived.Test.YtpebgompfgkljaaGridRows
import Derived.Test.YtpebgompfgkljaaSurf
import Derived.Test.YtpebgompfgkljaaCov
import Derived.Test.YtpebgompfgkljaaBrA
import Derived.Test.YtpebgompfgkljaaBrF
import Derived.Test.YtpebgompfgkljaaReadInts
namespace Go.Proofs.Ytpebgompfgkljaa
open Go.RowKit

theorem fnExactIsPassport.spec_IsPassport (a : Option Addr) (c : Nat) (L : List (List Int)) (w : World) (ha : GridAt w a L) (ht : tot L ≤ 1048576) :
    Calls Try.prog 46 #[.slice a L.length c] w fun e w' => e = .returned (.bool (decide (Br.Pass L))) ∧ Below w.heap.size w w' := Go.Proofs.Ytpebgompfgkljaa.spec_IsPassport a c L w ha (tot_rows ht).1 (tot_rows ht).2
theorem fnExactIsPassport.impl_IsPassport (a : Option Addr) (c : Nat) (L : List (List Int)) (w : World) (ha : GridAt w a L) (ht : tot L ≤ 1048576) :
    Calls Try.prog 48 #[.slice a L.length c] w fun e w' => e = .returned (.bool (decide (Br.Pass L))) ∧ Below w.heap.size w w' := Go.Proofs.Ytpebgompfgkljaa.impl_IsPassport a c L w ha (tot_rows ht).1 (tot_rows ht).2
end Go.Proofs.Ytpebgompfgkljaa
