/-
  BranchSum's contracts in the form that its exact law asks for.
-/
import Derived.Test.YtpebgompfgkljaaBase
import Derived.Test.YtpebgompfgkljaaSlice
import Derived.Test.YtpebgompfgkljaaInts
import Derived.Test.YtpebgompfgkljaaOwn
import Derived.Test.YtpebgompfgkljaaGrid
import Derived.Test.YtpebgompfgkljaaGridRows
import Derived.Test.YtpebgompfgkljaaSurf
import Derived.Test.YtpebgompfgkljaaCov
import Derived.Test.YtpebgompfgkljaaBrB
import Derived.Test.YtpebgompfgkljaaBrF
import Derived.Test.YtpebgompfgkljaaReadInts
namespace Go.Proofs.Ytpebgompfgkljaa
open Go.RowKit

theorem fnExactBranchSum.spec_BranchSum (a : Option Addr) (c : Nat) (L : List (List Int)) (w : World) (ha : GridAt w a L) (ht : tot L ≤ 1048576) :
    Calls Try.prog 50 #[.slice a L.length c] w fun e w' => e = .returned (.int .i64 (Br.bsum L)) ∧ Below w.heap.size w w' := Go.Proofs.Ytpebgompfgkljaa.spec_BranchSum a c L w ha (tot_rows ht).1 (tot_rows ht).2
theorem fnExactBranchSum.impl_BranchSum (a : Option Addr) (c : Nat) (L : List (List Int)) (w : World) (ha : GridAt w a L) (ht : tot L ≤ 1048576) :
    Calls Try.prog 51 #[.slice a L.length c] w fun e w' => e = .returned (.int .i64 (Br.bsum L)) ∧ Below w.heap.size w w' := Go.Proofs.Ytpebgompfgkljaa.impl_BranchSum a c L w ha (tot_rows ht).1 (tot_rows ht).2
end Go.Proofs.Ytpebgompfgkljaa
