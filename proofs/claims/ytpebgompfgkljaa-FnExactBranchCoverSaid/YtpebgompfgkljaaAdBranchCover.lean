/-
  BranchCover's contracts in the form that its exact law asks for.
-/
import Derived.Test.YtpebgompfgkljaaBase
import Derived.Test.YtpebgompfgkljaaSlice
import Derived.Test.YtpebgompfgkljaaInts
import Derived.Test.YtpebgompfgkljaaOwn
import Derived.Test.YtpebgompfgkljaaGrid
import Derived.Test.YtpebgompfgkljaaGridRows
import Derived.Test.YtpebgompfgkljaaSurf
import Derived.Test.YtpebgompfgkljaaCov
import Derived.Test.YtpebgompfgkljaaBrE
import Derived.Test.YtpebgompfgkljaaReadInts
namespace Go.Proofs.Ytpebgompfgkljaa
open Go.RowKit

theorem fnExactBranchCover.spec_BranchCover (a : Option Addr) (c : Nat) (L : List (List Int)) (w : World) (ha : GridAt w a L) (ht : tot L ≤ 1048576) :
    Calls Try.prog 52 #[.slice a L.length c] w fun e w' => GivesS w (Br.cover L) (decide (Br.CoverOk L)) e w' := Go.Proofs.Ytpebgompfgkljaa.spec_BranchCover a c L w ha (tot_rows ht).1 (tot_rows ht).2
theorem fnExactBranchCover.impl_BranchCover (a : Option Addr) (c : Nat) (L : List (List Int)) (w : World) (ha : GridAt w a L) (ht : tot L ≤ 1048576) :
    Calls Try.prog 53 #[.slice a L.length c] w fun e w' => GivesS w (Br.cover L) (decide (Br.CoverOk L)) e w' := Go.Proofs.Ytpebgompfgkljaa.impl_BranchCover a c L w ha (tot_rows ht).1 (tot_rows ht).2
end Go.Proofs.Ytpebgompfgkljaa
