/-
  The contracts of chapter 11 in the form that its exact laws ask for.
-/
import Derived.Test.YtamgimdjnmcpaaaDoorBase
import Derived.Test.YtamgimdjnmcpaaaDoorSlice
import Derived.Test.YtamgimdjnmcpaaaDoorIntRow
import Derived.Test.YtamgimdjnmcpaaaDoorInts
import Derived.Test.YtamgimdjnmcpaaaDoorOwn
import Derived.Test.YtamgimdjnmcpaaaDoorGrid
import Derived.Test.YtamgimdjnmcpaaaDoorGridRows
import Derived.Test.YtamgimdjnmcpaaaDoorReadInts
import Derived.Test.YtamgimdjnmcpaaaDoorTw
import Derived.Test.YtamgimdjnmcpaaaDoorTwErr
import Derived.Test.YtamgimdjnmcpaaaDoorTwF
import Derived.Test.YtamgimdjnmcpaaaDoorTwV
namespace Go.Proofs.YtamgimdjnmcpaaaDoor
open Go.RowKit

theorem fnExactIsSymplectic.spec_IsSymplectic (vG : Int) (aT : Option Addr) (cT : Nat) (lT : List (List Int)) (w : World) (hG0 : -9223372036854775808 ≤ vG) (hG1 : vG ≤ 9223372036854775807) (hT : GridAt w aT lT) (kT : tot lT ≤ 1048576) :
    Calls Tryd.prog 30 #[.int .i64 vG, .slice aT lT.length cT] w fun e w' => e = .returned (.bool (decide (Tw.IsSym vG lT))) ∧ Below w.heap.size w w' := Go.Proofs.YtamgimdjnmcpaaaDoor.spec_IsSymplectic vG aT cT lT w hT (tot_rows kT).2 (tot_rows kT).1
theorem fnExactIsSymplectic.impl_IsSymplectic (vG : Int) (aT : Option Addr) (cT : Nat) (lT : List (List Int)) (w : World) (hsW : Errs w) (hG0 : -9223372036854775808 ≤ vG) (hG1 : vG ≤ 9223372036854775807) (hT : GridAt w aT lT) (kT : tot lT ≤ 1048576) :
    Calls Tryd.prog 29 #[.int .i64 vG, .slice aT lT.length cT] w fun e w' => e = .returned (.bool (decide (Tw.IsSym vG lT))) ∧ Below w.heap.size w w' := Go.Proofs.YtamgimdjnmcpaaaDoor.impl_IsSymplectic vG aT cT lT w hsW hT (tot_rows kT).2 (tot_rows kT).1
end Go.Proofs.YtamgimdjnmcpaaaDoor
