/-
  The walks of the program's commonDivisor, IsPrimitiveClass and IsSymplectic.
-/
import Derived.Test.YtamgimdjnmcpaabDoorBase
import Derived.Test.YtamgimdjnmcpaabDoorSlice
import Derived.Test.YtamgimdjnmcpaabDoorIntRow
import Derived.Test.YtamgimdjnmcpaabDoorInts
import Derived.Test.YtamgimdjnmcpaabDoorOwn
import Derived.Test.YtamgimdjnmcpaabDoorGrid
import Derived.Test.YtamgimdjnmcpaabDoorGridRows
import Derived.Test.YtamgimdjnmcpaabDoorGivesRows
import Derived.Test.YtamgimdjnmcpaabDoorTw
import Derived.Test.YtamgimdjnmcpaabDoorTwErr
import Derived.Test.YtamgimdjnmcpaabDoorTwA
import Derived.Test.YtamgimdjnmcpaabDoorTwB
import Derived.Test.YtamgimdjnmcpaabDoorTwC
import Derived.Test.YtamgimdjnmcpaabDoorTwD
import Derived.Deep.QuietTactic
import Derived.Deep.RegionHeld3
import Derived.BigQuiet
namespace Go.Proofs.YtamgimdjnmcpaabDoor
open Go.RowKit

theorem Tw.tmod_lt {d n : Int} (h : n ≠ 0) : (d.tmod n).natAbs < n.natAbs := by
  rw [Int.natAbs_tmod]; exact Nat.mod_lt _ (by omega)
theorem Tw.held_on {S : World → Prop} {W0 W v : World} (mk : ∀ w2, Below W0.heap.size W0 w2 → S w2) (h : S W) (pr : S W → Below W0.heap.size W0 W) (hb : Below W.heap.size W v) : S v := mk v ((pr h).trans (hb.mono (pr h).size))
end Go.Proofs.YtamgimdjnmcpaabDoor
