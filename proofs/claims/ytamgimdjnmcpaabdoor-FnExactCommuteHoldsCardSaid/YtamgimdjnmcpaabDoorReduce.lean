/-
  The walks of the program's and the model's ReduceWord. The walks of the model's ReduceWord.
-/
import Derived.Test.YtamgimdjnmcpaabDoorBase
import Derived.Test.YtamgimdjnmcpaabDoorSlice
import Derived.Test.YtamgimdjnmcpaabDoorInts
import Derived.Test.YtamgimdjnmcpaabDoorWord
import Derived.Test.YtamgimdjnmcpaabDoorIsWord
import Derived.Test.YtamgimdjnmcpaabDoorOwn
import Derived.Deep.QuietTactic
import Derived.BigQuiet
namespace Go.Proofs.YtamgimdjnmcpaabDoor
open Go.RowKit

end Go.Proofs.YtamgimdjnmcpaabDoor
namespace Go.Proofs.YtamgimdjnmcpaabDoor
open Go.RowKit



end Go.Proofs.YtamgimdjnmcpaabDoor
