/-
  The walks of the program's and the model's ReduceWord.
-/
import Derived.Test.YtehibigjdbpikaaGreatDoorBase
import Derived.Test.YtehibigjdbpikaaGreatDoorSlice
import Derived.Test.YtehibigjdbpikaaGreatDoorInts
import Derived.Test.YtehibigjdbpikaaGreatDoorWord
import Derived.Test.YtehibigjdbpikaaGreatDoorIsWord
import Derived.Test.YtehibigjdbpikaaGreatDoorOwn
import Derived.Deep.QuietTactic
import Derived.BigQuiet
namespace Go.Proofs.YtehibigjdbpikaaGreatDoor
open Go.RowKit

end Go.Proofs.YtehibigjdbpikaaGreatDoor
