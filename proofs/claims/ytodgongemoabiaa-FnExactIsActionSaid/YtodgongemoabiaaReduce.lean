/-
  The walks of the program's and the model's ReduceWord.
-/
import Derived.Test.YtodgongemoabiaaBase
import Derived.Test.YtodgongemoabiaaSlice
import Derived.Test.YtodgongemoabiaaInts
import Derived.Test.YtodgongemoabiaaWord
import Derived.Test.YtodgongemoabiaaIsWord
import Derived.Test.YtodgongemoabiaaOwn
import Derived.Deep.QuietTactic
import Derived.BigQuiet
namespace Go.Proofs.Ytodgongemoabiaa
open Go.RowKit

end Go.Proofs.Ytodgongemoabiaa
