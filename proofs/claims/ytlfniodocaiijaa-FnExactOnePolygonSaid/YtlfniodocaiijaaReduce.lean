/-
  The walks of the program's and the model's ReduceWord.
-/
import Derived.Test.YtlfniodocaiijaaBase
import Derived.Test.YtlfniodocaiijaaSlice
import Derived.Test.YtlfniodocaiijaaInts
import Derived.Test.YtlfniodocaiijaaWord
import Derived.Test.YtlfniodocaiijaaIsWord
import Derived.Test.YtlfniodocaiijaaOwn
import Derived.Deep.QuietTactic
import Derived.BigQuiet
namespace Go.Proofs.Ytlfniodocaiijaa
open Go.RowKit

end Go.Proofs.Ytlfniodocaiijaa
