/-
  The walks of the program's and the model's ReduceWord.
-/
import Derived.Test.YtbajfmehncgbeaaBase
import Derived.Test.YtbajfmehncgbeaaSlice
import Derived.Test.YtbajfmehncgbeaaInts
import Derived.Test.YtbajfmehncgbeaaWord
import Derived.Test.YtbajfmehncgbeaaIsWord
import Derived.Test.YtbajfmehncgbeaaOwn
import Derived.Deep.QuietTactic
import Derived.BigQuiet
namespace Go.Proofs.Ytbajfmehncgbeaa
open Go.RowKit

end Go.Proofs.Ytbajfmehncgbeaa
