/-
  The walk of the program's countLetters: an array, by value.
-/
import Derived.Test.YtamgimdjnmcpaaaDoorBase
import Derived.Test.YtamgimdjnmcpaaaDoorSlice
import Derived.Test.YtamgimdjnmcpaaaDoorInts
import Derived.Test.YtamgimdjnmcpaaaDoorWord
import Derived.Test.YtamgimdjnmcpaaaDoorGrid
import Derived.Test.YtamgimdjnmcpaaaDoorGlue
import Derived.Test.YtamgimdjnmcpaaaDoorUses
import Derived.Deep.WholeRow
import Derived.Deep.Cut
namespace Go.Proofs.YtamgimdjnmcpaaaDoor
open Go.RowKit

end Go.Proofs.YtamgimdjnmcpaaaDoor
