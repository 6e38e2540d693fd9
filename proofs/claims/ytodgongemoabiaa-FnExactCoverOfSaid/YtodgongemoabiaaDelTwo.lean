/-
  The walk of the library's Delete of two integers.
-/
import Derived.Test.YtodgongemoabiaaBase
import Derived.Test.YtodgongemoabiaaSlice
import Derived.Test.YtodgongemoabiaaInts
import Derived.Test.YtodgongemoabiaaGrid
import Derived.Test.YtodgongemoabiaaGridRows
import Derived.Test.YtodgongemoabiaaOwn
import Derived.Test.YtodgongemoabiaaAppend
import Derived.Test.YtodgongemoabiaaClass
import Derived.Test.YtodgongemoabiaaLab
import Derived.Test.YtodgongemoabiaaMap
import Derived.Test.YtodgongemoabiaaMapA
import Derived.Test.YtodgongemoabiaaMapB
import Derived.Test.YtodgongemoabiaaMapC
import Derived.Test.YtodgongemoabiaaPut
import Derived.Deep.QuietTactic
import Derived.BigQuiet
import Derived.Deep.RegionLaw
import Derived.StillTailTactics
import Derived.Lib.SliceRun
namespace Go.Proofs.Ytodgongemoabiaa
open Go.RowKit

set_option maxRecDepth 100000 in
theorem zero_int : ∀ w : World, (zeroValue 3).run Try.prog w = .ok (.int .i64 0) w := fun w => by kernel_rfl
end Go.Proofs.Ytodgongemoabiaa
