/-
  The walk of the library's Delete of two integers.
-/
import Derived.Test.YtpebgompfgkljaaBase
import Derived.Test.YtpebgompfgkljaaSlice
import Derived.Test.YtpebgompfgkljaaInts
import Derived.Test.YtpebgompfgkljaaGrid
import Derived.Test.YtpebgompfgkljaaGridRows
import Derived.Test.YtpebgompfgkljaaOwn
import Derived.Test.YtpebgompfgkljaaAppend
import Derived.Test.YtpebgompfgkljaaClass
import Derived.Test.YtpebgompfgkljaaLab
import Derived.Test.YtpebgompfgkljaaMap
import Derived.Test.YtpebgompfgkljaaMapA
import Derived.Test.YtpebgompfgkljaaMapB
import Derived.Test.YtpebgompfgkljaaPut
import Derived.Deep.QuietTactic
import Derived.BigQuiet
import Derived.Deep.RegionLaw
import Derived.StillTailTactics
import Derived.Lib.SliceRun
namespace Go.Proofs.Ytpebgompfgkljaa
open Go.RowKit

set_option maxRecDepth 100000 in
theorem zero_int : ∀ w : World, (zeroValue 3).run Try.prog w = .ok (.int .i64 0) w := fun w => by kernel_rfl
end Go.Proofs.Ytpebgompfgkljaa
