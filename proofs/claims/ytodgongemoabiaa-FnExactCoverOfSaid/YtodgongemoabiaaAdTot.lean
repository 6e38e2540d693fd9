/-
  Rows that are few are short.
-/
import Derived.Test.YtodgongemoabiaaBase
import Derived.Test.YtodgongemoabiaaSlice
import Derived.Test.YtodgongemoabiaaInts
import Derived.Test.YtodgongemoabiaaOwn
import Derived.Test.YtodgongemoabiaaGrid
namespace Go.Proofs.Ytodgongemoabiaa
open Go.RowKit

theorem tot_rows {L : List (List Int)} (h : tot L ≤ 1048576) : (∀ p ∈ L, p.length ≤ 1048576) ∧ L.length ≤ 1048576 := by
  unfold tot at h
  refine ⟨fun p hp => ?_, by omega⟩
  obtain ⟨i, hi, rfl⟩ := List.mem_iff_getElem.1 hp
  have := len_le_sumLen hi; omega
end Go.Proofs.Ytodgongemoabiaa
