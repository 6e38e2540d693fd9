/-
  The walks of the program's InverseWord (a range over a function) and of the model's.
-/
import Derived.RangeFuncBox
import Derived.RangeFuncLeaves
import Derived.Shelf.Abstract
import Derived.OwnWalkIn
import Derived.TacticsInMore
import Derived.LoopNIn
import Derived.LoopIn
import Derived.Maps.AppendAt
import Derived.Test.YtamgimdjnmcpaaaDoorBase
import Derived.Test.YtamgimdjnmcpaaaDoorSlice
import Derived.Test.YtamgimdjnmcpaaaDoorInts
import Derived.Test.YtamgimdjnmcpaaaDoorWord
import Derived.Test.YtamgimdjnmcpaaaDoorIsWord
import Derived.Test.YtamgimdjnmcpaaaDoorReduce
import Derived.Test.YtamgimdjnmcpaaaDoorReduceSpec
import Derived.Test.YtamgimdjnmcpaaaDoorIter
namespace Go.Proofs.YtamgimdjnmcpaaaDoor
open Go.RowKit Go.Shelf

attribute [local go_sem] Oper.semAt_some




theorem inverse_of {l : List Int} (h : Word.IsW l) : Word.inverse l = Word.inv l := if_pos h
theorem inverse_not {l : List Int} (h : ¬ Word.IsW l) : Word.inverse l = [] := if_neg h
theorem inverse_len (l : List Int) : (Word.inverse l).length ≤ 24 := by
  unfold Word.inverse; split
  · rename_i h; rw [Word.inv_len]; exact h.2
  · simp





end Go.Proofs.YtamgimdjnmcpaaaDoor
