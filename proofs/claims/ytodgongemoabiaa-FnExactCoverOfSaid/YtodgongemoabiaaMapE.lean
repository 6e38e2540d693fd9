/-
  The walks of the parts of a map and of its genus, the program's and the model's.
-/
import Derived.Test.YtodgongemoabiaaBase
import Derived.Test.YtodgongemoabiaaSlice
import Derived.Test.YtodgongemoabiaaInts
import Derived.Test.YtodgongemoabiaaGrid
import Derived.Test.YtodgongemoabiaaGridRows
import Derived.Test.YtodgongemoabiaaOwn
import Derived.Test.YtodgongemoabiaaClass
import Derived.Test.YtodgongemoabiaaLab
import Derived.Test.YtodgongemoabiaaMap
import Derived.Test.YtodgongemoabiaaMapA
import Derived.Test.YtodgongemoabiaaMapB
import Derived.Test.YtodgongemoabiaaMapC
import Derived.Test.YtodgongemoabiaaMapD
import Derived.StillTailTactics
import Derived.Deep.QuietTactic
import Derived.BigQuiet
namespace Go.Proofs.Ytodgongemoabiaa
open Go.RowKit

theorem ownRow_lab {w : World} {lo g cap n : Nat} {f : Nat → Nat} (h : w.ownsRow lo 3 1 (.slice (some ⟨g, 0, none⟩) n cap) n (intCells (Cls.row f n))) : Lab w g f n := by
  rcases h.2 with ⟨e, _⟩ | ⟨g', cap', cur, e, _, hh, _⟩
  · cases e
  · cases e
    refine ⟨cur, hh, fun k hk => ?_⟩
    have h1 := ownRow_cell h hk
    have h2 : Blk w g 3 cur := hh
    rw [h2.cell k] at h1; exact h1
theorem Lab.only {w w' : World} {g n : Nat} {u : Nat → Nat} (h : Lab w g u n) (hb : w.grownBy w' (some g)) {k m : Nat} {v : Nat → Nat} (hk : Lab w k v m) (hne : k ≠ g) : Lab w' k v m := by
  obtain ⟨all, h1, h2⟩ := hk
  exact ⟨all, h1.grown hb (fun e => hne (Option.some.inj e)), h2⟩
namespace Mp
theorem ring_snoc1 (l : List Int) (i : Nat) : Cls.merge (Cls.merge (Cls.mergeAll (pairsTo l i)) (i, at_ l i)) (i, mate i) = Cls.mergeAll (pairsTo l (i + 1)) := by
  rw [pairsTo_succ, Cls.mergeAll_snoc, Cls.mergeAll_snoc]
end Mp



end Go.Proofs.Ytodgongemoabiaa
