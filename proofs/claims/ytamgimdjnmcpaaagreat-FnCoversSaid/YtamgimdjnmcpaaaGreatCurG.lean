/-
  A cursor that goes on.
-/
import Derived.Test.YtamgimdjnmcpaaaGreatBase
import Derived.Test.YtamgimdjnmcpaaaGreatSlice
import Derived.Test.YtamgimdjnmcpaaaGreatInts
import Derived.Test.YtamgimdjnmcpaaaGreatOwn
import Derived.Test.YtamgimdjnmcpaaaGreatDraw
import Derived.Test.YtamgimdjnmcpaaaGreatDrawWord
namespace Go.Proofs.YtamgimdjnmcpaaaGreat
open Go.RowKit

/-- The cursor goes on, nothing else that was there has turned. -/
def CurG (w : World) (g : Nat) (W : World) : Prop := CurAt W g ∧ w.grownBy W (some g)
theorem CurG.drawn {w W W' : World} {g : Nat} (h : CurG w g W) (hc : CurAt W' g) (hg : W.grownBy W' (some g)) : CurG w g W' := ⟨hc, h.2.trans hg⟩
theorem CurG.below {w W W' : World} {g : Nat} (h : CurG w g W) (hb : Below W.heap.size W W') : CurG w g W' := ⟨h.1.below hb, h.2.trans (only_of_below hb _)⟩
theorem CurG.alloc {w W : World} {g : Nat} (h : CurG w g W) (o : Obj) : CurG w g (W.alloc o) := h.below ((Below.refl _ _).alloc (Nat.le_refl _) _)
theorem CurG.row {w W W' : World} {g : Nat} {row : Option Nat} (h : CurG w g W) (hg : W.grownBy W' row) (hgw : g < w.heap.size) (hr : ∀ k, row = some k → w.heap.size ≤ k) : CurG w g W' :=
  ⟨h.1.above hg (fun k hk => by have := hr k hk; omega), grown_both h.2 hg hr⟩
theorem CurG.size {w W : World} {g : Nat} (h : CurG w g W) : w.heap.size ≤ W.heap.size := h.2.size
end Go.Proofs.YtamgimdjnmcpaaaGreat
