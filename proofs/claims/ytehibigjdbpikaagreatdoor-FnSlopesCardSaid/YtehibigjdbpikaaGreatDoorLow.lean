/-
  What the laws of this seat share at their last step: the world in which the listed variables lie, and that an argument reads as it did.
-/
import Derived.Test.YtehibigjdbpikaaGreatDoorRows
import Derived.Test.YtehibigjdbpikaaGreatDoorBase
import Derived.Carry
namespace Go.Proofs.YtehibigjdbpikaaGreatDoor
open Go.RowKit Go.WideShapes Go.ChangeShapes

theorem trod_keeps {H : Type} {enc : TypeId × Value → H} {P : Program} {t : TypeId} (hl : laidOutB P = true) (hr : P.readableRec t = true) (hrow : decide (t < P.types.size) = true) {W W' : World} {v : Value} {d : DataW H} {ps : List MemPlace}
    (h : DataW.Trod enc P W 0 (fun _ => true) true t v d ps) (hb : Below W.heap.size W W') (hlt : ∀ x ∈ ps, x.block < W.heap.size) {sp : Nat → Bool} (hs : ∀ x ∈ ps, sp x.block = true) :
    DataW.Trod enc P W' 0 sp true t v d ps :=
  WideElems.Trod_stays hl hr (of_decide_eq_true hrow) h (fun x hx => hb.same (hlt x hx)) hs

namespace Low
theorem own : ownKnob Tryz.prog.godebug = none := by kernel_rfl
end Low
end Go.Proofs.YtehibigjdbpikaaGreatDoor
