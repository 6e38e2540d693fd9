/-
  What a loop's body keeps of an iterator's box.
-/
import Derived.RangeFuncBox
import Derived.RangeFuncLeaves
import Derived.RangeFuncNested
import Derived.Test.YtamgimdjnmcpaaaDoorBase
import Derived.Test.YtamgimdjnmcpaaaDoorSlice
import Derived.Test.YtamgimdjnmcpaaaDoorInts
import Derived.Test.YtamgimdjnmcpaaaDoorOwn
namespace Go.Proofs.YtamgimdjnmcpaaaDoor
open Go.RowKit

/-- What lay below n₀ lies as it lay, and the box Bn holds what it held. -/
def KB (n₀ Bn : Nat) (t : TypeId) (W W' : World) : Prop := Below n₀ W W' ∧ ∀ v, Boxed W Bn t v → Boxed W' Bn t v
theorem KB.refl (n₀ Bn : Nat) (t : TypeId) (W : World) : KB n₀ Bn t W W := ⟨Below.refl _ _, fun _ h => h⟩
theorem KB.t {n₀ Bn : Nat} {t : TypeId} {A B C : World} (h : KB n₀ Bn t A B) (k : KB n₀ Bn t B C) : KB n₀ Bn t A C := ⟨h.1.trans k.1, fun v hv => k.2 v (h.2 v hv)⟩
theorem KB.b {n₀ Bn : Nat} {t : TypeId} {w : World} (hn : n₀ ≤ w.heap.size) (W : World) (l : Nat) (o o' : Obj) (hl : w.heap.size ≤ l) (h : W.heap[l]? = some o) (hc : o.isCells = false) (hw : o.isWalk = false) : KB n₀ Bn t W (W.putObj l o') :=
  ⟨belowK_b hn W l o o' hl h hc hw, fun v hv => hv.kept (grownBy_putObj' W l o') (fun e => by
    cases e
    rw [show W.heap[Bn]? = _ from hv] at h
    cases h; cases hc)⟩
/-- Behind an append to a row of another type, and its store into another box. -/
theorem KB.appended {W w1 : World} {n₀ B Bn : Nat} {tb e : TypeId} {size : Nat} {v v' : Value} {k : Nat} {xs : List Value} {tmp : Obj} (hb : Below n₀ W (w1.setCell ⟨B, 0, none⟩ v')) (hte : tb ≠ e) (hrow : W.ownsRow n₀ e size v k xs) (hgrow : (W.alloc tmp).grownBy w1 v.ownBlock) (hne : Bn ≠ B) : KB n₀ Bn tb W (w1.setCell ⟨B, 0, none⟩ v') :=
  ⟨hb, fun u hu => (((hu.alloc tmp).kept hgrow (hu.not_row hte hrow)).other hne v')⟩
/-- The integers at a, in blocks below n₀. -/
def IntsAt (W : World) (n₀ : Nat) (a : Option Addr) (L : List Int) : Prop := ∀ j (h : j < L.length), ∃ b o, a = some ⟨b, o, none⟩ ∧ b < n₀ ∧ W.cell? ⟨b, o + j, none⟩ = some (.int .i64 L[j])
theorem IntsAt.of {w W : World} {n₀ : Nat} {a : Option Addr} {L : List Int} (h : RowAt w a (intCells L)) (hb : Below w.heap.size w W) (hn : w.heap.size ≤ n₀) : IntsAt W n₀ a L := fun j hj => by
  obtain ⟨b, o, rfl, hlt, hc⟩ := intCells_at h hj
  exact ⟨b, o, rfl, by omega, (hb.cell (p := ⟨b, o + j, none⟩) hlt).trans hc⟩
theorem IntsAt.below {A B : World} {n₀ N : Nat} {a : Option Addr} {L : List Int} (h : IntsAt A n₀ a L) (hb : Below N A B) (hn : n₀ ≤ N) : IntsAt B n₀ a L := fun j hj => by
  obtain ⟨b, o, rfl, hlt, hc⟩ := h j hj
  exact ⟨b, o, rfl, hlt, (hb.cell (p := ⟨b, o + j, none⟩) (by show b < N; omega)).trans hc⟩
end Go.Proofs.YtamgimdjnmcpaaaDoor
