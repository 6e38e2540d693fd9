/-
  Sums of surfaces: what the document says, and the walks of the program's and the model's SumSurface.
-/
import Derived.Test.YtodgongemoabiaaBase
import Derived.Test.YtodgongemoabiaaSlice
import Derived.Test.YtodgongemoabiaaIntRow
import Derived.Test.YtodgongemoabiaaSurf
import Derived.Test.YtodgongemoabiaaSurfI
import Derived.Laws.Rows
namespace Go.Proofs.Ytodgongemoabiaa
open Go.RowKit

/-- Three blocks that a call's frame has laid, behind the first callee. -/
theorem Blk.of3 {w w1 : World} {N M : Nat} {t : TypeId} {A B C : Array Value} (hN : w.heap.size = N) (hb : Below M (((w.alloc (.cells A t)).alloc (.cells B t)).alloc (.cells C t)) w1) (hM : M = N + 3) :
    Blk w1 N t A ∧ Blk w1 (N + 1) t B ∧ Blk w1 (N + 1 + 1) t C ∧ Below N w w1 := by
  subst hM
  have s1 := size1 hN (.cells A t)
  have s2 := size1 s1 (.cells B t)
  have h0 : Below N w (((w.alloc (.cells A t)).alloc (.cells B t)).alloc (.cells C t)) := by
    have h := (((Below.refl w.heap.size w).alloc (Nat.le_refl _) (.cells A t)).alloc (by simp) (.cells B t)).alloc (by simp; omega) (.cells C t)
    rwa [hN] at h
  exact ⟨(((Blk.new' hN t A).alloc _).alloc _).below hb (by omega), ((Blk.new' s1 t B).alloc _).below hb (by omega), (Blk.new' s2 t C).below hb (by omega), h0.trans (hb.mono (by omega))⟩
/-- One block. -/
theorem Blk.of1 {w w1 : World} {N M : Nat} {t : TypeId} {A : Array Value} (hN : w.heap.size = N) (hb : Below M (w.alloc (.cells A t)) w1) (hM : M = N + 1) : Blk w1 N t A ∧ Below N w w1 := by
  subst hM
  have h0 : Below N w (w.alloc (.cells A t)) := by
    have h := (Below.refl w.heap.size w).alloc (Nat.le_refl _) (.cells A t)
    rwa [hN] at h
  exact ⟨(Blk.new' hN t A).below hb (by omega), h0.trans (hb.mono (by omega))⟩
/-- Two blocks. -/
theorem Blk.of2 {w w1 : World} {N M : Nat} {t : TypeId} {A B : Array Value} (hN : w.heap.size = N) (hb : Below M ((w.alloc (.cells A t)).alloc (.cells B t)) w1) (hM : M = N + 2) :
    Blk w1 N t A ∧ Blk w1 (N + 1) t B ∧ Below N w w1 := by
  subst hM
  have s1 := size1 hN (.cells A t)
  have h0 : Below N w ((w.alloc (.cells A t)).alloc (.cells B t)) := by
    have h := ((Below.refl w.heap.size w).alloc (Nat.le_refl _) (.cells A t)).alloc (by simp) (.cells B t)
    rwa [hN] at h
  exact ⟨((Blk.new' hN t A).alloc _).below hb (by omega), (Blk.new' s1 t B).below hb (by omega), h0.trans (hb.mono (by omega))⟩

theorem below_lay {N : Nat} {w w2 w3 : World} {o : Obj} (hl : Below N w w2) (hN : N ≤ w2.heap.size) (hb : Below (w2.alloc o).heap.size (w2.alloc o) w3) : Below N w w3 :=
  hl.trans ((((Below.refl w2.heap.size w2).alloc (Nat.le_refl _) o).trans (hb.mono (by simp))).mono hN)

theorem below_put3 {N g : Nat} {w w1 : World} (h : Below N w w1) (hg : N ≤ g) (x y z : Value) : Below N w (((w1.setCell ⟨g, 0, none⟩ x).setCell ⟨g, 1, none⟩ y).setCell ⟨g, 2, none⟩ z) :=
  ((h.setCell hg x).setCell hg y).setCell hg z
namespace Surf
def mix (x y z p q r : Int) : Int × Int × Int := if 0 < y + q then (0, y + q + 2 * (x + p), z + r) else (x + p, y + q, z + r)
def sumOk (x y z p q r : Int) : Prop := Is x y z ∧ Is p q r ∧ Is (mix x y z p q r).1 (mix x y z p q r).2.1 (mix x y z p q r).2.2
instance (x y z p q r : Int) : Decidable (sumOk x y z p q r) := by unfold sumOk; exact inferInstance
def sum (x y z p q r : Int) : Int × Int × Int := if sumOk x y z p q r then mix x y z p q r else (0, 0, 0)
theorem sum_of {x y z p q r : Int} (hs : Is x y z) (ht : Is p q r) : sum x y z p q r = right (mix x y z p q r) ∧ decide (sumOk x y z p q r) = decide (Is (mix x y z p q r).1 (mix x y z p q r).2.1 (mix x y z p q r).2.2) := by
  have e : sumOk x y z p q r ↔ Is (mix x y z p q r).1 (mix x y z p q r).2.1 (mix x y z p q r).2.2 := ⟨fun h => h.2.2, fun h => ⟨hs, ht, h⟩⟩
  refine ⟨?_, decide_eq_decide.2 e⟩
  unfold sum right
  by_cases h : Is (mix x y z p q r).1 (mix x y z p q r).2.1 (mix x y z p q r).2.2
  · rw [if_pos h, if_pos (e.2 h)]
  · rw [if_neg h, if_neg (fun k => h (e.1 k))]
theorem sum_not {x y z p q r : Int} (h : ¬ (Is x y z ∧ Is p q r)) : sum x y z p q r = (0, 0, 0) ∧ decide (sumOk x y z p q r) = false := by
  have e : ¬ sumOk x y z p q r := fun k => h ⟨k.1, k.2.1⟩
  exact ⟨if_neg e, decide_eq_false e⟩
end Surf

end Go.Proofs.Ytodgongemoabiaa
