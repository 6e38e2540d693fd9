/-
  The walks of the program's and the model's TurnWord. The walks of the program's InverseWord (a range over a function) and of the model's. What a loop's body keeps of an iterator's box.
-/
import Derived.Test.YtamgimdjnmcpaaaGreatBase
import Derived.Test.YtamgimdjnmcpaaaGreatSlice
import Derived.Test.YtamgimdjnmcpaaaGreatInts
import Derived.Test.YtamgimdjnmcpaaaGreatWord
import Derived.Test.YtamgimdjnmcpaaaGreatIsWord
import Derived.Test.YtamgimdjnmcpaaaGreatReduce
import Derived.Test.YtamgimdjnmcpaaaGreatAppend
import Derived.Test.YtamgimdjnmcpaaaGreatCovN
import Derived.Deep.RegionLaw
import Derived.StillTailTactics
import Derived.BigQuiet
import Derived.RangeFuncBox
import Derived.RangeFuncLeaves
import Derived.Shelf.Abstract
import Derived.OwnWalkIn
import Derived.TacticsInMore
import Derived.LoopNIn
import Derived.LoopIn
import Derived.Maps.AppendAt
import Derived.RangeFuncNested
import Derived.Test.YtamgimdjnmcpaaaGreatOwn
namespace Go.Proofs.YtamgimdjnmcpaaaGreat
open Go.RowKit

theorem row_drop {w : World} {b o m : Nat} {l : List Int} (h : RowAt w (some ⟨b, o, none⟩) (intCells l)) : RowAt w (some ⟨b, o + m, none⟩) (intCells (l.drop m)) := by
  rcases h with h | ⟨b', o', e, hlt, hc⟩
  · left
    have : l = [] := by simpa [intCells] using h
    rw [this]; simp [intCells]
  · cases e
    refine Or.inr ⟨b, o + m, rfl, hlt, fun i v hv => ?_⟩
    rw [Nat.add_assoc]
    refine hc (m + i) v ?_
    simpa [intCells, List.getElem?_drop] using hv
theorem row_take {w : World} {a : Option Addr} {m : Nat} {l : List Int} (h : RowAt w a (intCells l)) : RowAt w a (intCells (l.take m)) := by
  rcases h with h | ⟨b', o', e, hlt, hc⟩
  · left
    have : l = [] := by simpa [intCells] using h
    rw [this]; simp [intCells]
  · refine Or.inr ⟨b', o', e, hlt, fun i v hv => hc i v ?_⟩
    simp only [intCells, List.getElem?_map, List.getElem?_take] at hv ⊢
    split at hv
    · exact hv
    · cases hv
theorem row_some {w : World} {a : Option Addr} {l : List Int} (h : RowAt w a (intCells l)) (hn : 0 < l.length) : ∃ b o, a = some ⟨b, o, none⟩ := by
  obtain ⟨b, o, h, _⟩ := h.at (i := 0) (by rw [intCells_len]; exact hn)
  exact ⟨b, o, h⟩
/-- Where a turn begins. -/
theorem turn_mod {n : Nat} (hn : 0 < n) (k : Int) : ∃ m : Nat, m < n ∧ k % (n : Int) = (m : Int) ∧ ((0 ≤ k.tmod (n : Int) ∧ k.tmod (n : Int) = m) ∨ (k.tmod (n : Int) < 0 ∧ k.tmod (n : Int) = (m : Int) - n)) := by
  have h0 := Int.emod_nonneg k (show (n : Int) ≠ 0 by omega)
  have h1 := Int.emod_lt_of_pos k (show (0 : Int) < n by omega)
  refine ⟨(k % (n : Int)).toNat, by omega, by omega, ?_⟩
  rcases (show k.tmod (n : Int) < 0 ∨ 0 ≤ k.tmod (n : Int) by omega) with h | h
  · right
    refine ⟨h, ?_⟩
    have h2 : k.tmod (n : Int) % (n : Int) = k % (n : Int) := by
      have := Int.tmod_add_mul_tdiv k (n : Int)
      conv => rhs; rw [← this]
      rw [Int.add_mul_emod_self_left]
    have h3 := Int.tmod_lt_of_pos k (show (0 : Int) < n by omega)
    have h4 : -(n : Int) < k.tmod n := by
      have := Int.lt_tmod_of_pos k (show (0 : Int) < n by omega); exact this
    have h5 : (k.tmod (n : Int) + n) % (n : Int) = k.tmod (n : Int) + n := Int.emod_eq_of_lt (by omega) (by omega)
    rw [Int.add_emod_right] at h5
    omega
  · left
    refine ⟨h, ?_⟩
    have h2 : k.tmod (n : Int) % (n : Int) = k % (n : Int) := by
      have := Int.tmod_add_mul_tdiv k (n : Int)
      conv => rhs; rw [← this]
      rw [Int.add_mul_emod_self_left]
    have h3 := Int.tmod_lt_of_pos k (show (0 : Int) < n by omega)
    have h5 : k.tmod (n : Int) % (n : Int) = k.tmod (n : Int) := Int.emod_eq_of_lt h h3
    omega
theorem turn_nil (k : Int) : Word.turn [] k = [] := by simp [Word.turn]
theorem own_made1 (w : World) : ((w.drewN 1).alloc (.cells #[] 3)).ownsRow w.heap.size 3 1 (.slice (some ⟨w.heap.size, 0, none⟩) 0 0) 0 (intCells []) :=
  World.ownsRow_made (base := w.heap.size) (e := 3) (size := 1) (w.drewN 1) #[] 0 (Nat.le_refl _) (by unfold maxLen; omega) (by rfl)
theorem below_made1 (w : World) : Below w.heap.size w ((w.drewN 1).alloc (.cells #[] 3)) := Below.alloc (below_drewN (Below.refl _ w) 1) (Nat.le_refl _) _
theorem turn_at {l : List Int} {k : Int} {m : Nat} (h : k % (l.length : Int) = (m : Int)) : Word.turn l k = l.drop m ++ l.take m := by
  unfold Word.turn; rw [h]; rfl

theorem turned_not {l : List Int} {k : Int} (h : ¬ Word.IsW l) : Word.turned l k = [] := if_neg h
theorem turned_of {l : List Int} {k : Int} (h : Word.IsW l) : Word.turned l k = Word.turn l k := if_pos h
theorem turned_len (l : List Int) (k : Int) : (Word.turned l k).length ≤ 24 := by
  unfold Word.turned; split
  · rw [Word.turn_len]; rename_i h; exact h.2
  · simp


end Go.Proofs.YtamgimdjnmcpaaaGreat
namespace Go.Proofs.YtamgimdjnmcpaaaGreat
open Go.RowKit Go.Shelf

attribute [local go_sem] Oper.semAt_some




theorem inverse_of {l : List Int} (h : Word.IsW l) : Word.inverse l = Word.inv l := if_pos h
theorem inverse_not {l : List Int} (h : ¬ Word.IsW l) : Word.inverse l = [] := if_neg h
theorem inverse_len (l : List Int) : (Word.inverse l).length ≤ 24 := by
  unfold Word.inverse; split
  · rename_i h; rw [Word.inv_len]; exact h.2
  · simp





end Go.Proofs.YtamgimdjnmcpaaaGreat
namespace Go.Proofs.YtamgimdjnmcpaaaGreat
open Go.RowKit

/-- What lay below n₀ lies as it lay, and the box Bn holds what it held. -/
def KB (n₀ Bn : Nat) (t : TypeId) (W W' : World) : Prop := Below n₀ W W' ∧ ∀ v, Boxed W Bn t v → Boxed W' Bn t v
theorem KB.refl (n₀ Bn : Nat) (t : TypeId) (W : World) : KB n₀ Bn t W W := ⟨Below.refl _ _, fun _ h => h⟩
theorem KB.t {n₀ Bn : Nat} {t : TypeId} {A B C : World} (h : KB n₀ Bn t A B) (k : KB n₀ Bn t B C) : KB n₀ Bn t A C := ⟨h.1.trans k.1, fun v hv => k.2 v (h.2 v hv)⟩
theorem KB.b {n₀ Bn : Nat} {t : TypeId} {w : World} (hn : n₀ ≤ w.heap.size) (W : World) (l : Nat) (o o' : Obj) (hl : w.heap.size ≤ l) (h : W.heap[l]? = some o) (hc : o.isCells = false) (hw : o.isWalk = false) : KB n₀ Bn t W (W.putObj l o') :=
  ⟨belowK_b hn W l o o' hl h hc hw, fun v hv => hv.kept (grownBy_putObj' W l o') (fun e => by
    cases e
    rw [show W.heap[Bn]? = _ from hv] at h
    cases h; cases hc)⟩
/-- Behind an append to a row of another type, and its store into another box. -/
theorem KB.appended {W w1 : World} {n₀ B Bn : Nat} {tb e : TypeId} {size : Nat} {v v' : Value} {k : Nat} {xs : List Value} {tmp : Obj} (hb : Below n₀ W (w1.setCell ⟨B, 0, none⟩ v')) (hte : tb ≠ e) (hrow : W.ownsRow n₀ e size v k xs) (hgrow : (W.alloc tmp).grownBy w1 v.ownBlock) (hne : Bn ≠ B) : KB n₀ Bn tb W (w1.setCell ⟨B, 0, none⟩ v') :=
  ⟨hb, fun u hu => (((hu.alloc tmp).kept hgrow (hu.not_row hte hrow)).other hne v')⟩
/-- The integers at a, in blocks below n₀. -/
def IntsAt (W : World) (n₀ : Nat) (a : Option Addr) (L : List Int) : Prop := ∀ j (h : j < L.length), ∃ b o, a = some ⟨b, o, none⟩ ∧ b < n₀ ∧ W.cell? ⟨b, o + j, none⟩ = some (.int .i64 L[j])
theorem IntsAt.of {w W : World} {n₀ : Nat} {a : Option Addr} {L : List Int} (h : RowAt w a (intCells L)) (hb : Below w.heap.size w W) (hn : w.heap.size ≤ n₀) : IntsAt W n₀ a L := fun j hj => by
  obtain ⟨b, o, rfl, hlt, hc⟩ := intCells_at h hj
  exact ⟨b, o, rfl, by omega, (hb.cell (p := ⟨b, o + j, none⟩) hlt).trans hc⟩
theorem IntsAt.below {A B : World} {n₀ N : Nat} {a : Option Addr} {L : List Int} (h : IntsAt A n₀ a L) (hb : Below N A B) (hn : n₀ ≤ N) : IntsAt B n₀ a L := fun j hj => by
  obtain ⟨b, o, rfl, hlt, hc⟩ := h j hj
  exact ⟨b, o, rfl, hlt, (hb.cell (p := ⟨b, o + j, none⟩) (by show b < N; omega)).trans hc⟩
end Go.Proofs.YtamgimdjnmcpaaaGreat
