/-
  Cells of a block, set one by one; what slices.Delete leaves of a row of the call's own. The walk of putBehind: a dart is laid behind another. The walk of the library's Delete of two integers.
-/
import Derived.Test.YtamgimdjnmcpaaaGreatBase
import Derived.Test.YtamgimdjnmcpaaaGreatSlice
import Derived.Test.YtamgimdjnmcpaaaGreatInts
import Derived.Test.YtamgimdjnmcpaaaGreatOwn
import Derived.Test.YtamgimdjnmcpaaaGreatGrid
import Derived.Test.YtamgimdjnmcpaaaGreatGridRows
import Derived.Test.YtamgimdjnmcpaaaGreatAppend
import Derived.Test.YtamgimdjnmcpaaaGreatClass
import Derived.Test.YtamgimdjnmcpaaaGreatLab
import Derived.Test.YtamgimdjnmcpaaaGreatMap
import Derived.Test.YtamgimdjnmcpaaaGreatMapA
import Derived.Test.YtamgimdjnmcpaaaGreatMapB
import Derived.StillTailTactics
import Derived.Deep.QuietTactic
import Derived.BigQuiet
import Derived.Deep.RegionLaw
import Derived.Lib.SliceRun
namespace Go.Proofs.YtamgimdjnmcpaaaGreat
open Go.RowKit
namespace Pt
def putAll : Array Value → Nat → List Value → Array Value
  | cs, _, [] => cs
  | cs, o, v :: r => putAll (cs.setIfInBounds o v) (o + 1) r
theorem putAll_size : ∀ (vs : List Value) (cs : Array Value) (o : Nat), (putAll cs o vs).size = cs.size
  | [], _, _ => rfl
  | v :: r, cs, o => by rw [putAll, putAll_size r]; simp
theorem putAll_get : ∀ (vs : List Value) (cs : Array Value) (o j : Nat), (putAll cs o vs)[j]? = if o ≤ j ∧ j < o + vs.length ∧ j < cs.size then vs[j - o]? else cs[j]?
  | [], cs, o, j => by rw [putAll, if_neg (by simp; omega)]
  | v :: r, cs, o, j => by
    rw [putAll, putAll_get r, Array.size_setIfInBounds]
    by_cases h1 : o + 1 ≤ j ∧ j < o + 1 + r.length ∧ j < cs.size
    · rw [if_pos h1, if_pos (by simp; omega), show j - o = (j - (o + 1)) + 1 by omega]; simp
    · rw [if_neg h1, Array.getElem?_setIfInBounds]
      by_cases h2 : o = j
      · subst h2
        by_cases h3 : o < cs.size
        · simp [h3]
        · simp [h3]
      · rw [if_neg h2, if_neg (by simp; omega)]
theorem blk {g : Nat} {t : TypeId} : ∀ (vs : List Value) {w : World} {cs : Array Value} (o : Nat), Blk w g t cs → Blk (w.setCells g o vs) g t (putAll cs o vs)
  | [], _, _, _, h => h
  | v :: r, w, cs, o, h => by
    rw [World.setCells]
    exact blk r (o + 1) (h.put o v)
theorem far {g k : Nat} (hk : k ≠ g) : ∀ (vs : List Value) (w : World) (o : Nat), (w.setCells g o vs).heap[k]? = w.heap[k]?
  | [], _, _ => rfl
  | v :: r, w, o => by rw [World.setCells, far hk r, Below.heap_setCell _ _ _ _ hk]
theorem below {B g : Nat} {w0 : World} (hg : B ≤ g) : ∀ (vs : List Value) {w : World} (o : Nat), Below B w0 w → Below B w0 (w.setCells g o vs)
  | [], _, _, h => h
  | v :: r, w, o, h => by rw [World.setCells]; exact below hg r (o + 1) (h.setCell hg v)
theorem size {g : Nat} : ∀ (vs : List Value) (w : World) (o : Nat), (w.setCells g o vs).heap.size = w.heap.size
  | [], _, _ => rfl
  | v :: r, w, o => by rw [World.setCells, size r]; simp [World.setCell]
/-- Two elements are taken out. -/
theorem erased2 {w : World} {lo g n cap q m : Nat} {e : TypeId} {xs : List Value} (hown : w.ownsRow lo e 1 (.slice (some ⟨g, 0, none⟩) n cap) n xs) (hq : q + 2 ≤ n) (z : Value) :
    (((w.drewN m).setCells g q (xs.drop (q + 2))).setCells g (n - 2) [z, z]).ownsRow lo e 1 (.slice (some ⟨g, 0, none⟩) (n - 2) cap) (n - 2) (xs.take q ++ xs.drop (q + 2)) ∧ Below lo w (((w.drewN m).setCells g q (xs.drop (q + 2))).setCells g (n - 2) [z, z]) ∧
      ∀ k, k ≠ g → (((w.drewN m).setCells g q (xs.drop (q + 2))).setCells g (n - 2) [z, z]).heap[k]? = w.heap[k]? := by
  have hxl : xs.length = n := by rw [hown.1, Nat.mul_one]
  rcases hown.2 with ⟨e, _⟩ | ⟨g', cap', cur, e, hbg, hh, hle, hmx, hcs, htk⟩
  · cases e
  · cases e
    have hk : Blk w g e cur := hh
    have hk2 := blk (xs.drop (q + 2)) q (hk.drewN m)
    have hk3 := blk [z, z] (n - 2) hk2
    refine ⟨⟨by simp; omega, Or.inr ⟨g, cap, _, rfl, hbg, hk3, by omega, hmx, by rw [putAll_size, putAll_size]; exact hcs, ?_⟩⟩, below hbg _ _ (below hbg _ _ (below_drewN (Below.refl _ _) _)), fun k hne => ?_⟩
    · rw [Nat.mul_one]
      rw [Nat.mul_one] at htk hcs
      have hcur : ∀ j, j < n → cur[j]? = xs[j]? := fun j hj => by
        rw [← htk, List.getElem?_take, if_pos (by omega)]; simp
      apply List.ext_getElem?
      intro j
      rw [List.getElem?_take]
      by_cases hj : j < n - 2
      · rw [if_pos hj, Array.getElem?_toList, putAll_get, if_neg (by simp; omega), putAll_get, List.length_drop, hxl]
        by_cases h1 : j < q
        · rw [if_neg (by omega), hcur j (by omega), List.getElem?_append_left (by simp; omega), List.getElem?_take, if_pos h1]
        · rw [if_pos ⟨by omega, by omega, by omega⟩, List.getElem?_append_right (by simp; omega), List.getElem?_drop, List.getElem?_drop]
          congr 1; simp; omega
      · rw [if_neg hj, List.getElem?_eq_none (by simp; omega)]
    · rw [far hne, far hne]; rfl
end Pt
end Go.Proofs.YtamgimdjnmcpaaaGreat
namespace Go.Proofs.YtamgimdjnmcpaaaGreat
open Go.RowKit

end Go.Proofs.YtamgimdjnmcpaaaGreat
namespace Go.Proofs.YtamgimdjnmcpaaaGreat
open Go.RowKit

set_option maxRecDepth 100000 in
theorem zero_int : ∀ w : World, (zeroValue 3).run Tryz.prog w = .ok (.int .i64 0) w := fun w => by kernel_rfl
end Go.Proofs.YtamgimdjnmcpaaaGreat
