/-
  Rows that are few are short. SheetParts' contracts in the form that its exact law asks for.
-/
import Derived.Test.YtamgimdjnmcpaaaGreatBase
import Derived.Test.YtamgimdjnmcpaaaGreatSlice
import Derived.Test.YtamgimdjnmcpaaaGreatInts
import Derived.Test.YtamgimdjnmcpaaaGreatOwn
import Derived.Test.YtamgimdjnmcpaaaGreatGrid
import Derived.Test.YtamgimdjnmcpaaaGreatGridRows
import Derived.Test.YtamgimdjnmcpaaaGreatMap
import Derived.Test.YtamgimdjnmcpaaaGreatCov
import Derived.Test.YtamgimdjnmcpaaaGreatCovA
import Derived.Test.YtamgimdjnmcpaaaGreatCovD
namespace Go.Proofs.YtamgimdjnmcpaaaGreat
open Go.RowKit

theorem tot_rows {L : List (List Int)} (h : tot L ≤ 1048576) : (∀ p ∈ L, p.length ≤ 1048576) ∧ L.length ≤ 1048576 := by
  unfold tot at h
  refine ⟨fun p hp => ?_, by omega⟩
  obtain ⟨i, hi, rfl⟩ := List.mem_iff_getElem.1 hp
  have := len_le_sumLen hi; omega
end Go.Proofs.YtamgimdjnmcpaaaGreat
namespace Go.Proofs.YtamgimdjnmcpaaaGreat
open Go.RowKit

theorem sum_le5 : ∀ {L : List (List Int)}, (∀ r ∈ L, r.length ≤ 5) → sumLen L ≤ L.length * 5
  | [], _ => by simp [sumLen]
  | r :: L, h => by
    have h1 := sum_le5 (L := L) fun x hx => h x (List.mem_cons_of_mem _ hx)
    have h2 := h r (List.mem_cons_self ..)
    unfold sumLen at *
    rw [List.map_cons, List.sum_cons, List.length_cons]; omega
theorem Cv.natRows_len9 (C : List (List Nat)) : (Mp.natRows C).length = C.length := by simp [Mp.natRows]
theorem Cv.parts_tot (L : List (List Int)) : tot (Cv.parts L) ≤ 1000000 := by
  unfold Cv.parts
  split
  · rename_i hP
    have h5 := hP.2.2.2.2
    have hlen : (Cv.partsN L).length ≤ 5 := Nat.le_trans (Cv.pTo_len (Cv.lab L) (Cv.deg L) (Cv.deg L)) h5
    have hr : ∀ r ∈ Mp.natRows (Cv.partsN L), r.length ≤ 5 := fun r hr => by
      unfold Mp.natRows at hr
      obtain ⟨c, hc, rfl⟩ := List.mem_map.1 hr
      rw [List.length_map]
      unfold Cv.partsN Cv.classes at hc
      obtain ⟨s, _, rfl⟩ := List.mem_map.1 hc
      exact Nat.le_trans (Cv.mTo_len (Cv.lab L) s (Cv.deg L)) h5
    have := sum_le5 hr
    unfold tot
    rw [Cv.natRows_len9] at *
    omega
  · unfold tot sumLen; simp
end Go.Proofs.YtamgimdjnmcpaaaGreat
