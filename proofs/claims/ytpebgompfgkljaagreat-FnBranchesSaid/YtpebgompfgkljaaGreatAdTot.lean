/-
  Rows that are few are short. The contracts of branched coverings in the form that their exact laws ask for.
-/
import Derived.Test.YtpebgompfgkljaaGreatBase
import Derived.Test.YtpebgompfgkljaaGreatSlice
import Derived.Test.YtpebgompfgkljaaGreatInts
import Derived.Test.YtpebgompfgkljaaGreatOwn
import Derived.Test.YtpebgompfgkljaaGreatGrid
import Derived.Test.YtpebgompfgkljaaGreatGridRows
import Derived.Test.YtpebgompfgkljaaGreatCov
namespace Go.Proofs.YtpebgompfgkljaaGreat
open Go.RowKit

theorem tot_rows {L : List (List Int)} (h : tot L ≤ 1048576) : (∀ p ∈ L, p.length ≤ 1048576) ∧ L.length ≤ 1048576 := by
  unfold tot at h
  refine ⟨fun p hp => ?_, by omega⟩
  obtain ⟨i, hi, rfl⟩ := List.mem_iff_getElem.1 hp
  have := len_le_sumLen hi; omega
end Go.Proofs.YtpebgompfgkljaaGreat
namespace Go.Proofs.YtpebgompfgkljaaGreat
open Go.RowKit

namespace Br
theorem few_tot {L : List (List Int)} (h : L.length ≤ 5) (h2 : ∀ p ∈ L, p.length ≤ 5) : tot L ≤ 1000000 := by
  have h1 : ∀ (M : List (List Int)), (∀ p ∈ M, p.length ≤ 5) → sumLen M ≤ M.length * 5 := by
    intro M
    induction M with
    | nil => intro _; simp [sumLen]
    | cons p M ih =>
      intro hM
      have e : sumLen (p :: M) = p.length + sumLen M := by simp [sumLen]
      have := hM p (List.mem_cons_self ..)
      have := ih fun q hq => hM q (List.mem_cons_of_mem _ hq)
      rw [e, List.length_cons]; omega
  have := h1 L h2
  unfold tot; omega
theorem closed_tot (L : List (List Int)) : tot (closed L) ≤ 1000000 := few_tot (closed_few L).1 (closed_few L).2
theorem map_tot (m : List Int) : tot (mapPass m) ≤ 1000000 := by
  unfold mapPass; split
  · exact closed_tot _
  · exact few_tot (by simp) (fun p hp => by cases hp)
theorem types_tot (L : List (List Int)) : tot (types L) ≤ 1000000 := by
  unfold types; split
  · rename_i h
    refine few_tot (by rw [List.length_map]; exact h.1) fun q hq => ?_
    obtain ⟨p, hp, rfl⟩ := List.mem_map.1 hq
    rw [lens_len]
    have := cycles_le (p := p)
    have := (h.2.1.1 p hp).1
    have := h.2.1.2.2.2.2
    omega
  · exact few_tot (by simp) (fun p hp => by cases hp)
theorem braid_tot (L : List (List Int)) (k : Int) : tot (braid L k) ≤ 1000000 := by
  unfold braid; split
  · rename_i h
    have hf := (braid_facts (k := k.toNat) h.1 (by have := h.2; omega)).1
    exact few_tot hf.1 fun p hp => by rw [(hf.2.1.1 p hp).1]; exact hf.2.1.2.2.2.2
  · exact few_tot (by simp) (fun p hp => by cases hp)
end Br
end Go.Proofs.YtpebgompfgkljaaGreat
