/-
  The walks of the program's and the model's IsGluing.
-/
import Derived.Test.YtamgimdjnmcpaaaDoorBase
import Derived.Test.YtamgimdjnmcpaaaDoorSlice
import Derived.Test.YtamgimdjnmcpaaaDoorInts
import Derived.Test.YtamgimdjnmcpaaaDoorWord
import Derived.Test.YtamgimdjnmcpaaaDoorGrid
import Derived.Test.YtamgimdjnmcpaaaDoorGlue
import Derived.Test.YtamgimdjnmcpaaaDoorIsWord
import Derived.Test.YtamgimdjnmcpaaaDoorUses
import Derived.Test.YtamgimdjnmcpaaaDoorUses2
namespace Go.Proofs.YtamgimdjnmcpaaaDoor
open Go.RowKit


namespace Glue
theorem isG_uses {L : List (List Int)} (h1 : 1 ≤ L.length) (h2 : L.length ≤ 4) (h3 : ∀ p ∈ L, RowOk p) (h4 : sumLen L ≤ 20) : decide (IsG L) = decide (∀ n ∈ uses L, n ≤ 2) :=
  decide_eq_decide.2 ⟨fun h => h.2.2.2.2, fun h => ⟨h1, h2, h3, h4, h⟩⟩
theorem bad_use {L : List (List Int)} {k : Nat} (hk : k < 9) (h : ¬ (uses L).getD k 0 ≤ 2) : decide (IsG L) = false :=
  decide_eq_false fun hg => h (by
    have hk' : k < (uses L).length := by rw [uses_len]; exact hk
    rw [← uses_at k hk']; exact hg.2.2.2.2 _ (List.getElem_mem hk'))
theorem good_uses {L : List (List Int)} (h1 : 1 ≤ L.length) (h2 : L.length ≤ 4) (h3 : ∀ p ∈ L, RowOk p) (h4 : sumLen L ≤ 20) (h : ∀ k, k < 9 → (uses L).getD k 0 ≤ 2) : decide (IsG L) = true :=
  decide_eq_true ⟨h1, h2, h3, h4, all_small fun k hk h9 => by rw [uses_at k hk]; exact h k h9⟩
theorem not_len {L : List (List Int)} (h : ¬ (1 ≤ L.length ∧ L.length ≤ 4)) : decide (IsG L) = false := decide_eq_false fun hg => h ⟨hg.1, hg.2.1⟩
theorem not_sum {L : List (List Int)} (h : ¬ sumLen L ≤ 20) : decide (IsG L) = false := decide_eq_false fun hg => h hg.2.2.2.1
theorem sum_small {L : List (List Int)} {i : Nat} (h : ∀ j (hj : j < L.length), j < i → RowOk L[j]) : sumLen (L.take i) ≤ 24 * i := by
  induction i with
  | zero => simp [sumLen]
  | succ i ih =>
    have h1 := ih (fun j hj hji => h j hj (by omega))
    by_cases hlt : i < L.length
    · rw [sumLen_take hlt]
      have := (h i hlt (by omega)).2.2
      omega
    · rw [List.take_of_length_le (by omega)] at h1 ⊢
      omega
end Glue


theorem tot_parts {L : List (List Int)} (hl : tot L ≤ 1048576) : L.length ≤ 2000000 ∧ sumLen L ≤ 60000000 ∧ ∀ r ∈ L, r.length ≤ 1048576 := by
  unfold tot at hl
  refine ⟨by omega, by omega, fun r hr => ?_⟩
  obtain ⟨i, hi, rfl⟩ := List.mem_iff_getElem.1 hr
  have := len_le_sumLen hi
  omega
end Go.Proofs.YtamgimdjnmcpaaaDoor
