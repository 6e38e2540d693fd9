/-
  The walks of the program's productOf, inverseOf and IsPassport. The walks of the program's CloseUp, BraidPassport, exchangeOfMates and MapPassport. The walks of the model's l10Letters, IsPassport, BranchSum and CloseUp.
-/
import Derived.Test.YtamgimdjnmcpaaaGreatBase
import Derived.Test.YtamgimdjnmcpaaaGreatSlice
import Derived.Test.YtamgimdjnmcpaaaGreatIntRow
import Derived.Test.YtamgimdjnmcpaaaGreatInts
import Derived.Test.YtamgimdjnmcpaaaGreatOwn
import Derived.Test.YtamgimdjnmcpaaaGreatWord
import Derived.Test.YtamgimdjnmcpaaaGreatSame
import Derived.Test.YtamgimdjnmcpaaaGreatGrid
import Derived.Test.YtamgimdjnmcpaaaGreatClass
import Derived.Test.YtamgimdjnmcpaaaGreatLab
import Derived.Test.YtamgimdjnmcpaaaGreatMap
import Derived.Test.YtamgimdjnmcpaaaGreatMoveA
import Derived.Test.YtamgimdjnmcpaaaGreatCovA
import Derived.Test.YtamgimdjnmcpaaaGreatCov
import Derived.Deep.QuietTactic
import Derived.Deep.RegionHeld3
import Derived.BigQuiet
import Derived.StillTailTactics
import Derived.Test.YtamgimdjnmcpaaaGreatAppend
import Derived.Test.YtamgimdjnmcpaaaGreatGridWalk
import Derived.Test.YtamgimdjnmcpaaaGreatGridRows
import Derived.Test.YtamgimdjnmcpaaaGreatMapA
import Derived.Test.YtamgimdjnmcpaaaGreatIsWord
import Derived.Test.YtamgimdjnmcpaaaGreatMapB
namespace Go.Proofs.YtamgimdjnmcpaaaGreat
open Go.RowKit

def Br.half (p : List Int) (c : Nat → Nat) (i : Nat) : Nat → Nat := fun k => if k < i then Mp.at_ p (c k) else c k
theorem Br.half_at (p : List Int) (c : Nat → Nat) (i : Nat) : Br.half p c i i = c i := by simp [Br.half]
theorem Br.half_put (p : List Int) (c : Nat → Nat) (i k : Nat) : (if k = i then Mp.at_ p (c i) else Br.half p c i k) = Br.half p c (i + 1) k := by
  unfold Br.half
  by_cases e : k = i
  · subst e; rw [if_pos rfl, if_pos (by omega)]
  · rw [if_neg e]
    by_cases e2 : k < i
    · rw [if_pos e2, if_pos (by omega)]
    · rw [if_neg e2, if_neg (by omega)]
end Go.Proofs.YtamgimdjnmcpaaaGreat
namespace Go.Proofs.YtamgimdjnmcpaaaGreat
open Go.RowKit

theorem Br.perms_tot {L : List (List Int)} (h : Cv.Perms L) : tot L ≤ 1048576 := by
  have h1 : ∀ (M : List (List Int)), (∀ p ∈ M, p.length ≤ 5) → sumLen M ≤ M.length * 5 := by
    intro M
    induction M with
    | nil => intro _; simp [sumLen]
    | cons p M ih =>
      intro hM
      have e : sumLen (p :: M) = p.length + sumLen M := by simp [sumLen]
      have := hM p (List.mem_cons_self ..)
      have := ih fun q hq => hM q (List.mem_cons_of_mem _ hq)
      rw [e, List.length_cons]; omega
  have := h1 L fun p hp => by rw [(h.1 p hp).1]; exact h.2.2.2.2
  have := h.2.2.1
  unfold tot; omega
end Go.Proofs.YtamgimdjnmcpaaaGreat
namespace Go.Proofs.YtamgimdjnmcpaaaGreat
open Go.RowKit

theorem Br.whole_prod {L : List (List Int)} (h : Cv.Perms L) : Cv.Whole (Br.prod L (Cv.deg L)) ↔ ∀ s, s < Cv.deg L → Br.mul L s = s := by
  unfold Cv.Whole
  rw [Br.prod_len]
  have hg : ∀ k, k < Cv.deg L → (Br.prod L (Cv.deg L)).getD k 0 = ((Br.mul L k : Nat) : Int) := fun k hk => by
    unfold Br.prod; exact Cls.row_getD hk
  constructor
  · rintro ⟨_, hw⟩ s hs
    have := hw s hs
    rw [hg s hs] at this; omega
  · intro hw
    exact ⟨by have := h.2.2.2.1; omega, fun k hk => by rw [hg k hk, hw k hk]⟩
end Go.Proofs.YtamgimdjnmcpaaaGreat
