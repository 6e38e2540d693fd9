/-
  The contracts of chapter 11 in the form that its exact laws ask for.
-/
import Derived.Test.YtamgimdjnmcpaabDoorBase
import Derived.Test.YtamgimdjnmcpaabDoorSlice
import Derived.Test.YtamgimdjnmcpaabDoorIntRow
import Derived.Test.YtamgimdjnmcpaabDoorInts
import Derived.Test.YtamgimdjnmcpaabDoorOwn
import Derived.Test.YtamgimdjnmcpaabDoorGrid
import Derived.Test.YtamgimdjnmcpaabDoorGridRows
import Derived.Test.YtamgimdjnmcpaabDoorGivesRows
import Derived.Test.YtamgimdjnmcpaabDoorReadInts
import Derived.Test.YtamgimdjnmcpaabDoorTw
import Derived.Test.YtamgimdjnmcpaabDoorTwErr
import Derived.Test.YtamgimdjnmcpaabDoorTwA
import Derived.Test.YtamgimdjnmcpaabDoorTwB
import Derived.Test.YtamgimdjnmcpaabDoorTwC
import Derived.Test.YtamgimdjnmcpaabDoorTwD
import Derived.Test.YtamgimdjnmcpaabDoorTwE
import Derived.Test.YtamgimdjnmcpaabDoorTwF
import Derived.Test.YtamgimdjnmcpaabDoorTwG
import Derived.Test.YtamgimdjnmcpaabDoorTwS
import Derived.Test.YtamgimdjnmcpaabDoorTwT
import Derived.Test.YtamgimdjnmcpaabDoorTwU
namespace Go.Proofs.YtamgimdjnmcpaabDoor
open Go.RowKit

theorem Tw.twist_few (g : Int) (c x : List Int) (k : Int) : (Tw.twist g c x k).length ≤ 1000000 := by
  by_cases h : Tw.TwOk g c x k
  · rw [Tw.twist_len (decide_eq_true h)]; have := h.1.2.len; omega
  · rw [Tw.twist_none h]; simp
theorem Tw.apply_few (T : List (List Int)) (x : List Int) : (Tw.apply T x).length ≤ 1000000 := by
  by_cases h : Tw.AppOk T x
  · rw [Tw.apply_len (decide_eq_true h)]; have := h.1.1.1.2; omega
  · rw [Tw.apply_none h]; simp
theorem Tw.Few.tot {T : List (List Int)} (h : Tw.Few T) : tot T ≤ 1000000 := by
  have hs : ∀ M : List (List Int), (∀ r ∈ M, r.length ≤ 6) → sumLen M ≤ 6 * M.length := by
    intro M
    induction M with
    | nil => intro _; simp [sumLen]
    | cons r M ih =>
      intro h
      have h1 := h r (List.mem_cons_self ..)
      have h2 := ih fun q hq => h q (List.mem_cons_of_mem _ hq)
      have e : sumLen (r :: M) = r.length + sumLen M := by simp [sumLen]
      rw [e, List.length_cons]; omega
  have := hs T h.2
  have := h.1
  unfold Go.Proofs.YtamgimdjnmcpaabDoor.tot; omega
theorem fnExactBraidHolds.spec_BraidHolds (vG : Int) (aC : Option Addr) (cC : Nat) (lC : List Int) (aD : Option Addr) (cD : Nat) (lD : List Int) (w : World) (hG0 : -9223372036854775808 ≤ vG) (hG1 : vG ≤ 9223372036854775807) (hC : RowAt w aC (intCells lC)) (kC : lC.length ≤ 1048576) (hD : RowAt w aD (intCells lD)) (kD : lD.length ≤ 1048576) :
    Calls Tryd.prog 5 #[.int .i64 vG, .slice aC lC.length cC, .slice aD lD.length cD] w fun e w' => e = .returned (.bool (decide (Tw.Braid vG lC lD))) ∧ Below w.heap.size w w' := Go.Proofs.YtamgimdjnmcpaabDoor.spec_BraidHolds vG aC cC lC aD cD lD w hC kC hD kD
theorem fnExactBraidHolds.impl_BraidHolds (vG : Int) (aC : Option Addr) (cC : Nat) (lC : List Int) (aD : Option Addr) (cD : Nat) (lD : List Int) (w : World) (hsW : Errs w) (hG0 : -9223372036854775808 ≤ vG) (hG1 : vG ≤ 9223372036854775807) (hC : RowAt w aC (intCells lC)) (kC : lC.length ≤ 1048576) (hD : RowAt w aD (intCells lD)) (kD : lD.length ≤ 1048576) :
    Calls Tryd.prog 7 #[.int .i64 vG, .slice aC lC.length cC, .slice aD lD.length cD] w fun e w' => e = .returned (.bool (decide (Tw.Braid vG lC lD))) ∧ Below w.heap.size w w' := Go.Proofs.YtamgimdjnmcpaabDoor.impl_BraidHolds vG aC cC lC aD cD lD w hsW hC kC hD kD
theorem fnExactCommuteHolds.spec_CommuteHolds (vG : Int) (aC : Option Addr) (cC : Nat) (lC : List Int) (aD : Option Addr) (cD : Nat) (lD : List Int) (w : World) (hG0 : -9223372036854775808 ≤ vG) (hG1 : vG ≤ 9223372036854775807) (hC : RowAt w aC (intCells lC)) (kC : lC.length ≤ 1048576) (hD : RowAt w aD (intCells lD)) (kD : lD.length ≤ 1048576) :
    Calls Tryd.prog 9 #[.int .i64 vG, .slice aC lC.length cC, .slice aD lD.length cD] w fun e w' => e = .returned (.bool (decide (Tw.Comm vG lC lD))) ∧ Below w.heap.size w w' := Go.Proofs.YtamgimdjnmcpaabDoor.spec_CommuteHolds vG aC cC lC aD cD lD w hC kC hD kD
theorem fnExactCommuteHolds.impl_CommuteHolds (vG : Int) (aC : Option Addr) (cC : Nat) (lC : List Int) (aD : Option Addr) (cD : Nat) (lD : List Int) (w : World) (hsW : Errs w) (hG0 : -9223372036854775808 ≤ vG) (hG1 : vG ≤ 9223372036854775807) (hC : RowAt w aC (intCells lC)) (kC : lC.length ≤ 1048576) (hD : RowAt w aD (intCells lD)) (kD : lD.length ≤ 1048576) :
    Calls Tryd.prog 10 #[.int .i64 vG, .slice aC lC.length cC, .slice aD lD.length cD] w fun e w' => e = .returned (.bool (decide (Tw.Comm vG lC lD))) ∧ Below w.heap.size w w' := Go.Proofs.YtamgimdjnmcpaabDoor.impl_CommuteHolds vG aC cC lC aD cD lD w hsW hC kC hD kD
end Go.Proofs.YtamgimdjnmcpaabDoor
