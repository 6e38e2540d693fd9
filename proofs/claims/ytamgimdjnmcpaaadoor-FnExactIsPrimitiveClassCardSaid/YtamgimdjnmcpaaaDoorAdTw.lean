/-
  The contracts of chapter 11 in the form that its exact laws ask for.
-/
import Derived.Test.YtamgimdjnmcpaaaDoorBase
import Derived.Test.YtamgimdjnmcpaaaDoorSlice
import Derived.Test.YtamgimdjnmcpaaaDoorIntRow
import Derived.Test.YtamgimdjnmcpaaaDoorInts
import Derived.Test.YtamgimdjnmcpaaaDoorOwn
import Derived.Test.YtamgimdjnmcpaaaDoorGrid
import Derived.Test.YtamgimdjnmcpaaaDoorGridRows
import Derived.Test.YtamgimdjnmcpaaaDoorGivesRows
import Derived.Test.YtamgimdjnmcpaaaDoorReadInts
import Derived.Test.YtamgimdjnmcpaaaDoorTw
import Derived.Test.YtamgimdjnmcpaaaDoorTwErr
import Derived.Test.YtamgimdjnmcpaaaDoorTwA
import Derived.Test.YtamgimdjnmcpaaaDoorTwB
import Derived.Test.YtamgimdjnmcpaaaDoorTwC
import Derived.Test.YtamgimdjnmcpaaaDoorTwD
import Derived.Test.YtamgimdjnmcpaaaDoorTwE
import Derived.Test.YtamgimdjnmcpaaaDoorTwF
import Derived.Test.YtamgimdjnmcpaaaDoorTwG
import Derived.Test.YtamgimdjnmcpaaaDoorTwS
import Derived.Test.YtamgimdjnmcpaaaDoorTwT
import Derived.Test.YtamgimdjnmcpaaaDoorTwU
namespace Go.Proofs.YtamgimdjnmcpaaaDoor
open Go.RowKit

theorem Tw.twist_few (g : Int) (c x : List Int) (k : Int) : (Tw.twist g c x k).length ≤ 1000000 := by
  by_cases h : Tw.TwOk g c x k
  · rw [Tw.twist_len (decide_eq_true h)]; have := h.1.2.len; omega
  · rw [Tw.twist_none h]; simp
theorem Tw.apply_few (T : List (List Int)) (x : List Int) : (Tw.apply T x).length ≤ 1000000 := by
  by_cases h : Tw.AppOk T x
  · rw [Tw.apply_len (decide_eq_true h)]; have := h.1.1.1.2; omega
  · rw [Tw.apply_none h]; simp
theorem Tw.Few.tot {T : List (List Int)} (h : Tw.Few T) : tot T ≤ 1000000 := by
  have hs : ∀ M : List (List Int), (∀ r ∈ M, r.length ≤ 6) → sumLen M ≤ 6 * M.length := by
    intro M
    induction M with
    | nil => intro _; simp [sumLen]
    | cons r M ih =>
      intro h
      have h1 := h r (List.mem_cons_self ..)
      have h2 := ih fun q hq => h q (List.mem_cons_of_mem _ hq)
      have e : sumLen (r :: M) = r.length + sumLen M := by simp [sumLen]
      rw [e, List.length_cons]; omega
  have := hs T h.2
  have := h.1
  unfold Go.Proofs.YtamgimdjnmcpaaaDoor.tot; omega
theorem fnExactIsClass.spec_IsClass (vG : Int) (aX : Option Addr) (cX : Nat) (lX : List Int) (w : World) (hG0 : -9223372036854775808 ≤ vG) (hG1 : vG ≤ 9223372036854775807) (hX : RowAt w aX (intCells lX)) (kX : lX.length ≤ 1048576) :
    Calls Tryd.prog 33 #[.int .i64 vG, .slice aX lX.length cX] w fun e w' => e = .returned (.bool (decide (Tw.IsC vG lX))) ∧ Below w.heap.size w w' := (Go.Proofs.YtamgimdjnmcpaaaDoor.spec_IsClass vG aX cX lX w hX kX).mono fun _ _ h => ⟨h.1, by rw [h.2]; exact Below.refl _ _⟩
theorem fnExactIsClass.impl_IsClass (vG : Int) (aX : Option Addr) (cX : Nat) (lX : List Int) (w : World) (hsW : Errs w) (hG0 : -9223372036854775808 ≤ vG) (hG1 : vG ≤ 9223372036854775807) (hX : RowAt w aX (intCells lX)) (kX : lX.length ≤ 1048576) :
    Calls Tryd.prog 32 #[.int .i64 vG, .slice aX lX.length cX] w fun e w' => e = .returned (.bool (decide (Tw.IsC vG lX))) ∧ Below w.heap.size w w' := Go.Proofs.YtamgimdjnmcpaaaDoor.impl_IsClass vG aX cX lX w hsW hX kX
theorem fnExactFormOf.spec_FormOf (vG : Int) (aX : Option Addr) (cX : Nat) (lX : List Int) (aY : Option Addr) (cY : Nat) (lY : List Int) (w : World) (hG0 : -9223372036854775808 ≤ vG) (hG1 : vG ≤ 9223372036854775807) (hX : RowAt w aX (intCells lX)) (kX : lX.length ≤ 1048576) (hY : RowAt w aY (intCells lY)) (kY : lY.length ≤ 1048576) :
    Calls Tryd.prog 31 #[.int .i64 vG, .slice aX lX.length cX, .slice aY lY.length cY] w fun e w' => e = .returned (.int .i64 (Tw.formOf vG lX lY)) ∧ Below w.heap.size w w' := Go.Proofs.YtamgimdjnmcpaaaDoor.spec_FormOf vG aX cX lX aY cY lY w hX kX hY kY
theorem fnExactFormOf.impl_FormOf (vG : Int) (aX : Option Addr) (cX : Nat) (lX : List Int) (aY : Option Addr) (cY : Nat) (lY : List Int) (w : World) (hsW : Errs w) (hG0 : -9223372036854775808 ≤ vG) (hG1 : vG ≤ 9223372036854775807) (hX : RowAt w aX (intCells lX)) (kX : lX.length ≤ 1048576) (hY : RowAt w aY (intCells lY)) (kY : lY.length ≤ 1048576) :
    Calls Tryd.prog 26 #[.int .i64 vG, .slice aX lX.length cX, .slice aY lY.length cY] w fun e w' => e = .returned (.int .i64 (Tw.formOf vG lX lY)) ∧ Below w.heap.size w w' := Go.Proofs.YtamgimdjnmcpaaaDoor.impl_FormOf vG aX cX lX aY cY lY w hsW hX kX hY kY
theorem fnExactTwistClass.spec_TwistClass (vG : Int) (aC : Option Addr) (cC : Nat) (lC : List Int) (aX : Option Addr) (cX : Nat) (lX : List Int) (vK : Int) (w : World) (hG0 : -9223372036854775808 ≤ vG) (hG1 : vG ≤ 9223372036854775807) (hC : RowAt w aC (intCells lC)) (kC : lC.length ≤ 1048576) (hX : RowAt w aX (intCells lX)) (kX : lX.length ≤ 1048576) (hK0 : -9223372036854775808 ≤ vK) (hK1 : vK ≤ 9223372036854775807) :
    Calls Tryd.prog 16 #[.int .i64 vG, .slice aC lC.length cC, .slice aX lX.length cX, .int .i64 vK] w fun e w' => Gives2 w (Tw.twist vG lC lX vK) (decide (Tw.TwOk vG lC lX vK)) e w' := Go.Proofs.YtamgimdjnmcpaaaDoor.spec_TwistClass vG aC cC lC aX cX lX vK w hC kC hX kX
theorem fnExactTwistClass.impl_TwistClass (vG : Int) (aC : Option Addr) (cC : Nat) (lC : List Int) (aX : Option Addr) (cX : Nat) (lX : List Int) (vK : Int) (w : World) (hsW : Errs w) (hG0 : -9223372036854775808 ≤ vG) (hG1 : vG ≤ 9223372036854775807) (hC : RowAt w aC (intCells lC)) (kC : lC.length ≤ 1048576) (hX : RowAt w aX (intCells lX)) (kX : lX.length ≤ 1048576) (hK0 : -9223372036854775808 ≤ vK) (hK1 : vK ≤ 9223372036854775807) :
    Calls Tryd.prog 15 #[.int .i64 vG, .slice aC lC.length cC, .slice aX lX.length cX, .int .i64 vK] w fun e w' => Gives2 w (Tw.twist vG lC lX vK) (decide (Tw.TwOk vG lC lX vK)) e w' := Go.Proofs.YtamgimdjnmcpaaaDoor.impl_TwistClass vG aC cC lC aX cX lX vK w hsW hC kC hX kX
theorem fnExactTwistMatrix.spec_TwistMatrix (vG : Int) (aC : Option Addr) (cC : Nat) (lC : List Int) (w : World) (hG0 : -9223372036854775808 ≤ vG) (hG1 : vG ≤ 9223372036854775807) (hC : RowAt w aC (intCells lC)) (kC : lC.length ≤ 1048576) :
    Calls Tryd.prog 18 #[.int .i64 vG, .slice aC lC.length cC] w fun e w' => GivesRows2 w (Tw.mat vG lC) (decide (Tw.MatOk vG lC)) e w' := Go.Proofs.YtamgimdjnmcpaaaDoor.spec_TwistMatrix vG aC cC lC w hC kC
theorem fnExactTwistMatrix.impl_TwistMatrix (vG : Int) (aC : Option Addr) (cC : Nat) (lC : List Int) (w : World) (hsW : Errs w) (hG0 : -9223372036854775808 ≤ vG) (hG1 : vG ≤ 9223372036854775807) (hC : RowAt w aC (intCells lC)) (kC : lC.length ≤ 1048576) :
    Calls Tryd.prog 17 #[.int .i64 vG, .slice aC lC.length cC] w fun e w' => GivesRows2 w (Tw.mat vG lC) (decide (Tw.MatOk vG lC)) e w' := Go.Proofs.YtamgimdjnmcpaaaDoor.impl_TwistMatrix vG aC cC lC w hsW hC kC
theorem fnExactApplyTable.spec_ApplyTable (aT : Option Addr) (cT : Nat) (lT : List (List Int)) (aX : Option Addr) (cX : Nat) (lX : List Int) (w : World) (hT : GridAt w aT lT) (kT : tot lT ≤ 1048576) (hX : RowAt w aX (intCells lX)) (kX : lX.length ≤ 1048576) :
    Calls Tryd.prog 21 #[.slice aT lT.length cT, .slice aX lX.length cX] w fun e w' => Gives2 w (Tw.apply lT lX) (decide (Tw.AppOk lT lX)) e w' := Go.Proofs.YtamgimdjnmcpaaaDoor.spec_ApplyTable aT cT lT aX cX lX w hT (tot_rows kT).2 (tot_rows kT).1 hX kX
theorem fnExactApplyTable.impl_ApplyTable (aT : Option Addr) (cT : Nat) (lT : List (List Int)) (aX : Option Addr) (cX : Nat) (lX : List Int) (w : World) (hsW : Errs w) (hT : GridAt w aT lT) (kT : tot lT ≤ 1048576) (hX : RowAt w aX (intCells lX)) (kX : lX.length ≤ 1048576) :
    Calls Tryd.prog 20 #[.slice aT lT.length cT, .slice aX lX.length cX] w fun e w' => Gives2 w (Tw.apply lT lX) (decide (Tw.AppOk lT lX)) e w' := Go.Proofs.YtamgimdjnmcpaaaDoor.impl_ApplyTable aT cT lT aX cX lX w hsW hT (tot_rows kT).2 (tot_rows kT).1 hX kX
theorem fnExactTimesTable.spec_TimesTable (aS : Option Addr) (cS : Nat) (lS : List (List Int)) (aT : Option Addr) (cT : Nat) (lT : List (List Int)) (w : World) (hS : GridAt w aS lS) (kS : tot lS ≤ 1048576) (hT : GridAt w aT lT) (kT : tot lT ≤ 1048576) :
    Calls Tryd.prog 24 #[.slice aS lS.length cS, .slice aT lT.length cT] w fun e w' => GivesRows2 w (Tw.times lS lT) (decide (Tw.TimesOk lS lT)) e w' := Go.Proofs.YtamgimdjnmcpaaaDoor.spec_TimesTable aS cS lS aT cT lT w hS (tot_rows kS).2 (tot_rows kS).1 hT (tot_rows kT).2 (tot_rows kT).1
theorem fnExactTimesTable.impl_TimesTable (aS : Option Addr) (cS : Nat) (lS : List (List Int)) (aT : Option Addr) (cT : Nat) (lT : List (List Int)) (w : World) (hsW : Errs w) (hS : GridAt w aS lS) (kS : tot lS ≤ 1048576) (hT : GridAt w aT lT) (kT : tot lT ≤ 1048576) :
    Calls Tryd.prog 23 #[.slice aS lS.length cS, .slice aT lT.length cT] w fun e w' => GivesRows2 w (Tw.times lS lT) (decide (Tw.TimesOk lS lT)) e w' := Go.Proofs.YtamgimdjnmcpaaaDoor.impl_TimesTable aS cS lS aT cT lT w hsW hS (tot_rows kS).2 (tot_rows kS).1 hT (tot_rows kT).2 (tot_rows kT).1
theorem fnExactIsPrimitiveClass.spec_IsPrimitiveClass (vG : Int) (aX : Option Addr) (cX : Nat) (lX : List Int) (w : World) (hG0 : -9223372036854775808 ≤ vG) (hG1 : vG ≤ 9223372036854775807) (hX : RowAt w aX (intCells lX)) (kX : lX.length ≤ 1048576) :
    Calls Tryd.prog 35 #[.int .i64 vG, .slice aX lX.length cX] w fun e w' => e = .returned (.bool (decide (Tw.Prim vG lX))) ∧ Below w.heap.size w w' := (Go.Proofs.YtamgimdjnmcpaaaDoor.spec_IsPrimitiveClass vG aX cX lX w hX kX).mono fun _ _ h => ⟨h.1, by rw [h.2]; exact Below.refl _ _⟩
theorem fnExactIsPrimitiveClass.impl_IsPrimitiveClass (vG : Int) (aX : Option Addr) (cX : Nat) (lX : List Int) (w : World) (hsW : Errs w) (hG0 : -9223372036854775808 ≤ vG) (hG1 : vG ≤ 9223372036854775807) (hX : RowAt w aX (intCells lX)) (kX : lX.length ≤ 1048576) :
    Calls Tryd.prog 34 #[.int .i64 vG, .slice aX lX.length cX] w fun e w' => e = .returned (.bool (decide (Tw.Prim vG lX))) ∧ Below w.heap.size w w' := Go.Proofs.YtamgimdjnmcpaaaDoor.impl_IsPrimitiveClass vG aX cX lX w hsW hX kX
end Go.Proofs.YtamgimdjnmcpaaaDoor
