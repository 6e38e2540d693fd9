/-
  The contracts of chapter 8 in the form in which the exact laws take them.
-/
import Derived.Test.YtfaagbmaekoogaaGrpA
import Derived.Test.YtfaagbmaekoogaaGrpC
import Derived.Test.YtfaagbmaekoogaaGrpD
import Derived.Test.YtfaagbmaekoogaaGrpE
import Derived.Test.YtfaagbmaekoogaaGrpF
import Derived.Test.YtfaagbmaekoogaaGrpG
namespace Go.Proofs.Ytfaagbmaekoogaa
open Go.RowKit

theorem fnExactRelator.spec_Relator (g : Int) (w : World) (_ : -9223372036854775808 ≤ g) (_ : g ≤ 9223372036854775807) : Calls Try.prog 59 #[.int .i64 g] w fun e w' => Gives w (Dn.rel g) e w' := Go.Proofs.Ytfaagbmaekoogaa.spec_Relator g w
theorem fnExactRelator.impl_Relator (g : Int) (w : World) (_ : -9223372036854775808 ≤ g) (_ : g ≤ 9223372036854775807) : Calls Try.prog 58 #[.int .i64 g] w fun e w' => Gives w (Dn.rel g) e w' := Go.Proofs.Ytfaagbmaekoogaa.impl_Relator g w
theorem fnExactDehnStep.spec_DehnStep (g : Int) (a : Option Addr) (c : Nat) (l : List Int) (w : World) (_ : -9223372036854775808 ≤ g) (_ : g ≤ 9223372036854775807) (ha : RowAt w a (intCells l)) (hl : l.length ≤ 1048576) :
    Calls Try.prog 48 #[.int .i64 g, .slice a l.length c] w fun e w' => Gives2 w ((Dn.stepW g l).getD []) (Dn.stepW g l).isSome e w' := Go.Proofs.Ytfaagbmaekoogaa.spec_DehnStep g a c l w ha hl
theorem fnExactDehnStep.impl_DehnStep (g : Int) (a : Option Addr) (c : Nat) (l : List Int) (w : World) (_ : -9223372036854775808 ≤ g) (_ : g ≤ 9223372036854775807) (ha : RowAt w a (intCells l)) (hl : l.length ≤ 1048576) :
    Calls Try.prog 47 #[.int .i64 g, .slice a l.length c] w fun e w' => Gives2 w ((Dn.stepW g l).getD []) (Dn.stepW g l).isSome e w' := Go.Proofs.Ytfaagbmaekoogaa.impl_DehnStep g a c l w ha hl
theorem fnExactDehnWord.spec_DehnWord (g : Int) (a : Option Addr) (c : Nat) (l : List Int) (w : World) (_ : -9223372036854775808 ≤ g) (_ : g ≤ 9223372036854775807) (ha : RowAt w a (intCells l)) (hl : l.length ≤ 1048576) :
    Calls Try.prog 60 #[.int .i64 g, .slice a l.length c] w fun e w' => Gives w (Dn.dehnW g l) e w' := Go.Proofs.Ytfaagbmaekoogaa.spec_DehnWord g a c l w ha hl
theorem fnExactDehnWord.impl_DehnWord (g : Int) (a : Option Addr) (c : Nat) (l : List Int) (w : World) (_ : -9223372036854775808 ≤ g) (_ : g ≤ 9223372036854775807) (ha : RowAt w a (intCells l)) (hl : l.length ≤ 1048576) :
    Calls Try.prog 52 #[.int .i64 g, .slice a l.length c] w fun e w' => Gives w (Dn.dehnW g l) e w' := Go.Proofs.Ytfaagbmaekoogaa.impl_DehnWord g a c l w ha hl
theorem fnExactIsTrivialWord.spec_IsTrivialWord (g : Int) (a : Option Addr) (c : Nat) (l : List Int) (w : World) (_ : -9223372036854775808 ≤ g) (_ : g ≤ 9223372036854775807) (ha : RowAt w a (intCells l)) (hl : l.length ≤ 1048576) :
    Calls Try.prog 62 #[.int .i64 g, .slice a l.length c] w fun e w' => e = .returned (.bool (decide (Dn.TrivW g l))) ∧ Below w.heap.size w w' := Go.Proofs.Ytfaagbmaekoogaa.spec_IsTrivialWord g a c l w ha hl
theorem fnExactIsTrivialWord.impl_IsTrivialWord (g : Int) (a : Option Addr) (c : Nat) (l : List Int) (w : World) (_ : -9223372036854775808 ≤ g) (_ : g ≤ 9223372036854775807) (ha : RowAt w a (intCells l)) (hl : l.length ≤ 1048576) :
    Calls Try.prog 61 #[.int .i64 g, .slice a l.length c] w fun e w' => e = .returned (.bool (decide (Dn.TrivW g l))) ∧ Below w.heap.size w w' := Go.Proofs.Ytfaagbmaekoogaa.impl_IsTrivialWord g a c l w ha (by omega)
theorem fnExactHomologyOf.spec_HomologyOf (g : Int) (a : Option Addr) (c : Nat) (l : List Int) (w : World) (_ : -9223372036854775808 ≤ g) (_ : g ≤ 9223372036854775807) (ha : RowAt w a (intCells l)) (hl : l.length ≤ 1048576) :
    Calls Try.prog 64 #[.int .i64 g, .slice a l.length c] w fun e w' => Gives w (Dn.homW g l) e w' := Go.Proofs.Ytfaagbmaekoogaa.spec_HomologyOf g a c l w ha hl
theorem fnExactHomologyOf.impl_HomologyOf (g : Int) (a : Option Addr) (c : Nat) (l : List Int) (w : World) (_ : -9223372036854775808 ≤ g) (_ : g ≤ 9223372036854775807) (ha : RowAt w a (intCells l)) (hl : l.length ≤ 1048576) :
    Calls Try.prog 63 #[.int .i64 g, .slice a l.length c] w fun e w' => Gives w (Dn.homW g l) e w' := Go.Proofs.Ytfaagbmaekoogaa.impl_HomologyOf g a c l w ha hl
theorem fnExactAreEqualWords.spec_AreEqualWords (g : Int) (a1 : Option Addr) (c1 : Nat) (v : List Int) (a2 : Option Addr) (c2 : Nat) (u : List Int) (w : World) (_ : -9223372036854775808 ≤ g) (_ : g ≤ 9223372036854775807) (ha1 : RowAt w a1 (intCells v)) (hl1 : v.length ≤ 1048576) (ha2 : RowAt w a2 (intCells u)) (hl2 : u.length ≤ 1048576) :
    Calls Try.prog 55 #[.int .i64 g, .slice a1 v.length c1, .slice a2 u.length c2] w fun e w' => e = .returned (.bool (decide (Dn.EqualW g v u))) ∧ Below w.heap.size w w' := Go.Proofs.Ytfaagbmaekoogaa.spec_AreEqualWords g a1 a2 c1 c2 v u w ha1 ha2 hl1 hl2
theorem fnExactAreEqualWords.impl_AreEqualWords (g : Int) (a1 : Option Addr) (c1 : Nat) (v : List Int) (a2 : Option Addr) (c2 : Nat) (u : List Int) (w : World) (_ : -9223372036854775808 ≤ g) (_ : g ≤ 9223372036854775807) (ha1 : RowAt w a1 (intCells v)) (hl1 : v.length ≤ 1048576) (ha2 : RowAt w a2 (intCells u)) (hl2 : u.length ≤ 1048576) :
    Calls Try.prog 54 #[.int .i64 g, .slice a1 v.length c1, .slice a2 u.length c2] w fun e w' => e = .returned (.bool (decide (Dn.EqualW g v u))) ∧ Below w.heap.size w w' := Go.Proofs.Ytfaagbmaekoogaa.impl_AreEqualWords g a1 a2 c1 c2 v u w ha1 ha2 (by omega) (by omega)
theorem fnExactCommuteIn.spec_CommuteIn (g : Int) (a1 : Option Addr) (c1 : Nat) (v : List Int) (a2 : Option Addr) (c2 : Nat) (u : List Int) (w : World) (_ : -9223372036854775808 ≤ g) (_ : g ≤ 9223372036854775807) (ha1 : RowAt w a1 (intCells v)) (hl1 : v.length ≤ 1048576) (ha2 : RowAt w a2 (intCells u)) (hl2 : u.length ≤ 1048576) :
    Calls Try.prog 57 #[.int .i64 g, .slice a1 v.length c1, .slice a2 u.length c2] w fun e w' => e = .returned (.bool (decide (Dn.CommW g v u))) ∧ Below w.heap.size w w' := Go.Proofs.Ytfaagbmaekoogaa.spec_CommuteIn g a1 a2 c1 c2 v u w ha1 ha2 hl1 hl2
theorem fnExactCommuteIn.impl_CommuteIn (g : Int) (a1 : Option Addr) (c1 : Nat) (v : List Int) (a2 : Option Addr) (c2 : Nat) (u : List Int) (w : World) (_ : -9223372036854775808 ≤ g) (_ : g ≤ 9223372036854775807) (ha1 : RowAt w a1 (intCells v)) (hl1 : v.length ≤ 1048576) (ha2 : RowAt w a2 (intCells u)) (hl2 : u.length ≤ 1048576) :
    Calls Try.prog 56 #[.int .i64 g, .slice a1 v.length c1, .slice a2 u.length c2] w fun e w' => e = .returned (.bool (decide (Dn.CommW g v u))) ∧ Below w.heap.size w w' := Go.Proofs.Ytfaagbmaekoogaa.impl_CommuteIn g a1 a2 c1 c2 v u w ha1 ha2 hl1 hl2
theorem Dn.stepW_len (g : Int) (l : List Int) : ((Dn.stepW g l).getD []).length ≤ 1000000 := by
  unfold Dn.stepW
  by_cases h : Dn.Fit g l
  · rw [if_pos h]
    cases hs : Dn.step g (Word.red l) with
    | none => simp
    | some r =>
      have := Dn.step_len h.1 hs
      have := h.red.2.1.2
      simp only [Option.getD_some]; omega
  · rw [if_neg h]; simp
theorem Dn.dehnW_len (g : Int) (l : List Int) : (Dn.dehnW g l).length ≤ 1000000 := by
  unfold Dn.dehnW
  by_cases h : Dn.Fit g l
  · rw [if_pos h]
    have := Dn.dehn_len h.1 _ (Word.red l) (Nat.le_refl _)
    have := h.red.2.1.2
    omega
  · rw [if_neg h]; simp
theorem Dn.homW_len (g : Int) (l : List Int) : (Dn.homW g l).length ≤ 1000000 := by
  unfold Dn.homW
  by_cases h : Dn.Fit g l
  · rw [if_pos h, List.length_take, Word.sums_len]; omega
  · rw [if_neg h]; simp
end Go.Proofs.Ytfaagbmaekoogaa
