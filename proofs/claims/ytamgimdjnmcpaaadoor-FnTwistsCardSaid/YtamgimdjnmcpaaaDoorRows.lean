/-
  NARROWER THAN 'FOR EVERY INPUT', by the rows' own cells (each row's printed sentence says how): FnTwists: ifaces, laid · FnExactIsClass: ifaces, laid · FnExactFormOf: ifaces, laid · FnExactTwistClass: ifaces, laid · FnExactTwistMatrix: ifaces, laid · FnExactApplyTable: ifaces, laid · FnExactTimesTable: ifaces, laid · FnExactIsSymplectic: ifaces, laid · FnExactIsPrimitiveClass: ifaces, laid.
  DERIVED. THE GIVEN ROWS OF THIS SEAT. 9 by the template 'for every input the law returns true; each argument reads behind the call as it read before'; 0 by the template 'total and deterministic' (their statements: YtamgimdjnmcpaaaDoorTotals.lean).
  GIVEN WITH THE SEED: the statements are not yours to turn. If you find one false, say at which input.
  Laid BY PROGRAM, IN A SANDBOX (cutbox-rows.mjs): the forced cells as the released guide's own fill.sh prints them over the translation 5bd91db21286ca97… (all of the seat's roots in one cut). By AI agents, Wed Nov 11 2026. No macro, syntax, notation, axiom, sorry.
-/
import Derived.Test.YtamgimdjnmcpaaaDoorChecked
import GoSem.Claim
import GoSem.ClaimJoined
import GoSem.ClaimMapViews
import Derived.JoinedTies
import Derived.KernelRfl
namespace Go.Proofs.YtamgimdjnmcpaaaDoor
/- THE CELL 'sum', in the pinned program and in every row, IS THE sha256 OF THE DUMP (.gsa) THAT YtamgimdjnmcpaaaDoorProg.lean LOADS. Nothing in Lean hashes anything: it is a label: what it is worth is what the hold of that sum in a sandbox is worth. -/
noncomputable def Tryd.pinned : Pinned := { name := "ytamgimdjnmcpaaadoor", sum := "5bd91db21286ca971ab8eff724b05b1bed1a3256a526453684d4c444f38b2d3e", checked := Tryd.checked }
namespace Rows
def none {H : Type} : Left H := { results := [], args := [] }

/- WHAT THE LISTED PACKAGE-LEVEL VARIABLES READ AS WHEN THE CALL BEGINS. Each datum BY PROGRAM (the guide's laid-datum.mjs) off the statement by which the dump's own 'gosem.cut.vars' lays the variable. In a bare row this is a premise. The card (YtamgimdjnmcpaaaDoorCards.lean) ties it to the program's text. -/
def laid_loop_example_g03105_impl_errTooGreat {H : Type} : DataW H := .iface "*errors.errorString" (.ptr (.agg [.lit (.string [97, 32, 110, 117, 109, 98, 101, 114, 32, 105, 115, 32, 116, 111, 111, 32, 103, 114, 101, 97, 116])]))

/-- 'laws.FnTwists': WHATEVER THE INPUT: true; the input reads as it did. -/
def fnTwistsSpec : ChangeSpec := { name := "fnTwists", vars := ["loop.example/g03105/impl.errTooGreat"], fn := fun _ => fun
  | [d, g1] => { results := [.lit (.bool true)], args := [d], vars := [g1] }
  | _ => none }
def fnTwistsRow : OpenClaim := { program := "ytamgimdjnmcpaaadoor", sum := "5bd91db21286ca971ab8eff724b05b1bed1a3256a526453684d4c444f38b2d3e", func := "loop.example/g03105/laws.FnTwists", spec := "fnTwists", inPlace := ["internal/reflectlite.TypeOf"], unfollowed := true, recurses := true, named := ["loop.example/g03105/impl.errTooGreat"], ifaces := true, apart := false, laid := [("loop.example/g03105/impl.errTooGreat", laid_loop_example_g03105_impl_errTooGreat)] }
def FnTwistsSaid : Prop := fnTwistsRow.holds Tryd.pinned (OpenSpec.ofChange fnTwistsSpec)

/-- ITS FALSE NEIGHBOUR: 'it returns false'. Refute it at one input. -/
def fnTwistsWrong : ChangeSpec := { name := "fnTwists", vars := ["loop.example/g03105/impl.errTooGreat"], fn := fun _ => fun
  | [d, g1] => { results := [.lit (.bool false)], args := [d], vars := [g1] }
  | _ => none }
def FnTwistsWrongFalsely : Prop := fnTwistsRow.holds Tryd.pinned (OpenSpec.ofChange fnTwistsWrong)

/-- 'laws.FnExactIsClass': WHATEVER THE INPUT: true; the input reads as it did. -/
def fnExactIsClassSpec : ChangeSpec := { name := "fnExactIsClass", vars := ["loop.example/g03105/impl.errTooGreat"], fn := fun _ => fun
  | [d1, d2, g1] => { results := [.lit (.bool true)], args := [d1, d2], vars := [g1] }
  | _ => none }
def fnExactIsClassRow : OpenClaim := { program := "ytamgimdjnmcpaaadoor", sum := "5bd91db21286ca971ab8eff724b05b1bed1a3256a526453684d4c444f38b2d3e", func := "loop.example/g03105/laws.FnExactIsClass", spec := "fnExactIsClass", inPlace := ["internal/reflectlite.TypeOf"], unfollowed := true, recurses := true, named := ["loop.example/g03105/impl.errTooGreat"], ifaces := true, apart := false, laid := [("loop.example/g03105/impl.errTooGreat", laid_loop_example_g03105_impl_errTooGreat)] }
def FnExactIsClassSaid : Prop := fnExactIsClassRow.holds Tryd.pinned (OpenSpec.ofChange fnExactIsClassSpec)

/-- ITS FALSE NEIGHBOUR: 'it returns false'. Refute it at one input. -/
def fnExactIsClassWrong : ChangeSpec := { name := "fnExactIsClass", vars := ["loop.example/g03105/impl.errTooGreat"], fn := fun _ => fun
  | [d1, d2, g1] => { results := [.lit (.bool false)], args := [d1, d2], vars := [g1] }
  | _ => none }
def FnExactIsClassWrongFalsely : Prop := fnExactIsClassRow.holds Tryd.pinned (OpenSpec.ofChange fnExactIsClassWrong)

/-- 'laws.FnExactFormOf': WHATEVER THE INPUT: true; the input reads as it did. -/
def fnExactFormOfSpec : ChangeSpec := { name := "fnExactFormOf", vars := ["loop.example/g03105/impl.errTooGreat"], fn := fun _ => fun
  | [d1, d2, d3, g1] => { results := [.lit (.bool true)], args := [d1, d2, d3], vars := [g1] }
  | _ => none }
def fnExactFormOfRow : OpenClaim := { program := "ytamgimdjnmcpaaadoor", sum := "5bd91db21286ca971ab8eff724b05b1bed1a3256a526453684d4c444f38b2d3e", func := "loop.example/g03105/laws.FnExactFormOf", spec := "fnExactFormOf", inPlace := ["internal/reflectlite.TypeOf"], unfollowed := true, recurses := true, named := ["loop.example/g03105/impl.errTooGreat"], ifaces := true, apart := false, laid := [("loop.example/g03105/impl.errTooGreat", laid_loop_example_g03105_impl_errTooGreat)] }
def FnExactFormOfSaid : Prop := fnExactFormOfRow.holds Tryd.pinned (OpenSpec.ofChange fnExactFormOfSpec)

/-- ITS FALSE NEIGHBOUR: 'it returns false'. Refute it at one input. -/
def fnExactFormOfWrong : ChangeSpec := { name := "fnExactFormOf", vars := ["loop.example/g03105/impl.errTooGreat"], fn := fun _ => fun
  | [d1, d2, d3, g1] => { results := [.lit (.bool false)], args := [d1, d2, d3], vars := [g1] }
  | _ => none }
def FnExactFormOfWrongFalsely : Prop := fnExactFormOfRow.holds Tryd.pinned (OpenSpec.ofChange fnExactFormOfWrong)

/-- 'laws.FnExactTwistClass': WHATEVER THE INPUT: true; the input reads as it did. -/
def fnExactTwistClassSpec : ChangeSpec := { name := "fnExactTwistClass", vars := ["loop.example/g03105/impl.errTooGreat"], fn := fun _ => fun
  | [d1, d2, d3, d4, g1] => { results := [.lit (.bool true)], args := [d1, d2, d3, d4], vars := [g1] }
  | _ => none }
def fnExactTwistClassRow : OpenClaim := { program := "ytamgimdjnmcpaaadoor", sum := "5bd91db21286ca971ab8eff724b05b1bed1a3256a526453684d4c444f38b2d3e", func := "loop.example/g03105/laws.FnExactTwistClass", spec := "fnExactTwistClass", inPlace := ["internal/reflectlite.TypeOf"], unfollowed := true, recurses := true, named := ["loop.example/g03105/impl.errTooGreat"], ifaces := true, apart := false, laid := [("loop.example/g03105/impl.errTooGreat", laid_loop_example_g03105_impl_errTooGreat)] }
def FnExactTwistClassSaid : Prop := fnExactTwistClassRow.holds Tryd.pinned (OpenSpec.ofChange fnExactTwistClassSpec)

/-- ITS FALSE NEIGHBOUR: 'it returns false'. Refute it at one input. -/
def fnExactTwistClassWrong : ChangeSpec := { name := "fnExactTwistClass", vars := ["loop.example/g03105/impl.errTooGreat"], fn := fun _ => fun
  | [d1, d2, d3, d4, g1] => { results := [.lit (.bool false)], args := [d1, d2, d3, d4], vars := [g1] }
  | _ => none }
def FnExactTwistClassWrongFalsely : Prop := fnExactTwistClassRow.holds Tryd.pinned (OpenSpec.ofChange fnExactTwistClassWrong)

/-- 'laws.FnExactTwistMatrix': WHATEVER THE INPUT: true; the input reads as it did. -/
def fnExactTwistMatrixSpec : ChangeSpec := { name := "fnExactTwistMatrix", vars := ["loop.example/g03105/impl.errTooGreat"], fn := fun _ => fun
  | [d1, d2, g1] => { results := [.lit (.bool true)], args := [d1, d2], vars := [g1] }
  | _ => none }
def fnExactTwistMatrixRow : OpenClaim := { program := "ytamgimdjnmcpaaadoor", sum := "5bd91db21286ca971ab8eff724b05b1bed1a3256a526453684d4c444f38b2d3e", func := "loop.example/g03105/laws.FnExactTwistMatrix", spec := "fnExactTwistMatrix", inPlace := ["internal/reflectlite.TypeOf"], unfollowed := true, recurses := true, named := ["loop.example/g03105/impl.errTooGreat"], ifaces := true, apart := false, laid := [("loop.example/g03105/impl.errTooGreat", laid_loop_example_g03105_impl_errTooGreat)] }
def FnExactTwistMatrixSaid : Prop := fnExactTwistMatrixRow.holds Tryd.pinned (OpenSpec.ofChange fnExactTwistMatrixSpec)

/-- ITS FALSE NEIGHBOUR: 'it returns false'. Refute it at one input. -/
def fnExactTwistMatrixWrong : ChangeSpec := { name := "fnExactTwistMatrix", vars := ["loop.example/g03105/impl.errTooGreat"], fn := fun _ => fun
  | [d1, d2, g1] => { results := [.lit (.bool false)], args := [d1, d2], vars := [g1] }
  | _ => none }
def FnExactTwistMatrixWrongFalsely : Prop := fnExactTwistMatrixRow.holds Tryd.pinned (OpenSpec.ofChange fnExactTwistMatrixWrong)

/-- 'laws.FnExactApplyTable': WHATEVER THE INPUT: true; the input reads as it did. -/
def fnExactApplyTableSpec : ChangeSpec := { name := "fnExactApplyTable", vars := ["loop.example/g03105/impl.errTooGreat"], fn := fun _ => fun
  | [d1, d2, g1] => { results := [.lit (.bool true)], args := [d1, d2], vars := [g1] }
  | _ => none }
def fnExactApplyTableRow : OpenClaim := { program := "ytamgimdjnmcpaaadoor", sum := "5bd91db21286ca971ab8eff724b05b1bed1a3256a526453684d4c444f38b2d3e", func := "loop.example/g03105/laws.FnExactApplyTable", spec := "fnExactApplyTable", inPlace := ["internal/reflectlite.TypeOf"], unfollowed := true, recurses := true, named := ["loop.example/g03105/impl.errTooGreat"], ifaces := true, apart := false, laid := [("loop.example/g03105/impl.errTooGreat", laid_loop_example_g03105_impl_errTooGreat)] }
def FnExactApplyTableSaid : Prop := fnExactApplyTableRow.holds Tryd.pinned (OpenSpec.ofChange fnExactApplyTableSpec)

/-- ITS FALSE NEIGHBOUR: 'it returns false'. Refute it at one input. -/
def fnExactApplyTableWrong : ChangeSpec := { name := "fnExactApplyTable", vars := ["loop.example/g03105/impl.errTooGreat"], fn := fun _ => fun
  | [d1, d2, g1] => { results := [.lit (.bool false)], args := [d1, d2], vars := [g1] }
  | _ => none }
def FnExactApplyTableWrongFalsely : Prop := fnExactApplyTableRow.holds Tryd.pinned (OpenSpec.ofChange fnExactApplyTableWrong)

/-- 'laws.FnExactTimesTable': WHATEVER THE INPUT: true; the input reads as it did. -/
def fnExactTimesTableSpec : ChangeSpec := { name := "fnExactTimesTable", vars := ["loop.example/g03105/impl.errTooGreat"], fn := fun _ => fun
  | [d1, d2, g1] => { results := [.lit (.bool true)], args := [d1, d2], vars := [g1] }
  | _ => none }
def fnExactTimesTableRow : OpenClaim := { program := "ytamgimdjnmcpaaadoor", sum := "5bd91db21286ca971ab8eff724b05b1bed1a3256a526453684d4c444f38b2d3e", func := "loop.example/g03105/laws.FnExactTimesTable", spec := "fnExactTimesTable", inPlace := ["internal/reflectlite.TypeOf"], unfollowed := true, recurses := true, named := ["loop.example/g03105/impl.errTooGreat"], ifaces := true, apart := false, laid := [("loop.example/g03105/impl.errTooGreat", laid_loop_example_g03105_impl_errTooGreat)] }
def FnExactTimesTableSaid : Prop := fnExactTimesTableRow.holds Tryd.pinned (OpenSpec.ofChange fnExactTimesTableSpec)

/-- ITS FALSE NEIGHBOUR: 'it returns false'. Refute it at one input. -/
def fnExactTimesTableWrong : ChangeSpec := { name := "fnExactTimesTable", vars := ["loop.example/g03105/impl.errTooGreat"], fn := fun _ => fun
  | [d1, d2, g1] => { results := [.lit (.bool false)], args := [d1, d2], vars := [g1] }
  | _ => none }
def FnExactTimesTableWrongFalsely : Prop := fnExactTimesTableRow.holds Tryd.pinned (OpenSpec.ofChange fnExactTimesTableWrong)

/-- 'laws.FnExactIsSymplectic': WHATEVER THE INPUT: true; the input reads as it did. -/
def fnExactIsSymplecticSpec : ChangeSpec := { name := "fnExactIsSymplectic", vars := ["loop.example/g03105/impl.errTooGreat"], fn := fun _ => fun
  | [d1, d2, g1] => { results := [.lit (.bool true)], args := [d1, d2], vars := [g1] }
  | _ => none }
def fnExactIsSymplecticRow : OpenClaim := { program := "ytamgimdjnmcpaaadoor", sum := "5bd91db21286ca971ab8eff724b05b1bed1a3256a526453684d4c444f38b2d3e", func := "loop.example/g03105/laws.FnExactIsSymplectic", spec := "fnExactIsSymplectic", inPlace := ["internal/reflectlite.TypeOf"], unfollowed := true, recurses := true, named := ["loop.example/g03105/impl.errTooGreat"], ifaces := true, apart := false, laid := [("loop.example/g03105/impl.errTooGreat", laid_loop_example_g03105_impl_errTooGreat)] }
def FnExactIsSymplecticSaid : Prop := fnExactIsSymplecticRow.holds Tryd.pinned (OpenSpec.ofChange fnExactIsSymplecticSpec)

/-- ITS FALSE NEIGHBOUR: 'it returns false'. Refute it at one input. -/
def fnExactIsSymplecticWrong : ChangeSpec := { name := "fnExactIsSymplectic", vars := ["loop.example/g03105/impl.errTooGreat"], fn := fun _ => fun
  | [d1, d2, g1] => { results := [.lit (.bool false)], args := [d1, d2], vars := [g1] }
  | _ => none }
def FnExactIsSymplecticWrongFalsely : Prop := fnExactIsSymplecticRow.holds Tryd.pinned (OpenSpec.ofChange fnExactIsSymplecticWrong)

/-- 'laws.FnExactIsPrimitiveClass': WHATEVER THE INPUT: true; the input reads as it did. -/
def fnExactIsPrimitiveClassSpec : ChangeSpec := { name := "fnExactIsPrimitiveClass", vars := ["loop.example/g03105/impl.errTooGreat"], fn := fun _ => fun
  | [d1, d2, g1] => { results := [.lit (.bool true)], args := [d1, d2], vars := [g1] }
  | _ => none }
def fnExactIsPrimitiveClassRow : OpenClaim := { program := "ytamgimdjnmcpaaadoor", sum := "5bd91db21286ca971ab8eff724b05b1bed1a3256a526453684d4c444f38b2d3e", func := "loop.example/g03105/laws.FnExactIsPrimitiveClass", spec := "fnExactIsPrimitiveClass", inPlace := ["internal/reflectlite.TypeOf"], unfollowed := true, recurses := true, named := ["loop.example/g03105/impl.errTooGreat"], ifaces := true, apart := false, laid := [("loop.example/g03105/impl.errTooGreat", laid_loop_example_g03105_impl_errTooGreat)] }
def FnExactIsPrimitiveClassSaid : Prop := fnExactIsPrimitiveClassRow.holds Tryd.pinned (OpenSpec.ofChange fnExactIsPrimitiveClassSpec)

/-- ITS FALSE NEIGHBOUR: 'it returns false'. Refute it at one input. -/
def fnExactIsPrimitiveClassWrong : ChangeSpec := { name := "fnExactIsPrimitiveClass", vars := ["loop.example/g03105/impl.errTooGreat"], fn := fun _ => fun
  | [d1, d2, g1] => { results := [.lit (.bool false)], args := [d1, d2], vars := [g1] }
  | _ => none }
def FnExactIsPrimitiveClassWrongFalsely : Prop := fnExactIsPrimitiveClassRow.holds Tryd.pinned (OpenSpec.ofChange fnExactIsPrimitiveClassWrong)

/- THE SECOND FORM. 'bulk': how many values and letters a reading holds, each counted each time it is reached (what is shared counts as often as it is met; a slice's spare places count too). A statement '..UptoSaid' is the law's where the arguments, and the package variables that the reading takes, are together of bulk at most 1048576: NARROWER than '..Said'. Prove '..Said' where nothing that the law and all that it calls make is longer than what came in: it says more and counts as full. Else prove '..UptoSaid'. A law counts once. -/
mutual
def uptoBulk {H : Type} : DataW H → Nat
  | .lit (.string bytes) => bytes.length + 1
  | .lit _ => 1
  | .nil => 1
  | .ptr d => uptoBulk d + 1
  | .slice elems spare => uptoBulkAll elems + uptoBulkAll spare + 1
  | .agg parts => uptoBulkAll parts + 1
  | .iface _ d => uptoBulk d + 1
  | .map entries => uptoBulkEntries entries + 1
  | .held _ => 1
def uptoBulkAll {H : Type} : List (DataW H) → Nat
  | [] => 0
  | d :: r => uptoBulk d + uptoBulkAll r
def uptoBulkEntries {H : Type} : List (Lit × DataW H) → Nat
  | [] => 0
  | x :: r => uptoBulkEntry x + uptoBulkEntries r
def uptoBulkEntry {H : Type} : Lit × DataW H → Nat
  | (.string bytes, d) => bytes.length + uptoBulk d + 1
  | (_, d) => uptoBulk d + 1
 end
def uptoSmall : (H : Type) → List (DataW H) → Bool := fun _ ds => decide (uptoBulkAll ds ≤ 1048576)
def OpenSpec.upto (s : _root_.Go.ChangeSpec) : _root_.Go.OpenSpec := { _root_.Go.OpenSpec.ofChange s with cond := some uptoSmall }

/-- 'laws.FnTwists', WHERE WHAT IT READS IS OF BULK AT MOST 1048576: true; the input reads as it did. -/
def fnTwistsUptoRow : OpenClaim := { program := "ytamgimdjnmcpaaadoor", sum := "5bd91db21286ca971ab8eff724b05b1bed1a3256a526453684d4c444f38b2d3e", func := "loop.example/g03105/laws.FnTwists", spec := "fnTwists", inPlace := ["internal/reflectlite.TypeOf"], unfollowed := true, recurses := true, named := ["loop.example/g03105/impl.errTooGreat"], ifaces := true, apart := false, laid := [("loop.example/g03105/impl.errTooGreat", laid_loop_example_g03105_impl_errTooGreat)], narrowed := true }
def FnTwistsUptoSaid : Prop := fnTwistsUptoRow.holds Tryd.pinned (OpenSpec.upto fnTwistsSpec)

/-- 'laws.FnExactIsClass', WHERE WHAT IT READS IS OF BULK AT MOST 1048576: true; the input reads as it did. -/
def fnExactIsClassUptoRow : OpenClaim := { program := "ytamgimdjnmcpaaadoor", sum := "5bd91db21286ca971ab8eff724b05b1bed1a3256a526453684d4c444f38b2d3e", func := "loop.example/g03105/laws.FnExactIsClass", spec := "fnExactIsClass", inPlace := ["internal/reflectlite.TypeOf"], unfollowed := true, recurses := true, named := ["loop.example/g03105/impl.errTooGreat"], ifaces := true, apart := false, laid := [("loop.example/g03105/impl.errTooGreat", laid_loop_example_g03105_impl_errTooGreat)], narrowed := true }
def FnExactIsClassUptoSaid : Prop := fnExactIsClassUptoRow.holds Tryd.pinned (OpenSpec.upto fnExactIsClassSpec)

/-- 'laws.FnExactFormOf', WHERE WHAT IT READS IS OF BULK AT MOST 1048576: true; the input reads as it did. -/
def fnExactFormOfUptoRow : OpenClaim := { program := "ytamgimdjnmcpaaadoor", sum := "5bd91db21286ca971ab8eff724b05b1bed1a3256a526453684d4c444f38b2d3e", func := "loop.example/g03105/laws.FnExactFormOf", spec := "fnExactFormOf", inPlace := ["internal/reflectlite.TypeOf"], unfollowed := true, recurses := true, named := ["loop.example/g03105/impl.errTooGreat"], ifaces := true, apart := false, laid := [("loop.example/g03105/impl.errTooGreat", laid_loop_example_g03105_impl_errTooGreat)], narrowed := true }
def FnExactFormOfUptoSaid : Prop := fnExactFormOfUptoRow.holds Tryd.pinned (OpenSpec.upto fnExactFormOfSpec)

/-- 'laws.FnExactTwistClass', WHERE WHAT IT READS IS OF BULK AT MOST 1048576: true; the input reads as it did. -/
def fnExactTwistClassUptoRow : OpenClaim := { program := "ytamgimdjnmcpaaadoor", sum := "5bd91db21286ca971ab8eff724b05b1bed1a3256a526453684d4c444f38b2d3e", func := "loop.example/g03105/laws.FnExactTwistClass", spec := "fnExactTwistClass", inPlace := ["internal/reflectlite.TypeOf"], unfollowed := true, recurses := true, named := ["loop.example/g03105/impl.errTooGreat"], ifaces := true, apart := false, laid := [("loop.example/g03105/impl.errTooGreat", laid_loop_example_g03105_impl_errTooGreat)], narrowed := true }
def FnExactTwistClassUptoSaid : Prop := fnExactTwistClassUptoRow.holds Tryd.pinned (OpenSpec.upto fnExactTwistClassSpec)

/-- 'laws.FnExactTwistMatrix', WHERE WHAT IT READS IS OF BULK AT MOST 1048576: true; the input reads as it did. -/
def fnExactTwistMatrixUptoRow : OpenClaim := { program := "ytamgimdjnmcpaaadoor", sum := "5bd91db21286ca971ab8eff724b05b1bed1a3256a526453684d4c444f38b2d3e", func := "loop.example/g03105/laws.FnExactTwistMatrix", spec := "fnExactTwistMatrix", inPlace := ["internal/reflectlite.TypeOf"], unfollowed := true, recurses := true, named := ["loop.example/g03105/impl.errTooGreat"], ifaces := true, apart := false, laid := [("loop.example/g03105/impl.errTooGreat", laid_loop_example_g03105_impl_errTooGreat)], narrowed := true }
def FnExactTwistMatrixUptoSaid : Prop := fnExactTwistMatrixUptoRow.holds Tryd.pinned (OpenSpec.upto fnExactTwistMatrixSpec)

/-- 'laws.FnExactApplyTable', WHERE WHAT IT READS IS OF BULK AT MOST 1048576: true; the input reads as it did. -/
def fnExactApplyTableUptoRow : OpenClaim := { program := "ytamgimdjnmcpaaadoor", sum := "5bd91db21286ca971ab8eff724b05b1bed1a3256a526453684d4c444f38b2d3e", func := "loop.example/g03105/laws.FnExactApplyTable", spec := "fnExactApplyTable", inPlace := ["internal/reflectlite.TypeOf"], unfollowed := true, recurses := true, named := ["loop.example/g03105/impl.errTooGreat"], ifaces := true, apart := false, laid := [("loop.example/g03105/impl.errTooGreat", laid_loop_example_g03105_impl_errTooGreat)], narrowed := true }
def FnExactApplyTableUptoSaid : Prop := fnExactApplyTableUptoRow.holds Tryd.pinned (OpenSpec.upto fnExactApplyTableSpec)

/-- 'laws.FnExactTimesTable', WHERE WHAT IT READS IS OF BULK AT MOST 1048576: true; the input reads as it did. -/
def fnExactTimesTableUptoRow : OpenClaim := { program := "ytamgimdjnmcpaaadoor", sum := "5bd91db21286ca971ab8eff724b05b1bed1a3256a526453684d4c444f38b2d3e", func := "loop.example/g03105/laws.FnExactTimesTable", spec := "fnExactTimesTable", inPlace := ["internal/reflectlite.TypeOf"], unfollowed := true, recurses := true, named := ["loop.example/g03105/impl.errTooGreat"], ifaces := true, apart := false, laid := [("loop.example/g03105/impl.errTooGreat", laid_loop_example_g03105_impl_errTooGreat)], narrowed := true }
def FnExactTimesTableUptoSaid : Prop := fnExactTimesTableUptoRow.holds Tryd.pinned (OpenSpec.upto fnExactTimesTableSpec)

/-- 'laws.FnExactIsSymplectic', WHERE WHAT IT READS IS OF BULK AT MOST 1048576: true; the input reads as it did. -/
def fnExactIsSymplecticUptoRow : OpenClaim := { program := "ytamgimdjnmcpaaadoor", sum := "5bd91db21286ca971ab8eff724b05b1bed1a3256a526453684d4c444f38b2d3e", func := "loop.example/g03105/laws.FnExactIsSymplectic", spec := "fnExactIsSymplectic", inPlace := ["internal/reflectlite.TypeOf"], unfollowed := true, recurses := true, named := ["loop.example/g03105/impl.errTooGreat"], ifaces := true, apart := false, laid := [("loop.example/g03105/impl.errTooGreat", laid_loop_example_g03105_impl_errTooGreat)], narrowed := true }
def FnExactIsSymplecticUptoSaid : Prop := fnExactIsSymplecticUptoRow.holds Tryd.pinned (OpenSpec.upto fnExactIsSymplecticSpec)

/-- 'laws.FnExactIsPrimitiveClass', WHERE WHAT IT READS IS OF BULK AT MOST 1048576: true; the input reads as it did. -/
def fnExactIsPrimitiveClassUptoRow : OpenClaim := { program := "ytamgimdjnmcpaaadoor", sum := "5bd91db21286ca971ab8eff724b05b1bed1a3256a526453684d4c444f38b2d3e", func := "loop.example/g03105/laws.FnExactIsPrimitiveClass", spec := "fnExactIsPrimitiveClass", inPlace := ["internal/reflectlite.TypeOf"], unfollowed := true, recurses := true, named := ["loop.example/g03105/impl.errTooGreat"], ifaces := true, apart := false, laid := [("loop.example/g03105/impl.errTooGreat", laid_loop_example_g03105_impl_errTooGreat)], narrowed := true }
def FnExactIsPrimitiveClassUptoSaid : Prop := fnExactIsPrimitiveClassUptoRow.holds Tryd.pinned (OpenSpec.upto fnExactIsPrimitiveClassSpec)

end Rows
end Go.Proofs.YtamgimdjnmcpaaaDoor
