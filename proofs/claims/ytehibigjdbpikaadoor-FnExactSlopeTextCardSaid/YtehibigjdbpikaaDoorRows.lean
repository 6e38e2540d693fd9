/-
  NARROWER THAN 'FOR EVERY INPUT', by the rows' own cells (each row's printed sentence says how): FnExactIsSlope: ifaces, laid · FnExactSlopeOf: ifaces, laid · FnExactSlopeText: ifaces, laid · FnExactParseSlope: ifaces, laid · FnExactCrossNumber: ifaces, laid · FnExactSumSlope: ifaces, laid · FnExactTwistSlope: ifaces, laid · FnExactSlopeWord: ifaces, laid · FnExactIsBasisPair: ifaces, laid.
  DERIVED. THE GIVEN ROWS OF THIS SEAT. 9 by the template 'for every input the law returns true; each argument reads behind the call as it read before'; 0 by the template 'total and deterministic' (their statements: YtehibigjdbpikaaDoorTotals.lean).
  GIVEN WITH THE SEED: the statements are not yours to turn. If you find one false, say at which input.
  Laid BY PROGRAM, IN A SANDBOX (cutbox-rows.mjs): the forced cells as the released guide's own fill.sh prints them over the translation 06d015f0635bda42… (all of the seat's roots in one cut). By AI agents, Wed Nov 11 2026. No macro, syntax, notation, axiom, sorry.
-/
import Derived.Test.YtehibigjdbpikaaDoorChecked
import GoSem.Claim
import GoSem.ClaimJoined
import GoSem.ClaimMapViews
import Derived.JoinedTies
import Derived.KernelRfl
namespace Go.Proofs.YtehibigjdbpikaaDoor
/- THE CELL 'sum', in the pinned program and in every row, IS THE sha256 OF THE DUMP (.gsa) THAT YtehibigjdbpikaaDoorProg.lean LOADS. Nothing in Lean hashes anything: it is a label: what it is worth is what the hold of that sum in a sandbox is worth. -/
noncomputable def Tryd.pinned : Pinned := { name := "ytehibigjdbpikaadoor", sum := "06d015f0635bda42da3964f62c3877031c90283a93b2dd49bfeea34a41cf2c9c", checked := Tryd.checked }
namespace Rows
def none {H : Type} : Left H := { results := [], args := [] }

/- WHAT THE LISTED PACKAGE-LEVEL VARIABLES READ AS WHEN THE CALL BEGINS. Each datum BY PROGRAM (the guide's laid-datum.mjs) off the statement by which the dump's own 'gosem.cut.vars' lays the variable. In a bare row this is a premise. The card (YtehibigjdbpikaaDoorCards.lean) ties it to the program's text. -/
def laid_loop_example_g03105_impl_errTooGreat {H : Type} : DataW H := .iface "*errors.errorString" (.ptr (.agg [.lit (.string [97, 32, 110, 117, 109, 98, 101, 114, 32, 105, 115, 32, 116, 111, 111, 32, 103, 114, 101, 97, 116])]))
def laid_math_bits_deBruijn32tab {H : Type} : DataW H := .agg [.lit (.int .u8 0), .lit (.int .u8 1), .lit (.int .u8 28), .lit (.int .u8 2), .lit (.int .u8 29), .lit (.int .u8 14), .lit (.int .u8 24), .lit (.int .u8 3), .lit (.int .u8 30), .lit (.int .u8 22), .lit (.int .u8 20), .lit (.int .u8 15), .lit (.int .u8 25), .lit (.int .u8 17), .lit (.int .u8 4), .lit (.int .u8 8), .lit (.int .u8 31), .lit (.int .u8 27), .lit (.int .u8 13), .lit (.int .u8 23), .lit (.int .u8 21), .lit (.int .u8 19), .lit (.int .u8 16), .lit (.int .u8 7), .lit (.int .u8 26), .lit (.int .u8 12), .lit (.int .u8 18), .lit (.int .u8 6), .lit (.int .u8 11), .lit (.int .u8 5), .lit (.int .u8 10), .lit (.int .u8 9)]
def laid_math_bits_deBruijn64tab {H : Type} : DataW H := .agg [.lit (.int .u8 0), .lit (.int .u8 1), .lit (.int .u8 56), .lit (.int .u8 2), .lit (.int .u8 57), .lit (.int .u8 49), .lit (.int .u8 28), .lit (.int .u8 3), .lit (.int .u8 61), .lit (.int .u8 58), .lit (.int .u8 42), .lit (.int .u8 50), .lit (.int .u8 38), .lit (.int .u8 29), .lit (.int .u8 17), .lit (.int .u8 4), .lit (.int .u8 62), .lit (.int .u8 47), .lit (.int .u8 59), .lit (.int .u8 36), .lit (.int .u8 45), .lit (.int .u8 43), .lit (.int .u8 51), .lit (.int .u8 22), .lit (.int .u8 53), .lit (.int .u8 39), .lit (.int .u8 33), .lit (.int .u8 30), .lit (.int .u8 24), .lit (.int .u8 18), .lit (.int .u8 12), .lit (.int .u8 5), .lit (.int .u8 63), .lit (.int .u8 55), .lit (.int .u8 48), .lit (.int .u8 27), .lit (.int .u8 60), .lit (.int .u8 41), .lit (.int .u8 37), .lit (.int .u8 16), .lit (.int .u8 46), .lit (.int .u8 35), .lit (.int .u8 44), .lit (.int .u8 21), .lit (.int .u8 52), .lit (.int .u8 32), .lit (.int .u8 23), .lit (.int .u8 11), .lit (.int .u8 54), .lit (.int .u8 26), .lit (.int .u8 40), .lit (.int .u8 15), .lit (.int .u8 34), .lit (.int .u8 20), .lit (.int .u8 31), .lit (.int .u8 10), .lit (.int .u8 25), .lit (.int .u8 14), .lit (.int .u8 19), .lit (.int .u8 9), .lit (.int .u8 13), .lit (.int .u8 8), .lit (.int .u8 7), .lit (.int .u8 6)]
def laid_internal_strconv_uint64pow10 {H : Type} : DataW H := .agg [.lit (.int .u64 1), .lit (.int .u64 10), .lit (.int .u64 100), .lit (.int .u64 1000), .lit (.int .u64 10000), .lit (.int .u64 100000), .lit (.int .u64 1000000), .lit (.int .u64 10000000), .lit (.int .u64 100000000), .lit (.int .u64 1000000000), .lit (.int .u64 10000000000), .lit (.int .u64 100000000000), .lit (.int .u64 1000000000000), .lit (.int .u64 10000000000000), .lit (.int .u64 100000000000000), .lit (.int .u64 1000000000000000), .lit (.int .u64 10000000000000000), .lit (.int .u64 100000000000000000), .lit (.int .u64 1000000000000000000), .lit (.int .u64 10000000000000000000)]
def laid_strconv_ErrRange {H : Type} : DataW H := .iface "*errors.errorString" (.ptr (.agg [.lit (.string [118, 97, 108, 117, 101, 32, 111, 117, 116, 32, 111, 102, 32, 114, 97, 110, 103, 101])]))
def laid_strconv_ErrSyntax {H : Type} : DataW H := .iface "*errors.errorString" (.ptr (.agg [.lit (.string [105, 110, 118, 97, 108, 105, 100, 32, 115, 121, 110, 116, 97, 120])]))

/-- 'laws.FnExactIsSlope': WHATEVER THE INPUT: true; the input reads as it did. -/
def fnExactIsSlopeSpec : ChangeSpec := { name := "fnExactIsSlope", vars := ["loop.example/g03105/impl.errTooGreat"], fn := fun _ => fun
  | [d, g1] => { results := [.lit (.bool true)], args := [d], vars := [g1] }
  | _ => none }
def fnExactIsSlopeRow : OpenClaim := { program := "ytehibigjdbpikaadoor", sum := "06d015f0635bda42da3964f62c3877031c90283a93b2dd49bfeea34a41cf2c9c", func := "loop.example/g03105/laws.FnExactIsSlope", spec := "fnExactIsSlope", inPlace := ["internal/reflectlite.TypeOf"], unfollowed := true, recurses := true, named := ["loop.example/g03105/impl.errTooGreat"], ifaces := true, apart := false, laid := [("loop.example/g03105/impl.errTooGreat", laid_loop_example_g03105_impl_errTooGreat)] }
def FnExactIsSlopeSaid : Prop := fnExactIsSlopeRow.holds Tryd.pinned (OpenSpec.ofChange fnExactIsSlopeSpec)

/-- ITS FALSE NEIGHBOUR: 'it returns false'. Refute it at one input. -/
def fnExactIsSlopeWrong : ChangeSpec := { name := "fnExactIsSlope", vars := ["loop.example/g03105/impl.errTooGreat"], fn := fun _ => fun
  | [d, g1] => { results := [.lit (.bool false)], args := [d], vars := [g1] }
  | _ => none }
def FnExactIsSlopeWrongFalsely : Prop := fnExactIsSlopeRow.holds Tryd.pinned (OpenSpec.ofChange fnExactIsSlopeWrong)

/-- 'laws.FnExactSlopeOf': WHATEVER THE INPUT: true; the input reads as it did. -/
def fnExactSlopeOfSpec : ChangeSpec := { name := "fnExactSlopeOf", vars := ["loop.example/g03105/impl.errTooGreat"], fn := fun _ => fun
  | [d1, d2, g1] => { results := [.lit (.bool true)], args := [d1, d2], vars := [g1] }
  | _ => none }
def fnExactSlopeOfRow : OpenClaim := { program := "ytehibigjdbpikaadoor", sum := "06d015f0635bda42da3964f62c3877031c90283a93b2dd49bfeea34a41cf2c9c", func := "loop.example/g03105/laws.FnExactSlopeOf", spec := "fnExactSlopeOf", inPlace := ["internal/reflectlite.TypeOf"], unfollowed := true, recurses := true, named := ["loop.example/g03105/impl.errTooGreat"], ifaces := true, apart := false, laid := [("loop.example/g03105/impl.errTooGreat", laid_loop_example_g03105_impl_errTooGreat)] }
def FnExactSlopeOfSaid : Prop := fnExactSlopeOfRow.holds Tryd.pinned (OpenSpec.ofChange fnExactSlopeOfSpec)

/-- ITS FALSE NEIGHBOUR: 'it returns false'. Refute it at one input. -/
def fnExactSlopeOfWrong : ChangeSpec := { name := "fnExactSlopeOf", vars := ["loop.example/g03105/impl.errTooGreat"], fn := fun _ => fun
  | [d1, d2, g1] => { results := [.lit (.bool false)], args := [d1, d2], vars := [g1] }
  | _ => none }
def FnExactSlopeOfWrongFalsely : Prop := fnExactSlopeOfRow.holds Tryd.pinned (OpenSpec.ofChange fnExactSlopeOfWrong)

/-- 'laws.FnExactSlopeText': WHATEVER THE INPUT: true; the input reads as it did. -/
def fnExactSlopeTextSpec : ChangeSpec := { name := "fnExactSlopeText", vars := ["loop.example/g03105/impl.errTooGreat"], fn := fun _ => fun
  | [d, g1] => { results := [.lit (.bool true)], args := [d], vars := [g1] }
  | _ => none }
def fnExactSlopeTextRow : OpenClaim := { program := "ytehibigjdbpikaadoor", sum := "06d015f0635bda42da3964f62c3877031c90283a93b2dd49bfeea34a41cf2c9c", func := "loop.example/g03105/laws.FnExactSlopeText", spec := "fnExactSlopeText", inPlace := ["internal/reflectlite.TypeOf"], unfollowed := true, recurses := true, named := ["loop.example/g03105/impl.errTooGreat", "internal/strconv.uint64pow10", "math/bits.deBruijn32tab", "math/bits.deBruijn64tab"], ifaces := true, apart := false, laid := [("math/bits.deBruijn32tab", laid_math_bits_deBruijn32tab), ("math/bits.deBruijn64tab", laid_math_bits_deBruijn64tab), ("internal/strconv.uint64pow10", laid_internal_strconv_uint64pow10), ("loop.example/g03105/impl.errTooGreat", laid_loop_example_g03105_impl_errTooGreat)] }
def FnExactSlopeTextSaid : Prop := fnExactSlopeTextRow.holds Tryd.pinned (OpenSpec.ofChange fnExactSlopeTextSpec)

/-- ITS FALSE NEIGHBOUR: 'it returns false'. Refute it at one input. -/
def fnExactSlopeTextWrong : ChangeSpec := { name := "fnExactSlopeText", vars := ["loop.example/g03105/impl.errTooGreat"], fn := fun _ => fun
  | [d, g1] => { results := [.lit (.bool false)], args := [d], vars := [g1] }
  | _ => none }
def FnExactSlopeTextWrongFalsely : Prop := fnExactSlopeTextRow.holds Tryd.pinned (OpenSpec.ofChange fnExactSlopeTextWrong)

/-- 'laws.FnExactParseSlope': WHATEVER THE INPUT: true; the input reads as it did. -/
def fnExactParseSlopeSpec : ChangeSpec := { name := "fnExactParseSlope", vars := ["loop.example/g03105/impl.errTooGreat"], fn := fun _ => fun
  | [d, g1] => { results := [.lit (.bool true)], args := [d], vars := [g1] }
  | _ => none }
def fnExactParseSlopeRow : OpenClaim := { program := "ytehibigjdbpikaadoor", sum := "06d015f0635bda42da3964f62c3877031c90283a93b2dd49bfeea34a41cf2c9c", func := "loop.example/g03105/laws.FnExactParseSlope", spec := "fnExactParseSlope", inPlace := ["internal/bytealg.IndexByteString", "internal/bytealg.IndexString", "internal/reflectlite.TypeOf"], unfollowed := true, recurses := true, named := ["internal/bytealg.MaxLen", "strconv.ErrSyntax", "strconv.ErrRange", "internal/strconv.uint64pow10", "math/bits.deBruijn32tab", "math/bits.deBruijn64tab", "loop.example/g03105/impl.errTooGreat"], ifaces := true, apart := false, laid := [("math/bits.deBruijn32tab", laid_math_bits_deBruijn32tab), ("math/bits.deBruijn64tab", laid_math_bits_deBruijn64tab), ("internal/strconv.uint64pow10", laid_internal_strconv_uint64pow10), ("strconv.ErrRange", laid_strconv_ErrRange), ("strconv.ErrSyntax", laid_strconv_ErrSyntax), ("loop.example/g03105/impl.errTooGreat", laid_loop_example_g03105_impl_errTooGreat)] }
def FnExactParseSlopeSaid : Prop := fnExactParseSlopeRow.holds Tryd.pinned (OpenSpec.ofChange fnExactParseSlopeSpec)

/-- ITS FALSE NEIGHBOUR: 'it returns false'. Refute it at one input. -/
def fnExactParseSlopeWrong : ChangeSpec := { name := "fnExactParseSlope", vars := ["loop.example/g03105/impl.errTooGreat"], fn := fun _ => fun
  | [d, g1] => { results := [.lit (.bool false)], args := [d], vars := [g1] }
  | _ => none }
def FnExactParseSlopeWrongFalsely : Prop := fnExactParseSlopeRow.holds Tryd.pinned (OpenSpec.ofChange fnExactParseSlopeWrong)

/-- 'laws.FnExactCrossNumber': WHATEVER THE INPUT: true; the input reads as it did. -/
def fnExactCrossNumberSpec : ChangeSpec := { name := "fnExactCrossNumber", vars := ["loop.example/g03105/impl.errTooGreat"], fn := fun _ => fun
  | [d1, d2, g1] => { results := [.lit (.bool true)], args := [d1, d2], vars := [g1] }
  | _ => none }
def fnExactCrossNumberRow : OpenClaim := { program := "ytehibigjdbpikaadoor", sum := "06d015f0635bda42da3964f62c3877031c90283a93b2dd49bfeea34a41cf2c9c", func := "loop.example/g03105/laws.FnExactCrossNumber", spec := "fnExactCrossNumber", inPlace := ["internal/reflectlite.TypeOf"], unfollowed := true, recurses := true, named := ["loop.example/g03105/impl.errTooGreat"], ifaces := true, apart := false, laid := [("loop.example/g03105/impl.errTooGreat", laid_loop_example_g03105_impl_errTooGreat)] }
def FnExactCrossNumberSaid : Prop := fnExactCrossNumberRow.holds Tryd.pinned (OpenSpec.ofChange fnExactCrossNumberSpec)

/-- ITS FALSE NEIGHBOUR: 'it returns false'. Refute it at one input. -/
def fnExactCrossNumberWrong : ChangeSpec := { name := "fnExactCrossNumber", vars := ["loop.example/g03105/impl.errTooGreat"], fn := fun _ => fun
  | [d1, d2, g1] => { results := [.lit (.bool false)], args := [d1, d2], vars := [g1] }
  | _ => none }
def FnExactCrossNumberWrongFalsely : Prop := fnExactCrossNumberRow.holds Tryd.pinned (OpenSpec.ofChange fnExactCrossNumberWrong)

/-- 'laws.FnExactSumSlope': WHATEVER THE INPUT: true; the input reads as it did. -/
def fnExactSumSlopeSpec : ChangeSpec := { name := "fnExactSumSlope", vars := ["loop.example/g03105/impl.errTooGreat"], fn := fun _ => fun
  | [d1, d2, g1] => { results := [.lit (.bool true)], args := [d1, d2], vars := [g1] }
  | _ => none }
def fnExactSumSlopeRow : OpenClaim := { program := "ytehibigjdbpikaadoor", sum := "06d015f0635bda42da3964f62c3877031c90283a93b2dd49bfeea34a41cf2c9c", func := "loop.example/g03105/laws.FnExactSumSlope", spec := "fnExactSumSlope", inPlace := ["internal/reflectlite.TypeOf"], unfollowed := true, recurses := true, named := ["loop.example/g03105/impl.errTooGreat"], ifaces := true, apart := false, laid := [("loop.example/g03105/impl.errTooGreat", laid_loop_example_g03105_impl_errTooGreat)] }
def FnExactSumSlopeSaid : Prop := fnExactSumSlopeRow.holds Tryd.pinned (OpenSpec.ofChange fnExactSumSlopeSpec)

/-- ITS FALSE NEIGHBOUR: 'it returns false'. Refute it at one input. -/
def fnExactSumSlopeWrong : ChangeSpec := { name := "fnExactSumSlope", vars := ["loop.example/g03105/impl.errTooGreat"], fn := fun _ => fun
  | [d1, d2, g1] => { results := [.lit (.bool false)], args := [d1, d2], vars := [g1] }
  | _ => none }
def FnExactSumSlopeWrongFalsely : Prop := fnExactSumSlopeRow.holds Tryd.pinned (OpenSpec.ofChange fnExactSumSlopeWrong)

/-- 'laws.FnExactTwistSlope': WHATEVER THE INPUT: true; the input reads as it did. -/
def fnExactTwistSlopeSpec : ChangeSpec := { name := "fnExactTwistSlope", vars := ["loop.example/g03105/impl.errTooGreat"], fn := fun _ => fun
  | [d1, d2, d3, g1] => { results := [.lit (.bool true)], args := [d1, d2, d3], vars := [g1] }
  | _ => none }
def fnExactTwistSlopeRow : OpenClaim := { program := "ytehibigjdbpikaadoor", sum := "06d015f0635bda42da3964f62c3877031c90283a93b2dd49bfeea34a41cf2c9c", func := "loop.example/g03105/laws.FnExactTwistSlope", spec := "fnExactTwistSlope", inPlace := ["internal/reflectlite.TypeOf"], unfollowed := true, recurses := true, named := ["loop.example/g03105/impl.errTooGreat"], ifaces := true, apart := false, laid := [("loop.example/g03105/impl.errTooGreat", laid_loop_example_g03105_impl_errTooGreat)] }
def FnExactTwistSlopeSaid : Prop := fnExactTwistSlopeRow.holds Tryd.pinned (OpenSpec.ofChange fnExactTwistSlopeSpec)

/-- ITS FALSE NEIGHBOUR: 'it returns false'. Refute it at one input. -/
def fnExactTwistSlopeWrong : ChangeSpec := { name := "fnExactTwistSlope", vars := ["loop.example/g03105/impl.errTooGreat"], fn := fun _ => fun
  | [d1, d2, d3, g1] => { results := [.lit (.bool false)], args := [d1, d2, d3], vars := [g1] }
  | _ => none }
def FnExactTwistSlopeWrongFalsely : Prop := fnExactTwistSlopeRow.holds Tryd.pinned (OpenSpec.ofChange fnExactTwistSlopeWrong)

/-- 'laws.FnExactSlopeWord': WHATEVER THE INPUT: true; the input reads as it did. -/
def fnExactSlopeWordSpec : ChangeSpec := { name := "fnExactSlopeWord", vars := ["loop.example/g03105/impl.errTooGreat"], fn := fun _ => fun
  | [d, g1] => { results := [.lit (.bool true)], args := [d], vars := [g1] }
  | _ => none }
def fnExactSlopeWordRow : OpenClaim := { program := "ytehibigjdbpikaadoor", sum := "06d015f0635bda42da3964f62c3877031c90283a93b2dd49bfeea34a41cf2c9c", func := "loop.example/g03105/laws.FnExactSlopeWord", spec := "fnExactSlopeWord", inPlace := ["internal/reflectlite.TypeOf"], unfollowed := true, recurses := true, named := ["loop.example/g03105/impl.errTooGreat"], ifaces := true, apart := false, laid := [("loop.example/g03105/impl.errTooGreat", laid_loop_example_g03105_impl_errTooGreat)] }
def FnExactSlopeWordSaid : Prop := fnExactSlopeWordRow.holds Tryd.pinned (OpenSpec.ofChange fnExactSlopeWordSpec)

/-- ITS FALSE NEIGHBOUR: 'it returns false'. Refute it at one input. -/
def fnExactSlopeWordWrong : ChangeSpec := { name := "fnExactSlopeWord", vars := ["loop.example/g03105/impl.errTooGreat"], fn := fun _ => fun
  | [d, g1] => { results := [.lit (.bool false)], args := [d], vars := [g1] }
  | _ => none }
def FnExactSlopeWordWrongFalsely : Prop := fnExactSlopeWordRow.holds Tryd.pinned (OpenSpec.ofChange fnExactSlopeWordWrong)

/-- 'laws.FnExactIsBasisPair': WHATEVER THE INPUT: true; the input reads as it did. -/
def fnExactIsBasisPairSpec : ChangeSpec := { name := "fnExactIsBasisPair", vars := ["loop.example/g03105/impl.errTooGreat"], fn := fun _ => fun
  | [d1, d2, g1] => { results := [.lit (.bool true)], args := [d1, d2], vars := [g1] }
  | _ => none }
def fnExactIsBasisPairRow : OpenClaim := { program := "ytehibigjdbpikaadoor", sum := "06d015f0635bda42da3964f62c3877031c90283a93b2dd49bfeea34a41cf2c9c", func := "loop.example/g03105/laws.FnExactIsBasisPair", spec := "fnExactIsBasisPair", inPlace := ["internal/reflectlite.TypeOf"], unfollowed := true, recurses := true, named := ["loop.example/g03105/impl.errTooGreat"], ifaces := true, apart := false, laid := [("loop.example/g03105/impl.errTooGreat", laid_loop_example_g03105_impl_errTooGreat)] }
def FnExactIsBasisPairSaid : Prop := fnExactIsBasisPairRow.holds Tryd.pinned (OpenSpec.ofChange fnExactIsBasisPairSpec)

/-- ITS FALSE NEIGHBOUR: 'it returns false'. Refute it at one input. -/
def fnExactIsBasisPairWrong : ChangeSpec := { name := "fnExactIsBasisPair", vars := ["loop.example/g03105/impl.errTooGreat"], fn := fun _ => fun
  | [d1, d2, g1] => { results := [.lit (.bool false)], args := [d1, d2], vars := [g1] }
  | _ => none }
def FnExactIsBasisPairWrongFalsely : Prop := fnExactIsBasisPairRow.holds Tryd.pinned (OpenSpec.ofChange fnExactIsBasisPairWrong)

/- THE SECOND FORM. 'bulk': how many values and letters a reading holds, each counted each time it is reached (what is shared counts as often as it is met; a slice's spare places count too). A statement '..UptoSaid' is the law's where the arguments, and the package variables that the reading takes, are together of bulk at most 1048576: NARROWER than '..Said'. Prove '..Said' where nothing that the law and all that it calls make is longer than what came in: it says more and counts as full. Else prove '..UptoSaid'. A law counts once. -/
mutual
def uptoBulk {H : Type} : DataW H → Nat
  | .lit (.string bytes) => bytes.length + 1
  | .lit _ => 1
  | .nil => 1
  | .ptr d => uptoBulk d + 1
  | .slice elems spare => uptoBulkAll elems + uptoBulkAll spare + 1
  | .agg parts => uptoBulkAll parts + 1
  | .iface _ d => uptoBulk d + 1
  | .map entries => uptoBulkEntries entries + 1
  | .held _ => 1
def uptoBulkAll {H : Type} : List (DataW H) → Nat
  | [] => 0
  | d :: r => uptoBulk d + uptoBulkAll r
def uptoBulkEntries {H : Type} : List (Lit × DataW H) → Nat
  | [] => 0
  | x :: r => uptoBulkEntry x + uptoBulkEntries r
def uptoBulkEntry {H : Type} : Lit × DataW H → Nat
  | (.string bytes, d) => bytes.length + uptoBulk d + 1
  | (_, d) => uptoBulk d + 1
 end
def uptoSmall : (H : Type) → List (DataW H) → Bool := fun _ ds => decide (uptoBulkAll ds ≤ 1048576)
def OpenSpec.upto (s : _root_.Go.ChangeSpec) : _root_.Go.OpenSpec := { _root_.Go.OpenSpec.ofChange s with cond := some uptoSmall }

/-- 'laws.FnExactIsSlope', WHERE WHAT IT READS IS OF BULK AT MOST 1048576: true; the input reads as it did. -/
def fnExactIsSlopeUptoRow : OpenClaim := { program := "ytehibigjdbpikaadoor", sum := "06d015f0635bda42da3964f62c3877031c90283a93b2dd49bfeea34a41cf2c9c", func := "loop.example/g03105/laws.FnExactIsSlope", spec := "fnExactIsSlope", inPlace := ["internal/reflectlite.TypeOf"], unfollowed := true, recurses := true, named := ["loop.example/g03105/impl.errTooGreat"], ifaces := true, apart := false, laid := [("loop.example/g03105/impl.errTooGreat", laid_loop_example_g03105_impl_errTooGreat)], narrowed := true }
def FnExactIsSlopeUptoSaid : Prop := fnExactIsSlopeUptoRow.holds Tryd.pinned (OpenSpec.upto fnExactIsSlopeSpec)

/-- 'laws.FnExactSlopeOf', WHERE WHAT IT READS IS OF BULK AT MOST 1048576: true; the input reads as it did. -/
def fnExactSlopeOfUptoRow : OpenClaim := { program := "ytehibigjdbpikaadoor", sum := "06d015f0635bda42da3964f62c3877031c90283a93b2dd49bfeea34a41cf2c9c", func := "loop.example/g03105/laws.FnExactSlopeOf", spec := "fnExactSlopeOf", inPlace := ["internal/reflectlite.TypeOf"], unfollowed := true, recurses := true, named := ["loop.example/g03105/impl.errTooGreat"], ifaces := true, apart := false, laid := [("loop.example/g03105/impl.errTooGreat", laid_loop_example_g03105_impl_errTooGreat)], narrowed := true }
def FnExactSlopeOfUptoSaid : Prop := fnExactSlopeOfUptoRow.holds Tryd.pinned (OpenSpec.upto fnExactSlopeOfSpec)

/-- 'laws.FnExactSlopeText', WHERE WHAT IT READS IS OF BULK AT MOST 1048576: true; the input reads as it did. -/
def fnExactSlopeTextUptoRow : OpenClaim := { program := "ytehibigjdbpikaadoor", sum := "06d015f0635bda42da3964f62c3877031c90283a93b2dd49bfeea34a41cf2c9c", func := "loop.example/g03105/laws.FnExactSlopeText", spec := "fnExactSlopeText", inPlace := ["internal/reflectlite.TypeOf"], unfollowed := true, recurses := true, named := ["loop.example/g03105/impl.errTooGreat", "internal/strconv.uint64pow10", "math/bits.deBruijn32tab", "math/bits.deBruijn64tab"], ifaces := true, apart := false, laid := [("math/bits.deBruijn32tab", laid_math_bits_deBruijn32tab), ("math/bits.deBruijn64tab", laid_math_bits_deBruijn64tab), ("internal/strconv.uint64pow10", laid_internal_strconv_uint64pow10), ("loop.example/g03105/impl.errTooGreat", laid_loop_example_g03105_impl_errTooGreat)], narrowed := true }
def FnExactSlopeTextUptoSaid : Prop := fnExactSlopeTextUptoRow.holds Tryd.pinned (OpenSpec.upto fnExactSlopeTextSpec)

/-- 'laws.FnExactParseSlope', WHERE WHAT IT READS IS OF BULK AT MOST 1048576: true; the input reads as it did. -/
def fnExactParseSlopeUptoRow : OpenClaim := { program := "ytehibigjdbpikaadoor", sum := "06d015f0635bda42da3964f62c3877031c90283a93b2dd49bfeea34a41cf2c9c", func := "loop.example/g03105/laws.FnExactParseSlope", spec := "fnExactParseSlope", inPlace := ["internal/bytealg.IndexByteString", "internal/bytealg.IndexString", "internal/reflectlite.TypeOf"], unfollowed := true, recurses := true, named := ["internal/bytealg.MaxLen", "strconv.ErrSyntax", "strconv.ErrRange", "internal/strconv.uint64pow10", "math/bits.deBruijn32tab", "math/bits.deBruijn64tab", "loop.example/g03105/impl.errTooGreat"], ifaces := true, apart := false, laid := [("math/bits.deBruijn32tab", laid_math_bits_deBruijn32tab), ("math/bits.deBruijn64tab", laid_math_bits_deBruijn64tab), ("internal/strconv.uint64pow10", laid_internal_strconv_uint64pow10), ("strconv.ErrRange", laid_strconv_ErrRange), ("strconv.ErrSyntax", laid_strconv_ErrSyntax), ("loop.example/g03105/impl.errTooGreat", laid_loop_example_g03105_impl_errTooGreat)], narrowed := true }
def FnExactParseSlopeUptoSaid : Prop := fnExactParseSlopeUptoRow.holds Tryd.pinned (OpenSpec.upto fnExactParseSlopeSpec)

/-- 'laws.FnExactCrossNumber', WHERE WHAT IT READS IS OF BULK AT MOST 1048576: true; the input reads as it did. -/
def fnExactCrossNumberUptoRow : OpenClaim := { program := "ytehibigjdbpikaadoor", sum := "06d015f0635bda42da3964f62c3877031c90283a93b2dd49bfeea34a41cf2c9c", func := "loop.example/g03105/laws.FnExactCrossNumber", spec := "fnExactCrossNumber", inPlace := ["internal/reflectlite.TypeOf"], unfollowed := true, recurses := true, named := ["loop.example/g03105/impl.errTooGreat"], ifaces := true, apart := false, laid := [("loop.example/g03105/impl.errTooGreat", laid_loop_example_g03105_impl_errTooGreat)], narrowed := true }
def FnExactCrossNumberUptoSaid : Prop := fnExactCrossNumberUptoRow.holds Tryd.pinned (OpenSpec.upto fnExactCrossNumberSpec)

/-- 'laws.FnExactSumSlope', WHERE WHAT IT READS IS OF BULK AT MOST 1048576: true; the input reads as it did. -/
def fnExactSumSlopeUptoRow : OpenClaim := { program := "ytehibigjdbpikaadoor", sum := "06d015f0635bda42da3964f62c3877031c90283a93b2dd49bfeea34a41cf2c9c", func := "loop.example/g03105/laws.FnExactSumSlope", spec := "fnExactSumSlope", inPlace := ["internal/reflectlite.TypeOf"], unfollowed := true, recurses := true, named := ["loop.example/g03105/impl.errTooGreat"], ifaces := true, apart := false, laid := [("loop.example/g03105/impl.errTooGreat", laid_loop_example_g03105_impl_errTooGreat)], narrowed := true }
def FnExactSumSlopeUptoSaid : Prop := fnExactSumSlopeUptoRow.holds Tryd.pinned (OpenSpec.upto fnExactSumSlopeSpec)

/-- 'laws.FnExactTwistSlope', WHERE WHAT IT READS IS OF BULK AT MOST 1048576: true; the input reads as it did. -/
def fnExactTwistSlopeUptoRow : OpenClaim := { program := "ytehibigjdbpikaadoor", sum := "06d015f0635bda42da3964f62c3877031c90283a93b2dd49bfeea34a41cf2c9c", func := "loop.example/g03105/laws.FnExactTwistSlope", spec := "fnExactTwistSlope", inPlace := ["internal/reflectlite.TypeOf"], unfollowed := true, recurses := true, named := ["loop.example/g03105/impl.errTooGreat"], ifaces := true, apart := false, laid := [("loop.example/g03105/impl.errTooGreat", laid_loop_example_g03105_impl_errTooGreat)], narrowed := true }
def FnExactTwistSlopeUptoSaid : Prop := fnExactTwistSlopeUptoRow.holds Tryd.pinned (OpenSpec.upto fnExactTwistSlopeSpec)

/-- 'laws.FnExactSlopeWord', WHERE WHAT IT READS IS OF BULK AT MOST 1048576: true; the input reads as it did. -/
def fnExactSlopeWordUptoRow : OpenClaim := { program := "ytehibigjdbpikaadoor", sum := "06d015f0635bda42da3964f62c3877031c90283a93b2dd49bfeea34a41cf2c9c", func := "loop.example/g03105/laws.FnExactSlopeWord", spec := "fnExactSlopeWord", inPlace := ["internal/reflectlite.TypeOf"], unfollowed := true, recurses := true, named := ["loop.example/g03105/impl.errTooGreat"], ifaces := true, apart := false, laid := [("loop.example/g03105/impl.errTooGreat", laid_loop_example_g03105_impl_errTooGreat)], narrowed := true }
def FnExactSlopeWordUptoSaid : Prop := fnExactSlopeWordUptoRow.holds Tryd.pinned (OpenSpec.upto fnExactSlopeWordSpec)

/-- 'laws.FnExactIsBasisPair', WHERE WHAT IT READS IS OF BULK AT MOST 1048576: true; the input reads as it did. -/
def fnExactIsBasisPairUptoRow : OpenClaim := { program := "ytehibigjdbpikaadoor", sum := "06d015f0635bda42da3964f62c3877031c90283a93b2dd49bfeea34a41cf2c9c", func := "loop.example/g03105/laws.FnExactIsBasisPair", spec := "fnExactIsBasisPair", inPlace := ["internal/reflectlite.TypeOf"], unfollowed := true, recurses := true, named := ["loop.example/g03105/impl.errTooGreat"], ifaces := true, apart := false, laid := [("loop.example/g03105/impl.errTooGreat", laid_loop_example_g03105_impl_errTooGreat)], narrowed := true }
def FnExactIsBasisPairUptoSaid : Prop := fnExactIsBasisPairUptoRow.holds Tryd.pinned (OpenSpec.upto fnExactIsBasisPairSpec)

end Rows
end Go.Proofs.YtehibigjdbpikaaDoor
