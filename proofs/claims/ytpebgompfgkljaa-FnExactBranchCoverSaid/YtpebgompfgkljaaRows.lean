/-
  No cell of these rows narrows 'for every input' (looked for: loops, veiled, ifaces, maps, wideKeys, modest, calm, conditions, laid).
  DERIVED. THE GIVEN ROWS OF THIS SEAT. 8 by the template 'for every input the law returns true; each argument reads behind the call as it read before'; 0 by the template 'total and deterministic' (their statements: YtpebgompfgkljaaTotals.lean).
  GIVEN WITH THE SEED: the statements are not yours to turn. If you find one false, say at which input.
  Laid BY PROGRAM, IN A SANDBOX (cutbox-rows.mjs): the forced cells as the released guide's own fill.sh prints them over the translation 9e20842eeac9d609… (all of the seat's roots in one cut). By AI agents, Wed Nov 11 2026. No macro, syntax, notation, axiom, sorry.
-/
import Derived.Test.YtpebgompfgkljaaChecked
import GoSem.Claim
import GoSem.ClaimJoined
import GoSem.ClaimMapViews
import Derived.JoinedTies
import Derived.KernelRfl
namespace Go.Proofs.Ytpebgompfgkljaa
/- THE CELL 'sum', in the pinned program and in every row, IS THE sha256 OF THE DUMP (.gsa) THAT YtpebgompfgkljaaProg.lean LOADS. Nothing in Lean hashes anything: it is a label: what it is worth is what the hold of that sum in a sandbox is worth. -/
noncomputable def Try.pinned : Pinned := { name := "ytpebgompfgkljaa", sum := "9e20842eeac9d6095c8eb03fef5aacb54c67f9565b0ad72595abcb7932d401eb", checked := Try.checked }
namespace Rows
def none {H : Type} : Left H := { results := [], args := [] }

/-- 'laws.FnMoves': WHATEVER THE INPUT: true; the input reads as it did. -/
def fnMovesSpec : ChangeSpec := { name := "fnMoves", fn := fun _ => fun
  | [d] => { results := [.lit (.bool true)], args := [d] }
  | _ => none }
def fnMovesRow : OpenClaim := { program := "ytpebgompfgkljaa", sum := "9e20842eeac9d6095c8eb03fef5aacb54c67f9565b0ad72595abcb7932d401eb", func := "loop.example/g03105/laws.FnMoves", spec := "fnMoves", unfollowed := true, recurses := true, apart := false }
def FnMovesSaid : Prop := fnMovesRow.holds Try.pinned (OpenSpec.ofChange fnMovesSpec)

/-- ITS FALSE NEIGHBOUR: 'it returns false'. Refute it at one input. -/
def fnMovesWrong : ChangeSpec := { name := "fnMoves", fn := fun _ => fun
  | [d] => { results := [.lit (.bool false)], args := [d] }
  | _ => none }
def FnMovesWrongFalsely : Prop := fnMovesRow.holds Try.pinned (OpenSpec.ofChange fnMovesWrong)

/-- 'laws.FnExactIsPassport': WHATEVER THE INPUT: true; the input reads as it did. -/
def fnExactIsPassportSpec : ChangeSpec := { name := "fnExactIsPassport", fn := fun _ => fun
  | [d] => { results := [.lit (.bool true)], args := [d] }
  | _ => none }
def fnExactIsPassportRow : OpenClaim := { program := "ytpebgompfgkljaa", sum := "9e20842eeac9d6095c8eb03fef5aacb54c67f9565b0ad72595abcb7932d401eb", func := "loop.example/g03105/laws.FnExactIsPassport", spec := "fnExactIsPassport", apart := false }
def FnExactIsPassportSaid : Prop := fnExactIsPassportRow.holds Try.pinned (OpenSpec.ofChange fnExactIsPassportSpec)

/-- ITS FALSE NEIGHBOUR: 'it returns false'. Refute it at one input. -/
def fnExactIsPassportWrong : ChangeSpec := { name := "fnExactIsPassport", fn := fun _ => fun
  | [d] => { results := [.lit (.bool false)], args := [d] }
  | _ => none }
def FnExactIsPassportWrongFalsely : Prop := fnExactIsPassportRow.holds Try.pinned (OpenSpec.ofChange fnExactIsPassportWrong)

/-- 'laws.FnExactBranchSum': WHATEVER THE INPUT: true; the input reads as it did. -/
def fnExactBranchSumSpec : ChangeSpec := { name := "fnExactBranchSum", fn := fun _ => fun
  | [d] => { results := [.lit (.bool true)], args := [d] }
  | _ => none }
def fnExactBranchSumRow : OpenClaim := { program := "ytpebgompfgkljaa", sum := "9e20842eeac9d6095c8eb03fef5aacb54c67f9565b0ad72595abcb7932d401eb", func := "loop.example/g03105/laws.FnExactBranchSum", spec := "fnExactBranchSum", unfollowed := true, recurses := true, apart := false }
def FnExactBranchSumSaid : Prop := fnExactBranchSumRow.holds Try.pinned (OpenSpec.ofChange fnExactBranchSumSpec)

/-- ITS FALSE NEIGHBOUR: 'it returns false'. Refute it at one input. -/
def fnExactBranchSumWrong : ChangeSpec := { name := "fnExactBranchSum", fn := fun _ => fun
  | [d] => { results := [.lit (.bool false)], args := [d] }
  | _ => none }
def FnExactBranchSumWrongFalsely : Prop := fnExactBranchSumRow.holds Try.pinned (OpenSpec.ofChange fnExactBranchSumWrong)

/-- 'laws.FnExactBranchCover': WHATEVER THE INPUT: true; the input reads as it did. -/
def fnExactBranchCoverSpec : ChangeSpec := { name := "fnExactBranchCover", fn := fun _ => fun
  | [d] => { results := [.lit (.bool true)], args := [d] }
  | _ => none }
def fnExactBranchCoverRow : OpenClaim := { program := "ytpebgompfgkljaa", sum := "9e20842eeac9d6095c8eb03fef5aacb54c67f9565b0ad72595abcb7932d401eb", func := "loop.example/g03105/laws.FnExactBranchCover", spec := "fnExactBranchCover", unfollowed := true, recurses := true, apart := false }
def FnExactBranchCoverSaid : Prop := fnExactBranchCoverRow.holds Try.pinned (OpenSpec.ofChange fnExactBranchCoverSpec)

/-- ITS FALSE NEIGHBOUR: 'it returns false'. Refute it at one input. -/
def fnExactBranchCoverWrong : ChangeSpec := { name := "fnExactBranchCover", fn := fun _ => fun
  | [d] => { results := [.lit (.bool false)], args := [d] }
  | _ => none }
def FnExactBranchCoverWrongFalsely : Prop := fnExactBranchCoverRow.holds Try.pinned (OpenSpec.ofChange fnExactBranchCoverWrong)

/-- 'laws.FnExactCycleTypes': WHATEVER THE INPUT: true; the input reads as it did. -/
def fnExactCycleTypesSpec : ChangeSpec := { name := "fnExactCycleTypes", fn := fun _ => fun
  | [d] => { results := [.lit (.bool true)], args := [d] }
  | _ => none }
def fnExactCycleTypesRow : OpenClaim := { program := "ytpebgompfgkljaa", sum := "9e20842eeac9d6095c8eb03fef5aacb54c67f9565b0ad72595abcb7932d401eb", func := "loop.example/g03105/laws.FnExactCycleTypes", spec := "fnExactCycleTypes", unfollowed := true, recurses := true, apart := false }
def FnExactCycleTypesSaid : Prop := fnExactCycleTypesRow.holds Try.pinned (OpenSpec.ofChange fnExactCycleTypesSpec)

/-- ITS FALSE NEIGHBOUR: 'it returns false'. Refute it at one input. -/
def fnExactCycleTypesWrong : ChangeSpec := { name := "fnExactCycleTypes", fn := fun _ => fun
  | [d] => { results := [.lit (.bool false)], args := [d] }
  | _ => none }
def FnExactCycleTypesWrongFalsely : Prop := fnExactCycleTypesRow.holds Try.pinned (OpenSpec.ofChange fnExactCycleTypesWrong)

/-- 'laws.FnExactCloseUp': WHATEVER THE INPUT: true; the input reads as it did. -/
def fnExactCloseUpSpec : ChangeSpec := { name := "fnExactCloseUp", fn := fun _ => fun
  | [d] => { results := [.lit (.bool true)], args := [d] }
  | _ => none }
def fnExactCloseUpRow : OpenClaim := { program := "ytpebgompfgkljaa", sum := "9e20842eeac9d6095c8eb03fef5aacb54c67f9565b0ad72595abcb7932d401eb", func := "loop.example/g03105/laws.FnExactCloseUp", spec := "fnExactCloseUp", unfollowed := true, recurses := true, apart := false }
def FnExactCloseUpSaid : Prop := fnExactCloseUpRow.holds Try.pinned (OpenSpec.ofChange fnExactCloseUpSpec)

/-- ITS FALSE NEIGHBOUR: 'it returns false'. Refute it at one input. -/
def fnExactCloseUpWrong : ChangeSpec := { name := "fnExactCloseUp", fn := fun _ => fun
  | [d] => { results := [.lit (.bool false)], args := [d] }
  | _ => none }
def FnExactCloseUpWrongFalsely : Prop := fnExactCloseUpRow.holds Try.pinned (OpenSpec.ofChange fnExactCloseUpWrong)

/-- 'laws.FnExactBraidPassport': WHATEVER THE INPUT: true; the input reads as it did. -/
def fnExactBraidPassportSpec : ChangeSpec := { name := "fnExactBraidPassport", fn := fun _ => fun
  | [d1, d2] => { results := [.lit (.bool true)], args := [d1, d2] }
  | _ => none }
def fnExactBraidPassportRow : OpenClaim := { program := "ytpebgompfgkljaa", sum := "9e20842eeac9d6095c8eb03fef5aacb54c67f9565b0ad72595abcb7932d401eb", func := "loop.example/g03105/laws.FnExactBraidPassport", spec := "fnExactBraidPassport", unfollowed := true, recurses := true, apart := false }
def FnExactBraidPassportSaid : Prop := fnExactBraidPassportRow.holds Try.pinned (OpenSpec.ofChange fnExactBraidPassportSpec)

/-- ITS FALSE NEIGHBOUR: 'it returns false'. Refute it at one input. -/
def fnExactBraidPassportWrong : ChangeSpec := { name := "fnExactBraidPassport", fn := fun _ => fun
  | [d1, d2] => { results := [.lit (.bool false)], args := [d1, d2] }
  | _ => none }
def FnExactBraidPassportWrongFalsely : Prop := fnExactBraidPassportRow.holds Try.pinned (OpenSpec.ofChange fnExactBraidPassportWrong)

/-- 'laws.FnExactMapPassport': WHATEVER THE INPUT: true; the input reads as it did. -/
def fnExactMapPassportSpec : ChangeSpec := { name := "fnExactMapPassport", fn := fun _ => fun
  | [d] => { results := [.lit (.bool true)], args := [d] }
  | _ => none }
def fnExactMapPassportRow : OpenClaim := { program := "ytpebgompfgkljaa", sum := "9e20842eeac9d6095c8eb03fef5aacb54c67f9565b0ad72595abcb7932d401eb", func := "loop.example/g03105/laws.FnExactMapPassport", spec := "fnExactMapPassport", unfollowed := true, recurses := true, apart := false }
def FnExactMapPassportSaid : Prop := fnExactMapPassportRow.holds Try.pinned (OpenSpec.ofChange fnExactMapPassportSpec)

/-- ITS FALSE NEIGHBOUR: 'it returns false'. Refute it at one input. -/
def fnExactMapPassportWrong : ChangeSpec := { name := "fnExactMapPassport", fn := fun _ => fun
  | [d] => { results := [.lit (.bool false)], args := [d] }
  | _ => none }
def FnExactMapPassportWrongFalsely : Prop := fnExactMapPassportRow.holds Try.pinned (OpenSpec.ofChange fnExactMapPassportWrong)

/- THE SECOND FORM. 'bulk': how many values and letters a reading holds, each counted each time it is reached (what is shared counts as often as it is met; a slice's spare places count too). A statement '..UptoSaid' is the law's where the arguments, and the package variables that the reading takes, are together of bulk at most 1048576: NARROWER than '..Said'. Prove '..Said' where nothing that the law and all that it calls make is longer than what came in: it says more and counts as full. Else prove '..UptoSaid'. A law counts once. -/
mutual
def uptoBulk {H : Type} : DataW H → Nat
  | .lit (.string bytes) => bytes.length + 1
  | .lit _ => 1
  | .nil => 1
  | .ptr d => uptoBulk d + 1
  | .slice elems spare => uptoBulkAll elems + uptoBulkAll spare + 1
  | .agg parts => uptoBulkAll parts + 1
  | .iface _ d => uptoBulk d + 1
  | .map entries => uptoBulkEntries entries + 1
  | .held _ => 1
def uptoBulkAll {H : Type} : List (DataW H) → Nat
  | [] => 0
  | d :: r => uptoBulk d + uptoBulkAll r
def uptoBulkEntries {H : Type} : List (Lit × DataW H) → Nat
  | [] => 0
  | x :: r => uptoBulkEntry x + uptoBulkEntries r
def uptoBulkEntry {H : Type} : Lit × DataW H → Nat
  | (.string bytes, d) => bytes.length + uptoBulk d + 1
  | (_, d) => uptoBulk d + 1
 end
def uptoSmall : (H : Type) → List (DataW H) → Bool := fun _ ds => decide (uptoBulkAll ds ≤ 1048576)
def OpenSpec.upto (s : _root_.Go.ChangeSpec) : _root_.Go.OpenSpec := { _root_.Go.OpenSpec.ofChange s with cond := some uptoSmall }

/-- 'laws.FnMoves', WHERE WHAT IT READS IS OF BULK AT MOST 1048576: true; the input reads as it did. -/
def fnMovesUptoRow : OpenClaim := { program := "ytpebgompfgkljaa", sum := "9e20842eeac9d6095c8eb03fef5aacb54c67f9565b0ad72595abcb7932d401eb", func := "loop.example/g03105/laws.FnMoves", spec := "fnMoves", unfollowed := true, recurses := true, apart := false, narrowed := true }
def FnMovesUptoSaid : Prop := fnMovesUptoRow.holds Try.pinned (OpenSpec.upto fnMovesSpec)

/-- 'laws.FnExactIsPassport', WHERE WHAT IT READS IS OF BULK AT MOST 1048576: true; the input reads as it did. -/
def fnExactIsPassportUptoRow : OpenClaim := { program := "ytpebgompfgkljaa", sum := "9e20842eeac9d6095c8eb03fef5aacb54c67f9565b0ad72595abcb7932d401eb", func := "loop.example/g03105/laws.FnExactIsPassport", spec := "fnExactIsPassport", apart := false, narrowed := true }
def FnExactIsPassportUptoSaid : Prop := fnExactIsPassportUptoRow.holds Try.pinned (OpenSpec.upto fnExactIsPassportSpec)

/-- 'laws.FnExactBranchSum', WHERE WHAT IT READS IS OF BULK AT MOST 1048576: true; the input reads as it did. -/
def fnExactBranchSumUptoRow : OpenClaim := { program := "ytpebgompfgkljaa", sum := "9e20842eeac9d6095c8eb03fef5aacb54c67f9565b0ad72595abcb7932d401eb", func := "loop.example/g03105/laws.FnExactBranchSum", spec := "fnExactBranchSum", unfollowed := true, recurses := true, apart := false, narrowed := true }
def FnExactBranchSumUptoSaid : Prop := fnExactBranchSumUptoRow.holds Try.pinned (OpenSpec.upto fnExactBranchSumSpec)

/-- 'laws.FnExactBranchCover', WHERE WHAT IT READS IS OF BULK AT MOST 1048576: true; the input reads as it did. -/
def fnExactBranchCoverUptoRow : OpenClaim := { program := "ytpebgompfgkljaa", sum := "9e20842eeac9d6095c8eb03fef5aacb54c67f9565b0ad72595abcb7932d401eb", func := "loop.example/g03105/laws.FnExactBranchCover", spec := "fnExactBranchCover", unfollowed := true, recurses := true, apart := false, narrowed := true }
def FnExactBranchCoverUptoSaid : Prop := fnExactBranchCoverUptoRow.holds Try.pinned (OpenSpec.upto fnExactBranchCoverSpec)

/-- 'laws.FnExactCycleTypes', WHERE WHAT IT READS IS OF BULK AT MOST 1048576: true; the input reads as it did. -/
def fnExactCycleTypesUptoRow : OpenClaim := { program := "ytpebgompfgkljaa", sum := "9e20842eeac9d6095c8eb03fef5aacb54c67f9565b0ad72595abcb7932d401eb", func := "loop.example/g03105/laws.FnExactCycleTypes", spec := "fnExactCycleTypes", unfollowed := true, recurses := true, apart := false, narrowed := true }
def FnExactCycleTypesUptoSaid : Prop := fnExactCycleTypesUptoRow.holds Try.pinned (OpenSpec.upto fnExactCycleTypesSpec)

/-- 'laws.FnExactCloseUp', WHERE WHAT IT READS IS OF BULK AT MOST 1048576: true; the input reads as it did. -/
def fnExactCloseUpUptoRow : OpenClaim := { program := "ytpebgompfgkljaa", sum := "9e20842eeac9d6095c8eb03fef5aacb54c67f9565b0ad72595abcb7932d401eb", func := "loop.example/g03105/laws.FnExactCloseUp", spec := "fnExactCloseUp", unfollowed := true, recurses := true, apart := false, narrowed := true }
def FnExactCloseUpUptoSaid : Prop := fnExactCloseUpUptoRow.holds Try.pinned (OpenSpec.upto fnExactCloseUpSpec)

/-- 'laws.FnExactBraidPassport', WHERE WHAT IT READS IS OF BULK AT MOST 1048576: true; the input reads as it did. -/
def fnExactBraidPassportUptoRow : OpenClaim := { program := "ytpebgompfgkljaa", sum := "9e20842eeac9d6095c8eb03fef5aacb54c67f9565b0ad72595abcb7932d401eb", func := "loop.example/g03105/laws.FnExactBraidPassport", spec := "fnExactBraidPassport", unfollowed := true, recurses := true, apart := false, narrowed := true }
def FnExactBraidPassportUptoSaid : Prop := fnExactBraidPassportUptoRow.holds Try.pinned (OpenSpec.upto fnExactBraidPassportSpec)

/-- 'laws.FnExactMapPassport', WHERE WHAT IT READS IS OF BULK AT MOST 1048576: true; the input reads as it did. -/
def fnExactMapPassportUptoRow : OpenClaim := { program := "ytpebgompfgkljaa", sum := "9e20842eeac9d6095c8eb03fef5aacb54c67f9565b0ad72595abcb7932d401eb", func := "loop.example/g03105/laws.FnExactMapPassport", spec := "fnExactMapPassport", unfollowed := true, recurses := true, apart := false, narrowed := true }
def FnExactMapPassportUptoSaid : Prop := fnExactMapPassportUptoRow.holds Try.pinned (OpenSpec.upto fnExactMapPassportSpec)

end Rows
end Go.Proofs.Ytpebgompfgkljaa
