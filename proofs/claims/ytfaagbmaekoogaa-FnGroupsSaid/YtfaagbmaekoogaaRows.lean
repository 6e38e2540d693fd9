/-
  No cell of these rows narrows 'for every input' (looked for: loops, veiled, ifaces, maps, wideKeys, modest, calm, conditions, laid).
  DERIVED. THE GIVEN ROWS OF THIS SEAT. 9 by the template 'for every input the law returns true; each argument reads behind the call as it read before'; 0 by the template 'total and deterministic' (their statements: YtfaagbmaekoogaaTotals.lean).
  GIVEN WITH THE SEED: the statements are not yours to turn. If you find one false, say at which input.
  Laid BY PROGRAM, IN A SANDBOX (cutbox-rows.mjs): the forced cells as the released guide's own fill.sh prints them over the translation 77c65bc42fcc4542… (all of the seat's roots in one cut). By AI agents, Wed Nov 11 2026. No macro, syntax, notation, axiom, sorry.
-/
import Derived.Test.YtfaagbmaekoogaaChecked
import GoSem.Claim
import GoSem.ClaimJoined
import GoSem.ClaimMapViews
import Derived.JoinedTies
import Derived.KernelRfl
namespace Go.Proofs.Ytfaagbmaekoogaa
/- THE CELL 'sum', in the pinned program and in every row, IS THE sha256 OF THE DUMP (.gsa) THAT YtfaagbmaekoogaaProg.lean LOADS. Nothing in Lean hashes anything: it is a label: what it is worth is what the hold of that sum in a sandbox is worth. -/
noncomputable def Try.pinned : Pinned := { name := "ytfaagbmaekoogaa", sum := "77c65bc42fcc4542e94b0827794eee28ca06aab25288a7d2971ec9a8ceb55375", checked := Try.checked }
namespace Rows
def none {H : Type} : Left H := { results := [], args := [] }

/-- 'laws.FnMoves': WHATEVER THE INPUT: true; the input reads as it did. -/
def fnMovesSpec : ChangeSpec := { name := "fnMoves", fn := fun _ => fun
  | [d] => { results := [.lit (.bool true)], args := [d] }
  | _ => none }
def fnMovesRow : OpenClaim := { program := "ytfaagbmaekoogaa", sum := "77c65bc42fcc4542e94b0827794eee28ca06aab25288a7d2971ec9a8ceb55375", func := "loop.example/g03105/laws.FnMoves", spec := "fnMoves", unfollowed := true, recurses := true, apart := false }
def FnMovesSaid : Prop := fnMovesRow.holds Try.pinned (OpenSpec.ofChange fnMovesSpec)

/-- ITS FALSE NEIGHBOUR: 'it returns false'. Refute it at one input. -/
def fnMovesWrong : ChangeSpec := { name := "fnMoves", fn := fun _ => fun
  | [d] => { results := [.lit (.bool false)], args := [d] }
  | _ => none }
def FnMovesWrongFalsely : Prop := fnMovesRow.holds Try.pinned (OpenSpec.ofChange fnMovesWrong)

/-- 'laws.FnGroups': WHATEVER THE INPUT: true; the input reads as it did. -/
def fnGroupsSpec : ChangeSpec := { name := "fnGroups", fn := fun _ => fun
  | [d] => { results := [.lit (.bool true)], args := [d] }
  | _ => none }
def fnGroupsRow : OpenClaim := { program := "ytfaagbmaekoogaa", sum := "77c65bc42fcc4542e94b0827794eee28ca06aab25288a7d2971ec9a8ceb55375", func := "loop.example/g03105/laws.FnGroups", spec := "fnGroups", unfollowed := true, recurses := true, apart := false }
def FnGroupsSaid : Prop := fnGroupsRow.holds Try.pinned (OpenSpec.ofChange fnGroupsSpec)

/-- ITS FALSE NEIGHBOUR: 'it returns false'. Refute it at one input. -/
def fnGroupsWrong : ChangeSpec := { name := "fnGroups", fn := fun _ => fun
  | [d] => { results := [.lit (.bool false)], args := [d] }
  | _ => none }
def FnGroupsWrongFalsely : Prop := fnGroupsRow.holds Try.pinned (OpenSpec.ofChange fnGroupsWrong)

/-- 'laws.FnExactRelator': WHATEVER THE INPUT: true; the input reads as it did. -/
def fnExactRelatorSpec : ChangeSpec := { name := "fnExactRelator", fn := fun _ => fun
  | [d] => { results := [.lit (.bool true)], args := [d] }
  | _ => none }
def fnExactRelatorRow : OpenClaim := { program := "ytfaagbmaekoogaa", sum := "77c65bc42fcc4542e94b0827794eee28ca06aab25288a7d2971ec9a8ceb55375", func := "loop.example/g03105/laws.FnExactRelator", spec := "fnExactRelator", apart := false }
def FnExactRelatorSaid : Prop := fnExactRelatorRow.holds Try.pinned (OpenSpec.ofChange fnExactRelatorSpec)

/-- ITS FALSE NEIGHBOUR: 'it returns false'. Refute it at one input. -/
def fnExactRelatorWrong : ChangeSpec := { name := "fnExactRelator", fn := fun _ => fun
  | [d] => { results := [.lit (.bool false)], args := [d] }
  | _ => none }
def FnExactRelatorWrongFalsely : Prop := fnExactRelatorRow.holds Try.pinned (OpenSpec.ofChange fnExactRelatorWrong)

/-- 'laws.FnExactDehnStep': WHATEVER THE INPUT: true; the input reads as it did. -/
def fnExactDehnStepSpec : ChangeSpec := { name := "fnExactDehnStep", fn := fun _ => fun
  | [d1, d2] => { results := [.lit (.bool true)], args := [d1, d2] }
  | _ => none }
def fnExactDehnStepRow : OpenClaim := { program := "ytfaagbmaekoogaa", sum := "77c65bc42fcc4542e94b0827794eee28ca06aab25288a7d2971ec9a8ceb55375", func := "loop.example/g03105/laws.FnExactDehnStep", spec := "fnExactDehnStep", unfollowed := true, recurses := true, apart := false }
def FnExactDehnStepSaid : Prop := fnExactDehnStepRow.holds Try.pinned (OpenSpec.ofChange fnExactDehnStepSpec)

/-- ITS FALSE NEIGHBOUR: 'it returns false'. Refute it at one input. -/
def fnExactDehnStepWrong : ChangeSpec := { name := "fnExactDehnStep", fn := fun _ => fun
  | [d1, d2] => { results := [.lit (.bool false)], args := [d1, d2] }
  | _ => none }
def FnExactDehnStepWrongFalsely : Prop := fnExactDehnStepRow.holds Try.pinned (OpenSpec.ofChange fnExactDehnStepWrong)

/-- 'laws.FnExactDehnWord': WHATEVER THE INPUT: true; the input reads as it did. -/
def fnExactDehnWordSpec : ChangeSpec := { name := "fnExactDehnWord", fn := fun _ => fun
  | [d1, d2] => { results := [.lit (.bool true)], args := [d1, d2] }
  | _ => none }
def fnExactDehnWordRow : OpenClaim := { program := "ytfaagbmaekoogaa", sum := "77c65bc42fcc4542e94b0827794eee28ca06aab25288a7d2971ec9a8ceb55375", func := "loop.example/g03105/laws.FnExactDehnWord", spec := "fnExactDehnWord", unfollowed := true, recurses := true, apart := false }
def FnExactDehnWordSaid : Prop := fnExactDehnWordRow.holds Try.pinned (OpenSpec.ofChange fnExactDehnWordSpec)

/-- ITS FALSE NEIGHBOUR: 'it returns false'. Refute it at one input. -/
def fnExactDehnWordWrong : ChangeSpec := { name := "fnExactDehnWord", fn := fun _ => fun
  | [d1, d2] => { results := [.lit (.bool false)], args := [d1, d2] }
  | _ => none }
def FnExactDehnWordWrongFalsely : Prop := fnExactDehnWordRow.holds Try.pinned (OpenSpec.ofChange fnExactDehnWordWrong)

/-- 'laws.FnExactIsTrivialWord': WHATEVER THE INPUT: true; the input reads as it did. -/
def fnExactIsTrivialWordSpec : ChangeSpec := { name := "fnExactIsTrivialWord", fn := fun _ => fun
  | [d1, d2] => { results := [.lit (.bool true)], args := [d1, d2] }
  | _ => none }
def fnExactIsTrivialWordRow : OpenClaim := { program := "ytfaagbmaekoogaa", sum := "77c65bc42fcc4542e94b0827794eee28ca06aab25288a7d2971ec9a8ceb55375", func := "loop.example/g03105/laws.FnExactIsTrivialWord", spec := "fnExactIsTrivialWord", unfollowed := true, recurses := true, apart := false }
def FnExactIsTrivialWordSaid : Prop := fnExactIsTrivialWordRow.holds Try.pinned (OpenSpec.ofChange fnExactIsTrivialWordSpec)

/-- ITS FALSE NEIGHBOUR: 'it returns false'. Refute it at one input. -/
def fnExactIsTrivialWordWrong : ChangeSpec := { name := "fnExactIsTrivialWord", fn := fun _ => fun
  | [d1, d2] => { results := [.lit (.bool false)], args := [d1, d2] }
  | _ => none }
def FnExactIsTrivialWordWrongFalsely : Prop := fnExactIsTrivialWordRow.holds Try.pinned (OpenSpec.ofChange fnExactIsTrivialWordWrong)

/-- 'laws.FnExactAreEqualWords': WHATEVER THE INPUT: true; the input reads as it did. -/
def fnExactAreEqualWordsSpec : ChangeSpec := { name := "fnExactAreEqualWords", fn := fun _ => fun
  | [d1, d2, d3] => { results := [.lit (.bool true)], args := [d1, d2, d3] }
  | _ => none }
def fnExactAreEqualWordsRow : OpenClaim := { program := "ytfaagbmaekoogaa", sum := "77c65bc42fcc4542e94b0827794eee28ca06aab25288a7d2971ec9a8ceb55375", func := "loop.example/g03105/laws.FnExactAreEqualWords", spec := "fnExactAreEqualWords", unfollowed := true, recurses := true, apart := false }
def FnExactAreEqualWordsSaid : Prop := fnExactAreEqualWordsRow.holds Try.pinned (OpenSpec.ofChange fnExactAreEqualWordsSpec)

/-- ITS FALSE NEIGHBOUR: 'it returns false'. Refute it at one input. -/
def fnExactAreEqualWordsWrong : ChangeSpec := { name := "fnExactAreEqualWords", fn := fun _ => fun
  | [d1, d2, d3] => { results := [.lit (.bool false)], args := [d1, d2, d3] }
  | _ => none }
def FnExactAreEqualWordsWrongFalsely : Prop := fnExactAreEqualWordsRow.holds Try.pinned (OpenSpec.ofChange fnExactAreEqualWordsWrong)

/-- 'laws.FnExactHomologyOf': WHATEVER THE INPUT: true; the input reads as it did. -/
def fnExactHomologyOfSpec : ChangeSpec := { name := "fnExactHomologyOf", fn := fun _ => fun
  | [d1, d2] => { results := [.lit (.bool true)], args := [d1, d2] }
  | _ => none }
def fnExactHomologyOfRow : OpenClaim := { program := "ytfaagbmaekoogaa", sum := "77c65bc42fcc4542e94b0827794eee28ca06aab25288a7d2971ec9a8ceb55375", func := "loop.example/g03105/laws.FnExactHomologyOf", spec := "fnExactHomologyOf", apart := false }
def FnExactHomologyOfSaid : Prop := fnExactHomologyOfRow.holds Try.pinned (OpenSpec.ofChange fnExactHomologyOfSpec)

/-- ITS FALSE NEIGHBOUR: 'it returns false'. Refute it at one input. -/
def fnExactHomologyOfWrong : ChangeSpec := { name := "fnExactHomologyOf", fn := fun _ => fun
  | [d1, d2] => { results := [.lit (.bool false)], args := [d1, d2] }
  | _ => none }
def FnExactHomologyOfWrongFalsely : Prop := fnExactHomologyOfRow.holds Try.pinned (OpenSpec.ofChange fnExactHomologyOfWrong)

/-- 'laws.FnExactCommuteIn': WHATEVER THE INPUT: true; the input reads as it did. -/
def fnExactCommuteInSpec : ChangeSpec := { name := "fnExactCommuteIn", fn := fun _ => fun
  | [d1, d2, d3] => { results := [.lit (.bool true)], args := [d1, d2, d3] }
  | _ => none }
def fnExactCommuteInRow : OpenClaim := { program := "ytfaagbmaekoogaa", sum := "77c65bc42fcc4542e94b0827794eee28ca06aab25288a7d2971ec9a8ceb55375", func := "loop.example/g03105/laws.FnExactCommuteIn", spec := "fnExactCommuteIn", unfollowed := true, recurses := true, apart := false }
def FnExactCommuteInSaid : Prop := fnExactCommuteInRow.holds Try.pinned (OpenSpec.ofChange fnExactCommuteInSpec)

/-- ITS FALSE NEIGHBOUR: 'it returns false'. Refute it at one input. -/
def fnExactCommuteInWrong : ChangeSpec := { name := "fnExactCommuteIn", fn := fun _ => fun
  | [d1, d2, d3] => { results := [.lit (.bool false)], args := [d1, d2, d3] }
  | _ => none }
def FnExactCommuteInWrongFalsely : Prop := fnExactCommuteInRow.holds Try.pinned (OpenSpec.ofChange fnExactCommuteInWrong)

/- THE SECOND FORM. 'bulk': how many values and letters a reading holds, each counted each time it is reached (what is shared counts as often as it is met; a slice's spare places count too). A statement '..UptoSaid' is the law's where the arguments, and the package variables that the reading takes, are together of bulk at most 1048576: NARROWER than '..Said'. Prove '..Said' where nothing that the law and all that it calls make is longer than what came in: it says more and counts as full. Else prove '..UptoSaid'. A law counts once. -/
mutual
def uptoBulk {H : Type} : DataW H → Nat
  | .lit (.string bytes) => bytes.length + 1
  | .lit _ => 1
  | .nil => 1
  | .ptr d => uptoBulk d + 1
  | .slice elems spare => uptoBulkAll elems + uptoBulkAll spare + 1
  | .agg parts => uptoBulkAll parts + 1
  | .iface _ d => uptoBulk d + 1
  | .map entries => uptoBulkEntries entries + 1
  | .held _ => 1
def uptoBulkAll {H : Type} : List (DataW H) → Nat
  | [] => 0
  | d :: r => uptoBulk d + uptoBulkAll r
def uptoBulkEntries {H : Type} : List (Lit × DataW H) → Nat
  | [] => 0
  | x :: r => uptoBulkEntry x + uptoBulkEntries r
def uptoBulkEntry {H : Type} : Lit × DataW H → Nat
  | (.string bytes, d) => bytes.length + uptoBulk d + 1
  | (_, d) => uptoBulk d + 1
 end
def uptoSmall : (H : Type) → List (DataW H) → Bool := fun _ ds => decide (uptoBulkAll ds ≤ 1048576)
def OpenSpec.upto (s : _root_.Go.ChangeSpec) : _root_.Go.OpenSpec := { _root_.Go.OpenSpec.ofChange s with cond := some uptoSmall }

/-- 'laws.FnMoves', WHERE WHAT IT READS IS OF BULK AT MOST 1048576: true; the input reads as it did. -/
def fnMovesUptoRow : OpenClaim := { program := "ytfaagbmaekoogaa", sum := "77c65bc42fcc4542e94b0827794eee28ca06aab25288a7d2971ec9a8ceb55375", func := "loop.example/g03105/laws.FnMoves", spec := "fnMoves", unfollowed := true, recurses := true, apart := false, narrowed := true }
def FnMovesUptoSaid : Prop := fnMovesUptoRow.holds Try.pinned (OpenSpec.upto fnMovesSpec)

/-- 'laws.FnGroups', WHERE WHAT IT READS IS OF BULK AT MOST 1048576: true; the input reads as it did. -/
def fnGroupsUptoRow : OpenClaim := { program := "ytfaagbmaekoogaa", sum := "77c65bc42fcc4542e94b0827794eee28ca06aab25288a7d2971ec9a8ceb55375", func := "loop.example/g03105/laws.FnGroups", spec := "fnGroups", unfollowed := true, recurses := true, apart := false, narrowed := true }
def FnGroupsUptoSaid : Prop := fnGroupsUptoRow.holds Try.pinned (OpenSpec.upto fnGroupsSpec)

/-- 'laws.FnExactRelator', WHERE WHAT IT READS IS OF BULK AT MOST 1048576: true; the input reads as it did. -/
def fnExactRelatorUptoRow : OpenClaim := { program := "ytfaagbmaekoogaa", sum := "77c65bc42fcc4542e94b0827794eee28ca06aab25288a7d2971ec9a8ceb55375", func := "loop.example/g03105/laws.FnExactRelator", spec := "fnExactRelator", apart := false, narrowed := true }
def FnExactRelatorUptoSaid : Prop := fnExactRelatorUptoRow.holds Try.pinned (OpenSpec.upto fnExactRelatorSpec)

/-- 'laws.FnExactDehnStep', WHERE WHAT IT READS IS OF BULK AT MOST 1048576: true; the input reads as it did. -/
def fnExactDehnStepUptoRow : OpenClaim := { program := "ytfaagbmaekoogaa", sum := "77c65bc42fcc4542e94b0827794eee28ca06aab25288a7d2971ec9a8ceb55375", func := "loop.example/g03105/laws.FnExactDehnStep", spec := "fnExactDehnStep", unfollowed := true, recurses := true, apart := false, narrowed := true }
def FnExactDehnStepUptoSaid : Prop := fnExactDehnStepUptoRow.holds Try.pinned (OpenSpec.upto fnExactDehnStepSpec)

/-- 'laws.FnExactDehnWord', WHERE WHAT IT READS IS OF BULK AT MOST 1048576: true; the input reads as it did. -/
def fnExactDehnWordUptoRow : OpenClaim := { program := "ytfaagbmaekoogaa", sum := "77c65bc42fcc4542e94b0827794eee28ca06aab25288a7d2971ec9a8ceb55375", func := "loop.example/g03105/laws.FnExactDehnWord", spec := "fnExactDehnWord", unfollowed := true, recurses := true, apart := false, narrowed := true }
def FnExactDehnWordUptoSaid : Prop := fnExactDehnWordUptoRow.holds Try.pinned (OpenSpec.upto fnExactDehnWordSpec)

/-- 'laws.FnExactIsTrivialWord', WHERE WHAT IT READS IS OF BULK AT MOST 1048576: true; the input reads as it did. -/
def fnExactIsTrivialWordUptoRow : OpenClaim := { program := "ytfaagbmaekoogaa", sum := "77c65bc42fcc4542e94b0827794eee28ca06aab25288a7d2971ec9a8ceb55375", func := "loop.example/g03105/laws.FnExactIsTrivialWord", spec := "fnExactIsTrivialWord", unfollowed := true, recurses := true, apart := false, narrowed := true }
def FnExactIsTrivialWordUptoSaid : Prop := fnExactIsTrivialWordUptoRow.holds Try.pinned (OpenSpec.upto fnExactIsTrivialWordSpec)

/-- 'laws.FnExactAreEqualWords', WHERE WHAT IT READS IS OF BULK AT MOST 1048576: true; the input reads as it did. -/
def fnExactAreEqualWordsUptoRow : OpenClaim := { program := "ytfaagbmaekoogaa", sum := "77c65bc42fcc4542e94b0827794eee28ca06aab25288a7d2971ec9a8ceb55375", func := "loop.example/g03105/laws.FnExactAreEqualWords", spec := "fnExactAreEqualWords", unfollowed := true, recurses := true, apart := false, narrowed := true }
def FnExactAreEqualWordsUptoSaid : Prop := fnExactAreEqualWordsUptoRow.holds Try.pinned (OpenSpec.upto fnExactAreEqualWordsSpec)

/-- 'laws.FnExactHomologyOf', WHERE WHAT IT READS IS OF BULK AT MOST 1048576: true; the input reads as it did. -/
def fnExactHomologyOfUptoRow : OpenClaim := { program := "ytfaagbmaekoogaa", sum := "77c65bc42fcc4542e94b0827794eee28ca06aab25288a7d2971ec9a8ceb55375", func := "loop.example/g03105/laws.FnExactHomologyOf", spec := "fnExactHomologyOf", apart := false, narrowed := true }
def FnExactHomologyOfUptoSaid : Prop := fnExactHomologyOfUptoRow.holds Try.pinned (OpenSpec.upto fnExactHomologyOfSpec)

/-- 'laws.FnExactCommuteIn', WHERE WHAT IT READS IS OF BULK AT MOST 1048576: true; the input reads as it did. -/
def fnExactCommuteInUptoRow : OpenClaim := { program := "ytfaagbmaekoogaa", sum := "77c65bc42fcc4542e94b0827794eee28ca06aab25288a7d2971ec9a8ceb55375", func := "loop.example/g03105/laws.FnExactCommuteIn", spec := "fnExactCommuteIn", unfollowed := true, recurses := true, apart := false, narrowed := true }
def FnExactCommuteInUptoSaid : Prop := fnExactCommuteInUptoRow.holds Try.pinned (OpenSpec.upto fnExactCommuteInSpec)

end Rows
end Go.Proofs.Ytfaagbmaekoogaa
