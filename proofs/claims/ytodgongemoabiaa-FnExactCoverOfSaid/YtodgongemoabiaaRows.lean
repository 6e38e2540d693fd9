/-
  No cell of these rows narrows 'for every input' (looked for: loops, veiled, ifaces, maps, wideKeys, modest, calm, conditions, laid).
  DERIVED. THE GIVEN ROWS OF THIS SEAT. 9 by the template 'for every input the law returns true; each argument reads behind the call as it read before'; 0 by the template 'total and deterministic' (their statements: YtodgongemoabiaaTotals.lean).
  GIVEN WITH THE SEED: the statements are not yours to turn. If you find one false, say at which input.
  Laid BY PROGRAM, IN A SANDBOX (cutbox-rows.mjs): the forced cells as the released guide's own fill.sh prints them over the translation 0c018dcb2a31ecee… (all of the seat's roots in one cut). By AI agents, Wed Nov 11 2026. No macro, syntax, notation, axiom, sorry.
-/
import Derived.Test.YtodgongemoabiaaChecked
import GoSem.Claim
import GoSem.ClaimJoined
import GoSem.ClaimMapViews
import Derived.JoinedTies
import Derived.KernelRfl
namespace Go.Proofs.Ytodgongemoabiaa
/- THE CELL 'sum', in the pinned program and in every row, IS THE sha256 OF THE DUMP (.gsa) THAT YtodgongemoabiaaProg.lean LOADS. Nothing in Lean hashes anything: it is a label: what it is worth is what the hold of that sum in a sandbox is worth. -/
noncomputable def Try.pinned : Pinned := { name := "ytodgongemoabiaa", sum := "0c018dcb2a31eceeee5310d81d4303438c971ad0facd457f0b5a476bd71f3ad5", checked := Try.checked }
namespace Rows
def none {H : Type} : Left H := { results := [], args := [] }

/-- 'laws.FnMoves': WHATEVER THE INPUT: true; the input reads as it did. -/
def fnMovesSpec : ChangeSpec := { name := "fnMoves", fn := fun _ => fun
  | [d] => { results := [.lit (.bool true)], args := [d] }
  | _ => none }
def fnMovesRow : OpenClaim := { program := "ytodgongemoabiaa", sum := "0c018dcb2a31eceeee5310d81d4303438c971ad0facd457f0b5a476bd71f3ad5", func := "loop.example/g03105/laws.FnMoves", spec := "fnMoves", unfollowed := true, recurses := true, apart := false }
def FnMovesSaid : Prop := fnMovesRow.holds Try.pinned (OpenSpec.ofChange fnMovesSpec)

/-- ITS FALSE NEIGHBOUR: 'it returns false'. Refute it at one input. -/
def fnMovesWrong : ChangeSpec := { name := "fnMoves", fn := fun _ => fun
  | [d] => { results := [.lit (.bool false)], args := [d] }
  | _ => none }
def FnMovesWrongFalsely : Prop := fnMovesRow.holds Try.pinned (OpenSpec.ofChange fnMovesWrong)

/-- 'laws.FnExactActWord': WHATEVER THE INPUT: true; the input reads as it did. -/
def fnExactActWordSpec : ChangeSpec := { name := "fnExactActWord", fn := fun _ => fun
  | [d1, d2] => { results := [.lit (.bool true)], args := [d1, d2] }
  | _ => none }
def fnExactActWordRow : OpenClaim := { program := "ytodgongemoabiaa", sum := "0c018dcb2a31eceeee5310d81d4303438c971ad0facd457f0b5a476bd71f3ad5", func := "loop.example/g03105/laws.FnExactActWord", spec := "fnExactActWord", unfollowed := true, recurses := true, apart := false }
def FnExactActWordSaid : Prop := fnExactActWordRow.holds Try.pinned (OpenSpec.ofChange fnExactActWordSpec)

/-- ITS FALSE NEIGHBOUR: 'it returns false'. Refute it at one input. -/
def fnExactActWordWrong : ChangeSpec := { name := "fnExactActWord", fn := fun _ => fun
  | [d1, d2] => { results := [.lit (.bool false)], args := [d1, d2] }
  | _ => none }
def FnExactActWordWrongFalsely : Prop := fnExactActWordRow.holds Try.pinned (OpenSpec.ofChange fnExactActWordWrong)

/-- 'laws.FnExactIsAction': WHATEVER THE INPUT: true; the input reads as it did. -/
def fnExactIsActionSpec : ChangeSpec := { name := "fnExactIsAction", fn := fun _ => fun
  | [d1, d2] => { results := [.lit (.bool true)], args := [d1, d2] }
  | _ => none }
def fnExactIsActionRow : OpenClaim := { program := "ytodgongemoabiaa", sum := "0c018dcb2a31eceeee5310d81d4303438c971ad0facd457f0b5a476bd71f3ad5", func := "loop.example/g03105/laws.FnExactIsAction", spec := "fnExactIsAction", unfollowed := true, recurses := true, apart := false }
def FnExactIsActionSaid : Prop := fnExactIsActionRow.holds Try.pinned (OpenSpec.ofChange fnExactIsActionSpec)

/-- ITS FALSE NEIGHBOUR: 'it returns false'. Refute it at one input. -/
def fnExactIsActionWrong : ChangeSpec := { name := "fnExactIsAction", fn := fun _ => fun
  | [d1, d2] => { results := [.lit (.bool false)], args := [d1, d2] }
  | _ => none }
def FnExactIsActionWrongFalsely : Prop := fnExactIsActionRow.holds Try.pinned (OpenSpec.ofChange fnExactIsActionWrong)

/-- 'laws.FnExactSheetParts': WHATEVER THE INPUT: true; the input reads as it did. -/
def fnExactSheetPartsSpec : ChangeSpec := { name := "fnExactSheetParts", fn := fun _ => fun
  | [d] => { results := [.lit (.bool true)], args := [d] }
  | _ => none }
def fnExactSheetPartsRow : OpenClaim := { program := "ytodgongemoabiaa", sum := "0c018dcb2a31eceeee5310d81d4303438c971ad0facd457f0b5a476bd71f3ad5", func := "loop.example/g03105/laws.FnExactSheetParts", spec := "fnExactSheetParts", unfollowed := true, recurses := true, apart := false }
def FnExactSheetPartsSaid : Prop := fnExactSheetPartsRow.holds Try.pinned (OpenSpec.ofChange fnExactSheetPartsSpec)

/-- ITS FALSE NEIGHBOUR: 'it returns false'. Refute it at one input. -/
def fnExactSheetPartsWrong : ChangeSpec := { name := "fnExactSheetParts", fn := fun _ => fun
  | [d] => { results := [.lit (.bool false)], args := [d] }
  | _ => none }
def FnExactSheetPartsWrongFalsely : Prop := fnExactSheetPartsRow.holds Try.pinned (OpenSpec.ofChange fnExactSheetPartsWrong)

/-- 'laws.FnExactCoverOf': WHATEVER THE INPUT: true; the input reads as it did. -/
def fnExactCoverOfSpec : ChangeSpec := { name := "fnExactCoverOf", fn := fun _ => fun
  | [d1, d2] => { results := [.lit (.bool true)], args := [d1, d2] }
  | _ => none }
def fnExactCoverOfRow : OpenClaim := { program := "ytodgongemoabiaa", sum := "0c018dcb2a31eceeee5310d81d4303438c971ad0facd457f0b5a476bd71f3ad5", func := "loop.example/g03105/laws.FnExactCoverOf", spec := "fnExactCoverOf", unfollowed := true, recurses := true, apart := false }
def FnExactCoverOfSaid : Prop := fnExactCoverOfRow.holds Try.pinned (OpenSpec.ofChange fnExactCoverOfSpec)

/-- ITS FALSE NEIGHBOUR: 'it returns false'. Refute it at one input. -/
def fnExactCoverOfWrong : ChangeSpec := { name := "fnExactCoverOf", fn := fun _ => fun
  | [d1, d2] => { results := [.lit (.bool false)], args := [d1, d2] }
  | _ => none }
def FnExactCoverOfWrongFalsely : Prop := fnExactCoverOfRow.holds Try.pinned (OpenSpec.ofChange fnExactCoverOfWrong)

/-- 'laws.FnExactLiftLengths': WHATEVER THE INPUT: true; the input reads as it did. -/
def fnExactLiftLengthsSpec : ChangeSpec := { name := "fnExactLiftLengths", fn := fun _ => fun
  | [d1, d2] => { results := [.lit (.bool true)], args := [d1, d2] }
  | _ => none }
def fnExactLiftLengthsRow : OpenClaim := { program := "ytodgongemoabiaa", sum := "0c018dcb2a31eceeee5310d81d4303438c971ad0facd457f0b5a476bd71f3ad5", func := "loop.example/g03105/laws.FnExactLiftLengths", spec := "fnExactLiftLengths", unfollowed := true, recurses := true, apart := false }
def FnExactLiftLengthsSaid : Prop := fnExactLiftLengthsRow.holds Try.pinned (OpenSpec.ofChange fnExactLiftLengthsSpec)

/-- ITS FALSE NEIGHBOUR: 'it returns false'. Refute it at one input. -/
def fnExactLiftLengthsWrong : ChangeSpec := { name := "fnExactLiftLengths", fn := fun _ => fun
  | [d1, d2] => { results := [.lit (.bool false)], args := [d1, d2] }
  | _ => none }
def FnExactLiftLengthsWrongFalsely : Prop := fnExactLiftLengthsRow.holds Try.pinned (OpenSpec.ofChange fnExactLiftLengthsWrong)

/-- 'laws.FnExactCountActions': WHATEVER THE INPUT: true; the input reads as it did. -/
def fnExactCountActionsSpec : ChangeSpec := { name := "fnExactCountActions", fn := fun _ => fun
  | [d1, d2] => { results := [.lit (.bool true)], args := [d1, d2] }
  | _ => none }
def fnExactCountActionsRow : OpenClaim := { program := "ytodgongemoabiaa", sum := "0c018dcb2a31eceeee5310d81d4303438c971ad0facd457f0b5a476bd71f3ad5", func := "loop.example/g03105/laws.FnExactCountActions", spec := "fnExactCountActions", inPlace := ["slices.overlaps[int]"], unfollowed := true, recurses := true, apart := false }
def FnExactCountActionsSaid : Prop := fnExactCountActionsRow.holds Try.pinned (OpenSpec.ofChange fnExactCountActionsSpec)

/-- ITS FALSE NEIGHBOUR: 'it returns false'. Refute it at one input. -/
def fnExactCountActionsWrong : ChangeSpec := { name := "fnExactCountActions", fn := fun _ => fun
  | [d1, d2] => { results := [.lit (.bool false)], args := [d1, d2] }
  | _ => none }
def FnExactCountActionsWrongFalsely : Prop := fnExactCountActionsRow.holds Try.pinned (OpenSpec.ofChange fnExactCountActionsWrong)

/-- 'laws.FnExactCountCovers': WHATEVER THE INPUT: true; the input reads as it did. -/
def fnExactCountCoversSpec : ChangeSpec := { name := "fnExactCountCovers", fn := fun _ => fun
  | [d1, d2] => { results := [.lit (.bool true)], args := [d1, d2] }
  | _ => none }
def fnExactCountCoversRow : OpenClaim := { program := "ytodgongemoabiaa", sum := "0c018dcb2a31eceeee5310d81d4303438c971ad0facd457f0b5a476bd71f3ad5", func := "loop.example/g03105/laws.FnExactCountCovers", spec := "fnExactCountCovers", inPlace := ["slices.overlaps[int]"], unfollowed := true, recurses := true, apart := false }
def FnExactCountCoversSaid : Prop := fnExactCountCoversRow.holds Try.pinned (OpenSpec.ofChange fnExactCountCoversSpec)

/-- ITS FALSE NEIGHBOUR: 'it returns false'. Refute it at one input. -/
def fnExactCountCoversWrong : ChangeSpec := { name := "fnExactCountCovers", fn := fun _ => fun
  | [d1, d2] => { results := [.lit (.bool false)], args := [d1, d2] }
  | _ => none }
def FnExactCountCoversWrongFalsely : Prop := fnExactCountCoversRow.holds Try.pinned (OpenSpec.ofChange fnExactCountCoversWrong)

/-- 'laws.FnExactSheetSymmetries': WHATEVER THE INPUT: true; the input reads as it did. -/
def fnExactSheetSymmetriesSpec : ChangeSpec := { name := "fnExactSheetSymmetries", fn := fun _ => fun
  | [d] => { results := [.lit (.bool true)], args := [d] }
  | _ => none }
def fnExactSheetSymmetriesRow : OpenClaim := { program := "ytodgongemoabiaa", sum := "0c018dcb2a31eceeee5310d81d4303438c971ad0facd457f0b5a476bd71f3ad5", func := "loop.example/g03105/laws.FnExactSheetSymmetries", spec := "fnExactSheetSymmetries", inPlace := ["slices.overlaps[int]"], unfollowed := true, recurses := true, apart := false }
def FnExactSheetSymmetriesSaid : Prop := fnExactSheetSymmetriesRow.holds Try.pinned (OpenSpec.ofChange fnExactSheetSymmetriesSpec)

/-- ITS FALSE NEIGHBOUR: 'it returns false'. Refute it at one input. -/
def fnExactSheetSymmetriesWrong : ChangeSpec := { name := "fnExactSheetSymmetries", fn := fun _ => fun
  | [d] => { results := [.lit (.bool false)], args := [d] }
  | _ => none }
def FnExactSheetSymmetriesWrongFalsely : Prop := fnExactSheetSymmetriesRow.holds Try.pinned (OpenSpec.ofChange fnExactSheetSymmetriesWrong)

/- THE SECOND FORM. 'bulk': how many values and letters a reading holds, each counted each time it is reached (what is shared counts as often as it is met; a slice's spare places count too). A statement '..UptoSaid' is the law's where the arguments, and the package variables that the reading takes, are together of bulk at most 1048576: NARROWER than '..Said'. Prove '..Said' where nothing that the law and all that it calls make is longer than what came in: it says more and counts as full. Else prove '..UptoSaid'. A law counts once. -/
mutual
def uptoBulk {H : Type} : DataW H → Nat
  | .lit (.string bytes) => bytes.length + 1
  | .lit _ => 1
  | .nil => 1
  | .ptr d => uptoBulk d + 1
  | .slice elems spare => uptoBulkAll elems + uptoBulkAll spare + 1
  | .agg parts => uptoBulkAll parts + 1
  | .iface _ d => uptoBulk d + 1
  | .map entries => uptoBulkEntries entries + 1
  | .held _ => 1
def uptoBulkAll {H : Type} : List (DataW H) → Nat
  | [] => 0
  | d :: r => uptoBulk d + uptoBulkAll r
def uptoBulkEntries {H : Type} : List (Lit × DataW H) → Nat
  | [] => 0
  | x :: r => uptoBulkEntry x + uptoBulkEntries r
def uptoBulkEntry {H : Type} : Lit × DataW H → Nat
  | (.string bytes, d) => bytes.length + uptoBulk d + 1
  | (_, d) => uptoBulk d + 1
 end
def uptoSmall : (H : Type) → List (DataW H) → Bool := fun _ ds => decide (uptoBulkAll ds ≤ 1048576)
def OpenSpec.upto (s : _root_.Go.ChangeSpec) : _root_.Go.OpenSpec := { _root_.Go.OpenSpec.ofChange s with cond := some uptoSmall }

/-- 'laws.FnMoves', WHERE WHAT IT READS IS OF BULK AT MOST 1048576: true; the input reads as it did. -/
def fnMovesUptoRow : OpenClaim := { program := "ytodgongemoabiaa", sum := "0c018dcb2a31eceeee5310d81d4303438c971ad0facd457f0b5a476bd71f3ad5", func := "loop.example/g03105/laws.FnMoves", spec := "fnMoves", unfollowed := true, recurses := true, apart := false, narrowed := true }
def FnMovesUptoSaid : Prop := fnMovesUptoRow.holds Try.pinned (OpenSpec.upto fnMovesSpec)

/-- 'laws.FnExactActWord', WHERE WHAT IT READS IS OF BULK AT MOST 1048576: true; the input reads as it did. -/
def fnExactActWordUptoRow : OpenClaim := { program := "ytodgongemoabiaa", sum := "0c018dcb2a31eceeee5310d81d4303438c971ad0facd457f0b5a476bd71f3ad5", func := "loop.example/g03105/laws.FnExactActWord", spec := "fnExactActWord", unfollowed := true, recurses := true, apart := false, narrowed := true }
def FnExactActWordUptoSaid : Prop := fnExactActWordUptoRow.holds Try.pinned (OpenSpec.upto fnExactActWordSpec)

/-- 'laws.FnExactIsAction', WHERE WHAT IT READS IS OF BULK AT MOST 1048576: true; the input reads as it did. -/
def fnExactIsActionUptoRow : OpenClaim := { program := "ytodgongemoabiaa", sum := "0c018dcb2a31eceeee5310d81d4303438c971ad0facd457f0b5a476bd71f3ad5", func := "loop.example/g03105/laws.FnExactIsAction", spec := "fnExactIsAction", unfollowed := true, recurses := true, apart := false, narrowed := true }
def FnExactIsActionUptoSaid : Prop := fnExactIsActionUptoRow.holds Try.pinned (OpenSpec.upto fnExactIsActionSpec)

/-- 'laws.FnExactSheetParts', WHERE WHAT IT READS IS OF BULK AT MOST 1048576: true; the input reads as it did. -/
def fnExactSheetPartsUptoRow : OpenClaim := { program := "ytodgongemoabiaa", sum := "0c018dcb2a31eceeee5310d81d4303438c971ad0facd457f0b5a476bd71f3ad5", func := "loop.example/g03105/laws.FnExactSheetParts", spec := "fnExactSheetParts", unfollowed := true, recurses := true, apart := false, narrowed := true }
def FnExactSheetPartsUptoSaid : Prop := fnExactSheetPartsUptoRow.holds Try.pinned (OpenSpec.upto fnExactSheetPartsSpec)

/-- 'laws.FnExactCoverOf', WHERE WHAT IT READS IS OF BULK AT MOST 1048576: true; the input reads as it did. -/
def fnExactCoverOfUptoRow : OpenClaim := { program := "ytodgongemoabiaa", sum := "0c018dcb2a31eceeee5310d81d4303438c971ad0facd457f0b5a476bd71f3ad5", func := "loop.example/g03105/laws.FnExactCoverOf", spec := "fnExactCoverOf", unfollowed := true, recurses := true, apart := false, narrowed := true }
def FnExactCoverOfUptoSaid : Prop := fnExactCoverOfUptoRow.holds Try.pinned (OpenSpec.upto fnExactCoverOfSpec)

/-- 'laws.FnExactLiftLengths', WHERE WHAT IT READS IS OF BULK AT MOST 1048576: true; the input reads as it did. -/
def fnExactLiftLengthsUptoRow : OpenClaim := { program := "ytodgongemoabiaa", sum := "0c018dcb2a31eceeee5310d81d4303438c971ad0facd457f0b5a476bd71f3ad5", func := "loop.example/g03105/laws.FnExactLiftLengths", spec := "fnExactLiftLengths", unfollowed := true, recurses := true, apart := false, narrowed := true }
def FnExactLiftLengthsUptoSaid : Prop := fnExactLiftLengthsUptoRow.holds Try.pinned (OpenSpec.upto fnExactLiftLengthsSpec)

/-- 'laws.FnExactCountActions', WHERE WHAT IT READS IS OF BULK AT MOST 1048576: true; the input reads as it did. -/
def fnExactCountActionsUptoRow : OpenClaim := { program := "ytodgongemoabiaa", sum := "0c018dcb2a31eceeee5310d81d4303438c971ad0facd457f0b5a476bd71f3ad5", func := "loop.example/g03105/laws.FnExactCountActions", spec := "fnExactCountActions", inPlace := ["slices.overlaps[int]"], unfollowed := true, recurses := true, apart := false, narrowed := true }
def FnExactCountActionsUptoSaid : Prop := fnExactCountActionsUptoRow.holds Try.pinned (OpenSpec.upto fnExactCountActionsSpec)

/-- 'laws.FnExactCountCovers', WHERE WHAT IT READS IS OF BULK AT MOST 1048576: true; the input reads as it did. -/
def fnExactCountCoversUptoRow : OpenClaim := { program := "ytodgongemoabiaa", sum := "0c018dcb2a31eceeee5310d81d4303438c971ad0facd457f0b5a476bd71f3ad5", func := "loop.example/g03105/laws.FnExactCountCovers", spec := "fnExactCountCovers", inPlace := ["slices.overlaps[int]"], unfollowed := true, recurses := true, apart := false, narrowed := true }
def FnExactCountCoversUptoSaid : Prop := fnExactCountCoversUptoRow.holds Try.pinned (OpenSpec.upto fnExactCountCoversSpec)

/-- 'laws.FnExactSheetSymmetries', WHERE WHAT IT READS IS OF BULK AT MOST 1048576: true; the input reads as it did. -/
def fnExactSheetSymmetriesUptoRow : OpenClaim := { program := "ytodgongemoabiaa", sum := "0c018dcb2a31eceeee5310d81d4303438c971ad0facd457f0b5a476bd71f3ad5", func := "loop.example/g03105/laws.FnExactSheetSymmetries", spec := "fnExactSheetSymmetries", inPlace := ["slices.overlaps[int]"], unfollowed := true, recurses := true, apart := false, narrowed := true }
def FnExactSheetSymmetriesUptoSaid : Prop := fnExactSheetSymmetriesUptoRow.holds Try.pinned (OpenSpec.upto fnExactSheetSymmetriesSpec)

end Rows
end Go.Proofs.Ytodgongemoabiaa
